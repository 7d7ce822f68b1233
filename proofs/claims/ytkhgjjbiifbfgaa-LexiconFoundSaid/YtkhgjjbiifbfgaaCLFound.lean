/- LexiconFound's walk. -/
import Derived.Test.YtkhgjjbiifbfgaaLg7
namespace Go.Proofs.Ytkhgjjbiifbfgaa
open Go.RowKit Go.Shelf
open Go.Maps (Keyed)

theorem keyS : Keyed Try.prog 9 := Go.Maps.string_keyed Try.underlying9
theorem key_s (x : Ed.Bs) (h : x.length ≤ 70) : keyOf Try.prog 9 (.string ⟨x.toArray⟩) = some (.string x) :=
  Go.WideMaps.keyOf_string_mk Try.underlying9 (s := ⟨x.toArray⟩) (by rw [Ed.size_is]; unfold maxLen; omega)
theorem zeroI (w : World) : (zeroValue 3).run Try.prog w = .ok (.int .i64 0) w := by kernel_rfl
theorem wf_nat {k : Nat} (h : k ≤ 1000) : (Lit.int .i64 (k : Int)).wf = true := by
  simp [Lit.wf, IntKind.min, IntKind.max, IntKind.signed, IntKind.bits]; omega
/-- A map that has some words as keys. -/
structure Ms (w : World) (b n : Nat) (l : List Ed.Bs) (D : DataW Unit) : Prop where
  own : w.ownsMap Try.prog 9 (plainElem Try.prog 3) b n D
  has : ∀ x : Ed.Bs, Go.Maps.has D (.string x) = decide (x ∈ l)
theorem Ms.start (w : World) : Ms (w.alloc (Obj.map #[] 0)) w.heap.size 0 [] (.map []) := ⟨World.ownsMap_made _ _ _ _, fun x => by simp [Go.Maps.has_eq]⟩
theorem has_put (D : DataW Unit) (hD : Go.Maps.IsMap D) (x : Ed.Bs) (hx : x.length ≤ 70) (d : DataW Unit) (l : List Ed.Bs) (h : ∀ x : Ed.Bs, Go.Maps.has D (.string x) = decide (x ∈ l)) (y : Ed.Bs) : Go.Maps.has (D.put (.string x) d) (.string y) = decide (y ∈ l ++ [x]) := by
  by_cases e : y = x
  · subst e
    rw [Go.Maps.has_put_same hD (keyS.key (key_s y hx))]; simp
  · rw [Go.Maps.has_put_other (by simpa using e), h y]
    simp [e]
theorem pre_has (x p : Ed.Bs) : Lib.hasPrefix x p = p.isPrefixOf x := rfl
set_option maxRecDepth 100000 in
set_option maxHeartbeats 3200000 in
theorem found_no (v : Value) (ws : List Ed.Bs) (p : Ed.Bs) (w : World) (h : Tx w v ws) (hn : ws.length ≤ 9223372036854775807) (hp : p.length ≤ 9223372036854775807) (hb : Lx.few ws = false ∨ 70 < p.length) :
    Calls Try.prog 6 #[v, sb p] w fun e w' => e = .returned (.bool true) ∧ Below w.heap.size w w' := by
  have AW := Lib.hid (awake_any w)
  have FW := Lib.hid (fun W (hb : Below w.heap.size w W) => few_any v ws W (h.below hb) hn)
  obtain ⟨f, hf⟩ : ∃ f, f = Lx.few ws := ⟨_, rfl⟩
  rw [← hf] at FW hb
  clear h hn hf
  cases f with
  | false =>
    clear hb
    go_enter Try.func6, Try.ntmps6
    go_wp2_with (first
      | (go_at_call 7; (with_reducible refine AW.out.mono ?_); rintro e w1 ⟨rfl, b1⟩; have B1 := Lib.hid b1; clear b1)
      | (go_at_call 8; (with_reducible refine (FW.out _ B1.out).mono ?_); rintro e w2 ⟨rfl, rfl⟩))
    go_ret
    exact ⟨rfl, B1.out⟩
  | true =>
    have h70 : (70 : Int) < p.length := by rcases hb with h | h <;> first | cases h | omega
    clear hb
    go_enter Try.func6, Try.ntmps6
    go_wp2_with (first
      | (go_at_call 7; (with_reducible refine AW.out.mono ?_); rintro e w1 ⟨rfl, b1⟩; have B1 := Lib.hid b1; clear b1)
      | (go_at_call 8; (with_reducible refine (FW.out _ B1.out).mono ?_); rintro e w2 ⟨rfl, rfl⟩))
    go_ret
    exact ⟨rfl, B1.out⟩
set_option maxRecDepth 100000 in
set_option maxHeartbeats 12800000 in
theorem found_any (v : Value) (ws : List Ed.Bs) (p : Ed.Bs) (w : World) (h : Tx w v ws) (hf : Lx.few ws = true) (hp : p.length ≤ 70) :
    Calls Try.prog 6 #[v, sb p] w fun e w' => e = .returned (.bool true) ∧ Below w.heap.size w w' := by
  obtain ⟨hw70, hn⟩ := (Lx.few_iff ws).1 hf
  have AW := Lib.hid (awake_any w)
  have FW := Lib.hid (fun W (hb : Below w.heap.size w W) => few_any v ws W (h.below hb) (by omega))
  rw [hf] at FW
  have NW := Lib.hid (fun W (hb : Below w.heap.size w W) => new_any v ws W (h.below hb) (by omega) (fun x hx => by have := hw70 x hx; omega))
  have HT := Lib.hid h
  have H70 := Lib.hid hw70
  obtain ⟨a, c, rfl, hc⟩ := h
  have HC := Lib.hid hc
  obtain ⟨n, hn'⟩ : ∃ n, n = ws.length := ⟨_, rfl⟩
  have HN := Lib.hid hn'
  rw [← hn'] at hn FW NW HT ⊢
  have hmm := @run_makeMap Try.prog
  have M0 := Lib.hid Ms.start
  clear hc hn' hf hw70
  go_enter Try.func6, Try.ntmps6
  go_wp2_with (first
    | (go_at_call 7; (with_reducible refine AW.out.mono ?_); rintro e w1 ⟨rfl, b1⟩; have B1 := Lib.hid b1; clear b1)
    | (go_at_call 8; (with_reducible refine (FW.out _ B1.out).mono ?_); rintro e w2 ⟨rfl, rfl⟩))
  obtain ⟨g, hg⟩ : ∃ g, g = w1.heap.size := ⟨_, rfl⟩
  have gw : w.heap.size ≤ g := by rw [hg]; exact B1.out.size
  have M1 := Lib.hid (M0.out w1)
  have B2 := Lib.hid (B1.out.alloc B1.out.size (Obj.map #[] 0))
  rw [← hg] at M1 ⊢
  clear hg
  go_loopw [5, 7] (fun bv i wr => ∃ (k : Nat) (D : DataW Unit), k ≤ n ∧ i = .int .i64 k ∧ bv = .bool (Lx.badN ws k) ∧ Hid (Ms wr g k (ws.take k) D) ∧ Hid (Below w.heap.size w wr)) (fun _ i _ => n - (intOf i).toNat)
  case atStart => exact ⟨0, _, Nat.zero_le _, rfl, rfl, M1.out, B2.out⟩
  case round =>
    obtain ⟨k, D, hk, rfl, rfl, M, B⟩ := hrel
    clear M1 B2 hmm
    by_cases hlt : k < n
    · have kl : k < ws.length := by rw [← HN.out]; exact hlt
      obtain ⟨b, off, rfl, f0⟩ := HC.out.resolve_left (by intro e; rw [e] at kl; simp at kl)
      have x0 := kept_cell B.out (f0 k kl)
      obtain ⟨xs, hxs⟩ : ∃ xs, xs = ws[k] := ⟨_, rfl⟩
      have hx70 : xs.length ≤ 70 := by rw [hxs]; exact H70.out _ (List.getElem_mem kl)
      have gx : ws.getD k [] = xs := by rw [hxs]; exact Lx.getD_is kl
      have TK : ws.take (k + 1) = ws.take k ++ [xs] := by rw [hxs]; exact (List.take_append_getElem kl).symm
      rw [← hxs] at x0
      have HKY := Lib.hid (key_s xs hx70)
      have HPL := Lib.hid (plainElem_int (H := Unit) Try.underlying3 (wf_nat (k := k) (by omega)))
      have HRM : Hid (k < maxLen) := by show _ < _; unfold maxLen; omega
      have HM3 : Hid (∀ w3 : World, w3.ownsMap Try.prog 9 (plainElem Try.prog 3) g (k + 1) (D.put (.string xs) (nmv k)) → Ms w3 g (k + 1) (ws.take (k + 1)) (D.put (.string xs) (nmv k))) := fun w3 ho => ⟨ho, fun y => by rw [TK]; exact has_put D M.out.own.isMap xs hx70 _ _ M.out.has y⟩
      have HB3 : Hid (∀ w3 : World, wr.grownBy w3 (some g) → Below w.heap.size w w3) := fun w3 hg => B.out.grown hg B.out.size (fun j e => by cases e; exact gw)
      have HBN : Hid (Lx.badN ws (k + 1) = (Lx.badN ws k || (xs.isEmpty || decide (40 < xs.length) || decide (xs ∈ ws.take k)))) := by show _ = _; rw [← gx]; rfl
      have MH := M.out.has xs
      obtain ⟨d0, hd0⟩ : ∃ d0, d0 = decide (xs ∈ ws.take k) := ⟨_, rfl⟩
      rw [← hd0] at MH HBN
      clear f0 kl hxs gx TK hd0
      cases hb : Lx.badN ws k with
      | true =>
        rw [hb] at HBN
        clear hb
        go_wp2_with (first
          | (at_lookup; refine wpList_lookup_own_ok_int _ rfl _ _ 46 rfl 9 3 .i64 keyS Try.underlying46 Try.underlying3 (zeroI _) g k D rfl M.out.own _ (.string xs) rfl HKY.out ?_; intro cc hat hwc; clear hat hwc)
          | (at_mapUpdate; refine wpList_mapUpdate_own _ rfl _ _ _ 46 rfl 9 3 keyS Try.underlying46 _ g k D rfl M.out.own HRM.out _ _ (.string xs) rfl rfl HKY.out (nmv k) [] HPL.out ?_; intro w3 own3 gr3; have M3 := Lib.hid (HM3.out w3 own3); have B3 := Lib.hid (HB3.out w3 gr3); clear own3 gr3))
        go_roundw
        case rel => exact ⟨k + 1, _, by omega, by go_num, by rw [HBN.out]; rfl, M3.out, B3.out⟩
        case measure => simp [intOf]; omega
      | false =>
        rw [hb] at HBN
        clear hb
        cases xe : xs.isEmpty with
        | true =>
          rw [xe] at HBN
          go_wp2_with (first
            | (at_lookup; refine wpList_lookup_own_ok_int _ rfl _ _ 46 rfl 9 3 .i64 keyS Try.underlying46 Try.underlying3 (zeroI _) g k D rfl M.out.own _ (.string xs) rfl HKY.out ?_; intro cc hat hwc; clear hat hwc)
            | (at_mapUpdate; refine wpList_mapUpdate_own _ rfl _ _ _ 46 rfl 9 3 keyS Try.underlying46 _ g k D rfl M.out.own HRM.out _ _ (.string xs) rfl rfl HKY.out (nmv k) [] HPL.out ?_; intro w3 own3 gr3; have M3 := Lib.hid (HM3.out w3 own3); have B3 := Lib.hid (HB3.out w3 gr3); clear own3 gr3))
          go_roundw
          case rel => exact ⟨k + 1, _, by omega, by go_num, by rw [HBN.out]; rfl, M3.out, B3.out⟩
          case measure => simp [intOf]; omega
        | false =>
          rw [xe] at HBN
          by_cases h40 : 40 < xs.length
          · rw [decide_eq_true h40] at HBN
            go_wp2_with (first
                | (at_lookup; refine wpList_lookup_own_ok_int _ rfl _ _ 46 rfl 9 3 .i64 keyS Try.underlying46 Try.underlying3 (zeroI _) g k D rfl M.out.own _ (.string xs) rfl HKY.out ?_; intro cc hat hwc; clear hat hwc)
                | (at_mapUpdate; refine wpList_mapUpdate_own _ rfl _ _ _ 46 rfl 9 3 keyS Try.underlying46 _ g k D rfl M.out.own HRM.out _ _ (.string xs) rfl rfl HKY.out (nmv k) [] HPL.out ?_; intro w3 own3 gr3; have M3 := Lib.hid (HM3.out w3 own3); have B3 := Lib.hid (HB3.out w3 gr3); clear own3 gr3))
            go_roundw
            case rel => exact ⟨k + 1, _, by omega, by go_num, by rw [HBN.out]; rfl, M3.out, B3.out⟩
            case measure => simp [intOf]; omega
          · rw [decide_eq_false h40] at HBN
            go_wp2_with (first
                | (at_lookup; refine wpList_lookup_own_ok_int _ rfl _ _ 46 rfl 9 3 .i64 keyS Try.underlying46 Try.underlying3 (zeroI _) g k D rfl M.out.own _ (.string xs) rfl HKY.out ?_; intro cc hat hwc; clear hat hwc)
                | (at_mapUpdate; refine wpList_mapUpdate_own _ rfl _ _ _ 46 rfl 9 3 keyS Try.underlying46 _ g k D rfl M.out.own HRM.out _ _ (.string xs) rfl rfl HKY.out (nmv k) [] HPL.out ?_; intro w3 own3 gr3; have M3 := Lib.hid (HM3.out w3 own3); have B3 := Lib.hid (HB3.out w3 gr3); clear own3 gr3))
            go_roundw
            case rel => exact ⟨k + 1, _, by omega, by go_num, by rw [HBN.out, decide_eq_false (show ¬ (40 : Int) < xs.length by omega)]; rfl, M3.out, B3.out⟩
            case measure => simp [intOf]; omega
    · have hkn : k = n := by omega
      have EB : Hid (Lx.badN ws k = !(decide (Lx.wrong [] ws = 0))) := by show _ = _; rw [hkn, HN.out]; exact Lx.bad_wrong ws
      obtain ⟨bd, hbd⟩ : ∃ bd, bd = Lx.badN ws k := ⟨_, rfl⟩
      rw [← hbd] at EB ⊢
      have NB := NW.out wr B.out
      clear hkn hbd M
      by_cases hz : Lx.wrong [] ws = 0
      · have NWB : Hid (Calls Try.prog 10 #[.slice a n c] wr fun e w' => ∃ X, e = .returned (.tuple #[nd X, .int .i64 0]) ∧ Lex wr.heap.size X w' ws ∧ Below wr.heap.size wr w') := by
          refine NB.mono ?_
          rintro e w' ⟨hb, ⟨_, X, he, hL⟩ | ⟨hn, _⟩⟩
          · exact ⟨X, he, hL, hb⟩
          · exact absurd hz hn
        have E0 := EB.out
        rw [decide_eq_true hz] at E0
        obtain rfl : bd = false := E0
        clear hz NB EB
        go_wp2_with (go_at_call 10; (with_reducible refine NWB.out.mono ?_); rintro e w4 ⟨X, rfl, hL, b4⟩; have HL := Lib.hid hL; have B4 := Lib.hid (B.out.trans (b4.mono B.out.size)); clear b4 hL)
        go_loopw [12, 13] (fun wv i wx => ∃ k : Nat, k ≤ n ∧ i = .int .i64 k ∧ Hid (Oz w4 wx wv (Lx.preN ws p k))) (fun _ i _ => n - (intOf i).toNat)
        case atStart => exact ⟨0, Nat.zero_le _, rfl, Oz.nil (Below.refl _ _)⟩
        case round =>
          obtain ⟨q, hq, rfl, O⟩ := hrel
          have LX := Lib.hid (HL.out.quiet O.out.bl)
          have BX := Lib.hid (B4.out.trans (O.out.bl.mono B4.out.size))
          by_cases hlt : q < n
          · have kl : q < ws.length := by rw [← HN.out]; exact hlt
            obtain ⟨b, off, rfl, f0⟩ := HC.out.resolve_left (by intro e; rw [e] at kl; simp at kl)
            have x0 := kept_cell BX.out (f0 q kl)
            have WO := Lib.hid (word_any LX.out q kl (by rw [← HN.out]; omega))
            have FI := Lib.hid (find_yes LX.out q kl)
            have SQ : Lx.preN ws p (q + 1) = Lx.preN ws p q ++ (if p.isPrefixOf ws[q] = true then [(q : Int)] else []) := by rw [← Lx.getD_is kl]; rfl
            have pl := Lx.preN_len ws p q
            have HP : Hid (∀ W, Calls Try.prog 17 #[sb ws[q], sb p] W fun e w' => e = .returned (.bool (p.isPrefixOf ws[q])) ∧ w' = W) := fun W => Try.strings_HasPrefix ⟨ws[q].toArray⟩ ⟨p.toArray⟩ W
            obtain ⟨xs, hxs⟩ : ∃ xs, xs = ws[q] := ⟨_, rfl⟩
            rw [← hxs] at x0 WO FI SQ HP
            obtain ⟨hb, hhb⟩ : ∃ hb, hb = p.isPrefixOf xs := ⟨_, rfl⟩
            rw [← hhb] at SQ HP
            clear f0 kl hxs hhb
            cases hb with
            | true =>
              rw [if_pos rfl] at SQ
              have HSQ := Lib.hid SQ
              clear SQ
              go_wp2_with (first
                | (go_at_call 16; (with_reducible refine WO.out.mono ?_); rintro e w5 ⟨rfl, rfl⟩)
                | (go_at_call 15; (with_reducible refine FI.out.mono ?_); rintro e w6 ⟨rfl, b6⟩; have x0 := kept_cell b6 x0; have O6 := Lib.hid (O.out.quiet b6); clear b6)
                | (go_at_call 17; (with_reducible refine (HP.out _).mono ?_); rintro e w7 ⟨rfl, rfl⟩)
                | (at_builtin; refine wp_cat rfl _ _ rfl _ _ rfl (O6.out.quiet ((Below.refl _ _).alloc (Nat.le_refl _) _)) ⟨_, 0, none⟩ 1 1 [(q : Int)] rfl rfl (one_new _ _ (by simp) _ _) (by omega) ?_; intro v8 w8 O8 _; have HO8 := Lib.hid O8; clear O8))
              go_roundw
              case rel => exact ⟨q + 1, by omega, by go_num, by rw [HSQ.out]; exact HO8.out⟩
              case measure => simp [intOf]; omega
            | false =>
              rw [if_neg (by simp), List.append_nil] at SQ
              have HSQ := Lib.hid SQ
              clear SQ
              go_wp2_with (first
                | (go_at_call 16; (with_reducible refine WO.out.mono ?_); rintro e w5 ⟨rfl, rfl⟩)
                | (go_at_call 15; (with_reducible refine FI.out.mono ?_); rintro e w6 ⟨rfl, b6⟩; have x0 := kept_cell b6 x0; have O6 := Lib.hid (O.out.quiet b6); clear b6)
                | (go_at_call 17; (with_reducible refine (HP.out _).mono ?_); rintro e w7 ⟨rfl, rfl⟩))
              go_roundw
              case rel => exact ⟨q + 1, by omega, by go_num, by rw [HSQ.out]; exact O6.out⟩
              case measure => simp [intOf]; omega
          · have hqn : q = n := by omega
            have OE := O.out
            rw [hqn, HN.out] at OE
            have P1 := Lib.hid (prefix_any LX.out p (by omega) (by rw [← HN.out]; omega))
            have P2 := Lib.hid (fun W (hb : Below wr.heap.size wr W) => prefix_any (LX.out.quiet hb) [] (by simp) (by rw [← HN.out]; omega))
            have L2 : Hid ((Lx.preN ws [] ws.length).length = n) := by show _ = _; rw [Lx.preN_all, HN.out]
            have LN : (Lx.preN ws p ws.length).length ≤ n := by rw [HN.out]; exact Lx.preN_len ws p ws.length
            obtain ⟨l, hl⟩ : ∃ l, l = Lx.preN ws p ws.length := ⟨_, rfl⟩
            obtain ⟨l2, hl2⟩ : ∃ l2, l2 = Lx.preN ws [] ws.length := ⟨_, rfl⟩
            rw [← hl] at OE P1 LN
            rw [← hl2] at P2 L2
            have HOE := Lib.hid (Sl.of OE)
            clear hqn O hl hl2 OE
            go_wp2_with (first
              | (go_at_call 19; (with_reducible refine P1.out.mono ?_); rintro e w5 ⟨v5, rfl, O5⟩; have HO5 := Lib.hid O5; have SI := Lib.hid (sameInts_yes _ _ l w5 (Sl.of O5) (HOE.out.below O5.bl) (by omega)); clear O5)
              | (go_at_call 18; (with_reducible refine SI.out.mono ?_); rintro e w6 ⟨rfl, b6⟩; have B6 := Lib.hid (HO5.out.bl.trans (b6.mono HO5.out.bl.size)); clear b6)
              | (go_at_call 19; (with_reducible refine (P2.out _ B6.out).mono ?_); rintro e w7 ⟨v7, rfl, O7⟩; obtain ⟨a7, c7, rfl, -, -⟩ := own_sl O7.own; rw [L2.out]; have B7 := Lib.hid (B6.out.trans (O7.bl.mono B6.out.size)); clear O7))
            go_ret
            exact ⟨rfl, BX.out.trans (B7.out.mono BX.out.size)⟩
      · have NWB : Hid (Calls Try.prog 10 #[.slice a n c] wr fun e w' => ∃ z, z ≠ 0 ∧ e = .returned (.tuple #[.pointer none, .int .i64 z]) ∧ Below wr.heap.size wr w') := by
          refine NB.mono ?_
          rintro e w' ⟨hb, ⟨h0, _⟩ | ⟨hn, he⟩⟩
          · exact absurd h0 hz
          · exact ⟨_, hn, he, hb⟩
        have E0 := EB.out
        rw [decide_eq_false hz] at E0
        obtain rfl : bd = true := E0
        clear hz NB EB
        go_wp2_with (go_at_call 10; (with_reducible refine NWB.out.mono ?_); rintro e w4 ⟨z, hz, rfl, b4⟩; have zz : (z != 0) = true := (by simpa using hz); have B4 := Lib.hid (B.out.trans (b4.mono B.out.size)); clear b4)
        go_ret
        exact ⟨rfl, B4.out⟩
theorem walk_lexiconFound (W : World) (v : Value) (l : List Ed.Bs) (u : Tx W v l) (x : l.length ≤ 9223372036854775807) (_ : ∀ x ∈ l, x.length ≤ 9223372036854775807) (a : ByteArray) (ha : a.size ≤ maxLen) :
    Calls Try.prog 6 #[v, .string a] W fun e w' => e = .returned (.bool true) ∧ Below W.heap.size W w' := by
  have e : (.string a : Value) = sb a.data.toList := rfl
  rw [e]
  have la : a.data.toList.length ≤ 9223372036854775807 := by rw [Ed.list_size]; unfold maxLen at ha; omega
  by_cases hf : Lx.few l = true
  · by_cases hp : a.data.toList.length ≤ 70
    · exact found_any v l _ W u hf hp
    · exact found_no v l _ W u x la (Or.inr (by omega))
  · exact found_no v l _ W u x la (Or.inl (by simpa using hf))
end Go.Proofs.Ytkhgjjbiifbfgaa
