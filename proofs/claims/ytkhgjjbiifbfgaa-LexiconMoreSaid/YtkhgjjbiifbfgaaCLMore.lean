/- LexiconMore's walk. -/
import Derived.Test.YtkhgjjbiifbfgaaCLMore0
namespace Go.Proofs.Ytkhgjjbiifbfgaa
open Go.RowKit Go.Shelf
set_option maxRecDepth 100000 in
set_option maxHeartbeats 12800000 in
theorem more_any (v : Value) (ws : List Ed.Bs) (s : Ed.Bs) (c : Ed.Cs) (most : Int) (more : Int) (w : World) (h : Tx w v ws) (hn : ws.length ≤ 9223372036854775807) (hs : s.length ≤ 60) (hf : Lx.few ws = true) (hc : Ed.Rc c) (hm : ¬ 100000 < most) (hm2 : ¬ most < -1000) (hr : 0 ≤ more ∧ more ≤ 255) (hz : Lx.wrong [] ws = 0) :
    Calls Try.prog 4 #[v, sb s, cv c, .int .i64 most, .int .u8 more] w fun e w' => e = .returned (.bool true) ∧ Below w.heap.size w w' := by
  have AW := Lib.hid awake_any
  have B0 := Lib.hid (show Below w.heap.size w (w.alloc (.cells #[.int .i64 c.ins, .int .i64 c.del, .int .i64 c.chg, .int .i64 c.swp] 24)) from (Below.refl _ _).alloc (Nat.le_refl _) _)
  have K0 := Lib.hid (Bxc.made w c)
  have FW := Lib.hid (fun W (hb : Below w.heap.size w W) => few_any v ws W (h.below hb) hn)
  obtain ⟨h70, hn2⟩ := (Lx.few_iff ws).1 hf
  rw [hf] at FW
  have RI := Lib.hid (right_any c)
  rw [rcb_yes hc] at RI
  have NW := Lib.hid (fun W (hb : Below w.heap.size w W) => new_right v ws W (h.below hb) (by omega) h70 hz)
  have GD : Lx.Good ws := by have := (Lx.wrong_good ws [] Lx.Good.nil).1 hz; simpa using this
  have HGD := Lib.hid GD
  have HCC := Lib.hid hc
  have A1 := Lib.hid (fun B X W (h : Lex B X W ws) => near_any h (by omega) c hc s hs most)
  have A2 := Lib.hid (fun B X W (h : Lex B X W ws) => near_any h (by omega) c hc s hs (most + more))
  have A3 := Lib.hid (fun B X W (h : Lex B X W ws) => near_any h (by omega) c hc s hs 0)
  obtain ⟨q1, q2⟩ := Lx.near_more c s ws (show most ≤ most + more by omega)
  have q3 := Lx.near_more_len c s ws (show most ≤ most + more by omega)
  have q4 := Lx.near_len c s ws (most + more)
  obtain ⟨l, hl⟩ : ∃ l, l = Lx.near c s ws most := ⟨_, rfl⟩
  obtain ⟨m, hm'⟩ : ∃ m, m = Lx.near c s ws (most + more) := ⟨_, rfl⟩
  rw [← hl] at A1 q1 q2 q3
  rw [← hm'] at A2 q1 q2 q3 q4
  obtain ⟨n1, hn1⟩ : ∃ n1, n1 = l.length := ⟨_, rfl⟩
  obtain ⟨n2, hn2'⟩ : ∃ n2, n2 = m.length := ⟨_, rfl⟩
  have HN1 := Lib.hid hn1
  have HN2 := Lib.hid hn2'
  have H1 := Lib.hid q1
  have H2 := Lib.hid q2
  have n12 : n1 ≤ n2 := by omega
  have n2l : n2 ≤ 200 := by omega
  have r1 : most ≤ 100000 := by omega
  have r2 : -1000 ≤ most := by omega
  have r3 : 0 ≤ more := hr.1
  have r4 : more ≤ 255 := hr.2
  have FI : Hid ((∃ i : Int, Lx.near c s ws 0 = [(i, 0)] ∧ ∀ B X W, Lex B X W ws → Calls Try.prog 15 #[nd X, sb s] W fun e w' => e = .returned (.tuple #[.int .i64 i, .bool true]) ∧ Below W.heap.size W w') ∨ (Lx.near c s ws 0 = [] ∧ ∀ B X W, Lex B X W ws → Calls Try.prog 15 #[nd X, sb s] W fun e w' => e = .returned (.tuple #[.int .i64 0, .bool false]) ∧ Below W.heap.size W w')) := by
    by_cases hin : s ∈ ws
    · obtain ⟨i, hi, rfl⟩ := List.getElem_of_mem hin
      exact Or.inl ⟨i, Lx.near_zero_yes hc GD hi, fun B X W hL => find_yes hL i hi⟩
    · exact Or.inr ⟨Lx.near_zero_no hc hs GD hin, fun B X W hL => find_no hL s hin (by omega)⟩
  clear h hn hf hz hc GD hl hm' hn1 hn2' q1 q2 q3 q4 hm hm2 hr h70
  go_enter Try.func4, Try.ntmps4
  go_wp2_with (first
    | (go_at_call 7; (with_reducible refine (AW.out _).mono ?_); rintro e w1 ⟨rfl, b1⟩; have K1 := Lib.hid (K0.out.below b1); have B1 := Lib.hid (B0.out.trans (b1.mono B0.out.size)); obtain ⟨x0, x1, x2, x3⟩ := K1.out; clear b1)
    | (go_at_call 8; (with_reducible refine (FW.out _ B1.out).mono ?_); rintro e w2 ⟨rfl, rfl⟩)
    | (go_at_call 9; (with_reducible refine (RI.out _).mono ?_); rintro e w3 ⟨rfl, b3⟩; have K2 := Lib.hid (K1.out.below b3); have B2 := Lib.hid (B1.out.trans (b3.mono B1.out.size)); clear x0 x1 x2 x3; obtain ⟨x0, x1, x2, x3⟩ := K2.out; clear b3)
    | (go_at_call 10; (with_reducible refine (NW.out _ B2.out).mono ?_); rintro e w4 ⟨B, X, rfl, L4, b4⟩; have HL4 := Lib.hid L4; have B4 := Lib.hid (B2.out.trans (b4.mono B2.out.size)); have K4 := Lib.hid (K2.out.below b4); clear x0 x1 x2 x3 L4 b4; obtain ⟨x0, x1, x2, x3⟩ := K4.out)
    | (go_at_call 11; (with_reducible refine (A1.out _ _ _ HL4.out).mono ?_); rintro e w5 ⟨v5, rfl, O5⟩; obtain ⟨a5, c5, rfl, hc5, -⟩ := O5.hl; rw [← HN1.out]; rw [← HN1.out] at hc5; have G5 := Lib.hid O5.hl; have L5 := Lib.hid (HL4.out.quiet O5.bl); have B5 := Lib.hid (B4.out.trans (O5.bl.mono B4.out.size)); have K5 := Lib.hid (K4.out.below O5.bl); clear x0 x1 x2 x3 O5; obtain ⟨x0, x1, x2, x3⟩ := K5.out)
    | (go_at_call 11; (with_reducible refine (A2.out _ _ _ L5.out).mono ?_); rintro e w6 ⟨v6, rfl, O6⟩; obtain ⟨a6, c6, rfl, hc6, -⟩ := O6.hl; rw [← HN2.out]; rw [← HN2.out] at hc6; have G6 := Lib.hid O6.hl; have G56 := Lib.hid (G5.out.below O6.bl); have L6 := Lib.hid (L5.out.quiet O6.bl); have B6 := Lib.hid (B5.out.trans (O6.bl.mono B5.out.size)); have K6 := Lib.hid (K5.out.below O6.bl); have SM : Hid (Calls Try.prog 14 #[.slice a5 n1 c5, .slice a6 n1 c6] w6 fun e w' => e = .returned (.bool true) ∧ Below w6.heap.size w6 w') := (by have g1 := G56.out; have g2 := Hl.take G6.out n1 (by rw [← HN2.out]; exact n12); rw [← HN1.out] at g1; have h1 := H1.out; rw [← HN1.out] at h1; rw [h1] at g2; exact same_yes _ _ l w6 g1 g2 (by rw [← HN1.out]; omega)); clear x0 x1 x2 x3 O6; obtain ⟨x0, x1, x2, x3⟩ := K6.out)
    | (go_at_call 14; (with_reducible refine SM.out.mono ?_); rintro e w7 ⟨rfl, b7⟩; have G7 := Lib.hid (G6.out.below b7); have L7 := Lib.hid (L6.out.quiet b7); have B7 := Lib.hid (B6.out.trans (b7.mono B6.out.size)); have K7 := Lib.hid (K6.out.below b7); clear x0 x1 x2 x3 b7; obtain ⟨x0, x1, x2, x3⟩ := K7.out))
  go_loop [17] (fun i => ∃ k : Nat, n1 ≤ k ∧ k ≤ n2 ∧ i = .int .i64 k) (fun i => n2 - (intOf i).toNat)
  case atStart => exact ⟨n1, Nat.le_refl _, n12, rfl⟩
  case round =>
    obtain ⟨k, hk1, hk2, rfl⟩ := hrel
    by_cases hlt : k < n2
    · have km : k < m.length := by rw [← HN2.out]; exact hlt
      obtain ⟨b, off, rfl, -, y1⟩ := Hl.at' G7.out rfl km
      have hgt : most < m[k].2 := H2.out _ (by
        rw [List.mem_iff_getElem]
        have h1 := HN1.out
        exact ⟨k - l.length, by rw [List.length_drop]; omega, by simp [show l.length + (k - l.length) = k by omega]⟩)
      obtain ⟨d, hd⟩ : ∃ d, d = m[k].2 := ⟨_, rfl⟩
      rw [← hd] at y1 hgt
      clear hd km
      go_wp2
      go_round
      case rel => exact ⟨k + 1, by omega, by omega, by go_num⟩
      case measure => simp [intOf]; omega
    · rcases FI.out with ⟨zi, ZE, FC⟩ | ⟨ZE, FC⟩
      · rw [ZE] at A3
        have HFC := Lib.hid FC
        have S1 : Hid (∀ W u, Hl W u [(zi, 0)] → Calls Try.prog 14 #[u, .slice (some ⟨W.heap.size, 0, none⟩) 1 1] (W.alloc (.cells #[.int .i64 zi, .int .i64 0] 38)) fun e w' => e = .returned (.bool true) ∧ Below W.heap.size W w') := fun W u h => by
          refine (same_yes u _ [(zi, 0)] _ (h.alloc _) (hl_new W [(zi, 0)] 38) (by simp)).mono ?_
          rintro e w' ⟨he, hb⟩
          exact ⟨he, ((Below.refl _ _).alloc (Nat.le_refl _) _).trans (hb.mono (by simp))⟩
        clear ZE FC
        go_wp2_with (first
          | (go_at_call 11; (with_reducible refine (A3.out _ _ _ L7.out).mono ?_); rintro e w8 ⟨v8, rfl, O8⟩; have G8 := Lib.hid O8.hl; have L8 := Lib.hid (L7.out.quiet O8.bl); have B8 := Lib.hid (B7.out.trans (O8.bl.mono B7.out.size)); clear O8)
          | (go_at_call 15; (with_reducible refine (HFC.out _ _ _ L8.out).mono ?_); rintro e w9 ⟨rfl, b9⟩; have G9 := Lib.hid (G8.out.below b9); have B9 := Lib.hid (B8.out.trans (b9.mono B8.out.size)); clear b9)
          | (go_at_call 14; (with_reducible refine (S1.out _ _ G9.out).mono ?_); rintro e w10 ⟨rfl, b10⟩; have B10 := Lib.hid (B9.out.trans (b10.mono B9.out.size)); clear b10))
        go_ret
        exact ⟨rfl, B10.out⟩
      · rw [ZE] at A3
        have HFC := Lib.hid FC
        clear ZE FC
        go_wp2_with (first
          | (go_at_call 11; (with_reducible refine (A3.out _ _ _ L7.out).mono ?_); rintro e w8 ⟨v8, rfl, O8⟩; obtain ⟨a8, c8, rfl, -, -⟩ := O8.hl; have L8 := Lib.hid (L7.out.quiet O8.bl); have B8 := Lib.hid (B7.out.trans (O8.bl.mono B7.out.size)); clear O8)
          | (go_at_call 15; (with_reducible refine (HFC.out _ _ _ L8.out).mono ?_); rintro e w9 ⟨rfl, b9⟩; have B9 := Lib.hid (B8.out.trans (b9.mono B8.out.size)); clear b9))
        go_ret
        exact ⟨rfl, B9.out⟩
theorem walk_lexiconMore (W : World) (v : Value) (l : List Ed.Bs) (u : Tx W v l) (x : l.length ≤ 9223372036854775807) (_ : ∀ x ∈ l, x.length ≤ 9223372036854775807) (a : ByteArray) (ha : a.size ≤ maxLen) (c : Ed.Cs) (m : Int) (_ : -9223372036854775808 ≤ m) (_ : m ≤ 9223372036854775807) (b : Int) (b1 : 0 ≤ b) (b2 : b ≤ 255) :
    Calls Try.prog 4 #[v, .string a, cv c, .int .i64 m, .int .u8 b] W fun e w' => e = .returned (.bool true) ∧ Below W.heap.size W w' := by
  have e : (.string a : Value) = sb a.data.toList := rfl
  rw [e]
  have la : a.data.toList.length ≤ 9223372036854775807 := by rw [Ed.list_size]; unfold maxLen at ha; omega
  by_cases hf : Lx.few l = true
  · by_cases hp : a.data.toList.length ≤ 60
    · by_cases hc : Ed.Rc c
      · by_cases h1 : 100000 < m
        · exact more_far v l _ c m b W u x hp hf hc (Or.inl h1)
        · by_cases h2 : m < -1000
          · exact more_far v l _ c m b W u x hp hf hc (Or.inr h2)
          · by_cases hz : Lx.wrong [] l = 0
            · exact more_any v l _ c m b W u x hp hf hc h1 h2 ⟨b1, b2⟩ hz
            · exact more_wrong v l _ c m b W u x hp hf hc h1 h2 hz
      · exact more_bad v l _ c m b W u x hp hf hc
    · exact more_no v l _ c m b W u x la (Or.inr (by omega))
  · exact more_no v l _ c m b W u x la (Or.inl (by simpa using hf))
end Go.Proofs.Ytkhgjjbiifbfgaa
