/- The reference's Fold; the statement's own 'folds'. -/
import Derived.Test.YtljfbdiiecohpaaGa
import Derived.Test.YtljfbdiiecohpaaGb
import Derived.Test.YtljfbdiiecohpaaGk
import Derived.Test.YtljfbdiiecohpaaCFCase
import Derived.Test.YtljfbdiiecohpaaCFJoined
namespace Go.Proofs.Ytljfbdiiecohpaa
open Go.RowKit Go.Lib

namespace Fo
theorem twoAt_nil {s : ByteArray} {p : Nat} (hp : p < s.size) (h : twoAt s p = []) : conv (s.data.toList.drop p) = one s[p] :: conv (s.data.toList.drop (p + 1)) := by
  unfold twoAt at h
  by_cases h1 : p + 1 < s.size
  · rw [dif_pos h1] at h
    rw [drop_at hp, drop_at h1, conv_one _ h]
  · rw [drop_at hp, drop_end h1]; rfl
theorem twoAt_two {s : ByteArray} {p : Nat} (hp : p < s.size) (h : twoAt s p ≠ []) : p + 1 < s.size ∧ ¬ (kpt s[p] || sml s[p]) = true ∧ (twoAt s p).length ≤ 2 ∧ conv (s.data.toList.drop p) = twoAt s p ++ conv (s.data.toList.drop (p + 2)) := by
  unfold twoAt at h ⊢
  by_cases h1 : p + 1 < s.size
  · rw [dif_pos h1] at h ⊢
    rcases two_ok s[p] s[p + 1] with e | ⟨_, _, e, _⟩
    · exact absurd e h
    · refine ⟨h1, two_ks h, e, ?_⟩
      rw [drop_at hp, drop_at h1, conv_two _ h]
  · rw [dif_neg h1] at h
    exact absurd rfl h
theorem twoAt_ks {s : ByteArray} {p : Nat} (hp : p < s.size) (h : (kpt s[p] || sml s[p]) = true) : twoAt s p = [] := by
  by_cases e : twoAt s p = []
  · exact e
  · exact absurd h (twoAt_two hp e).2.1
theorem one_sml {c : UInt8} (h : ¬ kpt c = true) (h2 : sml c = true) : one c = c - 32 := by unfold one; rw [if_neg h, if_pos h2]
theorem sub_small {c : UInt8} (h : 97 ≤ c.toNat ∧ c.toNat ≤ 122) : (c.toNat : Int) - 32 = ((c - 32).toNat : Nat) := by
  have := all8 (p := fun c => 97 ≤ c.toNat ∧ c.toNat ≤ 122 → (c.toNat : Int) - 32 = ((c - 32).toNat : Nat)) (by decide +kernel) c
  exact this h
theorem join_next (ws : List Bs) {k : Nat} (hk : k < ws.length) : join (ws.take (k + 1)) = if k = 0 then ws[k] else join (ws.take k) ++ 32 :: ws[k] := by
  rw [List.take_succ_eq_append_getElem hk]
  by_cases h0 : k = 0
  · subst h0; rw [if_pos rfl]; rfl
  · rw [if_neg h0, join_app _ [ws[k]] (by intro e; have := congrArg List.length e; rw [List.length_take, List.length_nil] at this; omega) (by simp)]; rfl
end Fo
/-- The state of the reference's first loop. -/
structure RfI (s : ByteArray) (w wr : World) (l : Fo.Bs) (p : Nat) : Prop where
  eq : l ++ Fo.conv (s.data.toList.drop p) = Fo.conv s.data.toList
  bl : Below w.heap.size w wr
theorem RfI.len {s : ByteArray} {w wr : World} {l : Fo.Bs} {p : Nat} (h : RfI s w wr l p) : l.length ≤ s.size := by
  have e := congrArg List.length h.eq
  have := Fo.conv_len s.data.toList
  have hl : s.data.toList.length = s.size := by rw [Array.length_toList]; rfl
  rw [List.length_append] at e
  omega
namespace Fo
theorem join_pre (a b : List Bs) : (join a).length ≤ (join (a ++ b)).length := by
  by_cases ha : a = []
  · subst ha; exact Nat.zero_le _
  · by_cases hb : b = []
    · subst hb; rw [List.append_nil]; exact Nat.le_refl _
    · rw [join_app a b ha hb, List.length_append]; omega
theorem join_take (ws : List Bs) (k : Nat) : (join (ws.take k)).length ≤ (join ws).length := by
  have := join_pre (ws.take k) (ws.drop k)
  rw [List.take_append_drop] at this
  exact this
end Fo
set_option maxRecDepth 100000 in
set_option maxHeartbeats 6400000 in
theorem rfold_any (s : ByteArray) (w : World) (hs : s.size ≤ 900000) : Calls Try.prog 25 #[.string s] w fun e w' => e = .returned (.string ⟨(Fo.fold s.data.toList).toArray⟩) ∧ Below w.heap.size w w' := by
  have hl : Hid (s.data.toList.length = s.size) := by show _ = _; rw [Array.length_toList]; rfl
  have TW := Lib.hid (fun p w hp => rtwo_any s p w (by omega) hp)
  have FL : Hid ((Fo.join (Fo.words (Fo.conv s.data.toList))).length ≤ s.size) := by
    have := Fo.fold_len s.data.toList
    rw [hl.out] at this
    exact this
  have FE : Hid (Fo.join (Fo.words (Fo.conv s.data.toList)) = Fo.fold s.data.toList) := rfl
  go_enter Try.func25, Try.ntmps25
  go_wp2
  go_loopw [3, 4] (fun lv iv wr => ∃ (p : Nat) (l : Fo.Bs), p ≤ s.size ∧ iv = .int .i64 p ∧ lv = .string ⟨l.toArray⟩ ∧ Hid (RfI s w wr l p)) (fun _ i _ => s.size - (intOf i).toNat)
  case atStart => exact ⟨0, [], Nat.zero_le _, rfl, rfl, rfl, Below.refl _ _⟩
  case round =>
    obtain ⟨p, l, hp, rfl, rfl, I⟩ := hrel
    have ll := I.out.len
    by_cases hlt : p < s.size
    · have T1 := Lib.hid (fun w => TW.out p w hlt)
      have K1 := Lib.hid (fun w => rkept_any s[p] w)
      have XE := Lib.hid (Fo.extract_one hlt)
      obtain ⟨T, hT⟩ : ∃ T, T = Fo.twoAt s p := ⟨_, rfl⟩
      have TN := Lib.hid (fun h => Fo.twoAt_nil (s := s) (p := p) hlt h)
      have TT := Lib.hid (fun h => Fo.twoAt_two (s := s) (p := p) hlt h)
      have TK := Lib.hid (fun h => Fo.twoAt_ks (s := s) (p := p) hlt h)
      rw [← hT] at T1 TN TT TK
      have IE := I.out.eq
      by_cases kk : Fo.kpt s[p] = true
      · have tn := TK.out (by rw [kk]; rfl)
        have E2 : Hid ((l ++ [s[p]]) ++ Fo.conv (s.data.toList.drop (p + 1)) = Fo.conv s.data.toList) := by
          show _ = _
          rw [TN.out tn, Fo.one_of_kpt kk] at IE
          rw [← IE]; simp
        have tl : T.length ≤ 2 := by rw [tn]; simp
        rw [kk] at K1
        clear hT TN TT TK kk tn IE
        go_wp2_with (first
          | (go_at_call 49; with_reducible refine (T1.out _).mono ?_; rintro e w2 ⟨rfl, b2⟩; have B := Lib.hid (I.out.bl.trans (b2.mono I.out.bl.size)); clear b2)
          | (go_at_call 50; with_reducible refine (K1.out _).mono ?_; rintro e w2 ⟨rfl, b2⟩; have B := Lib.hid (B.out.trans (b2.mono B.out.size)); clear b2))
        go_roundw
        case rel => exact ⟨p + 1, l ++ [s[p]], by omega, by go_num, by rw [XE.out, app], E2.out, B.out⟩
        case measure => simp [intOf]; omega
      · have kf : Fo.kpt s[p] = false := by simpa using kk
        rw [kf] at K1
        by_cases sm : 97 ≤ s[p].toNat ∧ s[p].toNat ≤ 122
        · have sk := Fo.sml_of sm
          have tn := TK.out (by rw [sk]; simp)
          have E2 : Hid ((l ++ [s[p] - 32]) ++ Fo.conv (s.data.toList.drop (p + 1)) = Fo.conv s.data.toList) := by
            show _ = _
            rw [TN.out tn, Fo.one_sml kk sk] at IE
            rw [← IE]; simp
          have CV := fun w => of_byte (s[p] - 32) w
          simp only [← Fo.sub_small sm] at CV
          have f1 : (97 : Int) ≤ s[p].toNat := by omega
          have f2 : (s[p].toNat : Int) ≤ 122 := by omega
          clear hT TN TT TK kk tn IE sk sm kf
          go_wp2_with (first
            | (go_at_call 49; with_reducible refine (T1.out _).mono ?_; rintro e w2 ⟨rfl, b2⟩; have B := Lib.hid (I.out.bl.trans (b2.mono I.out.bl.size)); clear b2)
            | (go_at_call 50; with_reducible refine (K1.out _).mono ?_; rintro e w2 ⟨rfl, b2⟩; have B := Lib.hid (B.out.trans (b2.mono B.out.size)); clear b2))
          go_roundw
          case rel => exact ⟨p + 1, l ++ [s[p] - 32], by omega, by go_num, by rw [← app], E2.out, B.out.alloc B.out.size _⟩
          case measure => simp [intOf]; omega
        · have sk : Fo.sml s[p] = false := by simpa using Fo.sml_no sm
          have nf : ((97 : Int) ≤ s[p].toNat ∧ (s[p].toNat : Int) ≤ 122) → False := fun h => sm ⟨by omega, by omega⟩
          have rg : s[p].toNat < 97 ∨ 122 < s[p].toNat := by omega
          by_cases tn : T = []
          · have E2 : Hid ((l ++ [32]) ++ Fo.conv (s.data.toList.drop (p + 1)) = Fo.conv s.data.toList) := by
              show _ = _
              rw [TN.out tn, Fo.one_nks s[p] (by rw [kf, sk]; simp)] at IE
              rw [← IE]; simp
            rw [tn] at T1
            clear hT TN TT TK kk IE sk sm kf nf tn
            rcases rg with rg | rg
            · have f1 : ¬ (97 : Int) ≤ s[p].toNat := by omega
              clear rg
              go_wp2_with (first
                | (go_at_call 49; with_reducible refine (T1.out _).mono ?_; rintro e w2 ⟨rfl, b2⟩; have B := Lib.hid (I.out.bl.trans (b2.mono I.out.bl.size)); clear b2)
                | (go_at_call 50; with_reducible refine (K1.out _).mono ?_; rintro e w2 ⟨rfl, b2⟩; have B := Lib.hid (B.out.trans (b2.mono B.out.size)); clear b2))
              go_roundw
              case rel => exact ⟨p + 1, l ++ [32], by omega, by go_num, by rw [← app], E2.out, B.out⟩
              case measure => simp [intOf]; omega
            · have f1 : (97 : Int) ≤ s[p].toNat := by omega
              have f2 : ¬ (s[p].toNat : Int) ≤ 122 := by omega
              clear rg
              go_wp2_with (first
                | (go_at_call 49; with_reducible refine (T1.out _).mono ?_; rintro e w2 ⟨rfl, b2⟩; have B := Lib.hid (I.out.bl.trans (b2.mono I.out.bl.size)); clear b2)
                | (go_at_call 50; with_reducible refine (K1.out _).mono ?_; rintro e w2 ⟨rfl, b2⟩; have B := Lib.hid (B.out.trans (b2.mono B.out.size)); clear b2))
              go_roundw
              case rel => exact ⟨p + 1, l ++ [32], by omega, by go_num, by rw [← app], E2.out, B.out⟩
              case measure => simp [intOf]; omega
          · obtain ⟨h1, _, tl, e2⟩ := TT.out tn
            have E2 : Hid ((l ++ T) ++ Fo.conv (s.data.toList.drop (p + 2)) = Fo.conv s.data.toList) := by
              show _ = _
              rw [e2] at IE
              rw [← IE, List.append_assoc]
            have te : T.isEmpty = false := by simpa using tn
            clear hT TN TT TK kk IE sk sm kf nf tn e2
            rcases rg with rg | rg
            · have f1 : ¬ (97 : Int) ≤ s[p].toNat := by omega
              clear rg
              go_wp2_with (first
                | (go_at_call 49; with_reducible refine (T1.out _).mono ?_; rintro e w2 ⟨rfl, b2⟩; have B := Lib.hid (I.out.bl.trans (b2.mono I.out.bl.size)); clear b2)
                | (go_at_call 50; with_reducible refine (K1.out _).mono ?_; rintro e w2 ⟨rfl, b2⟩; have B := Lib.hid (B.out.trans (b2.mono B.out.size)); clear b2))
              go_roundw
              case rel => exact ⟨p + 2, l ++ T, by omega, by go_num, by rw [app], E2.out, B.out⟩
              case measure => simp [intOf]; omega
            · have f1 : (97 : Int) ≤ s[p].toNat := by omega
              have f2 : ¬ (s[p].toNat : Int) ≤ 122 := by omega
              clear rg
              go_wp2_with (first
                | (go_at_call 49; with_reducible refine (T1.out _).mono ?_; rintro e w2 ⟨rfl, b2⟩; have B := Lib.hid (I.out.bl.trans (b2.mono I.out.bl.size)); clear b2)
                | (go_at_call 50; with_reducible refine (K1.out _).mono ?_; rintro e w2 ⟨rfl, b2⟩; have B := Lib.hid (B.out.trans (b2.mono B.out.size)); clear b2))
              go_roundw
              case rel => exact ⟨p + 2, l ++ T, by omega, by go_num, by rw [app], E2.out, B.out⟩
              case measure => simp [intOf]; omega
    · have le : l = Fo.conv s.data.toList := by
        have e := I.out.eq
        rw [Fo.drop_end hlt] at e
        rw [← e]; simp [Fo.conv]
      have WD := Lib.hid (fun w => rwords_any ⟨l.toArray⟩ w (by show l.toArray.size ≤ _; rw [List.size_toArray]; omega))
      obtain ⟨L, hL⟩ : ∃ L, L = Fo.words (Fo.conv s.data.toList) := ⟨_, rfl⟩
      have wl : Fo.words (⟨l.toArray⟩ : ByteArray).data.toList = L := by rw [hL, ← le]
      rw [wl] at WD
      rw [← hL] at FL FE
      obtain ⟨n, hn⟩ : ∃ n, n = L.length := ⟨_, rfl⟩
      have nl : n ≤ 900000 := by
        have := Fo.join_count L (fun x hx => by rw [hL] at hx; exact (Fo.words_conv _ x hx).1)
        have := FL.out
        omega
      have HN := Lib.hid hn
      clear le hL wl hn
      go_wp2_with (go_at_call 27; (with_reducible refine (WD.out _).mono ?_); rintro e w3 ⟨v, rfl, O⟩; have B3 := Lib.hid (I.out.bl.trans (O.bl.mono I.out.bl.size)); have TX := Lib.hid O.tx; obtain ⟨a8, c8, rfl, -⟩ := O.tx; rw [← HN.out] at TX ⊢; clear O)
      go_loopw [7, 8] (fun ov iv wr => ∃ (k : Nat) (o : Fo.Bs), k ≤ n ∧ iv = .int .i64 k ∧ ov = .string ⟨o.toArray⟩ ∧ o.length ≤ s.size ∧ Hid (o = Fo.join (L.take k)) ∧ Hid (Below w3.heap.size w3 wr)) (fun _ i _ => n - (intOf i).toNat)
      case atStart => exact ⟨0, [], Nat.zero_le _, rfl, rfl, Nat.zero_le _, rfl, Below.refl _ _⟩
      case round =>
        obtain ⟨k, o, hk, rfl, rfl, ol, OE, K⟩ := hrel
        by_cases hlt : k < n
        · have hkl : k < L.length := by rw [← HN.out]; exact hlt
          obtain ⟨b1, o1, rfl, k1⟩ := Tx.at (TX.out.below K.out) hkl
          have JN := Fo.join_next L hkl
          have j1 := Fo.join_take L (k + 1)
          have j2 := Fo.word_len L L[k] (List.getElem_mem hkl)
          obtain ⟨x, hx⟩ : ∃ x, x = L[k] := ⟨_, rfl⟩
          rw [← hx] at k1 JN j2
          have fl := FL.out
          by_cases k0 : k = 0
          · have o0 : o = [] := by rw [OE.out, k0]; rfl
            subst o0
            have E2 : Hid (x = Fo.join (L.take (k + 1))) := by show _ = _; rw [JN, if_pos k0]
            have xl : x.length ≤ s.size := by omega
            have kp : ¬ (0 : Int) < k := by omega
            clear JN j1 j2 hx fl k0
            go_wp2
            go_roundw
            case rel => exact ⟨k + 1, x, by omega, by go_num, by rw [app_nil], xl, E2, K⟩
            case measure => simp [intOf]; omega
          · rw [if_neg k0, ← OE.out] at JN
            have E2 : Hid (o ++ 32 :: x = Fo.join (L.take (k + 1))) := JN.symm
            have xl : (o ++ 32 :: x).length ≤ s.size := by rw [← JN]; omega
            have kp : (0 : Int) < k := by omega
            have xl2 : x.length ≤ s.size := by omega
            clear JN j1 j2 hx fl k0
            go_wp2
            go_roundw
            case rel => exact ⟨k + 1, o ++ 32 :: x, by omega, by go_num, by rw [← app_mid], xl, E2, K⟩
            case measure => simp [intOf]; omega
        · have E : Hid (o = Fo.fold s.data.toList) := by
            show _ = _
            rw [OE.out, List.take_of_length_le (by rw [← HN.out]; omega), FE.out]
          go_wp2
          go_ret
          rw [E.out]
          exact ⟨rfl, B3.out.trans (K.out.mono B3.out.size)⟩
theorem rfoldl_any (l : Fo.Bs) (w : World) (hl : l.length ≤ 900000) : Calls Try.prog 25 #[.string ⟨l.toArray⟩] w fun e w' => e = .returned (.string ⟨(Fo.fold l).toArray⟩) ∧ Below w.heap.size w w' :=
  rfold_any ⟨l.toArray⟩ w (by show l.toArray.size ≤ _; rw [List.size_toArray]; exact hl)
theorem rwordsl_any (l : Fo.Bs) (w : World) (hl : l.length ≤ 900000) : Calls Try.prog 27 #[.string ⟨l.toArray⟩] w fun e w' => ∃ v, e = .returned v ∧ Otx w w' v (Fo.words l) :=
  rwords_any ⟨l.toArray⟩ w (by show l.toArray.size ≤ _; rw [List.size_toArray]; exact hl)
theorem words_len (l : Fo.Bs) : (Fo.words l).length ≤ l.length := by
  have h1 := Fo.join_count (Fo.words l) (fun x hx => (Fo.words_wn l x hx).1)
  have h2 := Fo.join_wds_len l []
  unfold Fo.words at h1 ⊢
  simp only [List.length_nil] at h2
  omega
set_option maxRecDepth 100000 in
set_option maxHeartbeats 3200000 in
theorem folds_any (l : Fo.Bs) (w : World) (hl : l.length ≤ 900000) : Calls Try.prog 8 #[.string ⟨l.toArray⟩] w fun e w' => e = .returned (.bool true) ∧ Below w.heap.size w w' := by
  have F1 := Lib.hid (fun w => foldl_any l w (by omega))
  have F2 := Lib.hid (fun w => rfoldl_any l w hl)
  have R1 := Lib.hid (fun w => right_any l w (by omega))
  have W1 := Lib.hid (fun w => words_any l w (by omega))
  have W2 := Lib.hid (fun w => rwordsl_any l w hl)
  have wl := words_len l
  obtain ⟨L, hL⟩ : ∃ L, L = Fo.words l := ⟨_, rfl⟩
  rw [← hL] at W1 W2 wl
  obtain ⟨f, hf⟩ : ∃ f, f = Fo.fold l := ⟨_, rfl⟩
  rw [← hf] at F1 F2 R1
  clear hL hf
  go_enter Try.func8, Try.ntmps8
  have B := Lib.hid (Below.refl w.heap.size w)
  go_wp2_with (first
    | (go_at_call 13; with_reducible refine (F1.out _).mono ?_; rintro e w2 ⟨rfl, b2⟩; have B := Lib.hid (B.out.trans (b2.mono B.out.size)); clear b2)
    | (go_at_call 25; with_reducible refine (F2.out _).mono ?_; rintro e w2 ⟨rfl, b2⟩; have B := Lib.hid (B.out.trans (b2.mono B.out.size)); clear b2)
    | (go_at_call 15; with_reducible refine (R1.out _).mono ?_; rintro e w2 ⟨rfl, b2⟩; have B := Lib.hid (B.out.trans (b2.mono B.out.size)); clear b2)
    | (go_at_call 17; with_reducible refine (W1.out _).mono ?_; rintro e w2 ⟨v, rfl, O⟩; have T := Lib.hid O.tx; have B := Lib.hid (B.out.trans (O.bl.mono B.out.size)); clear O)
    | (go_at_call 27; with_reducible refine (W2.out _).mono ?_; rintro e w3 ⟨u, rfl, O⟩; have T1 := Lib.hid (T.out.below O.bl); have T2 := Lib.hid O.tx; have B := Lib.hid (B.out.trans (O.bl.mono B.out.size)); clear O)
    | (go_at_call 26; refine (sameTexts_any _ _ L L _ T1.out T2.out (by omega) (by omega)).mono ?_; rintro e w2 ⟨rfl, b2⟩; have B := Lib.hid (B.out.trans (b2.mono B.out.size)); clear b2))
  go_ret
  exact ⟨by simp, B.out⟩
end Go.Proofs.Ytljfbdiiecohpaa
