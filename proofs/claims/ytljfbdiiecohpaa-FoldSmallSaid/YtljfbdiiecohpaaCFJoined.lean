/- FoldJoined's walk. -/
import Derived.Test.YtljfbdiiecohpaaFj
namespace Go.Proofs.Ytljfbdiiecohpaa
open Go.RowKit Go.Lib

theorem of_byte (c : UInt8) (w : World) : (convert 23 9 (.slice (some ⟨w.heap.size, 0, none⟩) 1 1)).run Try.prog (w.alloc (.cells #[.int .u8 c.toNat] 5)) = .ok (.string ⟨#[c]⟩) (w.alloc (.cells #[.int .u8 c.toNat] 5)) := by
  refine run_convert_bytes_back (w.alloc (.cells #[.int .u8 c.toNat] 5)) _ _ 5 ⟨w.heap.size, 0, none⟩ 1 [c] Try.underlying23 Try.underlying5 Try.underlying9 fun j hj => ?_
  have : j = 0 := by simpa using hj
  subst this
  exact cell_at _ _ _ 0 _ _ rfl rfl
set_option maxRecDepth 100000 in
set_option maxHeartbeats 6400000 in
theorem fjoined_any (s t : Fo.Bs) (c : UInt8) (w : World) (hs : s.length ≤ 9223372036854775807) (ht : t.length ≤ 9223372036854775807) : Calls Try.prog 5 #[.string ⟨s.toArray⟩, .string ⟨t.toArray⟩, .int .u8 c.toNat] w fun e w' => e = .returned (.bool true) ∧ Below w.heap.size w w' := by
  have AW := Lib.hid (awake5_any w)
  by_cases h1 : s.length ≤ 2000
  · by_cases h2 : t.length ≤ 2000
    · have f1 := Fo.fold_len s
      have f2 := Fo.fold_len t
      have f3 := Fo.joined_len (Fo.fold s) (Fo.fold t)
      have FS := Lib.hid (fun w => foldl_any s w (by omega))
      have FT := Lib.hid (fun w => foldl_any t w (by omega))
      have JD := Lib.hid (fun w => joined_any (Fo.fold s) (Fo.fold t) w (by omega) (by omega))
      have FB := Lib.hid (fun w => foldl_any (s ++ 32 :: t) w (by simp; omega))
      have FC := Lib.hid (fun w => foldl_any (s ++ c :: t) w (by simp; omega))
      rw [Fo.fold_app 32 (by decide) (by decide) s t] at FB
      have JW := Lib.hid (fun x (h : x ∈ Fo.words (Fo.joined (Fo.fold s) (Fo.fold t))) => Fo.joined_words h)
      have JJ := Lib.hid (Fo.joined_join_words s t)
      have FCE : Hid (c.toNat < 128 → Fo.one c = 32 → Fo.fold (s ++ c :: t) = Fo.joined (Fo.fold s) (Fo.fold t)) := fun h1 h2 => Fo.fold_app c h1 h2 s t
      obtain ⟨W, hW⟩ : ∃ W, W = Fo.joined (Fo.fold s) (Fo.fold t) := ⟨_, rfl⟩
      rw [← hW] at FB JD JW JJ f3 FCE
      obtain ⟨L, hL⟩ : ∃ L, L = Fo.words W := ⟨_, rfl⟩
      have WD := Lib.hid (fun w => words_any W w (by omega))
      rw [← hL] at WD JW JJ
      have wl : L.length ≤ 4001 := by
        have e := congrArg List.length JJ.out
        have := Fo.join_count L (fun x hx => (JW.out x hx).1)
        omega
      obtain ⟨n, hn⟩ : ∃ n, n = L.length := ⟨_, rfl⟩
      have HN := Lib.hid hn
      rw [← hn] at wl
      have WL : Hid (W.length ≤ 1000000) := by show _ ≤ _; omega
      clear f1 f2 f3 hW hL hn
      rw [← app_mid] at FB FC
      have CV := fun w => of_byte c w
      go_enter Try.func5, Try.ntmps5
      by_cases c1 : c.toNat < 128
      · have d1 : (c.toNat : Int) < 128 := by omega
        by_cases c2 : Fo.one c = 32
        · have F1 := Lib.hid (fun w => foldl_any [c] w (by simp))
          rw [(Fo.fold_byte c).2 c2] at F1
          rw [FCE.out c1 c2] at FC
          clear c1 c2 FCE
          go_wp2_with (first
            | (go_at_call 12; with_reducible refine AW.out.mono ?_; rintro e w2 ⟨rfl, b2⟩; have B := Lib.hid b2; clear b2)
            | (go_at_call 13; with_reducible refine (FS.out _).mono ?_; rintro e w2 ⟨rfl, b2⟩; have B := Lib.hid (B.out.trans (b2.mono B.out.size)); clear b2)
            | (go_at_call 13; with_reducible refine (FT.out _).mono ?_; rintro e w2 ⟨rfl, b2⟩; have B := Lib.hid (B.out.trans (b2.mono B.out.size)); clear b2)
            | (go_at_call 13; with_reducible refine (FB.out _).mono ?_; rintro e w2 ⟨rfl, b2⟩; have B := Lib.hid (B.out.trans (b2.mono B.out.size)); clear b2)
            | (go_at_call 13; with_reducible refine (F1.out _).mono ?_; rintro e w2 ⟨rfl, b2⟩; have B := Lib.hid ((B.out.alloc B.out.size _).trans (b2.mono (B.out.alloc B.out.size _).size)); clear b2)
            | (go_at_call 13; with_reducible refine (FC.out _).mono ?_; rintro e w2 ⟨rfl, b2⟩; have B := Lib.hid ((B.out.alloc B.out.size _).trans (b2.mono (B.out.alloc B.out.size _).size)); clear b2)
            | (go_at_call 16; with_reducible refine (JD.out _).mono ?_; rintro e w2 ⟨rfl, b2⟩; have B := Lib.hid (B.out.trans (b2.mono B.out.size)); clear b2)
            | (go_at_call 17; (with_reducible refine (WD.out _).mono ?_); rintro e w3 ⟨v, rfl, O⟩; have B3 := Lib.hid (B.out.trans (O.bl.mono B.out.size)); have TX := Lib.hid O.tx; have OX := Lib.hid O; obtain ⟨a8, c8, rfl, -⟩ := O.tx; rw [← HN.out] at TX OX ⊢; clear O))
          go_loopw [9] (fun i wr => ∃ k : Nat, k ≤ n ∧ i = .int .i64 k ∧ Hid (Below w3.heap.size w3 wr)) (fun i _ => n - (intOf i).toNat)
          case atStart => exact ⟨0, Nat.zero_le _, rfl, Below.refl _ _⟩
          case round =>
            obtain ⟨k, hk, rfl, K⟩ := hrel
            by_cases hlt : k < n
            · have hkl : k < L.length := by rw [← HN.out]; exact hlt
              obtain ⟨b1, o1, rfl, k1⟩ := Tx.at (TX.out.below K.out) hkl
              obtain ⟨x, hx⟩ : ∃ x, x = L[k] := ⟨_, rfl⟩
              rw [← hx] at k1
              have hm : x ∈ L := by rw [hx]; exact List.getElem_mem hkl
              have xd := JW.out x hm
              have xl := Fo.word_len L x hm
              rw [JJ.out] at xl
              have xl2 : x.length ≤ 1000000 := Nat.le_trans xl WL.out
              have RX := Lib.hid (fun w => right_any x w xl2)
              rw [Fo.fold_word xd, beq_self_eq_true] at RX
              have CX := Lib.hid (fun w => containsB_any x w xd.n.2)
              have xe : x.isEmpty = false := by simpa using xd.1
              clear hx hm xd xl xl2
              go_wp2_with (first
                | (go_at_call 15; with_reducible refine (RX.out _).mono ?_; rintro e w5 ⟨rfl, b5⟩; have k2 := below_cell b5 k1; have K := Lib.hid (K.out.trans (b5.mono K.out.size)); clear b5)
                | (go_at_call 18; with_reducible refine (CX.out _).mono ?_; rintro e w6 ⟨rfl, b5⟩; have K := Lib.hid (K.out.trans (b5.mono K.out.size)); clear b5))
              go_roundw
              case rel => exact ⟨k + 1, by omega, by go_num, K⟩
              case measure => simp [intOf]; omega
            · have JO := Lib.hid (joinw_any _ wr _ L (OX.out.quiet K.out) (by rw [← HN.out]; omega) (by rw [JJ.out]; exact WL.out))
              rw [JJ.out] at JO
              go_wp2_with (go_at_call 19; with_reducible refine JO.out.mono ?_; rintro e w5 ⟨rfl, b5⟩; have K := Lib.hid (K.out.trans (b5.mono K.out.size)); clear b5)
              go_ret
              exact ⟨by simp, B3.out.trans (K.out.mono B3.out.size)⟩
        · have F1 := Lib.hid (fun w => foldl_any [c] w (by simp))
          have fe : (Fo.fold [c]).isEmpty = false := by
            have : Fo.fold [c] ≠ [] := fun e => c2 ((Fo.fold_byte c).1 e)
            simpa using this
          clear c1 c2 FCE
          go_wp2_with (first
            | (go_at_call 12; with_reducible refine AW.out.mono ?_; rintro e w2 ⟨rfl, b2⟩; have B := Lib.hid b2; clear b2)
            | (go_at_call 13; with_reducible refine (FS.out _).mono ?_; rintro e w2 ⟨rfl, b2⟩; have B := Lib.hid (B.out.trans (b2.mono B.out.size)); clear b2)
            | (go_at_call 13; with_reducible refine (FT.out _).mono ?_; rintro e w2 ⟨rfl, b2⟩; have B := Lib.hid (B.out.trans (b2.mono B.out.size)); clear b2)
            | (go_at_call 13; with_reducible refine (FB.out _).mono ?_; rintro e w2 ⟨rfl, b2⟩; have B := Lib.hid (B.out.trans (b2.mono B.out.size)); clear b2)
            | (go_at_call 13; with_reducible refine (F1.out _).mono ?_; rintro e w2 ⟨rfl, b2⟩; have B := Lib.hid ((B.out.alloc B.out.size _).trans (b2.mono (B.out.alloc B.out.size _).size)); clear b2)
            | (go_at_call 16; with_reducible refine (JD.out _).mono ?_; rintro e w2 ⟨rfl, b2⟩; have B := Lib.hid (B.out.trans (b2.mono B.out.size)); clear b2)
            | (go_at_call 17; (with_reducible refine (WD.out _).mono ?_); rintro e w3 ⟨v, rfl, O⟩; have B3 := Lib.hid (B.out.trans (O.bl.mono B.out.size)); have TX := Lib.hid O.tx; have OX := Lib.hid O; obtain ⟨a8, c8, rfl, -⟩ := O.tx; rw [← HN.out] at TX OX ⊢; clear O))
          go_loopw [9] (fun i wr => ∃ k : Nat, k ≤ n ∧ i = .int .i64 k ∧ Hid (Below w3.heap.size w3 wr)) (fun i _ => n - (intOf i).toNat)
          case atStart => exact ⟨0, Nat.zero_le _, rfl, Below.refl _ _⟩
          case round =>
            obtain ⟨k, hk, rfl, K⟩ := hrel
            by_cases hlt : k < n
            · have hkl : k < L.length := by rw [← HN.out]; exact hlt
              obtain ⟨b1, o1, rfl, k1⟩ := Tx.at (TX.out.below K.out) hkl
              obtain ⟨x, hx⟩ : ∃ x, x = L[k] := ⟨_, rfl⟩
              rw [← hx] at k1
              have hm : x ∈ L := by rw [hx]; exact List.getElem_mem hkl
              have xd := JW.out x hm
              have xl := Fo.word_len L x hm
              rw [JJ.out] at xl
              have xl2 : x.length ≤ 1000000 := Nat.le_trans xl WL.out
              have RX := Lib.hid (fun w => right_any x w xl2)
              rw [Fo.fold_word xd, beq_self_eq_true] at RX
              have CX := Lib.hid (fun w => containsB_any x w xd.n.2)
              have xe : x.isEmpty = false := by simpa using xd.1
              clear hx hm xd xl xl2
              go_wp2_with (first
                | (go_at_call 15; with_reducible refine (RX.out _).mono ?_; rintro e w5 ⟨rfl, b5⟩; have k2 := below_cell b5 k1; have K := Lib.hid (K.out.trans (b5.mono K.out.size)); clear b5)
                | (go_at_call 18; with_reducible refine (CX.out _).mono ?_; rintro e w6 ⟨rfl, b5⟩; have K := Lib.hid (K.out.trans (b5.mono K.out.size)); clear b5))
              go_roundw
              case rel => exact ⟨k + 1, by omega, by go_num, K⟩
              case measure => simp [intOf]; omega
            · have JO := Lib.hid (joinw_any _ wr _ L (OX.out.quiet K.out) (by rw [← HN.out]; omega) (by rw [JJ.out]; exact WL.out))
              rw [JJ.out] at JO
              go_wp2_with (go_at_call 19; with_reducible refine JO.out.mono ?_; rintro e w5 ⟨rfl, b5⟩; have K := Lib.hid (K.out.trans (b5.mono K.out.size)); clear b5)
              go_ret
              exact ⟨by simp, B3.out.trans (K.out.mono B3.out.size)⟩
      · have d1 : ¬ (c.toNat : Int) < 128 := by omega
        clear c1 FCE
        go_wp2_with (first
          | (go_at_call 12; with_reducible refine AW.out.mono ?_; rintro e w2 ⟨rfl, b2⟩; have B := Lib.hid b2; clear b2)
          | (go_at_call 13; with_reducible refine (FS.out _).mono ?_; rintro e w2 ⟨rfl, b2⟩; have B := Lib.hid (B.out.trans (b2.mono B.out.size)); clear b2)
          | (go_at_call 13; with_reducible refine (FT.out _).mono ?_; rintro e w2 ⟨rfl, b2⟩; have B := Lib.hid (B.out.trans (b2.mono B.out.size)); clear b2)
          | (go_at_call 13; with_reducible refine (FB.out _).mono ?_; rintro e w2 ⟨rfl, b2⟩; have B := Lib.hid (B.out.trans (b2.mono B.out.size)); clear b2)
          | (go_at_call 16; with_reducible refine (JD.out _).mono ?_; rintro e w2 ⟨rfl, b2⟩; have B := Lib.hid (B.out.trans (b2.mono B.out.size)); clear b2)
          | (go_at_call 17; (with_reducible refine (WD.out _).mono ?_); rintro e w3 ⟨v, rfl, O⟩; have B3 := Lib.hid (B.out.trans (O.bl.mono B.out.size)); have TX := Lib.hid O.tx; have OX := Lib.hid O; obtain ⟨a8, c8, rfl, -⟩ := O.tx; rw [← HN.out] at TX OX ⊢; clear O))
        go_loopw [9] (fun i wr => ∃ k : Nat, k ≤ n ∧ i = .int .i64 k ∧ Hid (Below w3.heap.size w3 wr)) (fun i _ => n - (intOf i).toNat)
        case atStart => exact ⟨0, Nat.zero_le _, rfl, Below.refl _ _⟩
        case round =>
          obtain ⟨k, hk, rfl, K⟩ := hrel
          by_cases hlt : k < n
          · have hkl : k < L.length := by rw [← HN.out]; exact hlt
            obtain ⟨b1, o1, rfl, k1⟩ := Tx.at (TX.out.below K.out) hkl
            obtain ⟨x, hx⟩ : ∃ x, x = L[k] := ⟨_, rfl⟩
            rw [← hx] at k1
            have hm : x ∈ L := by rw [hx]; exact List.getElem_mem hkl
            have xd := JW.out x hm
            have xl := Fo.word_len L x hm
            rw [JJ.out] at xl
            have xl2 : x.length ≤ 1000000 := Nat.le_trans xl WL.out
            have RX := Lib.hid (fun w => right_any x w xl2)
            rw [Fo.fold_word xd, beq_self_eq_true] at RX
            have CX := Lib.hid (fun w => containsB_any x w xd.n.2)
            have xe : x.isEmpty = false := by simpa using xd.1
            clear hx hm xd xl xl2
            go_wp2_with (first
              | (go_at_call 15; with_reducible refine (RX.out _).mono ?_; rintro e w5 ⟨rfl, b5⟩; have k2 := below_cell b5 k1; have K := Lib.hid (K.out.trans (b5.mono K.out.size)); clear b5)
              | (go_at_call 18; with_reducible refine (CX.out _).mono ?_; rintro e w6 ⟨rfl, b5⟩; have K := Lib.hid (K.out.trans (b5.mono K.out.size)); clear b5))
            go_roundw
            case rel => exact ⟨k + 1, by omega, by go_num, K⟩
            case measure => simp [intOf]; omega
          · have JO := Lib.hid (joinw_any _ wr _ L (OX.out.quiet K.out) (by rw [← HN.out]; omega) (by rw [JJ.out]; exact WL.out))
            rw [JJ.out] at JO
            go_wp2_with (go_at_call 19; with_reducible refine JO.out.mono ?_; rintro e w5 ⟨rfl, b5⟩; have K := Lib.hid (K.out.trans (b5.mono K.out.size)); clear b5)
            go_ret
            exact ⟨by simp, B3.out.trans (K.out.mono B3.out.size)⟩
    · have h3 : (2000 : Int) < (t.length : Int) := by omega
      have h4 : ¬ (2000 : Int) < (s.length : Int) := by omega
      clear h1 h2
      go_enter Try.func5, Try.ntmps5
      go_wp2_with (go_at_call 12; with_reducible refine AW.out.mono ?_; rintro e w2 ⟨rfl, b2⟩; have B := Lib.hid b2; clear b2)
      go_ret
      exact ⟨rfl, B.out⟩
  · have h3 : (2000 : Int) < (s.length : Int) := by omega
    clear h1
    go_enter Try.func5, Try.ntmps5
    go_wp2_with (go_at_call 12; with_reducible refine AW.out.mono ?_; rintro e w2 ⟨rfl, b2⟩; have B := Lib.hid b2; clear b2)
    go_ret
    exact ⟨rfl, B.out⟩
theorem walk_foldJoined (w : World) (s : ByteArray) (hs : s.size ≤ maxLen) (t : ByteArray) (ht : t.size ≤ maxLen) (c : Int) (c0 : 0 ≤ c) (c1 : c ≤ 255) : Calls Try.prog 5 #[.string s, .string t, .int .u8 c] w fun e w' => e = .returned (.bool true) ∧ Below w.heap.size w w' := by
  have := fjoined_any s.data.toList t.data.toList (UInt8.ofNat c.toNat) w (by rw [Array.length_toList]; unfold maxLen at hs; exact hs) (by rw [Array.length_toList]; unfold maxLen at ht; exact ht)
  rw [← str_is s, ← str_is t, show (((UInt8.ofNat c.toNat).toNat : Nat) : Int) = c by rw [UInt8.toNat_ofNat']; omega] at this
  exact this
end Go.Proofs.Ytljfbdiiecohpaa
