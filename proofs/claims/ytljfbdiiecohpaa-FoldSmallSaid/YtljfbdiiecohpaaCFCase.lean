/- FoldCase's walk. -/
import Derived.Test.YtljfbdiiecohpaaCFTwice
import Derived.Test.YtljfbdiiecohpaaBy
namespace Go.Proofs.Ytljfbdiiecohpaa
open Go.RowKit Go.Lib

namespace Fo
theorem upc_small {c : UInt8} (h : 97 ≤ c.toNat ∧ c.toNat ≤ 122) : (c.toNat : Int) - 32 = ((upc c).toNat : Nat) := by
  have := all8 (p := fun c => 97 ≤ c.toNat ∧ c.toNat ≤ 122 → (c.toNat : Int) - 32 = ((upc c).toNat : Nat)) (by decide +kernel) c
  exact this h
theorem upc_other {c : UInt8} (h : ¬ (97 ≤ c.toNat ∧ c.toNat ≤ 122)) : upc c = c := by unfold upc; rw [if_neg (sml_no h)]
theorem cmc_kept {c : UInt8} (h : one c ≠ 32) : cmc c = c := by unfold cmc; rw [if_neg (fun e => h e.2)]
theorem cmc_high {c : UInt8} (h : 128 ≤ c.toNat) : cmc c = c := by unfold cmc; rw [if_neg (fun e => by have := e.1; omega)]
theorem cmc_blank {c : UInt8} (h : c.toNat < 128) (h2 : one c = 32) : cmc c = 44 := by unfold cmc; rw [if_pos ⟨h, h2⟩]
theorem fold_one_no {c : UInt8} (h : one c ≠ 32) : (fold [c]).isEmpty = false := by
  have : fold [c] ≠ [] := fun e => h ((fold_byte c).1 e)
  simpa using this
end Fo
/-- The state of FoldCase's loop. -/
structure CaI (s : ByteArray) (w1 : World) (k : Nat) (wr : World) : Prop where
  up : Byt wr w1.heap.size (Fo.upto Fo.upc k s.data.toList)
  cm : Byt wr (w1.heap.size + 1) (Fo.upto Fo.cmc k s.data.toList)
  bl : Below w1.heap.size w1 wr
set_option maxRecDepth 100000 in
set_option maxHeartbeats 6400000 in
theorem case_any (s : ByteArray) (w : World) (hs : s.size ≤ 9223372036854775807) : Calls Try.prog 6 #[.string s] w fun e w' => e = .returned (.bool true) ∧ Below w.heap.size w w' := by
  have AW := Lib.hid (awake5_any w)
  by_cases h2 : s.size ≤ 2000
  · have LS : Hid (s.data.toList.length = s.size) := by show _ = _; rw [Array.length_toList]; rfl
    have GT : Hid (∀ j (hj : j < s.size), s.data.toList[j]'(by rw [LS.out]; exact hj) = s[j]) := fun j hj => by rw [Array.getElem_toList]; rfl
    have FX : Hid (∀ k (hk : k < s.size) w, Calls Try.prog 13 #[.string (s.extract k (k + 1))] w fun e w' => e = .returned (.string ⟨(Fo.fold [s[k]]).toArray⟩) ∧ Below w.heap.size w w') := fun k hk w => by
      rw [Fo.extract_one hk]; exact foldl_any _ w (by simp)
    have FS := Lib.hid (fun w => fold_any s w (by omega))
    have FU := Lib.hid (fun w => foldl_any (s.data.toList.map Fo.upc) w (by rw [List.length_map, LS.out]; omega))
    have FC := Lib.hid (fun w => foldl_any (s.data.toList.map Fo.cmc) w (by rw [List.length_map, LS.out]; omega))
    rw [Fo.fold_up] at FU
    rw [Fo.fold_commas] at FC
    have CB := fun w => to_bytes s w
    go_enter Try.func6, Try.ntmps6
    go_wp2_with (go_at_call 12; with_reducible refine AW.out.mono ?_)
    rintro e w1 ⟨rfl, b1⟩
    have B1 := Lib.hid b1
    clear b1
    -- the loop
    go_wp2
    go_loopw [5] (fun i wr => ∃ k : Nat, k ≤ s.size ∧ i = .int .i64 k ∧ Hid (CaI s w1 k wr)) (fun i _ => s.size - (intOf i).toNat)
    case atStart =>
      refine ⟨0, Nat.zero_le _, rfl, ?_, ?_, ?_⟩
      · rw [Fo.upto_zero]
        exact (Byt.made w1 s _ _ rfl).below ((((Below.refl _ _).alloc (Nat.le_refl _) _).drew).drew)
      · rw [Fo.upto_zero]
        exact (Byt.made _ s _ _ (by simp)).below (((Below.refl _ _).drew).drew)
      · exact ((((Below.refl _ w1).alloc (Nat.le_refl _) _).alloc (by simp) _).drew).drew
    case round =>
      obtain ⟨k, hk, rfl, I⟩ := hrel
      by_cases hlt : k < s.size
      · have hkl : k < s.data.toList.length := by rw [LS.out]; exact hlt
        have gk := GT.out k hlt
        have u1 := Fo.upto_len Fo.upc k s.data.toList
        have u2 := Fo.upto_len Fo.cmc k s.data.toList
        obtain ⟨xu, cU⟩ : ∃ x, wr.cell? ⟨w1.heap.size, k, none⟩ = some x := ⟨_, I.out.up.cell (j := k) (by omega)⟩
        obtain ⟨xc, cC⟩ : ∃ x, wr.cell? ⟨w1.heap.size + 1, k, none⟩ = some x := ⟨_, I.out.cm.cell (j := k) (by omega)⟩
        have fU := I.out.up.free (j := k) (by omega)
        have fC := I.out.cm.free (j := k) (by omega)
        have F0 := Lib.hid (FX.out k hlt)
        have FB : Hid (∀ w2, Below wr.heap.size wr w2 → CaI s w1 k w2) := fun w2 b => ⟨I.out.up.below b, I.out.cm.below b, I.out.bl.trans (b.mono I.out.bl.size)⟩
        have NU : Hid (Fo.upc s[k] = s[k] → Fo.upto Fo.upc (k + 1) s.data.toList = Fo.upto Fo.upc k s.data.toList) := fun e => Fo.upto_same _ hkl (by rw [gk]; exact e)
        have NC : Hid (Fo.cmc s[k] = s[k] → Fo.upto Fo.cmc (k + 1) s.data.toList = Fo.upto Fo.cmc k s.data.toList) := fun e => Fo.upto_same _ hkl (by rw [gk]; exact e)
        have SU : Hid (Fo.upto Fo.upc (k + 1) s.data.toList = (Fo.upto Fo.upc k s.data.toList).set k (Fo.upc s[k])) := by show _ = _; rw [Fo.upto_next _ hkl, gk]
        have SC : Hid (Fo.upto Fo.cmc (k + 1) s.data.toList = (Fo.upto Fo.cmc k s.data.toList).set k (Fo.cmc s[k])) := by show _ = _; rw [Fo.upto_next _ hkl, gk]
        clear gk u1 u2
        by_cases c1 : 97 ≤ s[k].toNat ∧ s[k].toNat ≤ 122
        · have e1 := Fo.upc_small c1
          have o1 : Fo.one s[k] ≠ 32 := Fo.kpt_ne (Fo.one_ks _ (by rw [Fo.sml_of c1]; simp))
          have N2 := Lib.hid (NC.out (Fo.cmc_kept o1))
          have E0 := Fo.fold_one_no o1
          have E1 := Lib.hid e1
          obtain ⟨c1, c2⟩ := c1
          have f97 : (97 : Int) ≤ s[k].toNat := by omega
          have f122 : (s[k].toNat : Int) ≤ 122 := by omega
          have f128 : (s[k].toNat : Int) < 128 := by omega
          have I2 : Hid (CaI s w1 k wr → True) := fun _ => trivial
          clear c1 c2 o1 NU NC e1 fC cC
          have IU : Hid (∀ z, z = (s[k].toNat : Int) - 32 → Byt (wr.setCell ⟨w1.heap.size, k, none⟩ (.int .u8 z)) w1.heap.size (Fo.upto Fo.upc (k + 1) s.data.toList)) := fun z hz => by
            rw [SU.out]; exact I.out.up.put k _ z (by rw [hz]; exact E1.out)
          have IC : Hid (∀ v, Byt (wr.setCell ⟨w1.heap.size, k, none⟩ v) (w1.heap.size + 1) (Fo.upto Fo.cmc (k + 1) s.data.toList)) := fun v => by
            rw [N2.out]; exact I.out.cm.other (by omega)
          have IB : Hid (∀ v, Below w1.heap.size w1 (wr.setCell ⟨w1.heap.size, k, none⟩ v)) := fun v => I.out.bl.setCell (Nat.le_refl _) _
          go_wp2_with (go_at_call 13; refine (F0.out _).mono ?_)
          rintro e w2 ⟨rfl, b2⟩
          have J : Hid (CaI s w1 (k + 1) w2) := ⟨(IU.out _ rfl).below b2, (IC.out _).below b2, (IB.out _).trans (b2.mono (IB.out _).size)⟩
          clear b2
          go_wp2
          go_roundw
          case rel => exact ⟨k + 1, by omega, by go_num, J⟩
          case measure => simp [intOf]; omega
        · have N1 := NU.out (Fo.upc_other c1)
          by_cases o1 : Fo.one s[k] = 32
          · by_cases c128 : s[k].toNat < 128
            · have f128 : (s[k].toNat : Int) < 128 := by omega
              have f32 := (Fo.fold_byte s[k]).2 o1
              rw [f32] at F0
              have IU : Hid (∀ w2 v, Below wr.heap.size wr w2 → Byt (w2.setCell ⟨w1.heap.size + 1, k, none⟩ v) w1.heap.size (Fo.upto Fo.upc (k + 1) s.data.toList)) := fun w2 v b => by
                rw [N1]; exact (I.out.up.below b).other (by omega)
              have IC : Hid (∀ w2, Below wr.heap.size wr w2 → Byt (w2.setCell ⟨w1.heap.size + 1, k, none⟩ (.int .u8 44)) (w1.heap.size + 1) (Fo.upto Fo.cmc (k + 1) s.data.toList)) := fun w2 b => by
                rw [SC.out, Fo.cmc_blank c128 o1]; exact (I.out.cm.below b).put k 44 44 rfl
              have IB : Hid (∀ w2 v, Below wr.heap.size wr w2 → Below w1.heap.size w1 (w2.setCell ⟨w1.heap.size + 1, k, none⟩ v)) := fun w2 v b => (I.out.bl.trans (b.mono I.out.bl.size)).setCell (by show _ ≤ w1.heap.size + 1; omega) _
              have CK : Hid (∀ w2, Below wr.heap.size wr w2 → w2.cell? ⟨w1.heap.size + 1, k, none⟩ = some xc) := fun w2 b => below_cell b cC
              have FK2 : Hid (∀ w2, Below wr.heap.size wr w2 → w2.frozen? ⟨w1.heap.size + 1, k, none⟩ = false) := fun w2 b => (I.out.cm.below b).free (by rw [Fo.upto_len]; exact hkl)
              by_cases c97 : s[k].toNat < 97
              · have f97 : ¬ (97 : Int) ≤ s[k].toNat := by omega
                clear N1 o1 c128 f32 c1 c97 NU NC cU fU cC fC
                go_wp2_with (go_at_call 13; refine (F0.out _).mono ?_; rintro e w2 ⟨rfl, b2⟩; have cc := CK.out _ b2; have ff := FK2.out _ b2; have J : Hid (CaI s w1 (k + 1) (w2.setCell ⟨w1.heap.size + 1, k, none⟩ (.int .u8 44))) := ⟨IU.out _ _ b2, IC.out _ b2, IB.out _ _ b2⟩; clear b2)
                go_roundw
                case rel => exact ⟨k + 1, by omega, by go_num, J⟩
                case measure => simp [intOf]; omega
              · have f97 : (97 : Int) ≤ s[k].toNat := by omega
                have f122 : ¬ (s[k].toNat : Int) ≤ 122 := by omega
                clear N1 o1 c128 f32 c1 c97 NU NC cU fU cC fC
                go_wp2_with (go_at_call 13; refine (F0.out _).mono ?_; rintro e w2 ⟨rfl, b2⟩; have cc := CK.out _ b2; have ff := FK2.out _ b2; have J : Hid (CaI s w1 (k + 1) (w2.setCell ⟨w1.heap.size + 1, k, none⟩ (.int .u8 44))) := ⟨IU.out _ _ b2, IC.out _ b2, IB.out _ _ b2⟩; clear b2)
                go_roundw
                case rel => exact ⟨k + 1, by omega, by go_num, J⟩
                case measure => simp [intOf]; omega
            · have N2 := NC.out (Fo.cmc_high (by omega))
              have FK : Hid (∀ w2, Below wr.heap.size wr w2 → CaI s w1 (k + 1) w2) := fun w2 b => ⟨by rw [N1]; exact I.out.up.below b, by rw [N2]; exact I.out.cm.below b, I.out.bl.trans (b.mono I.out.bl.size)⟩
              have f97 : (97 : Int) ≤ s[k].toNat := by omega
              have f122 : ¬ (s[k].toNat : Int) ≤ 122 := by omega
              have f128 : ¬ (s[k].toNat : Int) < 128 := by omega
              clear N1 N2 o1 c128 c1 NU NC cU fU cC fC
              go_wp2
              go_roundw
              case rel => exact ⟨k + 1, by omega, by go_num, FK.out _ (Below.refl _ _)⟩
              case measure => simp [intOf]; omega
          · have N2 := NC.out (Fo.cmc_kept o1)
            have E0 := Fo.fold_one_no o1
            have FK : Hid (∀ w2, Below wr.heap.size wr w2 → CaI s w1 (k + 1) w2) := fun w2 b => ⟨by rw [N1]; exact I.out.up.below b, by rw [N2]; exact I.out.cm.below b, I.out.bl.trans (b.mono I.out.bl.size)⟩
            have kk : Fo.kpt s[k] = true := by
              rcases Fo.one_kpt s[k] with e | e
              · exact absurd e o1
              · by_cases q : Fo.kpt s[k] = true
                · exact q
                · exfalso; apply o1; unfold Fo.one; rw [if_neg q, if_neg (Fo.sml_no c1)]
            have k90 : s[k].toNat ≤ 90 := by
              unfold Fo.kpt at kk
              simp only [Bool.or_eq_true, Bool.and_eq_true, decide_eq_true_eq] at kk
              omega
            have f97 : ¬ (97 : Int) ≤ s[k].toNat := by omega
            have f128 : (s[k].toNat : Int) < 128 := by omega
            clear N1 N2 o1 c1 kk k90 NU NC cU fU cC fC
            go_wp2_with (go_at_call 13; refine (F0.out _).mono ?_; rintro e w2 ⟨rfl, b2⟩; have J := Lib.hid (FK.out _ b2); clear b2)
            go_roundw
            case rel => exact ⟨k + 1, by omega, by go_num, J⟩
            case measure => simp [intOf]; omega
      · have kn : k = s.data.toList.length := by rw [LS.out]; omega
        have UM := I.out.up
        have CM := I.out.cm
        rw [kn, Fo.upto_all] at UM CM
        obtain ⟨U, hU⟩ : ∃ U, U = s.data.toList.map Fo.upc := ⟨_, rfl⟩
        obtain ⟨C, hC⟩ : ∃ C, C = s.data.toList.map Fo.cmc := ⟨_, rfl⟩
        rw [← hU] at UM FU
        rw [← hC] at CM FC
        have v1 := fun c => of_bytes (n := s.size) (c := c) UM (by rw [hU, List.length_map, LS.out])
        have CMB := Lib.hid CM
        have B := Lib.hid (B1.out.trans (I.out.bl.mono B1.out.size))
        have ln : Hid (s.size = C.length) := by show _ = _; rw [hC, List.length_map, LS.out]
        clear kn UM CM hU hC
        go_wp2_with (first
          | (go_at_call 13; with_reducible refine (FU.out _).mono ?_; rintro e w2 ⟨rfl, b2⟩; have B := Lib.hid (B.out.trans (b2.mono B.out.size)); have CMB := Lib.hid (CMB.out.below b2); clear b2)
          | (go_at_call 13; with_reducible refine (FC.out _).mono ?_; rintro e w2 ⟨rfl, b2⟩; have B := Lib.hid (B.out.trans (b2.mono B.out.size)); have CMB := Lib.hid (CMB.out.below b2); clear b2)
          | (go_at_call 13; (with_reducible refine (FS.out _).mono ?_); rintro e w2 ⟨rfl, b2⟩; have B := Lib.hid (B.out.trans (b2.mono B.out.size)); have CMB := Lib.hid (CMB.out.below b2); have v2 := fun c => of_bytes (n := s.size) (c := c) CMB.out ln.out; clear b2))
        go_ret
        exact ⟨by simp, B.out⟩
  · have h3 : (2000 : Int) < (s.size : Int) := by omega
    go_enter Try.func6, Try.ntmps6
    go_wp2_with (go_at_call 12; with_reducible refine AW.out.mono ?_; rintro e w2 ⟨rfl, b2⟩; have B := Lib.hid b2; clear b2)
    go_ret
    exact ⟨rfl, B.out⟩
theorem walk_foldCase (w : World) (s : ByteArray) (h : s.size ≤ maxLen) : Calls Try.prog 6 #[.string s] w fun e w' => e = .returned (.bool true) ∧ Below w.heap.size w w' :=
  case_any s w (by unfold maxLen at h; exact h)
end Go.Proofs.Ytljfbdiiecohpaa
