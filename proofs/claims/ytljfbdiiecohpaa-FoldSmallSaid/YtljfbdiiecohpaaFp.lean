/- The statement's own test of plain texts. -/
import Derived.Test.YtljfbdiiecohpaaFz
namespace Go.Proofs.Ytljfbdiiecohpaa
open Go.RowKit

namespace Fo
/-- Whether nothing, or a blank, lies ahead of a place. -/
def atB (s : ByteArray) (p : Nat) : Bool := if h : 0 < p ∧ p - 1 < s.size then decide ((s[p - 1]'h.2).toNat = 32) else true
theorem atB_zero (s : ByteArray) : atB s 0 = true := rfl
theorem atB_next {s : ByteArray} {p : Nat} (hp : p < s.size) : atB s (p + 1) = decide (s[p].toNat = 32) := by
  unfold atB
  rw [dif_pos ⟨by omega, by omega⟩]
  rfl
theorem n32 {c : UInt8} (h : c.toNat ≠ 32) : c ≠ 32 := by rintro rfl; exact h rfl
theorem pl_step {s : ByteArray} {p : Nat} (f : Bool) (hp : p < s.size) (h : kpt s[p] = true) : pl f (s.data.toList.drop p) = pl (atB s (p + 1)) (s.data.toList.drop (p + 1)) := by
  have h32 := kpt_ne h
  have : s[p].toNat ≠ 32 := fun e => h32 (UInt8.toNat_inj.1 e)
  rw [atB_next hp, decide_eq_false this, drop_at hp, pl, if_neg h32, h, Bool.true_and]
theorem pl_stop {s : ByteArray} {p : Nat} (f : Bool) (hp : p < s.size) (h : ¬ kpt s[p] = true) (h32 : s[p].toNat ≠ 32) : pl f (s.data.toList.drop p) = false := by
  rw [drop_at hp, pl, if_neg (n32 h32), Bool.eq_false_iff.2 h, Bool.false_and]
theorem drop_ne {s : ByteArray} {p : Nat} : (s.data.toList.drop p).isEmpty = decide (s.size ≤ p) := by
  rw [Bool.eq_iff_iff, List.isEmpty_iff, decide_eq_true_eq, List.drop_eq_nil_iff, Array.length_toList]
  exact Iff.rfl
theorem pl_blank {s : ByteArray} {p : Nat} (f : Bool) (hp : p < s.size) (h32 : s[p].toNat = 32) : pl f (s.data.toList.drop p) = (!f && !decide (s.size ≤ p + 1) && pl (atB s (p + 1)) (s.data.toList.drop (p + 1))) := by
  have e : s[p] = 32 := UInt8.toNat_inj.1 h32
  rw [atB_next hp, decide_eq_true h32, drop_at hp, pl, if_pos e, drop_ne]
end Fo
set_option maxRecDepth 100000 in
set_option maxHeartbeats 6400000 in
theorem plain_any (s : ByteArray) (w : World) (hs : s.size ≤ 1000000) : Calls Try.prog 14 #[.string s] w fun e w' => e = .returned (.bool (Fo.pl true s.data.toList)) ∧ Below w.heap.size w w' := by
  go_enter Try.func14, Try.ntmps14
  go_wp2
  go_loopw [3] (fun i wr => ∃ p : Nat, p ≤ s.size ∧ i = .int .i64 p ∧ Hid (Fo.pl (Fo.atB s p) (s.data.toList.drop p) = Fo.pl true s.data.toList) ∧ Qt w wr) (fun i _ => s.size - (intOf i).toNat)
  case atStart => exact ⟨0, Nat.zero_le _, rfl, rfl, Qt.refl _⟩
  case round =>
    obtain ⟨p, hp, rfl, PL, hq⟩ := hrel
    have QQ := Lib.hid hq
    clear hq
    by_cases hlt : p < s.size
    · by_cases k : Fo.kpt s[p] = true
      · have NX := Lib.hid ((Fo.pl_step (Fo.atB s p) hlt k).symm.trans PL.out)
        have k' : (65 ≤ s[p].toNat ∧ s[p].toNat ≤ 90) ∨ (48 ≤ s[p].toNat ∧ s[p].toNat ≤ 57) ∨ s[p].toNat = 45 ∨ s[p].toNat = 47 := by
          unfold Fo.kpt at k
          simp only [Bool.or_eq_true, Bool.and_eq_true, decide_eq_true_eq] at k
          omega
        clear k PL
        rcases k' with k | k | k | k
        · have f65 : (65 : Int) ≤ s[p].toNat := by omega
          have f90 : (s[p].toNat : Int) ≤ 90 := by omega
          have f32 : ((s[p].toNat : Int) == 32) = false := beq_eq_false_iff_ne.2 (by omega)
          clear k
          go_wp2
          go_roundw
          case rel => exact ⟨p + 1, by omega, by go_num, NX, QQ.out.trans (by first | exact ⟨_, rfl⟩ | exact Qt.refl _)⟩
          case measure => simp [intOf]; omega
        · have f65 : ¬ (65 : Int) ≤ s[p].toNat := by omega
          have f48 : (48 : Int) ≤ s[p].toNat := by omega
          have f57 : (s[p].toNat : Int) ≤ 57 := by omega
          have f32 : ((s[p].toNat : Int) == 32) = false := beq_eq_false_iff_ne.2 (by omega)
          clear k
          go_wp2
          go_roundw
          case rel => exact ⟨p + 1, by omega, by go_num, NX, QQ.out.trans (by first | exact ⟨_, rfl⟩ | exact Qt.refl _)⟩
          case measure => simp [intOf]; omega
        · have f65 : ¬ (65 : Int) ≤ s[p].toNat := by omega
          have f48 : ¬ (48 : Int) ≤ s[p].toNat := by omega
          have f45 : (s[p].toNat : Int) = 45 := by omega
          clear k
          go_wp2
          go_roundw
          case rel => exact ⟨p + 1, by omega, by go_num, NX, QQ.out.trans (by first | exact ⟨_, rfl⟩ | exact Qt.refl _)⟩
          case measure => simp [intOf]; omega
        · have f65 : ¬ (65 : Int) ≤ s[p].toNat := by omega
          have f48 : ¬ (48 : Int) ≤ s[p].toNat := by omega
          have f47 : (s[p].toNat : Int) = 47 := by omega
          clear k
          go_wp2
          go_roundw
          case rel => exact ⟨p + 1, by omega, by go_num, NX, QQ.out.trans (by first | exact ⟨_, rfl⟩ | exact Qt.refl _)⟩
          case measure => simp [intOf]; omega
      · by_cases h32 : s[p].toNat = 32
        · have f32 : (s[p].toNat : Int) = 32 := by omega
          have BL := Fo.pl_blank (Fo.atB s p) hlt h32
          rw [PL.out] at BL
          clear k PL
          by_cases p0 : p = 0
          · have E : Hid (Fo.pl true s.data.toList = false) := by show _ = _; rw [BL, p0]; rfl
            clear BL h32
            have g0 : ¬ (0 : Int) < (p : Int) := by omega
            clear p0
            go_wp2
            go_ret
            rw [E.out]
            exact ⟨rfl, QQ.out.bl⟩
          · have g0 : (0 : Int) < (p : Int) := by omega
            have hp1 : p - 1 < s.size := by omega
            have EB : Fo.atB s p = decide ((s[p - 1]'hp1).toNat = 32) := by unfold Fo.atB; rw [dif_pos ⟨by omega, hp1⟩]
            by_cases hl : p + 1 < s.size
            · have g1 : decide ((p : Int) + 1 < s.size) = true := decide_eq_true (by omega)
              by_cases hb : (s[p - 1]'hp1).toNat = 32
              · have E : Hid (Fo.pl true s.data.toList = false) := by show _ = _; rw [BL, EB, decide_eq_true hb]; rfl
                have g2 : ((s[p - 1]'hp1).toNat : Int) = 32 := by omega
                clear BL h32 EB hb p0
                go_wp2
                go_ret
                rw [E.out]
                exact ⟨rfl, QQ.out.bl⟩
              · have NX : Hid (Fo.pl (Fo.atB s (p + 1)) (s.data.toList.drop (p + 1)) = Fo.pl true s.data.toList) := by
                  show _ = _
                  rw [BL, EB, decide_eq_false hb, decide_eq_false (by omega)]; simp
                have g2 : (((s[p - 1]'hp1).toNat : Int) != 32) = true := bne_iff_ne.2 (by omega)
                clear BL h32 EB hb p0
                go_wp2
                go_roundw
                case rel => exact ⟨p + 1, by omega, by go_num, NX, QQ.out.trans (by first | exact ⟨_, rfl⟩ | exact Qt.refl _)⟩
                case measure => simp [intOf]; omega
            · have E : Hid (Fo.pl true s.data.toList = false) := by show _ = _; rw [BL, decide_eq_true (show s.size ≤ p + 1 by omega)]; simp
              have g1 : decide ((p : Int) + 1 < s.size) = false := decide_eq_false (by omega)
              clear BL h32 EB p0
              go_wp2
              go_ret
              rw [E.out]
              exact ⟨rfl, QQ.out.bl⟩
        · have E := Lib.hid (PL.out.symm.trans (Fo.pl_stop (Fo.atB s p) hlt k h32))
          have k' : (s[p].toNat < 48 ∧ s[p].toNat ≠ 45 ∧ s[p].toNat ≠ 47 ∧ s[p].toNat ≠ 32) ∨ (58 ≤ s[p].toNat ∧ s[p].toNat ≤ 64) ∨ 91 ≤ s[p].toNat := by
            unfold Fo.kpt at k
            simp only [Bool.or_eq_true, Bool.and_eq_true, decide_eq_true_eq] at k
            omega
          clear k PL h32
          rcases k' with k | k | k
          · have f65 : ¬ (65 : Int) ≤ s[p].toNat := by omega
            have f48 : ¬ (48 : Int) ≤ s[p].toNat := by omega
            have f45 : ((s[p].toNat : Int) == 45) = false := beq_eq_false_iff_ne.2 (by omega)
            have f47 : ((s[p].toNat : Int) == 47) = false := beq_eq_false_iff_ne.2 (by omega)
            have f32 : ((s[p].toNat : Int) == 32) = false := beq_eq_false_iff_ne.2 (by omega)
            clear k
            go_wp2
            go_ret
            rw [E.out]
            exact ⟨rfl, QQ.out.bl⟩
          · have f65 : ¬ (65 : Int) ≤ s[p].toNat := by omega
            have f48 : (48 : Int) ≤ s[p].toNat := by omega
            have f57 : ¬ (s[p].toNat : Int) ≤ 57 := by omega
            have f45 : ((s[p].toNat : Int) == 45) = false := beq_eq_false_iff_ne.2 (by omega)
            have f47 : ((s[p].toNat : Int) == 47) = false := beq_eq_false_iff_ne.2 (by omega)
            have f32 : ((s[p].toNat : Int) == 32) = false := beq_eq_false_iff_ne.2 (by omega)
            clear k
            go_wp2
            go_ret
            rw [E.out]
            exact ⟨rfl, QQ.out.bl⟩
          · have f65 : (65 : Int) ≤ s[p].toNat := by omega
            have f90 : ¬ (s[p].toNat : Int) ≤ 90 := by omega
            have f48 : (48 : Int) ≤ s[p].toNat := by omega
            have f57 : ¬ (s[p].toNat : Int) ≤ 57 := by omega
            have f45 : ((s[p].toNat : Int) == 45) = false := beq_eq_false_iff_ne.2 (by omega)
            have f47 : ((s[p].toNat : Int) == 47) = false := beq_eq_false_iff_ne.2 (by omega)
            have f32 : ((s[p].toNat : Int) == 32) = false := beq_eq_false_iff_ne.2 (by omega)
            clear k
            go_wp2
            go_ret
            rw [E.out]
            exact ⟨rfl, QQ.out.bl⟩
    · have E : Hid (Fo.pl true s.data.toList = true) := by
        have e := PL.out
        rw [Fo.drop_end hlt] at e
        show _ = _
        rw [← e]; cases Fo.atB s p <;> rfl
      clear PL
      go_wp2
      go_ret
      rw [E.out]
      exact ⟨rfl, QQ.out.bl⟩
end Go.Proofs.Ytljfbdiiecohpaa
