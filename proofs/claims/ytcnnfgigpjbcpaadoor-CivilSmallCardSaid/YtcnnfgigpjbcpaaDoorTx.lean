/- Plain facts of texts of dates and times: they are read as what they are texts of, and are in its order. -/
import Derived.Test.YtcnnfgigpjbcpaaDoorS0
namespace Go.Proofs.YtcnnfgigpjbcpaaDoor
open Go.RowKit

namespace Txt
theorem c48_nat (n : Int) (h0 : 0 ≤ n) (h : n < 10) : ((c48 n).toNat : Int) = 48 + n := by
  unfold c48
  rw [UInt8.toNat_ofNat']
  have : (48 + n.toNat) % 2 ^ 8 = 48 + n.toNat := Nat.mod_eq_of_lt (by omega)
  rw [this]; omega
theorem c48_isD (n : Int) (h0 : 0 ≤ n) (h : n < 10) : isD (c48 n) = true := by rw [isD_iff, c48_nat n h0 h]; omega
theorem num_d2 (n : Int) (h0 : 0 ≤ n) (h : n < 100) : num (d2 n) = n := by
  have a := c48_isD (n / 10) (by omega) (by omega)
  have b := c48_isD (n % 10) (by omega) (by omega)
  have e : (d2 n).all isD = true := by unfold d2; simp [a, b]
  rw [← num_good _ e]
  show 10 * (10 * 0 + ((c48 (n / 10)).toNat - 48 : Int)) + ((c48 (n % 10)).toNat - 48 : Int) = n
  rw [c48_nat _ (by omega) (by omega), c48_nat _ (by omega) (by omega)]; omega
theorem num_d4 (n : Int) (h0 : 0 ≤ n) (h : n < 10000) : num (d4 n) = n := by
  have a := c48_isD (n / 1000) (by omega) (by omega)
  have b := c48_isD (n / 100 % 10) (by omega) (by omega)
  have c := c48_isD (n / 10 % 10) (by omega) (by omega)
  have d := c48_isD (n % 10) (by omega) (by omega)
  have e : (d4 n).all isD = true := by unfold d4; simp [a, b, c, d]
  rw [← num_good _ e]
  show 10 * (10 * (10 * (10 * 0 + ((c48 (n / 1000)).toNat - 48 : Int)) + ((c48 (n / 100 % 10)).toNat - 48 : Int)) + ((c48 (n / 10 % 10)).toNat - 48 : Int)) + ((c48 (n % 10)).toNat - 48 : Int) = n
  rw [c48_nat _ (by omega) (by omega), c48_nat _ (by omega) (by omega), c48_nat _ (by omega) (by omega), c48_nat _ (by omega) (by omega)]; omega
theorem bl_eq (a : UInt8) (s t : List UInt8) : Op.bytesLess (a :: s) (a :: t) = Op.bytesLess s t := by simp [Op.bytesLess]
theorem bl_c48 (a b : Int) (s t : List UInt8) (a0 : 0 ≤ a) (a1 : a < 10) (b0 : 0 ≤ b) (b1 : b < 10) : Op.bytesLess (c48 a :: s) (c48 b :: t) = (decide (a < b) || (decide (a = b) && Op.bytesLess s t)) := by
  have e1 : (c48 a < c48 b) ↔ a < b := by
    rw [UInt8.lt_iff_toNat_lt]; have x := c48_nat a a0 a1; have y := c48_nat b b0 b1; omega
  have e2 : (c48 a = c48 b) ↔ a = b := by
    constructor
    · intro h; have x := c48_nat a a0 a1; have y := c48_nat b b0 b1; rw [h] at x; omega
    · rintro rfl; rfl
  show (decide (c48 a < c48 b) || (c48 a == c48 b && Op.bytesLess s t)) = _
  congr 1
  · rw [decide_eq_decide]; exact e1
  · congr 1; rw [Bool.eq_iff_iff, beq_iff_eq, decide_eq_true_iff]; exact e2
theorem bl_d2 (a b : Int) (s t : List UInt8) (a0 : 0 ≤ a) (a1 : a < 100) (b0 : 0 ≤ b) (b1 : b < 100) : Op.bytesLess (d2 a ++ s) (d2 b ++ t) = (decide (a < b) || (decide (a = b) && Op.bytesLess s t)) := by
  show Op.bytesLess (c48 (a / 10) :: c48 (a % 10) :: s) (c48 (b / 10) :: c48 (b % 10) :: t) = _
  rw [bl_c48 _ _ _ _ (by omega) (by omega) (by omega) (by omega), bl_c48 _ _ _ _ (by omega) (by omega) (by omega) (by omega)]
  cases Op.bytesLess s t
  · simp only [Bool.and_false, Bool.or_false]
    rw [Bool.eq_iff_iff]; simp only [Bool.or_eq_true, Bool.and_eq_true, decide_eq_true_eq]; omega
  · simp only [Bool.and_true]
    rw [Bool.eq_iff_iff]; simp only [Bool.or_eq_true, Bool.and_eq_true, decide_eq_true_eq]; omega
theorem bl_d4 (a b : Int) (s t : List UInt8) (a0 : 0 ≤ a) (a1 : a < 10000) (b0 : 0 ≤ b) (b1 : b < 10000) : Op.bytesLess (d4 a ++ s) (d4 b ++ t) = (decide (a < b) || (decide (a = b) && Op.bytesLess s t)) := by
  have x := bl_d2 (a / 100) (b / 100) (d2 (a % 100) ++ s) (d2 (b % 100) ++ t) (by omega) (by omega) (by omega) (by omega)
  rw [bl_d2 (a % 100) (b % 100) s t (by omega) (by omega) (by omega) (by omega)] at x
  have e : ∀ (n : Int) (u : List UInt8), d2 (n / 100) ++ (d2 (n % 100) ++ u) = d4 n ++ u := by
    intro n u
    show c48 (n / 100 / 10) :: c48 (n / 100 % 10) :: c48 (n % 100 / 10) :: c48 (n % 100 % 10) :: u = c48 (n / 1000) :: c48 (n / 100 % 10) :: c48 (n / 10 % 10) :: c48 (n % 10) :: u
    rw [show n / 100 / 10 = n / 1000 by omega, show n % 100 / 10 = n / 10 % 10 by omega, show n % 100 % 10 = n % 10 by omega]
  rw [e, e] at x
  rw [x]
  cases Op.bytesLess s t
  · simp only [Bool.and_false, Bool.or_false]
    rw [Bool.eq_iff_iff]; simp only [Bool.or_eq_true, Bool.and_eq_true, decide_eq_true_eq]; omega
  · simp only [Bool.and_true]
    rw [Bool.eq_iff_iff]; simp only [Bool.or_eq_true, Bool.and_eq_true, decide_eq_true_eq]; omega
end Txt
namespace Cal
/-- Dates are in the order of their days. -/
theorem IsDate.less {n y m d n' y' m' d' : Int} (h : IsDate n y m d) (h' : IsDate n' y' m' d') : n < n' ↔ (y < y' ∨ y = y' ∧ (m < m' ∨ m = m' ∧ d < d')) := by
  have r := h.rng
  have r' := h'.rng
  have a : y < y' → n < n' := fun c => by have := ys_mono (y - 2001 + 1) (y' - 2001) (by omega); omega
  have b : y' < y → n' < n := fun c => by have := ys_mono (y' - 2001 + 1) (y - 2001) (by omega); omega
  by_cases e : y = y'
  · subst e
    obtain ⟨_, _, m1, m2, d1, d2, e⟩ := h
    obtain ⟨_, _, m1', m2', d1', d2', e'⟩ := h'
    have s := ms_succ m (lp y)
    have s' := ms_succ m' (lp y)
    have c : m < m' → n < n' := fun c => by have := ms_mono (m + 1) m' (lp y) (by omega) (by omega) (by omega); omega
    have c' : m' < m → n' < n := fun c => by have := ms_mono (m' + 1) m (lp y) (by omega) (by omega) (by omega); omega
    by_cases q : m = m'
    · subst q; omega
    · omega
  · omega
end Cal
theorem ds_lt {n y m d n' y' m' d' : Int} (h : Cal.IsDate n y m d) (h' : Cal.IsDate n' y' m' d') (s t : List UInt8) : Op.bytesLess (dtx y m d ++ s) (dtx y' m' d' ++ t) = (decide (n < n') || (decide (n = n') && Op.bytesLess s t)) := by
  have l := h.less h'
  have u := @Cal.IsDate.uniq
  have q : n = n' ↔ y = y' ∧ m = m' ∧ d = d' := ⟨fun e => by subst e; exact h.uniq h', fun ⟨e1, e2, e3⟩ => by subst e1 e2 e3; rw [← h.num_eq, ← h'.num_eq]⟩
  have b1 := (Cal.dim_bd m (Cal.lp y) h.m1 h.m2).2
  have b2 := (Cal.dim_bd m' (Cal.lp y') h'.m1 h'.m2).2
  obtain ⟨y1, y2, m1, m2, d1, d2, e⟩ := h
  obtain ⟨y1', y2', m1', m2', d1', d2', e'⟩ := h'
  clear u e e'
  unfold dtx
  simp only [List.append_assoc, List.cons_append, List.nil_append]
  rw [Txt.bl_d4 _ _ _ _ (by omega) (by omega) (by omega) (by omega), Txt.bl_eq, Txt.bl_d2 _ _ _ _ (by omega) (by omega) (by omega) (by omega), Txt.bl_eq, Txt.bl_d2 _ _ _ _ (by omega) (by omega) (by omega) (by omega)]
  rw [Bool.eq_iff_iff]
  simp only [Bool.or_eq_true, Bool.and_eq_true, decide_eq_true_eq]
  rw [l, q]
  cases Op.bytesLess s t
  · simp only [Bool.false_eq_true, and_false, or_false]
  · simp only [and_true]; omega
theorem ts_lt {x y m d z y' m' d' : Int} (h : Cal.IsDate (x / 1440) y m d) (h' : Cal.IsDate (z / 1440) y' m' d') : Op.bytesLess (ttx y m d (x % 1440 / 60) (x % 60)) (ttx y' m' d' (z % 1440 / 60) (z % 60)) = decide (x < z) := by
  unfold ttx
  rw [ds_lt h h']
  simp only [List.cons_append, List.nil_append]
  rw [Txt.bl_eq, Txt.bl_d2 _ _ _ _ (by omega) (by omega) (by omega) (by omega), Txt.bl_eq]
  have e : ∀ n : Int, Txt.d2 n = Txt.d2 n ++ [] := fun n => (List.append_nil _).symm
  rw [e (x % 60), e (z % 60), Txt.bl_d2 _ _ _ _ (by omega) (by omega) (by omega) (by omega)]
  rw [Bool.eq_iff_iff]; simp only [Bool.or_eq_true, Bool.and_eq_true, decide_eq_true_eq, Op.bytesLess, Bool.false_eq_true, and_false, or_false]; omega
theorem rd_dtx {n y m d : Int} (h : Cal.IsDate n y m d) : RdOk (dtx y m d) n := by
  have b1 := (Cal.dim_bd m (Cal.lp y) h.m1 h.m2).2
  have e1 : Txt.y4 (dtx y m d) = y := Txt.num_d4 y (by have := h.y1; omega) (by have := h.y2; omega)
  have e2 : Txt.m2 (dtx y m d) = m := Txt.num_d2 m (by have := h.m1; omega) (by have := h.m2; omega)
  have e3 : Txt.e2 (dtx y m d) = d := Txt.num_d2 d (by have := h.d1; omega) (by have := h.d2; omega)
  exact ⟨rfl, rfl, rfl, by rw [e1, e2, e3]; exact h⟩
theorem rt_ttx {x y m d : Int} (h : Cal.IsDate (x / 1440) y m d) : RtOk (ttx y m d (x % 1440 / 60) (x % 60)) x := by
  have e1 : Txt.h2 (ttx y m d (x % 1440 / 60) (x % 60)) = x % 1440 / 60 := Txt.num_d2 _ (by omega) (by omega)
  have e2 : Txt.i2 (ttx y m d (x % 1440 / 60) (x % 60)) = x % 60 := Txt.num_d2 _ (by omega) (by omega)
  exact ⟨rfl, rfl, rfl, by omega, by omega, by omega, by omega, x / 1440, rd_dtx h, by rw [e1, e2]; omega⟩
end Go.Proofs.YtcnnfgigpjbcpaaDoor
