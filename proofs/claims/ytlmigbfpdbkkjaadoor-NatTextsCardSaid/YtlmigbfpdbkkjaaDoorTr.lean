/- Digits that are read. -/
import Derived.Test.YtlmigbfpdbkkjaaDoorTt
import Derived.Lib.ParseIntBCases
import Derived.Lib.SlTrimSet
namespace Go.Proofs.YtlmigbfpdbkkjaaDoor
namespace Nt
def isD (c : UInt8) : Bool := decide (48 ≤ c.toNat ∧ c.toNat ≤ 57)
/-- The value of digits behind those that are read already. -/
def dstep (a : Nat) (c : UInt8) : Nat := a * 10 + (c.toNat - 48)
def dvl (a : Nat) (l : List UInt8) : Nat := l.foldl dstep a
theorem dvl_nil (a : Nat) : dvl a [] = a := rfl
theorem dvl_cons (a : Nat) (c : UInt8) (r : List UInt8) : dvl a (c :: r) = dvl (a * 10 + (c.toNat - 48)) r := by
  unfold dvl; rw [List.foldl_cons]; unfold dstep; rfl
theorem dvl_app (a : Nat) (l m : List UInt8) : dvl a (l ++ m) = dvl (dvl a l) m := by
  induction l generalizing a with
  | nil => rfl
  | cons c r ih => rw [List.cons_append, dvl_cons, dvl_cons, ih]
theorem dvl_add (a : Nat) (l : List UInt8) : dvl a l = a * 10 ^ l.length + dvl 0 l := by
  induction l generalizing a with
  | nil => rw [dvl_nil, dvl_nil, List.length_nil, Nat.pow_zero]; omega
  | cons c r ih =>
    have e1 := ih (a * 10 + (c.toNat - 48))
    have e2 := ih (0 * 10 + (c.toNat - 48))
    rw [dvl_cons, dvl_cons, e1, e2]
    generalize c.toNat - 48 = d
    rw [List.length_cons, Nat.pow_succ, Nat.zero_mul, Nat.zero_add, Nat.add_mul, Nat.mul_comm (10 ^ r.length) 10, Nat.mul_assoc, Nat.add_assoc]
theorem dvl_lt {l : List UInt8} (h : l.all isD = true) : dvl 0 l < 10 ^ l.length := by
  induction l with
  | nil => decide
  | cons c r ih =>
    rw [List.all_cons, Bool.and_eq_true] at h
    have i := ih h.2
    have hc : 48 ≤ c.toNat ∧ c.toNat ≤ 57 := of_decide_eq_true h.1
    have m := Nat.mul_le_mul_right (10 ^ r.length) (show c.toNat - 48 + 1 ≤ 10 by omega)
    rw [dvl_cons, dvl_add, List.length_cons, Nat.pow_succ, Nat.zero_mul, Nat.zero_add, Nat.mul_comm (10 ^ r.length) 10]
    rw [Nat.add_mul, Nat.one_mul] at m
    omega
theorem parse_ok (M : Nat) (hM : M ≤ 4294967295) : ∀ (l : List UInt8) (acc : Nat), l.all isD = true → dvl acc l ≤ M → Lib.parseUintM M acc l = .ok (dvl acc l) := by
  intro l
  induction l with
  | nil => intro acc _ _; rfl
  | cons c r ih =>
    intro acc h hv
    rw [List.all_cons, Bool.and_eq_true] at h
    have hc : 48 ≤ c.toNat ∧ c.toNat ≤ 57 := of_decide_eq_true h.1
    rw [dvl_cons] at hv
    have up : acc * 10 + (c.toNat - 48) ≤ M := by
      rw [dvl_add] at hv
      have := Nat.mul_le_mul_left (acc * 10 + (c.toNat - 48)) (show 1 ≤ 10 ^ r.length from Nat.pow_pos (by decide))
      omega
    unfold Lib.parseUintM
    rw [if_pos hc, if_neg (by omega), if_neg (by omega), dvl_cons]
    exact ih _ h.2 hv
/-- Whether bytes are the text of a number. -/
def isTx (l : List UInt8) : Bool := l == [48] || (l != [] && (l.head? != some 48 && l.all isD))
/-- What Read answers. -/
def readV (l : List UInt8) : Nat := dvl 0 l
/-- A text without a zero at its head. -/
theorem head_ge {c : UInt8} {r : List UInt8} (h : isD c = true) (h0 : c ≠ 48) : 10 ^ r.length ≤ dvl 0 (c :: r) := by
  have hc : 48 ≤ c.toNat ∧ c.toNat ≤ 57 := of_decide_eq_true h
  have : c.toNat ≠ 48 := fun e => h0 (UInt8.toNat_inj.1 e)
  rw [dvl_cons, dvl_add]
  have m := Nat.mul_le_mul_right (10 ^ r.length) (show 1 ≤ 0 * 10 + (c.toNat - 48) by omega)
  omega
/-- What is long is too great. -/
theorem tx_long {l : List UInt8} {k : Nat} (hk : k = 9865) (h : isTx l = true) (hl : k < l.length) : top ≤ dvl 0 l := by
  unfold isTx at h
  rw [Bool.or_eq_true, Bool.and_eq_true, Bool.and_eq_true] at h
  rcases h with h | ⟨_, h1, h2⟩
  · rw [beq_iff_eq.1 h] at hl; simp at hl; omega
  · cases l with
    | nil => simp at hl
    | cons c r =>
      rw [List.all_cons, Bool.and_eq_true] at h2
      have c0 : c ≠ 48 := by simpa using h1
      have g := head_ge h2.1 c0 (r := r)
      have p := Nat.pow_le_pow_right (show 0 < 10 by decide) (show k ≤ r.length by simp only [List.length_cons] at hl; omega)
      exact Nat.le_trans (top_le hk) (Nat.le_trans p g)
theorem tx_dig {l : List UInt8} (h : isTx l = true) : l.all isD = true := by
  unfold isTx at h
  rw [Bool.or_eq_true, Bool.and_eq_true, Bool.and_eq_true] at h
  rcases h with h | ⟨_, _, h2⟩
  · rw [beq_iff_eq.1 h]; decide
  · exact h2
/-- Texts of numbers. -/
theorem dvl_rev {ds : List Nat} (h : ∀ d ∈ ds, d < 10) : dvl 0 (ds.map dby).reverse = Pos.val 10 ds ∧ (ds.map dby).reverse.all isD = true := by
  induction ds with
  | nil => exact ⟨rfl, rfl⟩
  | cons d ds ih =>
    obtain ⟨i1, i2⟩ := ih (fun x hx => h x (List.mem_cons_of_mem _ hx))
    have hd := h d List.mem_cons_self
    have e := dby_nat hd
    rw [List.map_cons, List.reverse_cons]
    refine ⟨?_, ?_⟩
    · rw [dvl_app, i1, dvl_cons, dvl_nil, e, Pos.val_cons]; omega
    · rw [List.all_append, i2, Bool.true_and, List.all_cons, List.all_nil, Bool.and_true]
      exact decide_eq_true (by omega)
theorem txt_val (n : Nat) : dvl 0 (txt n) = n := by
  unfold txt
  by_cases c : n = 0
  · subst c; decide
  · rw [if_neg c, (dvl_rev (Pos.dig_ok (by decide) n).1).1, Pos.dig_val (by decide)]
theorem txt_dig (n : Nat) : (txt n).all isD = true := by
  unfold txt
  by_cases c : n = 0
  · subst c; decide
  · rw [if_neg c]; exact (dvl_rev (Pos.dig_ok (by decide) n).1).2
theorem txt_is (n : Nat) : isTx (txt n) = true := by
  by_cases c : n = 0
  · subst c; decide
  · have h := txt_dig n
    unfold txt at h ⊢
    rw [if_neg c] at h ⊢
    obtain ⟨x, t, e, hx⟩ := head_dig c
    rw [e] at h ⊢
    unfold isTx
    rw [h]
    simp [hx]
theorem txt_len {n : Nat} (h : n ≠ 0) : (txt n).length = (Pos.dig 10 n).length := by
  unfold txt; rw [if_neg h, List.length_reverse, List.length_map]
/-- Ten times a number. -/
theorem txt_ten {n : Nat} (h : n ≠ 0) : txt (n * 10) = txt n ++ [48] := by
  unfold txt
  rw [if_neg h, if_neg (by omega), Pos.dig_step (by decide) (by omega), Nat.mul_mod_left, Nat.mul_div_cancel _ (by decide), List.map_cons, List.reverse_cons]
  rfl
/-- The order of texts. -/
theorem bytes_lt : ∀ (l m : List UInt8), l.all isD = true → m.all isD = true → l.length = m.length → Op.bytesLess l m = decide (dvl 0 l < dvl 0 m) := by
  intro l
  induction l with
  | nil =>
    intro m _ _ h
    have : m = [] := List.eq_nil_of_length_eq_zero h.symm
    subst this; rfl
  | cons c r ih =>
    intro m hl hm h
    cases m with
    | nil => simp at h
    | cons d s =>
      rw [List.all_cons, Bool.and_eq_true] at hl hm
      have hc : 48 ≤ c.toNat ∧ c.toNat ≤ 57 := of_decide_eq_true hl.1
      have hd : 48 ≤ d.toNat ∧ d.toNat ≤ 57 := of_decide_eq_true hm.1
      have hlen : r.length = s.length := by simpa using h
      have i := ih s hl.2 hm.2 hlen
      have b1 := dvl_lt hl.2
      have b2 := dvl_lt hm.2
      rw [dvl_cons, dvl_cons, dvl_add, dvl_add (0 * 10 + (d.toNat - 48)), Nat.zero_mul, Nat.zero_add, Nat.zero_add]
      rw [hlen] at b1 ⊢
      show (decide (c < d) || (c == d && Op.bytesLess r s)) = _
      rw [i]
      by_cases e : c = d
      · subst e
        have n1 : decide (c < c) = false := decide_eq_false (UInt8.lt_irrefl c)
        rw [n1, Bool.false_or, beq_self_eq_true, Bool.true_and, decide_eq_decide]
        omega
      · rw [beq_eq_false_iff_ne.2 e, Bool.false_and, Bool.or_false, decide_eq_decide, UInt8.lt_iff_toNat_lt]
        have ne : c.toNat ≠ d.toNat := fun x => e (UInt8.toNat_inj.1 x)
        constructor
        · intro lt
          have m1 := Nat.mul_le_mul_right (10 ^ s.length) (show c.toNat - 48 + 1 ≤ d.toNat - 48 by omega)
          rw [Nat.add_mul, Nat.one_mul] at m1
          omega
        · intro lt
          refine Nat.lt_of_not_le fun ge => ?_
          have m1 := Nat.mul_le_mul_right (10 ^ s.length) (show d.toNat - 48 + 1 ≤ c.toNat - 48 by omega)
          rw [Nat.add_mul, Nat.one_mul] at m1
          omega
theorem txt_less {a b : Nat} (h : (txt a).length = (txt b).length) : Op.bytesLess (txt a) (txt b) = decide (a < b) := by
  rw [bytes_lt _ _ (txt_dig a) (txt_dig b) h, txt_val, txt_val]
theorem txt_long {a b : Nat} (h : (txt a).length ≠ (txt b).length) : decide (a < b) = decide ((txt a).length < (txt b).length) := by
  have pos : ∀ n, 1 ≤ (txt n).length := by
    intro n
    by_cases c : n = 0
    · subst c; decide
    · rw [txt_len c]
      exact Nat.pos_of_ne_zero fun e => c (by have := Pos.dig_val (b := 10) (by decide) n; rw [List.eq_nil_of_length_eq_zero e] at this; exact this.symm)
  have step : ∀ {x y : Nat}, (txt x).length < (txt y).length → x < y := by
    intro x y hlt
    by_cases cy : y = 0
    · subst cy
      have := pos x
      have e : (txt 0).length = 1 := rfl
      omega
    · by_cases cx : x = 0
      · omega
      · rw [txt_len cx, txt_len cy] at hlt
        have := Pos.lt_of_len (b := 10) (by decide) (Pos.dig_ok (by decide) x) (Pos.dig_ok (by decide) y) hlt
        rw [Pos.dig_val (by decide), Pos.dig_val (by decide)] at this
        exact this
  rw [decide_eq_decide]
  constructor
  · intro lt
    refine Nat.lt_of_le_of_ne (Nat.le_of_not_lt fun c => ?_) h
    have := step c
    omega
  · exact step
theorem trim_digits (l : List UInt8) : Lib.trimS l [48, 49, 50, 51, 52, 53, 54, 55, 56, 57] = [] ↔ l.all isD = true := by
  have cs : ∀ c : UInt8, ([48, 49, 50, 51, 52, 53, 54, 55, 56, 57] : List UInt8).contains c = isD c := by
    intro c
    unfold isD
    rw [Bool.eq_iff_iff, decide_eq_true_iff]
    simp only [List.contains_cons, List.contains_nil, Bool.or_false, Bool.or_eq_true, beq_iff_eq]
    have key : ∀ k : UInt8, c = k ↔ c.toNat = k.toNat := fun k => ⟨fun e => by rw [e], fun e => UInt8.toNat_inj.1 e⟩
    simp only [key]
    constructor
    · intro h
      rcases h with h | h | h | h | h | h | h | h | h | h <;> (rw [h]; decide)
    · intro h
      have := h.1; have := h.2
      show c.toNat = 48 ∨ c.toNat = 49 ∨ c.toNat = 50 ∨ c.toNat = 51 ∨ c.toNat = 52 ∨ c.toNat = 53 ∨ c.toNat = 54 ∨ c.toNat = 55 ∨ c.toNat = 56 ∨ c.toNat = 57
      omega
  have dw : ∀ l : List UInt8, l.dropWhile (([48, 49, 50, 51, 52, 53, 54, 55, 56, 57] : List UInt8).contains ·) = [] ↔ l.all isD = true := by
    intro l
    induction l with
    | nil => simp
    | cons c r ih =>
      rw [List.all_cons]
      cases hc : isD c with
      | true => rw [List.dropWhile_cons_of_pos (by rw [cs, hc]), ih, Bool.true_and]
      | false => rw [List.dropWhile_cons_of_neg (by rw [cs, hc]; decide)]; simp
  unfold Lib.trimS Lib.trimLeftS Lib.trimRightS
  rw [dw, List.all_reverse]
  constructor
  · intro h
    have : (l.reverse.dropWhile (([48, 49, 50, 51, 52, 53, 54, 55, 56, 57] : List UInt8).contains ·)) = [] := by
      cases e : l.reverse.dropWhile (([48, 49, 50, 51, 52, 53, 54, 55, 56, 57] : List UInt8).contains ·) with
      | nil => rfl
      | cons c r =>
        exfalso
        rw [e, List.all_cons, Bool.and_eq_true] at h
        have hd : ∀ (l : List UInt8) c r, l.dropWhile (([48, 49, 50, 51, 52, 53, 54, 55, 56, 57] : List UInt8).contains ·) = c :: r → isD c = false := by
          intro l
          induction l with
          | nil => intro c r h; simp at h
          | cons x xs ih =>
            intro c r h
            cases hx : isD x with
            | true => rw [List.dropWhile_cons_of_pos (by rw [cs, hx])] at h; exact ih c r h
            | false => rw [List.dropWhile_cons_of_neg (by rw [cs, hx]; decide)] at h; rw [← (List.cons.inj h).1]; exact hx
        rw [hd _ _ _ e] at h
        exact absurd h.1 (by decide)
    have := (dw _).1 this
    rwa [List.all_reverse] at this
  · intro h
    have : l.reverse.dropWhile (([48, 49, 50, 51, 52, 53, 54, 55, 56, 57] : List UInt8).contains ·) = [] := (dw _).2 (by rw [List.all_reverse]; exact h)
    rw [this]; rfl
end Nt
end Go.Proofs.YtlmigbfpdbkkjaaDoor
