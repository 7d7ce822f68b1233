/- What the functions of layer 3 answer, as numbers and lists of limbs. -/
import Derived.Test.YtjfopggpohakkaaPos
namespace Go.Proofs.Ytjfopggpohakkaa
namespace Nt
def B : Nat := 4294967296
@[irreducible] def top : Nat := B ^ 1024
def val (l : List Nat) : Nat := Pos.val B l
def dig (n : Nat) : List Nat := Pos.dig B n
/-- Limbs of 32 bits. -/
def Fit (l : List Nat) : Prop := ∀ x ∈ l, x < B
/-- Whether limbs are a number. -/
def rg (l : List Nat) : Bool := decide (l.length ≤ 1024 ∧ l.getLast? ≠ some 0)
theorem two_B : 2 ≤ B := by decide
theorem rg_iff (l : List Nat) : rg l = true ↔ l.length ≤ 1024 ∧ l.getLast? ≠ some 0 := by unfold rg; rw [decide_eq_true_iff]
theorem ok_of {l : List Nat} (h : Fit l) (r : rg l = true) : Pos.Ok B l := ⟨h, ((rg_iff l).1 r).2⟩
theorem val_dig (n : Nat) : val (dig n) = n := Pos.dig_val two_B n
theorem fit_dig (n : Nat) : Fit (dig n) := (Pos.dig_ok two_B n).1
theorem dig_of {l : List Nat} (h : Fit l) (r : rg l = true) : dig (val l) = l := Pos.dig_of two_B (ok_of h r)
theorem top_pow {k : Nat} (hk : k = 1024) : top = B ^ k := by subst hk; unfold top; rfl
theorem rg_dig (n : Nat) : rg (dig n) = decide (n < top) := by
  have h1 : (dig n).length ≤ 1024 ↔ n < top := by
    obtain ⟨k, hk⟩ : ∃ k, k = 1024 := ⟨_, rfl⟩
    rw [top_pow hk, ← hk]; exact Pos.dig_len two_B n k
  unfold rg
  have h2 := (Pos.dig_ok two_B n).2
  by_cases c : n < top
  · rw [decide_eq_true c]; exact decide_eq_true ⟨h1.2 c, h2⟩
  · rw [decide_eq_false c]; exact decide_eq_false fun x => c (h1.1 x.1)
theorem rg_yes {n : Nat} (h : n < top) : rg (dig n) = true := by rw [rg_dig]; exact decide_eq_true h
theorem val_top {l : List Nat} (h : Fit l) (r : rg l = true) : val l < top := by
  have g := ((rg_iff l).1 r).1
  obtain ⟨k, hk⟩ : ∃ k, k = 1024 := ⟨_, rfl⟩
  rw [top_pow hk]; rw [← hk] at g
  exact (Pos.len_le two_B (ok_of h r) k).1 g
theorem val_zero {l : List Nat} (h : Fit l) (r : rg l = true) : val l = 0 ↔ l = [] := Pos.val_zero (ok_of h r)
theorem dig_zero : dig 0 = [] := rfl
theorem val_nil : val [] = 0 := rfl
theorem fit_nil : Fit [] := fun _ h => absurd h List.not_mem_nil
theorem rg_nil : rg [] = true := by decide
/-- Sums, differences, products, quotients and comparisons. -/
def addR (l m : List Nat) : List Nat × Int := if rg l = true ∧ rg m = true then (if val l + val m < top then (dig (val l + val m), 0) else ([], 3)) else ([], 2)
def mulR (l m : List Nat) : List Nat × Int := if rg l = true ∧ rg m = true then (if val l * val m < top then (dig (val l * val m), 0) else ([], 3)) else ([], 2)
def subR (l m : List Nat) : List Nat × Int := if rg l = true ∧ rg m = true ∧ val m ≤ val l then (dig (val l - val m), 0) else ([], 2)
def quoR (l m : List Nat) : List Nat := if rg l = true ∧ rg m = true ∧ m ≠ [] then dig (val l / val m) else []
def remR (l m : List Nat) : List Nat := if rg l = true ∧ rg m = true ∧ m ≠ [] then dig (val l % val m) else []
def divE (l m : List Nat) : Int := if rg l = true ∧ rg m = true ∧ m ≠ [] then 0 else 2
def ord (x y : Nat) : Int := if x < y then -1 else if y < x then 1 else 0
def cmpV (l m : List Nat) : Int := if rg l = true ∧ rg m = true then ord (val l) (val m) else 0
def cmpE (l m : List Nat) : Int := if rg l = true ∧ rg m = true then 0 else 2
/-- The value of a number that fits a word. -/
def wordO (l : List Nat) : Bool := decide (rg l = true ∧ val l < 18446744073709551616)
def wordV (l : List Nat) : Int := if rg l = true ∧ val l < 18446744073709551616 then (val l : Nat) else 0
theorem add_ok {l m : List Nat} (h : rg l = true) (h' : rg m = true) (s : val l + val m < top) : addR l m = (dig (val l + val m), 0) := by unfold addR; rw [if_pos ⟨h, h'⟩, if_pos s]
theorem mul_ok {l m : List Nat} (h : rg l = true) (h' : rg m = true) (s : val l * val m < top) : mulR l m = (dig (val l * val m), 0) := by unfold mulR; rw [if_pos ⟨h, h'⟩, if_pos s]
theorem sub_ok {l m : List Nat} (h : rg l = true) (h' : rg m = true) (s : val m ≤ val l) : subR l m = (dig (val l - val m), 0) := by unfold subR; rw [if_pos ⟨h, h', s⟩]
theorem div_ok {l m : List Nat} (h : rg l = true) (h' : rg m = true) (s : m ≠ []) : quoR l m = dig (val l / val m) ∧ remR l m = dig (val l % val m) ∧ divE l m = 0 := by unfold quoR remR divE; rw [if_pos ⟨h, h', s⟩, if_pos ⟨h, h', s⟩, if_pos ⟨h, h', s⟩]; exact ⟨rfl, rfl, rfl⟩
theorem div_no {l m : List Nat} (s : ¬ (rg l = true ∧ rg m = true ∧ m ≠ [])) : quoR l m = [] ∧ remR l m = [] ∧ divE l m = 2 := by unfold quoR remR divE; rw [if_neg s, if_neg s, if_neg s]; exact ⟨rfl, rfl, rfl⟩
theorem cmp_ok {l m : List Nat} (h : rg l = true) (h' : rg m = true) : cmpV l m = ord (val l) (val m) ∧ cmpE l m = 0 := by unfold cmpV cmpE; rw [if_pos ⟨h, h'⟩, if_pos ⟨h, h'⟩]; exact ⟨rfl, rfl⟩
/-- The number of the first limbs. -/
def num (l : List Nat) (k : Nat) : List Nat := dig (val (l.take k))
theorem num_ok {l : List Nat} (h : Fit l) (k : Nat) (hk : k ≤ 1024) : rg (num l k) = true ∧ Fit (num l k) ∧ (num l k).length ≤ k := by
  have f : Fit (l.take k) := fun x hx => h x (List.mem_of_mem_take hx)
  have v : val (l.take k) < B ^ k := Nat.lt_of_lt_of_le (Pos.val_lt f) (Nat.pow_le_pow_right (by decide) (by rw [List.length_take]; omega))
  refine ⟨rg_yes ?_, fit_dig _, (Pos.dig_len two_B _ k).2 v⟩
  obtain ⟨k', hk'⟩ : ∃ k, k = 1024 := ⟨_, rfl⟩
  rw [top_pow hk']; rw [← hk'] at hk
  exact Nat.lt_of_lt_of_le v (Nat.pow_le_pow_right (by decide) hk)
/-- The dividend out of its quotient and remainder. -/
theorem divides {l m : List Nat} (hl : Fit l) (hm : Fit m) (rl : rg l = true) (rm : rg m = true) (hne : m ≠ []) :
    rg (quoR l m) = true ∧ rg (remR l m) = true ∧ divE l m = 0 ∧ (mulR (quoR l m) m).2 = 0 ∧ (addR (mulR (quoR l m) m).1 (remR l m)).2 = 0 ∧
      (addR (mulR (quoR l m) m).1 (remR l m)).1 = l ∧ val (remR l m) < val m := by
  obtain ⟨e1, e2, e3⟩ := div_ok rl rm hne
  have t := val_top hl rl
  have z : val m ≠ 0 := fun x => hne ((val_zero hm rm).1 x)
  have d1 : val l / val m ≤ val l := Nat.div_le_self _ _
  have d2 := Nat.mod_lt (val l) (show 0 < val m by omega)
  have d3 := Nat.mod_le (val l) (val m)
  have d4 := Nat.div_add_mod (val l) (val m)
  have d5 : val l / val m * val m ≤ val l := Nat.div_mul_le_self _ _
  have rq : rg (dig (val l / val m)) = true := rg_yes (by omega)
  have rr : rg (dig (val l % val m)) = true := rg_yes (by omega)
  have em := mul_ok rq rm (by rw [val_dig]; omega)
  rw [val_dig] at em
  have rp : rg (dig (val l / val m * val m)) = true := rg_yes (by omega)
  have es : val (dig (val l / val m * val m)) + val (dig (val l % val m)) = val l := by rw [val_dig, val_dig, Nat.mul_comm]; exact d4
  have ea := add_ok rp rr (by rw [es]; exact t)
  rw [es, dig_of hl rl] at ea
  rw [e1, e2, e3, em]
  refine ⟨rq, rr, rfl, rfl, ?_, ?_, by rw [val_dig]; exact d2⟩
  · rw [ea]
  · rw [ea]
end Nt
end Go.Proofs.Ytjfopggpohakkaa
