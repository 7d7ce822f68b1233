/- Ordered lists: which number stands at a place, by how many are less. -/
import Derived.WalkKit
namespace Go.Proofs.Ytjfopggpohakkaa
namespace Rk
def sl (zs : List Int) : List Int := zs.mergeSort fun x y => decide (x ≤ y)
def lt (v : Int) (zs : List Int) : Nat := zs.countP fun x => decide (x < v)
def le (v : Int) (zs : List Int) : Nat := zs.countP fun x => decide (x ≤ v)
theorem sl_sorted (zs : List Int) : (sl zs).Pairwise (fun x y => x ≤ y) := by
  have := List.pairwise_mergeSort (le := fun x y : Int => decide (x ≤ y)) (fun a b c h1 h2 => by simp at *; omega) (fun a b => by simp; omega) zs
  exact this.imp (fun h => by simpa using h)
theorem sl_perm (zs : List Int) : (sl zs).Perm zs := List.mergeSort_perm _ _
theorem sl_len (zs : List Int) : (sl zs).length = zs.length := List.length_mergeSort _
theorem lt_sl (v : Int) (zs : List Int) : lt v (sl zs) = lt v zs := (sl_perm zs).countP_eq _
theorem le_sl (v : Int) (zs : List Int) : le v (sl zs) = le v zs := (sl_perm zs).countP_eq _
theorem lt_le (v : Int) (zs : List Int) : lt v zs ≤ le v zs := List.countP_mono_left (fun x _ h => by simp at *; omega)
theorem lt_len (v : Int) (zs : List Int) : lt v zs ≤ zs.length := List.countP_le_length
theorem le_len (v : Int) (zs : List Int) : le v zs ≤ zs.length := List.countP_le_length
/-- In an ordered list: how many are less than the one at a place, and how many are at most as great. -/
theorem at_counts : ∀ {s : List Int}, s.Pairwise (fun x y => x ≤ y) → ∀ {j : Nat} (h : j < s.length), lt s[j] s ≤ j ∧ j < le s[j] s := by
  intro s
  induction s with
  | nil => intro _ j h; simp at h
  | cons a l ih' =>
    intro hs j h
    obtain ⟨ha, hl⟩ := List.pairwise_cons.1 hs
    have ih := fun {j : Nat} (h : j < l.length) => ih' hl h
    cases j with
    | zero =>
      have z : lt a l = 0 := List.countP_eq_zero.2 (fun x hx => by have := ha x hx; simp; omega)
      show lt a (a :: l) ≤ 0 ∧ 0 < le a (a :: l)
      unfold lt le at *
      rw [List.countP_cons, List.countP_cons]
      simp [z]
    | succ j =>
      have hj : j < l.length := by simpa using h
      obtain ⟨h1, h2⟩ := ih hj
      have am := ha l[j] (List.getElem_mem hj)
      show lt l[j] (a :: l) ≤ j + 1 ∧ j + 1 < le l[j] (a :: l)
      unfold lt le at *
      rw [List.countP_cons, List.countP_cons]
      have e : decide (a ≤ l[j]) = true := decide_eq_true am
      rw [e]
      constructor
      · split <;> omega
      · rw [if_pos rfl]; omega
theorem at_of_counts {s : List Int} (hs : s.Pairwise (fun x y => x ≤ y)) {j : Nat} (h : j < s.length) {v : Int} (h1 : lt v s ≤ j) (h2 : j < le v s) : s[j] = v := by
  obtain ⟨c1, c2⟩ := at_counts hs h
  have m1 : ∀ {a b : Int}, a < b → le a s ≤ lt b s := fun hab => List.countP_mono_left (fun x _ hx => by simp at *; omega)
  by_cases e1 : s[j] < v
  · have := m1 e1; omega
  · by_cases e2 : v < s[j]
    · have := m1 e2; omega
    · omega
theorem le_mono {a b : Int} (s : List Int) (h : a < b) : le a s ≤ lt b s := List.countP_mono_left (fun x _ hx => by simp at *; omega)
theorem lt_app (v : Int) (a b : List Int) : lt v (a ++ b) = lt v a + lt v b := List.countP_append
theorem le_app (v : Int) (a b : List Int) : le v (a ++ b) = le v a + le v b := List.countP_append
theorem sl_rev (zs : List Int) : sl zs.reverse = sl zs := by
  refine List.ext_getElem (by rw [sl_len, sl_len, List.length_reverse]) fun j h1 h2 => ?_
  obtain ⟨c1, c2⟩ := at_counts (sl_sorted zs) h2
  refine at_of_counts (sl_sorted _) h1 ?_ ?_
  · rw [lt_sl]; rw [lt_sl] at c1
    have : lt (sl zs)[j] zs.reverse = lt (sl zs)[j] zs := (List.reverse_perm zs).countP_eq _
    omega
  · rw [le_sl]; rw [le_sl] at c2
    have : le (sl zs)[j] zs.reverse = le (sl zs)[j] zs := (List.reverse_perm zs).countP_eq _
    omega
theorem sl_mono {zs : List Int} {i j : Nat} (h : i ≤ j) (hj : j < (sl zs).length) : (sl zs)[i]'(by omega) ≤ (sl zs)[j] := by
  by_cases e : i = j
  · subst e; omega
  · exact List.pairwise_iff_getElem.1 (sl_sorted zs) i j (by omega) hj (by omega)
theorem sl_mem {zs : List Int} {j : Nat} (h : j < (sl zs).length) : (sl zs)[j] ∈ zs := (sl_perm zs).mem_iff.1 (List.getElem_mem h)
/-- The place that is wanted. -/
def wt (n q : Nat) : Nat := max 1 ((q * n + 9999) / 10000)
theorem wt_le {n q : Nat} (hn : 1 ≤ n) (hq : q ≤ 10000) : wt n q ≤ n := by
  have := Nat.mul_le_mul_right n hq
  unfold wt; omega
theorem wt_mono (n : Nat) {p q : Nat} (h : p ≤ q) : wt n p ≤ wt n q := by
  have := Nat.mul_le_mul_right n h
  unfold wt; omega
/-- What the counts of the wanted number say. -/
theorem wt_counts {n q l m : Nat} (h1 : l ≤ wt n q - 1) (h2 : wt n q - 1 < m) : q * n ≤ m * 10000 ∧ (0 < l → l * 10000 < q * n) := by
  obtain ⟨t, ht⟩ : ∃ t, t = q * n := ⟨_, rfl⟩
  unfold wt at h1 h2
  rw [← ht] at h1 h2 ⊢
  omega
theorem wt_twice {n q l m : Nat} (h1 : q * n ≤ m * 10000) (h0 : 0 < m) (h2 : 0 < l → l * 10000 < q * n) : l + l ≤ wt (n + n) q - 1 ∧ wt (n + n) q - 1 < m + m := by
  obtain ⟨t, ht⟩ : ∃ t, t = q * n := ⟨_, rfl⟩
  unfold wt
  rw [Nat.mul_add, ← ht]
  rw [← ht] at h1 h2
  omega
end Rk
end Go.Proofs.Ytjfopggpohakkaa
