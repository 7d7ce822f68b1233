/- The table of abbreviations and its words as lists. -/
import Derived.Test.YtljfbdiiecohpaaFo
namespace Go.Proofs.Ytljfbdiiecohpaa
namespace Fo
/-- A row. -/
structure Rd where
  k : Nat
  lg : Bs
  sh : Bs
deriving DecidableEq
def tbl : List Rd := [
  ⟨1, [78, 79, 82, 84, 72], [78]⟩,
  ⟨1, [83, 79, 85, 84, 72], [83]⟩,
  ⟨1, [69, 65, 83, 84], [69]⟩,
  ⟨1, [87, 69, 83, 84], [87]⟩,
  ⟨1, [78, 79, 82, 84, 72, 69, 65, 83, 84], [78, 69]⟩,
  ⟨1, [78, 79, 82, 84, 72, 87, 69, 83, 84], [78, 87]⟩,
  ⟨1, [83, 79, 85, 84, 72, 69, 65, 83, 84], [83, 69]⟩,
  ⟨1, [83, 79, 85, 84, 72, 87, 69, 83, 84], [83, 87]⟩,
  ⟨2, [83, 84, 82, 69, 69, 84], [83, 84]⟩,
  ⟨2, [65, 86, 69, 78, 85, 69], [65, 86, 69]⟩,
  ⟨2, [65, 86, 69, 78, 85, 69], [65, 86]⟩,
  ⟨2, [82, 79, 65, 68], [82, 68]⟩,
  ⟨2, [68, 82, 73, 86, 69], [68, 82]⟩,
  ⟨2, [76, 65, 78, 69], [76, 78]⟩,
  ⟨2, [67, 79, 85, 82, 84], [67, 84]⟩,
  ⟨2, [80, 76, 65, 67, 69], [80, 76]⟩,
  ⟨2, [83, 81, 85, 65, 82, 69], [83, 81]⟩,
  ⟨2, [66, 79, 85, 76, 69, 86, 65, 82, 68], [66, 76, 86, 68]⟩,
  ⟨2, [84, 69, 82, 82, 65, 67, 69], [84, 69, 82]⟩,
  ⟨2, [72, 73, 71, 72, 87, 65, 89], [72, 87, 89]⟩,
  ⟨2, [67, 82, 69, 83, 67, 69, 78, 84], [67, 82, 69, 83]⟩,
  ⟨2, [87, 65, 89], [87, 65, 89]⟩,
  ⟨2, [83, 84, 82, 65, 83, 83, 69], [83, 84, 82]⟩,
  ⟨2, [80, 76, 65, 84, 90], [80, 76]⟩,
  ⟨2, [87, 69, 71], [87, 69, 71]⟩,
  ⟨2, [65, 76, 76, 69, 69], [65, 76]⟩,
  ⟨3, [65, 80, 65, 82, 84, 77, 69, 78, 84], [65, 80, 84]⟩,
  ⟨3, [83, 85, 73, 84, 69], [83, 84, 69]⟩,
  ⟨3, [70, 76, 79, 79, 82], [70, 76]⟩,
  ⟨3, [82, 79, 79, 77], [82, 77]⟩,
  ⟨3, [70, 76, 65, 84], [70, 76]⟩,
  ⟨3, [85, 78, 73, 84], [85, 78, 73, 84]⟩,
  ⟨4, [66, 79, 88], [66, 79, 88]⟩,
  ⟨4, [80, 79, 83, 84, 66, 79, 88], [80, 66]⟩,
  ⟨4, [80, 79, 83, 84, 70, 65, 67, 72], [80, 70]⟩,
  ⟨5, [83, 65, 73, 78, 84], [83, 84]⟩,
  ⟨5, [83, 65, 73, 78, 84, 69], [83, 84, 69]⟩,
  ⟨5, [77, 79, 85, 78, 84], [77, 84]⟩,
  ⟨5, [70, 79, 82, 84], [70, 84]⟩,
  ⟨5, [68, 79, 67, 84, 79, 82], [68, 82]⟩]
/-- Whether a row is of a kind. -/
def isK (k : Nat) (r : Rd) : Bool := k == 0 || r.k == k
/-- Whether a word is of a row of a kind. -/
def isR (k : Nat) (x : Bs) (r : Rd) : Bool := isK k r && (r.lg == x || r.sh == x)
/-- Whether a word is the long one of a row of a kind. -/
def isL (k : Nat) (x : Bs) (r : Rd) : Bool := isK k r && r.lg == x
/-- Each word once. -/
def ded : List Bs → List Bs → List Bs
  | acc, [] => acc
  | acc, x :: t => if acc.contains x then ded acc t else ded (acc ++ [x]) t
def rowsOf (k : Nat) (x : Bs) : List Rd := tbl.filter (isR k x)
def longs (k : Nat) (x : Bs) : List Bs := ded [] ((rowsOf k x).map (·.lg))
def shortR (l : List Rd) : Bs × Bool := match l with
  | [] => ([], false)
  | r :: _ => (r.sh, true)
def short (k : Nat) (x : Bs) : Bs × Bool := shortR (tbl.filter (isL k x))
def orK (a k : Nat) : Nat := a ||| 2 ^ k
def kindsR (a : Nat) (l : List Rd) : Nat := l.foldl (fun a r => orK a r.k) a
def kinds (x : Bs) : Nat := kindsR 0 (rowsOf 0 x)
def same (k : Nat) (a b : Bs) : Bool := a == b || (longs k a).any fun x => (longs k b).contains x
theorem tbl_k : ∀ r ∈ tbl, 1 ≤ r.k ∧ r.k ≤ 5 := by decide +kernel
theorem rowsOf_k {k : Nat} {x : Bs} : ∀ r ∈ rowsOf k x, 1 ≤ r.k ∧ r.k ≤ 5 := fun r h => tbl_k r (List.mem_filter.1 h).1
theorem tbl_len : tbl.length = 40 := rfl
theorem rowsOf_len (k : Nat) (x : Bs) : (rowsOf k x).length ≤ 40 := List.length_filter_le _ _
theorem ded_len : ∀ (l acc : List Bs), (ded acc l).length ≤ acc.length + l.length
  | [], acc => by simp [ded]
  | x :: t, acc => by
    unfold ded
    split
    · have := ded_len t acc; simp only [List.length_cons]; omega
    · have := ded_len t (acc ++ [x]); simp only [List.length_append, List.length_cons, List.length_nil] at this ⊢; omega
theorem longs_len (k : Nat) (x : Bs) : (longs k x).length ≤ 40 := by
  have h1 := ded_len ((rowsOf k x).map (·.lg)) []
  have h2 := rowsOf_len k x
  rw [List.length_map] at h1
  simp only [List.length_nil] at h1
  unfold longs
  omega
theorem orK_lt {a k : Nat} (ha : a < 64) (hk : k ≤ 5) : orK a k < 64 := by
  unfold orK
  refine Nat.or_lt_two_pow (n := 6) ha ?_
  exact Nat.pow_lt_pow_right (by decide) (by omega)
end Fo
end Go.Proofs.Ytljfbdiiecohpaa
