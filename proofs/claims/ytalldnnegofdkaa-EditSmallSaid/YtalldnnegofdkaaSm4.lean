/- The contract of 'search': any texts of up to 60 bytes. -/
import Derived.Test.YtalldnnegofdkaaSm3
namespace Go.Proofs.Ytalldnnegofdkaa
open Go.RowKit Go.Shelf

theorem swap_shape (a : UInt8) (x : Ed.Bs) (b : UInt8) (y : Ed.Bs) : (Ed.ft 3 (a :: x) (b :: y) = false ∧ (¬ 1 < (⟨(a :: x).toArray⟩ : ByteArray).size ∨ ¬ 1 < (⟨(b :: y).toArray⟩ : ByteArray).size)) ∨ ∃ (_ : 1 < (⟨(a :: x).toArray⟩ : ByteArray).size) (_ : 1 < (⟨(b :: y).toArray⟩ : ByteArray).size), Ed.ft 3 (a :: x) (b :: y) = (((⟨(a :: x).toArray⟩ : ByteArray)[0] == (⟨(b :: y).toArray⟩ : ByteArray)[1] && (⟨(a :: x).toArray⟩ : ByteArray)[1] == (⟨(b :: y).toArray⟩ : ByteArray)[0]) && (⟨(a :: x).toArray⟩ : ByteArray)[0] != (⟨(a :: x).toArray⟩ : ByteArray)[1]) := by
  match x, y with
  | [], _ => exact Or.inl ⟨rfl, Or.inl (by rw [Ed.size_is]; simp)⟩
  | _ :: _, [] => exact Or.inl ⟨rfl, Or.inr (by rw [Ed.size_is]; simp)⟩
  | _ :: _, _ :: _ => exact Or.inr ⟨by rw [Ed.size_is]; simp, by rw [Ed.size_is]; simp, rfl⟩
theorem search_both (a : UInt8) (x : Ed.Bs) (b : UInt8) (y : Ed.Bs) (c : Ed.Cs) (hc : Ed.Rc c) (hx : (a :: x).length ≤ 60) (hy : (b :: y).length ≤ 60)
    (h1 : ∀ W, Calls Try.prog 17 #[sb x, sb y, cv c] W fun e w' => e = .returned (.int .i64 (Ed.ds c x y)) ∧ Below W.heap.size W w')
    (h2 : ∀ W, Calls Try.prog 17 #[sb (x.drop 1), sb (y.drop 1), cv c] W fun e w' => e = .returned (.int .i64 (Ed.ds c (x.drop 1) (y.drop 1))) ∧ Below W.heap.size W w')
    (h3 : ∀ W, Calls Try.prog 17 #[sb x, sb (b :: y), cv c] W fun e w' => e = .returned (.int .i64 (Ed.ds c x (b :: y))) ∧ Below W.heap.size W w')
    (h4 : ∀ W, Calls Try.prog 17 #[sb (a :: x), sb y, cv c] W fun e w' => e = .returned (.int .i64 (Ed.ds c (a :: x) y)) ∧ Below W.heap.size W w') (w : World) :
    Calls Try.prog 17 #[sb (a :: x), sb (b :: y), cv c] w fun e w' => e = .returned (.int .i64 (Ed.ds c (a :: x) (b :: y))) ∧ Below w.heap.size w w' := by
  have lx : x.length ≤ 60 := by simp at hx; omega
  have ly : y.length ≤ 60 := by simp at hy; omega
  have n1 := Ed.ds_bd hc x y lx ly
  have n2 := Ed.ds_bd hc (x.drop 1) (y.drop 1) (by rw [List.length_drop]; omega) (by rw [List.length_drop]; omega)
  have n3 := Ed.ds_bd hc x (b :: y) lx hy
  have n4 := Ed.ds_bd hc (a :: x) y hx ly
  have E5 := Ed.mn_ds hc hx hy (Or.inl (by simp))
  have M5 := Ed.mn_5 c (Ed.ds c) a x b y
  have M4 := Ed.mn_4 c (Ed.ds c) a x (b :: y)
  have M3 := Ed.mn_3 c (Ed.ds c) a x b y
  have M3n := Ed.mn_3n c (Ed.ds c) (a :: x) (b :: y)
  have M2 := Ed.mn_2 c (Ed.ds c) a x b y
  rw [E5] at M5
  have HS := swap_shape a x b y
  have FL : Ed.ft 3 (a :: x) (b :: y) = true → 2 ≤ (a :: x).length ∧ 2 ≤ (b :: y).length := fun h => Ed.ft_len h
  obtain ⟨sw, hsw⟩ : ∃ s, s = Ed.ft 3 (a :: x) (b :: y) := ⟨_, rfl⟩
  rw [← hsw] at M3 M3n HS FL
  obtain ⟨m2, hm2⟩ : ∃ m, m = Ed.mn c (Ed.ds c) 2 (a :: x) (b :: y) := ⟨_, rfl⟩
  obtain ⟨m3, hm3⟩ : ∃ m, m = Ed.mn c (Ed.ds c) 3 (a :: x) (b :: y) := ⟨_, rfl⟩
  obtain ⟨m4, hm4⟩ : ∃ m, m = Ed.mn c (Ed.ds c) 4 (a :: x) (b :: y) := ⟨_, rfl⟩
  rw [← hm2] at M2 M3 M3n
  rw [← hm3] at M3 M3n M4
  rw [← hm4] at M4 M5
  obtain ⟨d1, hd1⟩ : ∃ d, d = Ed.ds c x y := ⟨_, rfl⟩
  obtain ⟨d2, hd2⟩ : ∃ d, d = Ed.ds c (x.drop 1) (y.drop 1) := ⟨_, rfl⟩
  obtain ⟨d3, hd3⟩ : ∃ d, d = Ed.ds c x (b :: y) := ⟨_, rfl⟩
  obtain ⟨d4, hd4⟩ : ∃ d, d = Ed.ds c (a :: x) y := ⟨_, rfl⟩
  obtain ⟨d5, hd5⟩ : ∃ d, d = Ed.ds c (a :: x) (b :: y) := ⟨_, rfl⟩
  rw [← hd1] at n1 h1 M2
  rw [← hd2] at n2 h2 M3
  rw [← hd3] at n3 h3 M4
  rw [← hd4] at n4 h4 M5
  rw [← hd5] at M5 ⊢
  clear hd1 hd2 hd3 hd4 hd5 hm2 hm3 hm4 hsw E5
  have T1 := Ed.tail_is (a :: x) ⟨(a :: x).toArray⟩ 1 rfl
  have T2 := Ed.tail_is (b :: y) ⟨(b :: y).toArray⟩ 1 rfl
  have T3 := Ed.tail_is (a :: x) ⟨(a :: x).toArray⟩ 2 rfl
  have T4 := Ed.tail_is (b :: y) ⟨(b :: y).toArray⟩ 2 rfl
  have sA := Ed.size_is (a :: x)
  have sB := Ed.size_is (b :: y)
  have KB : 0 ≤ (if a = b then 0 else c.chg) ∧ (if a = b then 0 else c.chg) ≤ 1000 := by
    have := hc.2.2.1
    split <;> omega
  exact search_go ⟨(a :: x).toArray⟩ ⟨(b :: y).toArray⟩ c (if a = b then 0 else c.chg) d1 d2 d3 d4 m2 m3 m4 d5 sw a b (by rw [sA]; simp) (by rw [sB]; simp) rfl rfl rfl
    (by rw [T1, T2]; exact h1) (fun hs => ⟨by rw [sA]; exact (FL hs).1, by rw [sB]; exact (FL hs).2, by rw [T3, T4]; exact h2⟩) (by rw [T1]; exact h3) (by rw [T2]; exact h4) HS ⟨n1, n2, n3, n4⟩ KB hc M2.symm ⟨M3, M3n⟩ M4 M5 w
theorem search_any (c : Ed.Cs) (hc : Ed.Rc c) (n : Nat) : ∀ (xs ys : Ed.Bs), xs.length + ys.length ≤ n → xs.length ≤ 60 → ys.length ≤ 60 → ∀ w, Calls Try.prog 17 #[sb xs, sb ys, cv c] w fun e w' => e = .returned (.int .i64 (Ed.ds c xs ys)) ∧ Below w.heap.size w w' := by
  induction n with
  | zero =>
    intro xs ys h _ _ w
    obtain rfl : xs = [] := List.eq_nil_of_length_eq_zero (by omega)
    obtain rfl : ys = [] := List.eq_nil_of_length_eq_zero (by omega)
    exact search_nil c w
  | succ n ih =>
    intro xs ys h hx hy w
    cases xs with
    | nil =>
      cases ys with
      | nil => exact search_nil c w
      | cons b y => exact search_ins b y c hc hy (ih [] y (by simp at h ⊢; omega) (by simp) (by simp at hy; omega)) w
    | cons a x =>
      cases ys with
      | nil => exact search_del a x c hc hx (ih x [] (by simp at h ⊢; omega) (by simp at hx; omega) (by simp)) w
      | cons b y =>
        exact search_both a x b y c hc hx hy (ih x y (by simp at h; omega) (by simp at hx; omega) (by simp at hy; omega))
          (ih (x.drop 1) (y.drop 1) (by simp at h ⊢; omega) (by simp at hx ⊢; omega) (by simp at hy ⊢; omega)) (ih x (b :: y) (by simp at h ⊢; omega) (by simp at hx; omega) hy) (ih (a :: x) y (by simp at h ⊢; omega) hx (by simp at hy; omega)) w
end Go.Proofs.Ytalldnnegofdkaa
