/- The reference's fits. -/
import Derived.Test.YtalldnnegofdkaaEp
namespace Go.Proofs.Ytalldnnegofdkaa
open Go.RowKit Go.Shelf

theorem results_four {fn : Func} {t u v x : Tmp} (h : fn.results = #[.tmp t, .tmp u, .tmp v, .tmp x]) (tmps : Array Value) (P : Program) (w : World) :
    (results fn tmps).run P w = .ok (.tuple #[tmps.getD t undef, tmps.getD u undef, tmps.getD v undef, tmps.getD x undef]) w := by
  simp [results, h, go_sem]
theorem u8_eq {a b : UInt8} (h : a = b) : (((a.toNat : Nat) : Int) == ((b.toNat : Nat) : Int)) = true := by rw [h]; exact beq_self_eq_true _
theorem u8_neq {a b : UInt8} (h : a ≠ b) : (((a.toNat : Nat) : Int) == ((b.toNat : Nat) : Int)) = false := beq_eq_false_iff_ne.2 (fun e => h (UInt8.toNat_inj.1 (by omega)))
theorem u8_ne {a b : UInt8} (h : a ≠ b) : (((a.toNat : Nat) : Int) != ((b.toNat : Nat) : Int)) = true := by rw [bne, u8_neq h]; rfl
theorem u8_nne {a b : UInt8} (h : a = b) : (((a.toNat : Nat) : Int) != ((b.toNat : Nat) : Int)) = false := by rw [bne, u8_eq h]; rfl
set_option maxRecDepth 100000 in
theorem rfits1_1 (y : Ed.Bs) (c : Ed.Cs) (w : World) : Calls Try.prog 47 #[.int .u8 1, sb (([] : Ed.Bs)), sb (y), cv c] w fun e w' => e = .returned (.tuple #[.bool false, .int .i64 1, .int .i64 1, .int .i64 0]) ∧ Below w.heap.size w w' := by
  obtain ⟨A, hA⟩ : ∃ A : ByteArray, A = ⟨(([] : Ed.Bs)).toArray⟩ := ⟨_, rfl⟩
  have eA : sb (([] : Ed.Bs)) = .string A := by rw [hA]
  rw [eA]
  have pA0 : ¬ ((0 : Int) < (A.size : Int)) := by rw [hA, Ed.size_is]; simp
  have PA0 : ¬ 0 < A.size := by omega
  have qA0 : (A.size : Int) ≤ 0 := by omega
  have rA0 : decide ((0 : Int) < (A.size : Int)) = false := decide_eq_false pA0
  have pA1 : ¬ ((1 : Int) < (A.size : Int)) := by rw [hA, Ed.size_is]; simp
  have PA1 : ¬ 1 < A.size := by omega
  have qA1 : (A.size : Int) ≤ 1 := by omega
  have rA1 : decide ((1 : Int) < (A.size : Int)) = false := decide_eq_false pA1
  obtain ⟨B, hB⟩ : ∃ A : ByteArray, A = ⟨(y).toArray⟩ := ⟨_, rfl⟩
  have eB : sb (y) = .string B := by rw [hB]
  rw [eB]
  clear hA hB eA eB
  go_enter Try.func47, Try.ntmps47
  go_wp2
  all_goals (first | (refine bodyPost_ret (results_four (by rfl) _ _ _) rfl ?_) | (go_quiet (fail); go_wp2; refine bodyPost_ret (results_four (by rfl) _ _ _) rfl ?_))
  all_goals exact ⟨rfl, by first | exact (Below.refl _ _).alloc (Nat.le_refl _) _ | exact below_drewN ((Below.refl _ _).alloc (Nat.le_refl _) _) _⟩
set_option maxRecDepth 100000 in
theorem rfits1_2 (a : UInt8) (x : Ed.Bs) (c : Ed.Cs) (w : World) : Calls Try.prog 47 #[.int .u8 1, sb (a :: x), sb (([] : Ed.Bs)), cv c] w fun e w' => e = .returned (.tuple #[.bool false, .int .i64 1, .int .i64 1, .int .i64 0]) ∧ Below w.heap.size w w' := by
  obtain ⟨A, hA⟩ : ∃ A : ByteArray, A = ⟨(a :: x).toArray⟩ := ⟨_, rfl⟩
  have eA : sb (a :: x) = .string A := by rw [hA]
  rw [eA]
  have pA0 : ((0 : Nat) : Int) < (A.size : Int) := by rw [hA, Ed.size_is]; simp; try omega
  have PA0 : 0 < A.size := by omega
  have GA0 : A[0] = a := by subst hA; rfl
  obtain ⟨B, hB⟩ : ∃ A : ByteArray, A = ⟨(([] : Ed.Bs)).toArray⟩ := ⟨_, rfl⟩
  have eB : sb (([] : Ed.Bs)) = .string B := by rw [hB]
  rw [eB]
  have pB0 : ¬ ((0 : Int) < (B.size : Int)) := by rw [hB, Ed.size_is]; simp
  have PB0 : ¬ 0 < B.size := by omega
  have qB0 : (B.size : Int) ≤ 0 := by omega
  have rB0 : decide ((0 : Int) < (B.size : Int)) = false := decide_eq_false pB0
  have pB1 : ¬ ((1 : Int) < (B.size : Int)) := by rw [hB, Ed.size_is]; simp
  have PB1 : ¬ 1 < B.size := by omega
  have qB1 : (B.size : Int) ≤ 1 := by omega
  have rB1 : decide ((1 : Int) < (B.size : Int)) = false := decide_eq_false pB1
  clear hA hB eA eB
  go_enter Try.func47, Try.ntmps47
  go_wp2
  all_goals (first | (refine bodyPost_ret (results_four (by rfl) _ _ _) rfl ?_) | (go_quiet (fail); go_wp2; refine bodyPost_ret (results_four (by rfl) _ _ _) rfl ?_))
  all_goals exact ⟨rfl, by first | exact (Below.refl _ _).alloc (Nat.le_refl _) _ | exact below_drewN ((Below.refl _ _).alloc (Nat.le_refl _) _) _⟩
set_option maxRecDepth 100000 in
theorem rfits1_3 (a b : UInt8) (x y : Ed.Bs) (c : Ed.Cs) (w : World) (h : a = b) : Calls Try.prog 47 #[.int .u8 1, sb (a :: x), sb (b :: y), cv c] w fun e w' => e = .returned (.tuple #[.bool true, .int .i64 1, .int .i64 1, .int .i64 0]) ∧ Below w.heap.size w w' := by
  obtain ⟨A, hA⟩ : ∃ A : ByteArray, A = ⟨(a :: x).toArray⟩ := ⟨_, rfl⟩
  have eA : sb (a :: x) = .string A := by rw [hA]
  rw [eA]
  have pA0 : ((0 : Nat) : Int) < (A.size : Int) := by rw [hA, Ed.size_is]; simp; try omega
  have PA0 : 0 < A.size := by omega
  have GA0 : A[0] = a := by subst hA; rfl
  obtain ⟨B, hB⟩ : ∃ A : ByteArray, A = ⟨(b :: y).toArray⟩ := ⟨_, rfl⟩
  have eB : sb (b :: y) = .string B := by rw [hB]
  rw [eB]
  have pB0 : ((0 : Nat) : Int) < (B.size : Int) := by rw [hB, Ed.size_is]; simp; try omega
  have PB0 : 0 < B.size := by omega
  have GB0 : B[0] = b := by subst hB; rfl
  have F := u8_eq h
  clear h
  clear hA hB eA eB
  go_enter Try.func47, Try.ntmps47
  go_wp2
  all_goals (first | (refine bodyPost_ret (results_four (by rfl) _ _ _) rfl ?_) | (go_quiet (fail); go_wp2; refine bodyPost_ret (results_four (by rfl) _ _ _) rfl ?_))
  all_goals exact ⟨rfl, by first | exact (Below.refl _ _).alloc (Nat.le_refl _) _ | exact below_drewN ((Below.refl _ _).alloc (Nat.le_refl _) _) _⟩
set_option maxRecDepth 100000 in
theorem rfits1_4 (a b : UInt8) (x y : Ed.Bs) (c : Ed.Cs) (w : World) (h : a ≠ b) : Calls Try.prog 47 #[.int .u8 1, sb (a :: x), sb (b :: y), cv c] w fun e w' => e = .returned (.tuple #[.bool false, .int .i64 1, .int .i64 1, .int .i64 0]) ∧ Below w.heap.size w w' := by
  obtain ⟨A, hA⟩ : ∃ A : ByteArray, A = ⟨(a :: x).toArray⟩ := ⟨_, rfl⟩
  have eA : sb (a :: x) = .string A := by rw [hA]
  rw [eA]
  have pA0 : ((0 : Nat) : Int) < (A.size : Int) := by rw [hA, Ed.size_is]; simp; try omega
  have PA0 : 0 < A.size := by omega
  have GA0 : A[0] = a := by subst hA; rfl
  obtain ⟨B, hB⟩ : ∃ A : ByteArray, A = ⟨(b :: y).toArray⟩ := ⟨_, rfl⟩
  have eB : sb (b :: y) = .string B := by rw [hB]
  rw [eB]
  have pB0 : ((0 : Nat) : Int) < (B.size : Int) := by rw [hB, Ed.size_is]; simp; try omega
  have PB0 : 0 < B.size := by omega
  have GB0 : B[0] = b := by subst hB; rfl
  have F := u8_neq h
  clear h
  clear hA hB eA eB
  go_enter Try.func47, Try.ntmps47
  go_wp2
  all_goals (first | (refine bodyPost_ret (results_four (by rfl) _ _ _) rfl ?_) | (go_quiet (fail); go_wp2; refine bodyPost_ret (results_four (by rfl) _ _ _) rfl ?_))
  all_goals exact ⟨rfl, by first | exact (Below.refl _ _).alloc (Nat.le_refl _) _ | exact below_drewN ((Below.refl _ _).alloc (Nat.le_refl _) _) _⟩
set_option maxRecDepth 100000 in
theorem rfits2_5 (y : Ed.Bs) (c : Ed.Cs) (w : World) : Calls Try.prog 47 #[.int .u8 2, sb (([] : Ed.Bs)), sb (y), cv c] w fun e w' => e = .returned (.tuple #[.bool false, .int .i64 1, .int .i64 1, .int .i64 c.chg]) ∧ Below w.heap.size w w' := by
  obtain ⟨A, hA⟩ : ∃ A : ByteArray, A = ⟨(([] : Ed.Bs)).toArray⟩ := ⟨_, rfl⟩
  have eA : sb (([] : Ed.Bs)) = .string A := by rw [hA]
  rw [eA]
  have pA0 : ¬ ((0 : Int) < (A.size : Int)) := by rw [hA, Ed.size_is]; simp
  have PA0 : ¬ 0 < A.size := by omega
  have qA0 : (A.size : Int) ≤ 0 := by omega
  have rA0 : decide ((0 : Int) < (A.size : Int)) = false := decide_eq_false pA0
  have pA1 : ¬ ((1 : Int) < (A.size : Int)) := by rw [hA, Ed.size_is]; simp
  have PA1 : ¬ 1 < A.size := by omega
  have qA1 : (A.size : Int) ≤ 1 := by omega
  have rA1 : decide ((1 : Int) < (A.size : Int)) = false := decide_eq_false pA1
  obtain ⟨B, hB⟩ : ∃ A : ByteArray, A = ⟨(y).toArray⟩ := ⟨_, rfl⟩
  have eB : sb (y) = .string B := by rw [hB]
  rw [eB]
  clear hA hB eA eB
  go_enter Try.func47, Try.ntmps47
  go_wp2
  all_goals (first | (refine bodyPost_ret (results_four (by rfl) _ _ _) rfl ?_) | (go_quiet (fail); go_wp2; refine bodyPost_ret (results_four (by rfl) _ _ _) rfl ?_))
  all_goals exact ⟨rfl, by first | exact (Below.refl _ _).alloc (Nat.le_refl _) _ | exact below_drewN ((Below.refl _ _).alloc (Nat.le_refl _) _) _⟩
set_option maxRecDepth 100000 in
theorem rfits2_6 (a : UInt8) (x : Ed.Bs) (c : Ed.Cs) (w : World) : Calls Try.prog 47 #[.int .u8 2, sb (a :: x), sb (([] : Ed.Bs)), cv c] w fun e w' => e = .returned (.tuple #[.bool false, .int .i64 1, .int .i64 1, .int .i64 c.chg]) ∧ Below w.heap.size w w' := by
  obtain ⟨A, hA⟩ : ∃ A : ByteArray, A = ⟨(a :: x).toArray⟩ := ⟨_, rfl⟩
  have eA : sb (a :: x) = .string A := by rw [hA]
  rw [eA]
  have pA0 : ((0 : Nat) : Int) < (A.size : Int) := by rw [hA, Ed.size_is]; simp; try omega
  have PA0 : 0 < A.size := by omega
  have GA0 : A[0] = a := by subst hA; rfl
  obtain ⟨B, hB⟩ : ∃ A : ByteArray, A = ⟨(([] : Ed.Bs)).toArray⟩ := ⟨_, rfl⟩
  have eB : sb (([] : Ed.Bs)) = .string B := by rw [hB]
  rw [eB]
  have pB0 : ¬ ((0 : Int) < (B.size : Int)) := by rw [hB, Ed.size_is]; simp
  have PB0 : ¬ 0 < B.size := by omega
  have qB0 : (B.size : Int) ≤ 0 := by omega
  have rB0 : decide ((0 : Int) < (B.size : Int)) = false := decide_eq_false pB0
  have pB1 : ¬ ((1 : Int) < (B.size : Int)) := by rw [hB, Ed.size_is]; simp
  have PB1 : ¬ 1 < B.size := by omega
  have qB1 : (B.size : Int) ≤ 1 := by omega
  have rB1 : decide ((1 : Int) < (B.size : Int)) = false := decide_eq_false pB1
  clear hA hB eA eB
  go_enter Try.func47, Try.ntmps47
  go_wp2
  all_goals (first | (refine bodyPost_ret (results_four (by rfl) _ _ _) rfl ?_) | (go_quiet (fail); go_wp2; refine bodyPost_ret (results_four (by rfl) _ _ _) rfl ?_))
  all_goals exact ⟨rfl, by first | exact (Below.refl _ _).alloc (Nat.le_refl _) _ | exact below_drewN ((Below.refl _ _).alloc (Nat.le_refl _) _) _⟩
set_option maxRecDepth 100000 in
theorem rfits2_7 (a b : UInt8) (x y : Ed.Bs) (c : Ed.Cs) (w : World) (h : a = b) : Calls Try.prog 47 #[.int .u8 2, sb (a :: x), sb (b :: y), cv c] w fun e w' => e = .returned (.tuple #[.bool false, .int .i64 1, .int .i64 1, .int .i64 c.chg]) ∧ Below w.heap.size w w' := by
  obtain ⟨A, hA⟩ : ∃ A : ByteArray, A = ⟨(a :: x).toArray⟩ := ⟨_, rfl⟩
  have eA : sb (a :: x) = .string A := by rw [hA]
  rw [eA]
  have pA0 : ((0 : Nat) : Int) < (A.size : Int) := by rw [hA, Ed.size_is]; simp; try omega
  have PA0 : 0 < A.size := by omega
  have GA0 : A[0] = a := by subst hA; rfl
  obtain ⟨B, hB⟩ : ∃ A : ByteArray, A = ⟨(b :: y).toArray⟩ := ⟨_, rfl⟩
  have eB : sb (b :: y) = .string B := by rw [hB]
  rw [eB]
  have pB0 : ((0 : Nat) : Int) < (B.size : Int) := by rw [hB, Ed.size_is]; simp; try omega
  have PB0 : 0 < B.size := by omega
  have GB0 : B[0] = b := by subst hB; rfl
  have F := u8_nne h
  clear h
  clear hA hB eA eB
  go_enter Try.func47, Try.ntmps47
  go_wp2
  all_goals (first | (refine bodyPost_ret (results_four (by rfl) _ _ _) rfl ?_) | (go_quiet (fail); go_wp2; refine bodyPost_ret (results_four (by rfl) _ _ _) rfl ?_))
  all_goals exact ⟨rfl, by first | exact (Below.refl _ _).alloc (Nat.le_refl _) _ | exact below_drewN ((Below.refl _ _).alloc (Nat.le_refl _) _) _⟩
set_option maxRecDepth 100000 in
theorem rfits2_8 (a b : UInt8) (x y : Ed.Bs) (c : Ed.Cs) (w : World) (h : a ≠ b) : Calls Try.prog 47 #[.int .u8 2, sb (a :: x), sb (b :: y), cv c] w fun e w' => e = .returned (.tuple #[.bool true, .int .i64 1, .int .i64 1, .int .i64 c.chg]) ∧ Below w.heap.size w w' := by
  obtain ⟨A, hA⟩ : ∃ A : ByteArray, A = ⟨(a :: x).toArray⟩ := ⟨_, rfl⟩
  have eA : sb (a :: x) = .string A := by rw [hA]
  rw [eA]
  have pA0 : ((0 : Nat) : Int) < (A.size : Int) := by rw [hA, Ed.size_is]; simp; try omega
  have PA0 : 0 < A.size := by omega
  have GA0 : A[0] = a := by subst hA; rfl
  obtain ⟨B, hB⟩ : ∃ A : ByteArray, A = ⟨(b :: y).toArray⟩ := ⟨_, rfl⟩
  have eB : sb (b :: y) = .string B := by rw [hB]
  rw [eB]
  have pB0 : ((0 : Nat) : Int) < (B.size : Int) := by rw [hB, Ed.size_is]; simp; try omega
  have PB0 : 0 < B.size := by omega
  have GB0 : B[0] = b := by subst hB; rfl
  have F := u8_ne h
  clear h
  clear hA hB eA eB
  go_enter Try.func47, Try.ntmps47
  go_wp2
  all_goals (first | (refine bodyPost_ret (results_four (by rfl) _ _ _) rfl ?_) | (go_quiet (fail); go_wp2; refine bodyPost_ret (results_four (by rfl) _ _ _) rfl ?_))
  all_goals exact ⟨rfl, by first | exact (Below.refl _ _).alloc (Nat.le_refl _) _ | exact below_drewN ((Below.refl _ _).alloc (Nat.le_refl _) _) _⟩
set_option maxRecDepth 100000 in
theorem rfits3_9 (y : Ed.Bs) (c : Ed.Cs) (w : World) : Calls Try.prog 47 #[.int .u8 3, sb (([] : Ed.Bs)), sb (y), cv c] w fun e w' => e = .returned (.tuple #[.bool false, .int .i64 2, .int .i64 2, .int .i64 c.swp]) ∧ Below w.heap.size w w' := by
  obtain ⟨A, hA⟩ : ∃ A : ByteArray, A = ⟨(([] : Ed.Bs)).toArray⟩ := ⟨_, rfl⟩
  have eA : sb (([] : Ed.Bs)) = .string A := by rw [hA]
  rw [eA]
  have pA0 : ¬ ((0 : Int) < (A.size : Int)) := by rw [hA, Ed.size_is]; simp
  have PA0 : ¬ 0 < A.size := by omega
  have qA0 : (A.size : Int) ≤ 0 := by omega
  have rA0 : decide ((0 : Int) < (A.size : Int)) = false := decide_eq_false pA0
  have pA1 : ¬ ((1 : Int) < (A.size : Int)) := by rw [hA, Ed.size_is]; simp
  have PA1 : ¬ 1 < A.size := by omega
  have qA1 : (A.size : Int) ≤ 1 := by omega
  have rA1 : decide ((1 : Int) < (A.size : Int)) = false := decide_eq_false pA1
  obtain ⟨B, hB⟩ : ∃ A : ByteArray, A = ⟨(y).toArray⟩ := ⟨_, rfl⟩
  have eB : sb (y) = .string B := by rw [hB]
  rw [eB]
  clear hA hB eA eB
  go_enter Try.func47, Try.ntmps47
  go_wp2
  all_goals (first | (refine bodyPost_ret (results_four (by rfl) _ _ _) rfl ?_) | (go_quiet (fail); go_wp2; refine bodyPost_ret (results_four (by rfl) _ _ _) rfl ?_))
  all_goals exact ⟨rfl, by first | exact (Below.refl _ _).alloc (Nat.le_refl _) _ | exact below_drewN ((Below.refl _ _).alloc (Nat.le_refl _) _) _⟩
set_option maxRecDepth 100000 in
theorem rfits3_10 (a : UInt8) (y : Ed.Bs) (c : Ed.Cs) (w : World) : Calls Try.prog 47 #[.int .u8 3, sb ([a]), sb (y), cv c] w fun e w' => e = .returned (.tuple #[.bool false, .int .i64 2, .int .i64 2, .int .i64 c.swp]) ∧ Below w.heap.size w w' := by
  obtain ⟨A, hA⟩ : ∃ A : ByteArray, A = ⟨([a]).toArray⟩ := ⟨_, rfl⟩
  have eA : sb ([a]) = .string A := by rw [hA]
  rw [eA]
  have pA0 : ((0 : Nat) : Int) < (A.size : Int) := by rw [hA, Ed.size_is]; simp; try omega
  have PA0 : 0 < A.size := by omega
  have GA0 : A[0] = a := by subst hA; rfl
  have pA1 : ¬ ((1 : Int) < (A.size : Int)) := by rw [hA, Ed.size_is]; simp
  have PA1 : ¬ 1 < A.size := by omega
  have qA1 : (A.size : Int) ≤ 1 := by omega
  have rA1 : decide ((1 : Int) < (A.size : Int)) = false := decide_eq_false pA1
  obtain ⟨B, hB⟩ : ∃ A : ByteArray, A = ⟨(y).toArray⟩ := ⟨_, rfl⟩
  have eB : sb (y) = .string B := by rw [hB]
  rw [eB]
  clear hA hB eA eB
  go_enter Try.func47, Try.ntmps47
  go_wp2
  all_goals (first | (refine bodyPost_ret (results_four (by rfl) _ _ _) rfl ?_) | (go_quiet (fail); go_wp2; refine bodyPost_ret (results_four (by rfl) _ _ _) rfl ?_))
  all_goals exact ⟨rfl, by first | exact (Below.refl _ _).alloc (Nat.le_refl _) _ | exact below_drewN ((Below.refl _ _).alloc (Nat.le_refl _) _) _⟩
set_option maxRecDepth 100000 in
theorem rfits3_11 (a a' : UInt8) (x y : Ed.Bs) (c : Ed.Cs) (w : World) (hy : y.length ≤ 1) : Calls Try.prog 47 #[.int .u8 3, sb (a :: a' :: x), sb y, cv c] w fun e w' => e = .returned (.tuple #[.bool false, .int .i64 2, .int .i64 2, .int .i64 c.swp]) ∧ Below w.heap.size w w' := by
  obtain ⟨A, hA⟩ : ∃ A : ByteArray, A = ⟨(a :: a' :: x).toArray⟩ := ⟨_, rfl⟩
  have eA : sb (a :: a' :: x) = .string A := by rw [hA]
  rw [eA]
  have pA0 : ((0 : Nat) : Int) < (A.size : Int) := by rw [hA, Ed.size_is]; simp; try omega
  have PA0 : 0 < A.size := by omega
  have GA0 : A[0] = a := by subst hA; rfl
  have pA1 : ((1 : Nat) : Int) < (A.size : Int) := by rw [hA, Ed.size_is]; simp; try omega
  have PA1 : 1 < A.size := by omega
  have rA0 : (1 : Int) < (A.size : Int) := by omega
  have GA1 : A[1] = a' := by subst hA; rfl
  obtain ⟨B, hB⟩ : ∃ A : ByteArray, A = ⟨y.toArray⟩ := ⟨_, rfl⟩
  have eB : sb y = .string B := by rw [hB]
  rw [eB]
  have pB1 : ¬ ((1 : Int) < (B.size : Int)) := by rw [hB, Ed.size_is]; omega
  have PB1 : ¬ 1 < B.size := by omega
  have qB1 : (B.size : Int) ≤ 1 := by omega
  have rB1 : decide ((1 : Int) < (B.size : Int)) = false := decide_eq_false pB1
  clear hA hB eA eB hy
  go_enter Try.func47, Try.ntmps47
  go_wp2
  all_goals (first | (refine bodyPost_ret (results_four (by rfl) _ _ _) rfl ?_) | (go_quiet (fail); go_wp2; refine bodyPost_ret (results_four (by rfl) _ _ _) rfl ?_))
  all_goals exact ⟨rfl, by first | exact (Below.refl _ _).alloc (Nat.le_refl _) _ | exact below_drewN ((Below.refl _ _).alloc (Nat.le_refl _) _) _⟩
set_option maxRecDepth 100000 in
theorem rfits3_13 (a a' b b' : UInt8) (x y : Ed.Bs) (c : Ed.Cs) (w : World) (h : a = a') : Calls Try.prog 47 #[.int .u8 3, sb (a :: a' :: x), sb (b :: b' :: y), cv c] w fun e w' => e = .returned (.tuple #[.bool false, .int .i64 2, .int .i64 2, .int .i64 c.swp]) ∧ Below w.heap.size w w' := by
  obtain ⟨A, hA⟩ : ∃ A : ByteArray, A = ⟨(a :: a' :: x).toArray⟩ := ⟨_, rfl⟩
  have eA : sb (a :: a' :: x) = .string A := by rw [hA]
  rw [eA]
  have pA0 : ((0 : Nat) : Int) < (A.size : Int) := by rw [hA, Ed.size_is]; simp; try omega
  have PA0 : 0 < A.size := by omega
  have GA0 : A[0] = a := by subst hA; rfl
  have pA1 : ((1 : Nat) : Int) < (A.size : Int) := by rw [hA, Ed.size_is]; simp; try omega
  have PA1 : 1 < A.size := by omega
  have rA1 : (1 : Int) < (A.size : Int) := by omega
  have GA1 : A[1] = a' := by subst hA; rfl
  obtain ⟨B, hB⟩ : ∃ A : ByteArray, A = ⟨(b :: b' :: y).toArray⟩ := ⟨_, rfl⟩
  have eB : sb (b :: b' :: y) = .string B := by rw [hB]
  rw [eB]
  have pB0 : ((0 : Nat) : Int) < (B.size : Int) := by rw [hB, Ed.size_is]; simp; try omega
  have PB0 : 0 < B.size := by omega
  have GB0 : B[0] = b := by subst hB; rfl
  have pB1 : ((1 : Nat) : Int) < (B.size : Int) := by rw [hB, Ed.size_is]; simp; try omega
  have PB1 : 1 < B.size := by omega
  have rB1 : (1 : Int) < (B.size : Int) := by omega
  have GB1 : B[1] = b' := by subst hB; rfl
  have F := u8_nne h
  clear h
  clear hA hB eA eB
  go_enter Try.func47, Try.ntmps47
  go_wp2
  all_goals (first | (refine bodyPost_ret (results_four (by rfl) _ _ _) rfl ?_) | (go_quiet (fail); go_wp2; refine bodyPost_ret (results_four (by rfl) _ _ _) rfl ?_))
  all_goals exact ⟨rfl, by first | exact (Below.refl _ _).alloc (Nat.le_refl _) _ | exact below_drewN ((Below.refl _ _).alloc (Nat.le_refl _) _) _⟩
set_option maxRecDepth 100000 in
theorem rfits3_14 (a a' b b' : UInt8) (x y : Ed.Bs) (c : Ed.Cs) (w : World) (h : a ≠ a') (h1 : a ≠ b') : Calls Try.prog 47 #[.int .u8 3, sb (a :: a' :: x), sb (b :: b' :: y), cv c] w fun e w' => e = .returned (.tuple #[.bool false, .int .i64 2, .int .i64 2, .int .i64 c.swp]) ∧ Below w.heap.size w w' := by
  obtain ⟨A, hA⟩ : ∃ A : ByteArray, A = ⟨(a :: a' :: x).toArray⟩ := ⟨_, rfl⟩
  have eA : sb (a :: a' :: x) = .string A := by rw [hA]
  rw [eA]
  have pA0 : ((0 : Nat) : Int) < (A.size : Int) := by rw [hA, Ed.size_is]; simp; try omega
  have PA0 : 0 < A.size := by omega
  have GA0 : A[0] = a := by subst hA; rfl
  have pA1 : ((1 : Nat) : Int) < (A.size : Int) := by rw [hA, Ed.size_is]; simp; try omega
  have PA1 : 1 < A.size := by omega
  have rA1 : (1 : Int) < (A.size : Int) := by omega
  have GA1 : A[1] = a' := by subst hA; rfl
  obtain ⟨B, hB⟩ : ∃ A : ByteArray, A = ⟨(b :: b' :: y).toArray⟩ := ⟨_, rfl⟩
  have eB : sb (b :: b' :: y) = .string B := by rw [hB]
  rw [eB]
  have pB0 : ((0 : Nat) : Int) < (B.size : Int) := by rw [hB, Ed.size_is]; simp; try omega
  have PB0 : 0 < B.size := by omega
  have GB0 : B[0] = b := by subst hB; rfl
  have pB1 : ((1 : Nat) : Int) < (B.size : Int) := by rw [hB, Ed.size_is]; simp; try omega
  have PB1 : 1 < B.size := by omega
  have rB1 : (1 : Int) < (B.size : Int) := by omega
  have GB1 : B[1] = b' := by subst hB; rfl
  have F := u8_ne h
  have F1 := u8_neq h1
  clear h h1
  clear hA hB eA eB
  go_enter Try.func47, Try.ntmps47
  go_wp2
  all_goals (first | (refine bodyPost_ret (results_four (by rfl) _ _ _) rfl ?_) | (go_quiet (fail); go_wp2; refine bodyPost_ret (results_four (by rfl) _ _ _) rfl ?_))
  all_goals exact ⟨rfl, by first | exact (Below.refl _ _).alloc (Nat.le_refl _) _ | exact below_drewN ((Below.refl _ _).alloc (Nat.le_refl _) _) _⟩
set_option maxRecDepth 100000 in
theorem rfits3_15 (a a' b b' : UInt8) (x y : Ed.Bs) (c : Ed.Cs) (w : World) (h : a ≠ a') (h1 : a = b') (h2 : a' ≠ b) : Calls Try.prog 47 #[.int .u8 3, sb (a :: a' :: x), sb (b :: b' :: y), cv c] w fun e w' => e = .returned (.tuple #[.bool false, .int .i64 2, .int .i64 2, .int .i64 c.swp]) ∧ Below w.heap.size w w' := by
  obtain ⟨A, hA⟩ : ∃ A : ByteArray, A = ⟨(a :: a' :: x).toArray⟩ := ⟨_, rfl⟩
  have eA : sb (a :: a' :: x) = .string A := by rw [hA]
  rw [eA]
  have pA0 : ((0 : Nat) : Int) < (A.size : Int) := by rw [hA, Ed.size_is]; simp; try omega
  have PA0 : 0 < A.size := by omega
  have GA0 : A[0] = a := by subst hA; rfl
  have pA1 : ((1 : Nat) : Int) < (A.size : Int) := by rw [hA, Ed.size_is]; simp; try omega
  have PA1 : 1 < A.size := by omega
  have rA1 : (1 : Int) < (A.size : Int) := by omega
  have GA1 : A[1] = a' := by subst hA; rfl
  obtain ⟨B, hB⟩ : ∃ A : ByteArray, A = ⟨(b :: b' :: y).toArray⟩ := ⟨_, rfl⟩
  have eB : sb (b :: b' :: y) = .string B := by rw [hB]
  rw [eB]
  have pB0 : ((0 : Nat) : Int) < (B.size : Int) := by rw [hB, Ed.size_is]; simp; try omega
  have PB0 : 0 < B.size := by omega
  have GB0 : B[0] = b := by subst hB; rfl
  have pB1 : ((1 : Nat) : Int) < (B.size : Int) := by rw [hB, Ed.size_is]; simp; try omega
  have PB1 : 1 < B.size := by omega
  have rB1 : (1 : Int) < (B.size : Int) := by omega
  have GB1 : B[1] = b' := by subst hB; rfl
  have F := u8_ne h
  have F1 := u8_eq h1
  have F2 := u8_neq h2
  clear h h1 h2
  clear hA hB eA eB
  go_enter Try.func47, Try.ntmps47
  go_wp2
  all_goals (first | (refine bodyPost_ret (results_four (by rfl) _ _ _) rfl ?_) | (go_quiet (fail); go_wp2; refine bodyPost_ret (results_four (by rfl) _ _ _) rfl ?_))
  all_goals exact ⟨rfl, by first | exact (Below.refl _ _).alloc (Nat.le_refl _) _ | exact below_drewN ((Below.refl _ _).alloc (Nat.le_refl _) _) _⟩
set_option maxRecDepth 100000 in
theorem rfits3_16 (a a' b b' : UInt8) (x y : Ed.Bs) (c : Ed.Cs) (w : World) (h : a ≠ a') (h1 : a = b') (h2 : a' = b) : Calls Try.prog 47 #[.int .u8 3, sb (a :: a' :: x), sb (b :: b' :: y), cv c] w fun e w' => e = .returned (.tuple #[.bool true, .int .i64 2, .int .i64 2, .int .i64 c.swp]) ∧ Below w.heap.size w w' := by
  obtain ⟨A, hA⟩ : ∃ A : ByteArray, A = ⟨(a :: a' :: x).toArray⟩ := ⟨_, rfl⟩
  have eA : sb (a :: a' :: x) = .string A := by rw [hA]
  rw [eA]
  have pA0 : ((0 : Nat) : Int) < (A.size : Int) := by rw [hA, Ed.size_is]; simp; try omega
  have PA0 : 0 < A.size := by omega
  have GA0 : A[0] = a := by subst hA; rfl
  have pA1 : ((1 : Nat) : Int) < (A.size : Int) := by rw [hA, Ed.size_is]; simp; try omega
  have PA1 : 1 < A.size := by omega
  have rA1 : (1 : Int) < (A.size : Int) := by omega
  have GA1 : A[1] = a' := by subst hA; rfl
  obtain ⟨B, hB⟩ : ∃ A : ByteArray, A = ⟨(b :: b' :: y).toArray⟩ := ⟨_, rfl⟩
  have eB : sb (b :: b' :: y) = .string B := by rw [hB]
  rw [eB]
  have pB0 : ((0 : Nat) : Int) < (B.size : Int) := by rw [hB, Ed.size_is]; simp; try omega
  have PB0 : 0 < B.size := by omega
  have GB0 : B[0] = b := by subst hB; rfl
  have pB1 : ((1 : Nat) : Int) < (B.size : Int) := by rw [hB, Ed.size_is]; simp; try omega
  have PB1 : 1 < B.size := by omega
  have rB1 : (1 : Int) < (B.size : Int) := by omega
  have GB1 : B[1] = b' := by subst hB; rfl
  have F := u8_ne h
  have F1 := u8_eq h1
  have F2 := u8_eq h2
  clear h h1 h2
  clear hA hB eA eB
  go_enter Try.func47, Try.ntmps47
  go_wp2
  all_goals (first | (refine bodyPost_ret (results_four (by rfl) _ _ _) rfl ?_) | (go_quiet (fail); go_wp2; refine bodyPost_ret (results_four (by rfl) _ _ _) rfl ?_))
  all_goals exact ⟨rfl, by first | exact (Below.refl _ _).alloc (Nat.le_refl _) _ | exact below_drewN ((Below.refl _ _).alloc (Nat.le_refl _) _) _⟩
set_option maxRecDepth 100000 in
theorem rfits4_17 (y : Ed.Bs) (c : Ed.Cs) (w : World) : Calls Try.prog 47 #[.int .u8 4, sb (([] : Ed.Bs)), sb (y), cv c] w fun e w' => e = .returned (.tuple #[.bool false, .int .i64 1, .int .i64 0, .int .i64 c.del]) ∧ Below w.heap.size w w' := by
  obtain ⟨A, hA⟩ : ∃ A : ByteArray, A = ⟨(([] : Ed.Bs)).toArray⟩ := ⟨_, rfl⟩
  have eA : sb (([] : Ed.Bs)) = .string A := by rw [hA]
  rw [eA]
  have pA0 : ¬ ((0 : Int) < (A.size : Int)) := by rw [hA, Ed.size_is]; simp
  have PA0 : ¬ 0 < A.size := by omega
  have qA0 : (A.size : Int) ≤ 0 := by omega
  have rA0 : decide ((0 : Int) < (A.size : Int)) = false := decide_eq_false pA0
  have pA1 : ¬ ((1 : Int) < (A.size : Int)) := by rw [hA, Ed.size_is]; simp
  have PA1 : ¬ 1 < A.size := by omega
  have qA1 : (A.size : Int) ≤ 1 := by omega
  have rA1 : decide ((1 : Int) < (A.size : Int)) = false := decide_eq_false pA1
  obtain ⟨B, hB⟩ : ∃ A : ByteArray, A = ⟨(y).toArray⟩ := ⟨_, rfl⟩
  have eB : sb (y) = .string B := by rw [hB]
  rw [eB]
  clear hA hB eA eB
  go_enter Try.func47, Try.ntmps47
  go_wp2
  all_goals (first | (refine bodyPost_ret (results_four (by rfl) _ _ _) rfl ?_) | (go_quiet (fail); go_wp2; refine bodyPost_ret (results_four (by rfl) _ _ _) rfl ?_))
  all_goals exact ⟨rfl, by first | exact (Below.refl _ _).alloc (Nat.le_refl _) _ | exact below_drewN ((Below.refl _ _).alloc (Nat.le_refl _) _) _⟩
set_option maxRecDepth 100000 in
theorem rfits4_18 (a : UInt8) (x y : Ed.Bs) (c : Ed.Cs) (w : World) : Calls Try.prog 47 #[.int .u8 4, sb (a :: x), sb (y), cv c] w fun e w' => e = .returned (.tuple #[.bool true, .int .i64 1, .int .i64 0, .int .i64 c.del]) ∧ Below w.heap.size w w' := by
  obtain ⟨A, hA⟩ : ∃ A : ByteArray, A = ⟨(a :: x).toArray⟩ := ⟨_, rfl⟩
  have eA : sb (a :: x) = .string A := by rw [hA]
  rw [eA]
  have pA0 : ((0 : Nat) : Int) < (A.size : Int) := by rw [hA, Ed.size_is]; simp; try omega
  have PA0 : 0 < A.size := by omega
  have GA0 : A[0] = a := by subst hA; rfl
  obtain ⟨B, hB⟩ : ∃ A : ByteArray, A = ⟨(y).toArray⟩ := ⟨_, rfl⟩
  have eB : sb (y) = .string B := by rw [hB]
  rw [eB]
  clear hA hB eA eB
  go_enter Try.func47, Try.ntmps47
  go_wp2
  all_goals (first | (refine bodyPost_ret (results_four (by rfl) _ _ _) rfl ?_) | (go_quiet (fail); go_wp2; refine bodyPost_ret (results_four (by rfl) _ _ _) rfl ?_))
  all_goals exact ⟨rfl, by first | exact (Below.refl _ _).alloc (Nat.le_refl _) _ | exact below_drewN ((Below.refl _ _).alloc (Nat.le_refl _) _) _⟩
set_option maxRecDepth 100000 in
theorem rfits5_19 (x : Ed.Bs) (c : Ed.Cs) (w : World) : Calls Try.prog 47 #[.int .u8 5, sb (x), sb (([] : Ed.Bs)), cv c] w fun e w' => e = .returned (.tuple #[.bool false, .int .i64 0, .int .i64 1, .int .i64 c.ins]) ∧ Below w.heap.size w w' := by
  obtain ⟨A, hA⟩ : ∃ A : ByteArray, A = ⟨(x).toArray⟩ := ⟨_, rfl⟩
  have eA : sb (x) = .string A := by rw [hA]
  rw [eA]
  obtain ⟨B, hB⟩ : ∃ A : ByteArray, A = ⟨(([] : Ed.Bs)).toArray⟩ := ⟨_, rfl⟩
  have eB : sb (([] : Ed.Bs)) = .string B := by rw [hB]
  rw [eB]
  have pB0 : ¬ ((0 : Int) < (B.size : Int)) := by rw [hB, Ed.size_is]; simp
  have PB0 : ¬ 0 < B.size := by omega
  have qB0 : (B.size : Int) ≤ 0 := by omega
  have rB0 : decide ((0 : Int) < (B.size : Int)) = false := decide_eq_false pB0
  have pB1 : ¬ ((1 : Int) < (B.size : Int)) := by rw [hB, Ed.size_is]; simp
  have PB1 : ¬ 1 < B.size := by omega
  have qB1 : (B.size : Int) ≤ 1 := by omega
  have rB1 : decide ((1 : Int) < (B.size : Int)) = false := decide_eq_false pB1
  clear hA hB eA eB
  go_enter Try.func47, Try.ntmps47
  go_wp2
  all_goals (first | (refine bodyPost_ret (results_four (by rfl) _ _ _) rfl ?_) | (go_quiet (fail); go_wp2; refine bodyPost_ret (results_four (by rfl) _ _ _) rfl ?_))
  all_goals exact ⟨rfl, by first | exact (Below.refl _ _).alloc (Nat.le_refl _) _ | exact below_drewN ((Below.refl _ _).alloc (Nat.le_refl _) _) _⟩
set_option maxRecDepth 100000 in
theorem rfits5_20 (b : UInt8) (x y : Ed.Bs) (c : Ed.Cs) (w : World) : Calls Try.prog 47 #[.int .u8 5, sb (x), sb (b :: y), cv c] w fun e w' => e = .returned (.tuple #[.bool true, .int .i64 0, .int .i64 1, .int .i64 c.ins]) ∧ Below w.heap.size w w' := by
  obtain ⟨A, hA⟩ : ∃ A : ByteArray, A = ⟨(x).toArray⟩ := ⟨_, rfl⟩
  have eA : sb (x) = .string A := by rw [hA]
  rw [eA]
  obtain ⟨B, hB⟩ : ∃ A : ByteArray, A = ⟨(b :: y).toArray⟩ := ⟨_, rfl⟩
  have eB : sb (b :: y) = .string B := by rw [hB]
  rw [eB]
  have pB0 : ((0 : Nat) : Int) < (B.size : Int) := by rw [hB, Ed.size_is]; simp; try omega
  have PB0 : 0 < B.size := by omega
  have GB0 : B[0] = b := by subst hB; rfl
  clear hA hB eA eB
  go_enter Try.func47, Try.ntmps47
  go_wp2
  all_goals (first | (refine bodyPost_ret (results_four (by rfl) _ _ _) rfl ?_) | (go_quiet (fail); go_wp2; refine bodyPost_ret (results_four (by rfl) _ _ _) rfl ?_))
  all_goals exact ⟨rfl, by first | exact (Below.refl _ _).alloc (Nat.le_refl _) _ | exact below_drewN ((Below.refl _ _).alloc (Nat.le_refl _) _) _⟩
end Go.Proofs.Ytalldnnegofdkaa
