/- EditJoined's walk: two parts. -/
import Derived.Test.YtalldnnegofdkaaEy
namespace Go.Proofs.Ytalldnnegofdkaa
open Go.RowKit Go.Shelf

theorem rcb_no {c : Ed.Cs} (h : ¬ Ed.Rc c) : Ed.Rcb c = false := by
  cases e : Ed.Rcb c with
  | false => rfl
  | true => exact absurd ((Ed.rc_iff c).1 e) h
theorem max4 (x y z u : Int) : ∃ M : Int, (∀ w : World, (Builtin.max_ #[3, 3, 3, 3] 3 #[.int .i64 x, .int .i64 y, .int .i64 z, .int .i64 u]).run Try.prog w = .ok (.int .i64 M) w) ∧ x ≤ M ∧ y ≤ M ∧ z ≤ M ∧ u ≤ M ∧ (M = x ∨ M = y ∨ M = z ∨ M = u) := by
  refine ⟨if u > (if z > (if y > x then y else x) then z else (if y > x then y else x)) then u else (if z > (if y > x then y else x) then z else (if y > x then y else x)), fun w => ?_, ?_⟩
  · simp [Builtin.max_, Builtin.max2]
  · repeat' split
    all_goals omega
theorem rcb_yes {c : Ed.Cs} (h : Ed.Rc c) : Ed.Rcb c = true := (Ed.rc_iff c).2 h
set_option maxRecDepth 100000 in
set_option maxHeartbeats 6400000 in
theorem joined_no (a b x y : Ed.Bs) (c : Ed.Cs) (w : World) (h : 30 < a.length ∨ 30 < b.length ∨ 30 < x.length ∨ 30 < y.length) :
    Calls Try.prog 8 #[sb a, sb b, sb x, sb y, cv c] w fun e w' => e = .returned (.bool true) ∧ Below w.heap.size w w' := by
  have AW := Lib.hid awake_any
  have B0 := Lib.hid (show Below w.heap.size w (w.alloc (.cells #[.int .i64 c.ins, .int .i64 c.del, .int .i64 c.chg, .int .i64 c.swp] 23)) from (Below.refl _ _).alloc (Nat.le_refl _) _)
  have K0 := Lib.hid (Bxc.made w c)
  have SA := Ed.size_is a
  have SB := Ed.size_is b
  have SX := Ed.size_is x
  have SY := Ed.size_is y
  obtain ⟨A, hA⟩ : ∃ A : ByteArray, A = ⟨a.toArray⟩ := ⟨_, rfl⟩
  obtain ⟨B, hB⟩ : ∃ A : ByteArray, A = ⟨b.toArray⟩ := ⟨_, rfl⟩
  obtain ⟨X, hX⟩ : ∃ A : ByteArray, A = ⟨x.toArray⟩ := ⟨_, rfl⟩
  obtain ⟨Y, hY⟩ : ∃ A : ByteArray, A = ⟨y.toArray⟩ := ⟨_, rfl⟩
  show Calls Try.prog 8 #[.string ⟨a.toArray⟩, .string ⟨b.toArray⟩, .string ⟨x.toArray⟩, .string ⟨y.toArray⟩, cv c] w _
  rw [← hA, ← hB, ← hX, ← hY]
  rw [← SA, ← SB, ← SX, ← SY, ← hA, ← hB, ← hX, ← hY] at h
  obtain ⟨M, hM, m1, m2, m3, m4, m5⟩ := max4 A.size B.size X.size Y.size
  have hm : (30 : Int) < M := by omega
  clear hA hB hX hY SA SB SX SY m1 m2 m3 m4 m5 h
  go_enter Try.func8, Try.ntmps8
  go_wp2_with (go_at_call 11; (with_reducible refine (AW.out _).mono ?_); rintro e w1 ⟨rfl, b1⟩; have K1 := Lib.hid (K0.out.below b1); have B1 := Lib.hid (B0.out.trans (b1.mono B0.out.size)); obtain ⟨x0, x1, x2, x3⟩ := K1.out; clear b1)
  go_ret
  exact ⟨rfl, B1.out⟩
set_option maxRecDepth 100000 in
set_option maxHeartbeats 6400000 in
theorem joined_bad (a b x y : Ed.Bs) (c : Ed.Cs) (w : World) (ha : a.length ≤ 30) (hb : b.length ≤ 30) (hx : x.length ≤ 30) (hy : y.length ≤ 30) (hc : ¬ Ed.Rc c) :
    Calls Try.prog 8 #[sb a, sb b, sb x, sb y, cv c] w fun e w' => e = .returned (.bool true) ∧ Below w.heap.size w w' := by
  have AW := Lib.hid awake_any
  have B0 := Lib.hid (show Below w.heap.size w (w.alloc (.cells #[.int .i64 c.ins, .int .i64 c.del, .int .i64 c.chg, .int .i64 c.swp] 23)) from (Below.refl _ _).alloc (Nat.le_refl _) _)
  have K0 := Lib.hid (Bxc.made w c)
  have SA := Ed.size_is a
  have SB := Ed.size_is b
  have SX := Ed.size_is x
  have SY := Ed.size_is y
  obtain ⟨A, hA⟩ : ∃ A : ByteArray, A = ⟨a.toArray⟩ := ⟨_, rfl⟩
  obtain ⟨B, hB⟩ : ∃ A : ByteArray, A = ⟨b.toArray⟩ := ⟨_, rfl⟩
  obtain ⟨X, hX⟩ : ∃ A : ByteArray, A = ⟨x.toArray⟩ := ⟨_, rfl⟩
  obtain ⟨Y, hY⟩ : ∃ A : ByteArray, A = ⟨y.toArray⟩ := ⟨_, rfl⟩
  show Calls Try.prog 8 #[.string ⟨a.toArray⟩, .string ⟨b.toArray⟩, .string ⟨x.toArray⟩, .string ⟨y.toArray⟩, cv c] w _
  rw [← hA, ← hB, ← hX, ← hY]
  rw [← SA, ← hA] at ha
  rw [← SB, ← hB] at hb
  rw [← SX, ← hX] at hx
  rw [← SY, ← hY] at hy
  have RA := right_any c
  rw [rcb_no hc] at RA
  have RH := Lib.hid RA
  obtain ⟨M, hM, m1, m2, m3, m4, m5⟩ := max4 A.size B.size X.size Y.size
  have hm : ¬ (30 : Int) < M := by omega
  clear hA hB hX hY SA SB SX SY RA hc m1 m2 m3 m4 m5 ha hb hx hy
  go_enter Try.func8, Try.ntmps8
  go_wp2_with (first
    | (go_at_call 11; (with_reducible refine (AW.out _).mono ?_); rintro e w1 ⟨rfl, b1⟩; have K1 := Lib.hid (K0.out.below b1); have B1 := Lib.hid (B0.out.trans (b1.mono B0.out.size)); obtain ⟨x0, x1, x2, x3⟩ := K1.out; clear b1)
    | (go_at_call 18; (with_reducible refine (RH.out _).mono ?_); rintro e w1 ⟨rfl, b1⟩; have K1 := Lib.hid (K1.out.below b1); have B1 := Lib.hid (B1.out.trans (b1.mono B1.out.size)); clear x0 x1 x2 x3; obtain ⟨x0, x1, x2, x3⟩ := K1.out; clear b1))
  go_ret
  exact ⟨rfl, B1.out⟩
set_option maxRecDepth 100000 in
set_option maxHeartbeats 6400000 in
theorem joined_ok (a b x y : Ed.Bs) (c : Ed.Cs) (w : World) (ha : a.length ≤ 30) (hb : b.length ≤ 30) (hx : x.length ≤ 30) (hy : y.length ≤ 30) (hc : Ed.Rc c) :
    Calls Try.prog 8 #[sb a, sb b, sb x, sb y, cv c] w fun e w' => e = .returned (.bool true) ∧ Below w.heap.size w w' := by
  have AW := Lib.hid awake_any
  have B0 := Lib.hid (show Below w.heap.size w (w.alloc (.cells #[.int .i64 c.ins, .int .i64 c.del, .int .i64 c.chg, .int .i64 c.swp] 23)) from (Below.refl _ _).alloc (Nat.le_refl _) _)
  have K0 := Lib.hid (Bxc.made w c)
  have SA := Ed.size_is a
  have SB := Ed.size_is b
  have SX := Ed.size_is x
  have SY := Ed.size_is y
  obtain ⟨A, hA⟩ : ∃ A : ByteArray, A = ⟨a.toArray⟩ := ⟨_, rfl⟩
  obtain ⟨B, hB⟩ : ∃ A : ByteArray, A = ⟨b.toArray⟩ := ⟨_, rfl⟩
  obtain ⟨X, hX⟩ : ∃ A : ByteArray, A = ⟨x.toArray⟩ := ⟨_, rfl⟩
  obtain ⟨Y, hY⟩ : ∃ A : ByteArray, A = ⟨y.toArray⟩ := ⟨_, rfl⟩
  have RA := right_any c
  rw [rcb_yes hc] at RA
  have RH := Lib.hid RA
  have l1 : (a ++ x).length ≤ 60 := by rw [List.length_append]; omega
  have l2 : (b ++ y).length ≤ 60 := by rw [List.length_append]; omega
  have D1 := distance_ok c hc (a ++ x) (b ++ y) l1 l2
  have D2 := distance_ok c hc a b (by omega) (by omega)
  have D3 := distance_ok c hc x y (by omega) (by omega)
  have h1 := Ed.ds_app hc ha hb hx hy
  have h2 := Ed.ds_up c (a ++ x) (b ++ y)
  have h3 := Ed.ds_zero hc l1 l2
  have n1 := Ed.ds_bd hc (a ++ x) (b ++ y) l1 l2
  have n2 := Ed.ds_bd hc a b (by omega) (by omega)
  have n3 := Ed.ds_bd hc x y (by omega) (by omega)
  have p1 := Ed.mul_le60 l1 hc.2.1.1 hc.2.1.2
  have p2 := Ed.mul_le60 l2 hc.1.1 hc.1.2
  have p3 : 0 ≤ ((a ++ x).length : Int) * c.del := Int.mul_nonneg (by omega) (by have := hc.2.1.1; omega)
  have p4 : 0 ≤ ((b ++ y).length : Int) * c.ins := Int.mul_nonneg (by omega) (by have := hc.1.1; omega)
  obtain ⟨d1, hd1⟩ : ∃ d, d = Ed.ds c (a ++ x) (b ++ y) := ⟨_, rfl⟩
  obtain ⟨d2, hd2⟩ : ∃ d, d = Ed.ds c a b := ⟨_, rfl⟩
  obtain ⟨d3, hd3⟩ : ∃ d, d = Ed.ds c x y := ⟨_, rfl⟩
  rw [← hd1] at D1 h1 h2 h3 n1
  rw [← hd2] at D2 h1 n2
  rw [← hd3] at D3 h1 n3
  have SAX := Ed.size_is (a ++ x)
  have SBY := Ed.size_is (b ++ y)
  obtain ⟨S1, hS1⟩ : ∃ A : ByteArray, A = ⟨(a ++ x).toArray⟩ := ⟨_, rfl⟩
  obtain ⟨S2, hS2⟩ : ∃ A : ByteArray, A = ⟨(b ++ y).toArray⟩ := ⟨_, rfl⟩
  have AX : A ++ X = S1 := by rw [hA, hX, hS1]; exact app a x
  have BY : B ++ Y = S2 := by rw [hB, hY, hS2]; exact app b y
  rw [← SAX, ← hS1] at h2 p1 p3
  rw [← SBY, ← hS2] at h2 p2 p4
  have hS : (a ++ x = b ++ y) → S1 = S2 := fun e => by rw [hS1, hS2, e]
  have e1 : sb (a ++ x) = .string S1 := by rw [hS1]
  have e2 : sb (b ++ y) = .string S2 := by rw [hS2]
  have e3 : sb a = .string A := by rw [hA]
  have e4 : sb b = .string B := by rw [hB]
  have e5 : sb x = .string X := by rw [hX]
  have e6 : sb y = .string Y := by rw [hY]
  rw [e1, e2] at D1
  rw [e3, e4] at D2
  rw [e5, e6] at D3
  rw [e3, e4, e5, e6]
  have zA : A.size ≤ 30 := by rw [hA, SA]; exact ha
  have zB : B.size ≤ 30 := by rw [hB, SB]; exact hb
  have zX : X.size ≤ 30 := by rw [hX, SX]; exact hx
  have zY : Y.size ≤ 30 := by rw [hY, SY]; exact hy
  have hpos : 0 < d1 ∨ S1 = S2 := by
    by_cases e : d1 = 0
    · exact Or.inr (hS (h3.1 e))
    · exact Or.inl (by omega)
  have D1H := Lib.hid D1
  have D2H := Lib.hid D2
  have D3H := Lib.hid D3
  obtain ⟨M, hM, m1, m2, m3, m4, m5⟩ := max4 A.size B.size X.size Y.size
  have hm : ¬ (30 : Int) < M := by omega
  have z1 : A.size + X.size ≤ 9223372036854775807 := by omega
  have z2 : B.size + Y.size ≤ 9223372036854775807 := by omega
  obtain ⟨P1, hP1⟩ : ∃ P, P = (S1.size : Int) * c.del := ⟨_, rfl⟩
  obtain ⟨P2, hP2⟩ : ∃ P, P = (S2.size : Int) * c.ins := ⟨_, rfl⟩
  rw [← hP1] at h2 p1 p3
  rw [← hP2] at h2 p2 p4
  have q0 : IntKind.i64.wrap (d2 + d3) = d2 + d3 := IntWalk.i64_in _ (by omega)
  have q1 : (S1.size : Int) * c.del = P1 := hP1.symm
  have q2 : (S2.size : Int) * c.ins = P2 := hP2.symm
  have q3 : IntKind.i64.wrap P1 = P1 := IntWalk.i64_in _ (by omega)
  have q4 : IntKind.i64.wrap P2 = P2 := IntWalk.i64_in _ (by omega)
  have q5 : IntKind.i64.wrap (P1 + P2) = P1 + P2 := IntWalk.i64_in _ (by omega)
  have HPO := Lib.hid hpos
  clear RA D1 D2 D3 hA hB hX hY SA SB SX SY SAX SBY hS1 hS2 e1 e2 e3 e4 e5 e6 m1 m2 m3 m4 m5 hd1 hd2 hd3 hS h3 l1 l2 ha hb hx hy hP1 hP2 hc hpos
  have K0 := K0
  by_cases hd : 0 < d1
  · go_enter Try.func8, Try.ntmps8
    go_wp2_with (first
      | (go_at_call 11; (with_reducible refine (AW.out _).mono ?_); rintro e w1 ⟨rfl, b1⟩; have K1 := Lib.hid (K0.out.below b1); have B1 := Lib.hid (B0.out.trans (b1.mono B0.out.size)); obtain ⟨x0, x1, x2, x3⟩ := K1.out; clear b1)
      | (go_at_call 18; (with_reducible refine (RH.out _).mono ?_); rintro e w1 ⟨rfl, b1⟩; have K1 := Lib.hid (K1.out.below b1); have B1 := Lib.hid (B1.out.trans (b1.mono B1.out.size)); clear x0 x1 x2 x3; obtain ⟨x0, x1, x2, x3⟩ := K1.out; clear b1)
      | (go_at_call 16; (with_reducible refine (D1H.out _).mono ?_); rintro e w1 ⟨rfl, b1⟩; have K1 := Lib.hid (K1.out.below b1); have B1 := Lib.hid (B1.out.trans (b1.mono B1.out.size)); clear x0 x1 x2 x3; obtain ⟨x0, x1, x2, x3⟩ := K1.out; clear b1)
      | (go_at_call 16; (with_reducible refine (D2H.out _).mono ?_); rintro e w1 ⟨rfl, b1⟩; have K1 := Lib.hid (K1.out.below b1); have B1 := Lib.hid (B1.out.trans (b1.mono B1.out.size)); clear x0 x1 x2 x3; obtain ⟨x0, x1, x2, x3⟩ := K1.out; clear b1)
      | (go_at_call 16; (with_reducible refine (D3H.out _).mono ?_); rintro e w1 ⟨rfl, b1⟩; have K1 := Lib.hid (K1.out.below b1); have B1 := Lib.hid (B1.out.trans (b1.mono B1.out.size)); clear x0 x1 x2 x3; obtain ⟨x0, x1, x2, x3⟩ := K1.out; clear b1))
    go_ret
    exact ⟨rfl, B1.out⟩
  · obtain rfl : S1 = S2 := HPO.out.resolve_left hd
    go_enter Try.func8, Try.ntmps8
    go_wp2_with (first
      | (go_at_call 11; (with_reducible refine (AW.out _).mono ?_); rintro e w1 ⟨rfl, b1⟩; have K1 := Lib.hid (K0.out.below b1); have B1 := Lib.hid (B0.out.trans (b1.mono B0.out.size)); obtain ⟨x0, x1, x2, x3⟩ := K1.out; clear b1)
      | (go_at_call 18; (with_reducible refine (RH.out _).mono ?_); rintro e w1 ⟨rfl, b1⟩; have K1 := Lib.hid (K1.out.below b1); have B1 := Lib.hid (B1.out.trans (b1.mono B1.out.size)); clear x0 x1 x2 x3; obtain ⟨x0, x1, x2, x3⟩ := K1.out; clear b1)
      | (go_at_call 16; (with_reducible refine (D1H.out _).mono ?_); rintro e w1 ⟨rfl, b1⟩; have K1 := Lib.hid (K1.out.below b1); have B1 := Lib.hid (B1.out.trans (b1.mono B1.out.size)); clear x0 x1 x2 x3; obtain ⟨x0, x1, x2, x3⟩ := K1.out; clear b1)
      | (go_at_call 16; (with_reducible refine (D2H.out _).mono ?_); rintro e w1 ⟨rfl, b1⟩; have K1 := Lib.hid (K1.out.below b1); have B1 := Lib.hid (B1.out.trans (b1.mono B1.out.size)); clear x0 x1 x2 x3; obtain ⟨x0, x1, x2, x3⟩ := K1.out; clear b1)
      | (go_at_call 16; (with_reducible refine (D3H.out _).mono ?_); rintro e w1 ⟨rfl, b1⟩; have K1 := Lib.hid (K1.out.below b1); have B1 := Lib.hid (B1.out.trans (b1.mono B1.out.size)); clear x0 x1 x2 x3; obtain ⟨x0, x1, x2, x3⟩ := K1.out; clear b1))
    go_ret
    exact ⟨rfl, B1.out⟩
theorem walk_editJoined (w : World) (a : ByteArray) (_ha : a.size ≤ maxLen) (b : ByteArray) (_hb : b.size ≤ maxLen) (x : ByteArray) (_hx : x.size ≤ maxLen) (y : ByteArray) (_hy : y.size ≤ maxLen) (c : Ed.Cs) :
    Calls Try.prog 8 #[.string a, .string b, .string x, .string y, cv c] w fun e w' => e = .returned (.bool true) ∧ Below w.heap.size w w' := by
  show Calls Try.prog 8 #[sb a.data.toList, sb b.data.toList, sb x.data.toList, sb y.data.toList, cv c] w _
  by_cases h : a.data.toList.length ≤ 30 ∧ b.data.toList.length ≤ 30 ∧ x.data.toList.length ≤ 30 ∧ y.data.toList.length ≤ 30
  · by_cases hc : Ed.Rc c
    · exact joined_ok _ _ _ _ c w h.1 h.2.1 h.2.2.1 h.2.2.2 hc
    · exact joined_bad _ _ _ _ c w h.1 h.2.1 h.2.2.1 h.2.2.2 hc
  · exact joined_no _ _ _ _ c w (by omega)
end Go.Proofs.Ytalldnnegofdkaa
