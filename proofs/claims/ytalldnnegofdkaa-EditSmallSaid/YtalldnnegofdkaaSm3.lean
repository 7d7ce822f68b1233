/- The contract of 'search': texts that both have bytes; any texts. -/
import Derived.Test.YtalldnnegofdkaaSm2
namespace Go.Proofs.Ytalldnnegofdkaa
open Go.RowKit Go.Shelf

theorem two_bytes (A : ByteArray) (h : 1 < A.size) (p q x y : UInt8) (e1 : A[0] = p) (e2 : A[1] = q) : ((A.extract 0 2).toList == [x, y]) = (p == x && q == y) := by
  have hl : 2 ≤ A.data.toList.length := by rw [Ed.list_size]; exact h
  match hm : A.data.toList, hl with
  | a :: b :: l, _ =>
    have hA : A = ⟨(a :: b :: l).toArray⟩ := by rw [← hm]
    subst hA
    have e3 : a = p := e1
    have e4 : b = q := e2
    subst e3
    subst e4
    rw [Ed.extract_is, Lib.toList_data]
    show (([a, b] : List UInt8) == [x, y]) = _
    simp
set_option maxRecDepth 100000 in
set_option maxHeartbeats 3200000 in
theorem search_go (A B : ByteArray) (c : Ed.Cs) (k1 d1 d2 d3 d4 M2 M3 M4 M5 : Int) (sw : Bool) (pa : UInt8) (pb : UInt8) (hA : 1 ≤ A.size) (hB : 1 ≤ B.size) (ga : A[0] = pa) (gb0 : B[0] = pb)
    (hk : k1 = if pa = pb then 0 else c.chg)
    (h1 : ∀ W, Calls Try.prog 17 #[.string (A.extract 1 A.size), .string (B.extract 1 B.size), cv c] W fun e w' => e = .returned (.int .i64 d1) ∧ Below W.heap.size W w')
    (h2 : sw = true → 2 ≤ A.size ∧ 2 ≤ B.size ∧ ∀ W, Calls Try.prog 17 #[.string (A.extract 2 A.size), .string (B.extract 2 B.size), cv c] W fun e w' => e = .returned (.int .i64 d2) ∧ Below W.heap.size W w')
    (h3 : ∀ W, Calls Try.prog 17 #[.string (A.extract 1 A.size), .string B, cv c] W fun e w' => e = .returned (.int .i64 d3) ∧ Below W.heap.size W w')
    (h4 : ∀ W, Calls Try.prog 17 #[.string A, .string (B.extract 1 B.size), cv c] W fun e w' => e = .returned (.int .i64 d4) ∧ Below W.heap.size W w')
    (hs : (sw = false ∧ (¬ 1 < A.size ∨ ¬ 1 < B.size)) ∨ ∃ (_ : 1 < A.size) (_ : 1 < B.size), sw = ((A[0] == B[1] && A[1] == B[0]) && A[0] != A[1]))
    (n1 : (0 ≤ d1 ∧ d1 ≤ 120000) ∧ (0 ≤ d2 ∧ d2 ≤ 120000) ∧ (0 ≤ d3 ∧ d3 ≤ 120000) ∧ (0 ≤ d4 ∧ d4 ≤ 120000)) (n2 : 0 ≤ k1 ∧ k1 ≤ 1000) (hc : Ed.Rc c)
    (e2 : min (1073741824 : Int) (k1 + d1) = M2) (e3 : (sw = true → min M2 (c.swp + d2) = M3) ∧ (sw = false → M3 = M2)) (e4 : min M3 (c.del + d3) = M4) (e5 : min M4 (c.ins + d4) = M5) (w : World) :
    Calls Try.prog 17 #[.string A, .string B, cv c] w fun e w' => e = .returned (.int .i64 M5) ∧ Below w.heap.size w w' := by
  have iA : A.toList.isEmpty = false := by
    rw [← decide_eq_emptyBytes]
    exact decide_eq_false (fun e => by rw [e] at hA; exact absurd hA (by decide))
  have iB : B.toList.isEmpty = false := by
    rw [← decide_eq_emptyBytes]
    exact decide_eq_false (fun e => by rw [e] at hB; exact absurd hB (by decide))
  have pA : 0 < A.size := hA
  have pB : 0 < B.size := hB
  have pA' : (1 : Int) ≤ A.size := by omega
  have pB' : (1 : Int) ≤ B.size := by omega
  have H1 := Lib.hid h1
  have H2 := Lib.hid h2
  have H3 := Lib.hid h3
  have H4 := Lib.hid h4
  have HS := Lib.hid hs
  have HK := Lib.hid hk
  have E3 := Lib.hid e3
  obtain ⟨c1, c2, c3, c4⟩ := hc
  have q1 : IntKind.i64.wrap (k1 + d1) = k1 + d1 := IntWalk.i64_in _ (by omega)
  have q2 : IntKind.i64.wrap (c.swp + d2) = c.swp + d2 := IntWalk.i64_in _ (by omega)
  have q3 : IntKind.i64.wrap (c.del + d3) = c.del + d3 := IntWalk.i64_in _ (by omega)
  have q4 : IntKind.i64.wrap (c.ins + d4) = c.ins + d4 := IntWalk.i64_in _ (by omega)
  have BB := Lib.hid (show Below w.heap.size w (w.alloc (.cells #[.int .i64 c.ins, .int .i64 c.del, .int .i64 c.chg, .int .i64 c.swp] 23)) from (Below.refl _ _).alloc (Nat.le_refl _) _)
  have K := Lib.hid (Bxc.made w c)
  obtain ⟨w1, hw1⟩ : ∃ x, x = w.alloc (.cells #[.int .i64 c.ins, .int .i64 c.del, .int .i64 c.chg, .int .i64 c.swp] 23) := ⟨_, rfl⟩
  clear h1 h2 h3 h4 hs hk e3 n1 n2 c1 c2 c3 c4
  go_enter Try.func17, Try.ntmps17
  rw [← hw1] at BB K
  go_upto_region 1 with fail
  rw [← hw1]
  clear hw1
  go_upto_region 6 with fail
  go_quiet (fail)
  have K := Lib.hid (K.out.below (below_drewN (Below.refl _ _) nq))
  have BB := Lib.hid (BB.out.trans ((below_drewN (Below.refl _ _) nq).mono BB.out.size))
  obtain ⟨w2, hw2⟩ : ∃ x, x = w1.drewN nq := ⟨_, rfl⟩
  rw [← hw2] at K BB ⊢
  clear hw2
  go_upto_if 25 with fail
  go_cut [8] (fun s wx => s = .int .i64 k1 ∧ wx = w2)
  case first =>
    by_cases hab : pa = pb
    · have u := u8_nne hab
      have KK := HK.out
      rw [if_pos hab] at KK
      obtain ⟨x0, x1, x2, x3⟩ := K.out
      clear hab
      go_wp2
      go_meet
      case rel => exact ⟨by rw [KK], rfl⟩
    · have u := u8_ne hab
      have KK := HK.out
      rw [if_neg hab] at KK
      obtain ⟨x0, x1, x2, x3⟩ := K.out
      clear hab
      go_wp2
      go_meet
      case rel => exact ⟨by rw [KK], rfl⟩
  case rest =>
    obtain ⟨rfl, rfl⟩ := hcut
    go_upto_region 8 with fail
    obtain ⟨x0, x1, x2, x3⟩ := (K.out.below (Below.refl _ _).drew)
    have gb : Below wc.heap.size wc wc.drew := (Below.refl _ _).drew
    go_region_held3 (fun w' => w'.cell? ⟨w.heap.size, 0, none⟩ = some (.int .i64 c.ins) ∧ w'.cell? ⟨w.heap.size, 1, none⟩ = some (.int .i64 c.del) ∧ w'.cell? ⟨w.heap.size, 2, none⟩ = some (.int .i64 c.chg) ∧ w'.cell? ⟨w.heap.size, 3, none⟩ = some (.int .i64 c.swp)) (first | (refine ⟨?_, ?_, ?_, ?_⟩ <;> assumption) | skip)
      (first | (go_at_call 17; (with_reducible refine (H1.out _).mono ?_); rintro e w3 ⟨rfl, b5⟩; have x0 := below_cell b5 x0; have x1 := below_cell b5 x1; have x2 := below_cell b5 x2; have x3 := below_cell b5 x3; have gb := gb.trans (b5.mono gb.size); clear b5))
    have K := Lib.hid (K.out.below gb)
    have BB := Lib.hid (BB.out.trans (gb.mono BB.out.size))
    clear x0 x1 x2 x3 gb
    go_upto_region 9 with fail
    go_cut [63] (fun s wx => s = .bool sw ∧ Hid (Below w3.heap.size w3 wx))
    case first =>
      rcases HS.out with ⟨rfl, hh | hh⟩ | ⟨l1, l2, hw⟩
      · have f1 : ¬ (1 : Int) < A.size := by omega
        have f2 : (A.size : Int) ≤ 1 := by omega
        go_quiet (fail)
        go_wp2
        go_meet
        case rel => exact ⟨rfl, below_drewN (Below.refl _ _) _⟩
      · have f2 : (B.size : Int) ≤ 1 := by omega
        have f3 : ¬ (1 : Int) < B.size := by omega
        by_cases f1 : (1 : Int) < A.size
        all_goals
          go_quiet (fail)
          go_wp2
          go_meet
          case rel => exact ⟨rfl, below_drewN (Below.refl _ _) _⟩
      · have f1 : (1 : Int) < A.size := by omega
        have f2 : (1 : Int) < B.size := by omega
        obtain ⟨a1, g1⟩ : ∃ x, A[1] = x := ⟨_, rfl⟩
        obtain ⟨b1, g2⟩ : ∃ x, B[1] = x := ⟨_, rfl⟩
        rw [ga, g1, gb0, g2] at hw
        by_cases haa : pa = a1
        · have u := u8_nne haa
          have hw0 : sw = false := by rw [hw, haa]; simp
          subst hw0
          clear hw haa
          go_quiet (fail)
          go_wp2
          go_meet
          case rel => exact ⟨rfl, below_drewN (Below.refl _ _) _⟩
        · have u := u8_ne haa
          have hw0 : ((A.extract 0 2).toList == [b1, pb]) = sw := by
            rw [hw, show (pa != a1) = true from bne_iff_ne.2 haa, Bool.and_true]
            exact two_bytes A l1 pa a1 b1 pb ga g1
          have CV : ∀ w : World, (convert 37 9 (.slice (some ⟨w.heap.size, 0, none⟩) 2 2)).run Try.prog (w.alloc (.cells #[.int .u8 (b1.toNat : Nat), .int .u8 (pb.toNat : Nat)] 5)) = .ok (.string ⟨[b1, pb].toArray⟩) (w.alloc (.cells #[.int .u8 (b1.toNat : Nat), .int .u8 (pb.toNat : Nat)] 5)) := by
            intro w
            refine run_convert_bytes_back _ _ _ 5 ⟨w.heap.size, 0, none⟩ _ [b1, pb] Try.underlying37 Try.underlying5 Try.underlying9 fun j hj => ?_
            rw [Go.WideShapes.add_plain, Nat.zero_add]
            match j, hj with
            | 0, _ => exact cell_at _ _ _ 0 _ _ rfl rfl
            | 1, _ => exact cell_at _ _ _ 1 _ _ rfl rfl
            | j + 2, hj => exact absurd hj (by simp)
          have CD : ∀ w : World, (convert 37 9 (.slice (some ⟨w.heap.size, 0, none⟩) 2 2)).run Try.prog (w.alloc (.cells #[.int .u8 (b1.toNat : Nat), .int .u8 (pb.toNat : Nat)] 5)).drew = .ok (.string ⟨[b1, pb].toArray⟩) (w.alloc (.cells #[.int .u8 (b1.toNat : Nat), .int .u8 (pb.toNat : Nat)] 5)).drew := by
            intro w
            refine run_convert_bytes_back _ _ _ 5 ⟨w.heap.size, 0, none⟩ _ [b1, pb] Try.underlying37 Try.underlying5 Try.underlying9 fun j hj => ?_
            rw [Go.WideShapes.add_plain, Nat.zero_add]
            match j, hj with
            | 0, _ => exact cell_at w _ _ 0 _ _ rfl rfl
            | 1, _ => exact cell_at w _ _ 1 _ _ rfl rfl
            | j + 2, hj => exact absurd hj (by simp)
          have z2 : (2 : Int) ≤ A.size := by omega
          clear hw haa
          go_region_held (fun _ => True) (first | exact trivial | skip) (fail)
          all_goals go_wp2
          all_goals go_meet
          all_goals case rel => exact ⟨by first | rfl | assumption, by repeat (first | exact Below.refl _ _ | refine Below.drew ?_ | refine Below.alloc ?_ (by simp) _)⟩
    case rest =>
      obtain ⟨rfl, B3⟩ := hcut
      have K := Lib.hid (K.out.below B3.out)
      have BB := Lib.hid (BB.out.trans (B3.out.mono BB.out.size))
      clear B3
      obtain ⟨w4, hw4⟩ : ∃ x, x = wc := ⟨_, rfl⟩
      rw [← hw4] at K BB ⊢
      clear hw4
      go_upto_if 63 with fail
      go_cut [7] (fun s wx => s = .int .i64 M3 ∧ Hid (Below w4.heap.size w4 wx))
      case first =>
        cases sw with
        | true =>
          obtain ⟨z1, z2, h2⟩ := H2.out rfl
          have H2 := Lib.hid h2
          have E := E3.out.1 rfl
          have z3 : (2 : Int) ≤ A.size := by omega
          have z4 : (2 : Int) ≤ B.size := by omega
          clear h2
          go_upto_region 10 with fail
          obtain ⟨x0, x1, x2, x3⟩ := (K.out.below (Below.refl _ _).drew)
          have gb : Below w4.heap.size w4 w4.drew := (Below.refl _ _).drew
          go_region_held3 (fun w' => w'.cell? ⟨w.heap.size, 0, none⟩ = some (.int .i64 c.ins) ∧ w'.cell? ⟨w.heap.size, 1, none⟩ = some (.int .i64 c.del) ∧ w'.cell? ⟨w.heap.size, 2, none⟩ = some (.int .i64 c.chg) ∧ w'.cell? ⟨w.heap.size, 3, none⟩ = some (.int .i64 c.swp)) (first | (refine ⟨?_, ?_, ?_, ?_⟩ <;> assumption) | skip)
            (first | (go_at_call 17; (with_reducible refine (H2.out _).mono ?_); rintro e w5 ⟨rfl, b5⟩; have x0 := below_cell b5 x0; have x1 := below_cell b5 x1; have x2 := below_cell b5 x2; have x3 := below_cell b5 x3; have gb := gb.trans (b5.mono gb.size); clear b5))
          have B4 := Lib.hid gb
          clear x0 x1 x2 x3 gb
          go_wp2
          go_meet
          case rel => exact ⟨rfl, B4.out⟩
        | false =>
          have E := E3.out.2 rfl
          go_wp2
          go_meet
          case rel => exact ⟨by rw [E], Below.refl _ _⟩
      case rest =>
        obtain ⟨rfl, B4⟩ := hcut
        have K := Lib.hid (K.out.below B4.out)
        have BB := Lib.hid (BB.out.trans (B4.out.mono BB.out.size))
        clear B4
        obtain ⟨w6, hw6⟩ : ∃ x, x = wc := ⟨_, rfl⟩
        rw [← hw6] at K BB ⊢
        clear hw6
        go_upto_region 12 with fail
        obtain ⟨x0, x1, x2, x3⟩ := (K.out.below (Below.refl _ _).drew)
        have gb : Below w6.heap.size w6 w6.drew := (Below.refl _ _).drew
        go_region_held3 (fun w' => w'.cell? ⟨w.heap.size, 0, none⟩ = some (.int .i64 c.ins) ∧ w'.cell? ⟨w.heap.size, 1, none⟩ = some (.int .i64 c.del) ∧ w'.cell? ⟨w.heap.size, 2, none⟩ = some (.int .i64 c.chg) ∧ w'.cell? ⟨w.heap.size, 3, none⟩ = some (.int .i64 c.swp)) (first | (refine ⟨?_, ?_, ?_, ?_⟩ <;> assumption) | skip)
          (first | (go_at_call 17; (with_reducible refine (H3.out _).mono ?_); rintro e w7 ⟨rfl, b5⟩; have x0 := below_cell b5 x0; have x1 := below_cell b5 x1; have x2 := below_cell b5 x2; have x3 := below_cell b5 x3; have gb := gb.trans (b5.mono gb.size); clear b5))
        have K := Lib.hid (K.out.below gb)
        have BB := Lib.hid (BB.out.trans (gb.mono BB.out.size))
        clear x0 x1 x2 x3 gb
        go_upto_region 14 with fail
        obtain ⟨x0, x1, x2, x3⟩ := (K.out.below (Below.refl _ _).drew)
        have gb : Below w7.heap.size w7 w7.drew := (Below.refl _ _).drew
        go_region_held3 (fun w' => w'.cell? ⟨w.heap.size, 0, none⟩ = some (.int .i64 c.ins) ∧ w'.cell? ⟨w.heap.size, 1, none⟩ = some (.int .i64 c.del) ∧ w'.cell? ⟨w.heap.size, 2, none⟩ = some (.int .i64 c.chg) ∧ w'.cell? ⟨w.heap.size, 3, none⟩ = some (.int .i64 c.swp)) (first | (refine ⟨?_, ?_, ?_, ?_⟩ <;> assumption) | skip)
          (first | (go_at_call 17; (with_reducible refine (H4.out _).mono ?_); rintro e w8 ⟨rfl, b5⟩; have x0 := below_cell b5 x0; have x1 := below_cell b5 x1; have x2 := below_cell b5 x2; have x3 := below_cell b5 x3; have gb := gb.trans (b5.mono gb.size); clear b5))
        have K := Lib.hid (K.out.below gb)
        have BB := Lib.hid (BB.out.trans (gb.mono BB.out.size))
        clear x0 x1 x2 x3 gb
        go_wp2
        go_ret
        exact ⟨rfl, BB.out⟩
end Go.Proofs.Ytalldnnegofdkaa
