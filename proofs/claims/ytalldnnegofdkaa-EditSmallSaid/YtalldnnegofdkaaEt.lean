/- The contract of walk. -/
import Derived.Test.YtalldnnegofdkaaEs
import Derived.Deep.RegionWith
import Derived.Deep.RegionHeld3
import Derived.Deep.DeepCutAuto
import Derived.Deep.LoopGhost
import Derived.WalkMore
namespace Go.Proofs.Ytalldnnegofdkaa
open Go.RowKit Go.Shelf

/-- All rows of distances. -/
def Mat (W : World) (q m n : Nat) (D : Nat → Nat → Int) : Prop := ∀ i, i ≤ m → ∃ g cap, W.cell? ⟨q, i, none⟩ = some (.slice (some ⟨g, 0, none⟩) (n + 1) cap) ∧ ∀ j, j ≤ n → W.cell? ⟨g, j, none⟩ = some (.int .i64 (D i j))
theorem Mat.below {W W' : World} {q m n : Nat} {D : Nat → Nat → Int} (h : Mat W q m n D) (b : Below W.heap.size W W') : Mat W' q m n D := fun i hi => by
  obtain ⟨g, cap, h1, h2⟩ := h i hi
  exact ⟨g, cap, below_cell b h1, fun j hj => below_cell b (h2 j hj)⟩
theorem Kept.to_mat {b B rv q m n : Nat} {D : Nat → Nat → Int} {w W : World} (h : Kept b B rv q m n D w W 0) : Mat W q m n D := fun i hi => by
  obtain ⟨cur, t, h1, h2, h3⟩ := h.mat
  obtain ⟨g, cap, h4, h5⟩ := h3 i (Nat.zero_le _) hi
  exact ⟨g, cap, by rw [cell_of_row _ _ _ _ _ _ h1, h4], h5.row⟩
/-- Costs in a box. -/
structure Bxc (W : World) (B : Nat) (c : Ed.Cs) : Prop where
  x0 : W.cell? ⟨B, 0, none⟩ = some (.int .i64 c.ins)
  x1 : W.cell? ⟨B, 1, none⟩ = some (.int .i64 c.del)
  x2 : W.cell? ⟨B, 2, none⟩ = some (.int .i64 c.chg)
  x3 : W.cell? ⟨B, 3, none⟩ = some (.int .i64 c.swp)
theorem Bxc.made (w : World) (c : Ed.Cs) : Bxc (w.alloc (.cells #[.int .i64 c.ins, .int .i64 c.del, .int .i64 c.chg, .int .i64 c.swp] 23)) w.heap.size c :=
  ⟨cell_at _ _ _ 0 _ _ rfl rfl, cell_at _ _ _ 1 _ _ rfl rfl, cell_at _ _ _ 2 _ _ rfl rfl, cell_at _ _ _ 3 _ _ rfl rfl⟩
theorem Bxc.below {W W' : World} {B : Nat} {c : Ed.Cs} (h : Bxc W B c) (b : Below W.heap.size W W') : Bxc W' B c :=
  ⟨below_cell b h.x0, below_cell b h.x1, below_cell b h.x2, below_cell b h.x3⟩
/-- What a round of walk finds. -/
structure Wk (c : Ed.Cs) (xs ys : Ed.Bs) (w W : World) (v : Value) (i j : Nat) : Prop where
  hi : i ≤ xs.length
  hj : j ≤ ys.length
  done : ∃ l, Oo w W v l ∧ l ++ Ed.path c (xs.drop i) (ys.drop j) = Ed.path c xs ys
set_option maxRecDepth 100000 in
set_option maxHeartbeats 3200000 in
theorem walk_any (c : Ed.Cs) (hc : Ed.Rc c) (xs ys : Ed.Bs) (hx : xs.length ≤ 60) (hy : ys.length ≤ 60) (q : Nat) (w : World) (h : Mat w q xs.length ys.length (fun i j => Ed.ds c (xs.drop i) (ys.drop j))) :
    Calls Try.prog 44 #[sb xs, sb ys, cv c, .slice (some ⟨q, 0, none⟩) (xs.length + 1) (xs.length + 1)] w fun e w' => ∃ v, e = .returned v ∧ Oo w w' v (Ed.path c xs ys) := by
  obtain ⟨n, hn⟩ : ∃ n, n = ys.length := ⟨_, rfl⟩
  obtain ⟨m, hm⟩ : ∃ m, m = xs.length := ⟨_, rfl⟩
  obtain ⟨a, hxa⟩ : ∃ a : ByteArray, a = ⟨xs.toArray⟩ := ⟨_, rfl⟩
  obtain ⟨b, hxb⟩ : ∃ b : ByteArray, b = ⟨ys.toArray⟩ := ⟨_, rfl⟩
  have LA : Hid (a.size = m) := by show _ = _; rw [hxa, hm]; exact Ed.size_is xs
  have LB : Hid (b.size = n) := by show _ = _; rw [hxb, hn]; exact Ed.size_is ys
  have e1 : sb xs = .string a := by rw [hxa]
  have e2 : sb ys = .string b := by rw [hxb]
  rw [e1, e2, ← hm]
  have la : a.size ≤ 60 := by rw [LA.out, hm]; exact hx
  have lb6 : b.size ≤ 60 := by rw [LB.out, hn]; exact hy
  rw [← hm, ← hn] at h
  have H := Lib.hid h
  have HN := Lib.hid hn
  have HM := Lib.hid hm
  have HXA := Lib.hid hxa
  have HXB := Lib.hid hxb
  have HC := Lib.hid hc
  clear e1 e2 hn hm hxa hxb hc hx hy h
  go_enter Try.func44, Try.ntmps44
  have B0 := Lib.hid (show Below w.heap.size w (w.alloc (.cells #[.int .i64 c.ins, .int .i64 c.del, .int .i64 c.chg, .int .i64 c.swp] 23)) from (Below.refl _ _).alloc (Nat.le_refl _) _)
  have K0 := Lib.hid (Bxc.made w c)
  go_wp2
  go_step3
  go_wp2_with (go_at_call 38; (with_reducible refine (stepKinds_any _).mono ?_))
  rintro e w1 ⟨mb, rfl, hmb, htm, b1⟩
  have T1 := Lib.hid htm
  have B1 := Lib.hid (B0.out.trans (b1.mono B0.out.size))
  have M1 := Lib.hid (H.out.below B1.out)
  have K1 := Lib.hid (K0.out.below b1)
  clear hmb htm b1
  go_wp2
  go_step3
  go_wp2
  go_loopg [9, 11, 12] (a.size + b.size) (fun g v i j wr => ∃ i' j' : Nat, i' + j' + g = a.size + b.size ∧ i = .int .i64 i' ∧ j = .int .i64 j' ∧ i' ≤ a.size ∧ j' ≤ b.size ∧ Hid (Wk c xs ys w1 wr v i' j') ∧ Hid (Below w1.heap.size w1 wr))
  case atStart => exact ⟨0, 0, by omega, rfl, rfl, Nat.zero_le _, Nat.zero_le _, ⟨Nat.zero_le _, Nat.zero_le _, [], Oo.start (Below.refl _ _), rfl⟩, Below.refl _ _⟩
  case round =>
    obtain ⟨i, j, hg, rfl, rfl, hi, hj, K, B⟩ := hrel
    obtain ⟨wo, hwo⟩ : ∃ x, x = wr := ⟨_, rfl⟩
    rw [← hwo] at K B ⊢
    clear hwo
    obtain ⟨v, hv⟩ : ∃ x, x = u9 := ⟨_, rfl⟩
    subst hv
    obtain ⟨g0, hg0⟩ : ∃ x, x = gk := ⟨_, rfl⟩
    subst hg0
    go_wp2
    go_loopg [9, 11, 12, 13] 5 (fun g2 s9 s11 s12 s wy => ∃ k : Nat, s9 = v ∧ s11 = .int .i64 i ∧ s12 = .int .i64 j ∧ k + g2 = 6 ∧ 1 ≤ k ∧ s = .int .u8 k ∧ Hid (∀ k', 1 ≤ k' → k' < k → Ed.go c (xs.drop i) (ys.drop j) k' = false) ∧ Hid (Below wo.heap.size wo wy))
    case atStart => exact ⟨1, rfl, rfl, rfl, rfl, Nat.le_refl _, rfl, fun k' h1 h2 => by omega, Below.refl _ _⟩
    case round =>
      obtain ⟨k, rfl, rfl, rfl, hk6, hk1, rfl, G, BO⟩ := hrel
      have B2 := Lib.hid (B.out.trans (BO.out.mono B.out.size))
      by_cases hk5 : k ≤ 5
      · have TB := table_at (T1.out.keep (B2.out.block mb (World.ownsMap.lt T1.out))) ⟨hk1, hk5⟩
        obtain ⟨t, ht⟩ : ∃ t, t = Ed.tk k := ⟨_, rfl⟩
        obtain ⟨r, hr⟩ : ∃ r, r = Ed.wr k := ⟨_, rfl⟩
        have SK : sv k = .agg #[.int .i64 t, .int .i64 r, fv (fcost k), fv (fdoes k), fv (ffits k)] := by rw [ht, hr]; rfl
        have t2 : t ≤ 2 := by rw [ht]; exact Ed.tk_le k
        have r2 : r ≤ 2 := by rw [hr]; exact Ed.wr_le k
        rw [SK] at TB
        have HT := Lib.hid ht
        have HR := Lib.hid hr
        clear ht hr SK
        have q1 : IntKind.i64.wrap ((i : Int) + t) = (i : Int) + t := IntWalk.i64_in _ (by omega)
        have q2 : IntKind.i64.wrap ((j : Int) + r) = (j : Int) + r := IntWalk.i64_in _ (by omega)
        go_upto_region 8 with fail
        have b1 : Below wr.heap.size wr (wr.alloc (.cells #[.int .i64 t, .int .i64 r, fv (fcost k), fv (fdoes k), fv (ffits k)] 92)) := (Below.refl _ _).alloc (Nat.le_refl _) _
        have s0 : (wr.alloc (.cells #[.int .i64 t, .int .i64 r, fv (fcost k), fv (fdoes k), fv (ffits k)] 92)).cell? ⟨wr.heap.size, 0, none⟩ = some (.int .i64 t) := cell_at _ _ _ 0 _ _ rfl rfl
        have s1 : (wr.alloc (.cells #[.int .i64 t, .int .i64 r, fv (fcost k), fv (fdoes k), fv (ffits k)] 92)).cell? ⟨wr.heap.size, 1, none⟩ = some (.int .i64 r) := cell_at _ _ _ 1 _ _ rfl rfl
        have s2 : (wr.alloc (.cells #[.int .i64 t, .int .i64 r, fv (fcost k), fv (fdoes k), fv (ffits k)] 92)).cell? ⟨wr.heap.size, 2, none⟩ = some (fv (fcost k)) := cell_at _ _ _ 2 _ _ rfl rfl
        have s4 : (wr.alloc (.cells #[.int .i64 t, .int .i64 r, fv (fcost k), fv (fdoes k), fv (ffits k)] 92)).cell? ⟨wr.heap.size, 4, none⟩ = some (fv (ffits k)) := cell_at _ _ _ 4 _ _ rfl rfl
        obtain ⟨w2, hw2⟩ : ∃ x, x = (wr.alloc (.cells #[.int .i64 t, .int .i64 r, fv (fcost k), fv (fdoes k), fv (ffits k)] 92)) := ⟨_, rfl⟩
        rw [← hw2] at b1 s0 s1 s2 s4 ⊢
        clear hw2
        go_quiet (fail)
        go_upto_region 9 with fail
        have b1 : Below wr.heap.size wr (w2.drewN nq) := below_drewN b1 _
        have s0 : (w2.drewN nq).cell? ⟨wr.heap.size, 0, none⟩ = some (.int .i64 t) := s0
        have s1 : (w2.drewN nq).cell? ⟨wr.heap.size, 1, none⟩ = some (.int .i64 r) := s1
        have s2 : (w2.drewN nq).cell? ⟨wr.heap.size, 2, none⟩ = some (fv (fcost k)) := s2
        have s4 : (w2.drewN nq).cell? ⟨wr.heap.size, 4, none⟩ = some (fv (ffits k)) := s4
        obtain ⟨w3, hw3⟩ : ∃ x, x = w2.drewN nq := ⟨_, rfl⟩
        rw [← hw3] at b1 s0 s1 s2 s4 ⊢
        clear hw3
        have GN : Ed.go c (xs.drop i) (ys.drop j) k = false → Hid (∀ k', 1 ≤ k' → k' < k + 1 → Ed.go c (xs.drop i) (ys.drop j) k' = false) := by
          intro hv k' h1 h2
          by_cases e : k' = k
          · rw [e, hv]
          · exact G.out k' h1 (by omega)
        have lx : (xs.drop i).length = a.size - i := by rw [List.length_drop, LA.out, HM.out]
        have ly : (ys.drop j).length = b.size - j := by rw [List.length_drop, LB.out, HN.out]
        have B3 := Lib.hid (BO.out.trans (b1.mono BO.out.size))
        by_cases hA : i + t ≤ a.size
        · by_cases hB : j + r ≤ b.size
          · have dA : decide ((a.size : Int) < (i : Int) + t) = false := decide_eq_false (by omega)
            have dB : decide ((b.size : Int) < (j : Int) + r) = false := decide_eq_false (by omega)
            have EF := enter_fits k ⟨hk1, hk5⟩
            have X1 : a.extract i (i + t) = ⟨((xs.drop i).take t).toArray⟩ := by rw [Ed.extract_is, HXA.out]; show (⟨((xs.drop i).take (i + t - i)).toArray⟩ : ByteArray) = _; rw [Nat.add_sub_cancel_left]
            have X2 : b.extract j (j + r) = ⟨((ys.drop j).take r).toArray⟩ := by rw [Ed.extract_is, HXB.out]; show (⟨((ys.drop j).take (j + r - j)).toArray⟩ : ByteArray) = _; rw [Nat.add_sub_cancel_left]
            have FT := Ed.ft_cut k ⟨hk1, hk5⟩ (xs.drop i) (ys.drop j) (by have := HT.out; omega) (by have := HR.out; omega)
            have FA : ∀ w, Calls Try.prog (ffits k) #[.string (a.extract i (i + t)), .string (b.extract j (j + r))] w fun e w' => e = .returned (.bool (Ed.ft k (xs.drop i) (ys.drop j))) ∧ ∃ q, w' = w.drewN q := by
              intro w
              rw [X1, X2, ← FT, HT.out, HR.out]
              exact fits_any k ⟨hk1, hk5⟩ _ _ (by rw [List.length_take]; have := HT.out; omega) (by rw [List.length_take]; have := HR.out; omega) w
            have FH := Lib.hid FA
            have p3 : ((i : Int) + t).toNat = i + t := by omega
            have p4 : ((j : Int) + r).toNat = j + r := by omega
            have p5 : (i : Int) + t ≤ a.size := by omega
            have p6 : (j : Int) + r ≤ b.size := by omega
            have p7 : (i : Int) ≤ (i : Int) + t := by omega
            have p8 : (j : Int) ≤ (j : Int) + r := by omega
            have p9 : (0 : Int) ≤ (i : Int) + t := by omega
            have p10 : (0 : Int) ≤ (j : Int) + r := by omega
            clear X1 X2 FT FA
            cases hf : Ed.ft k (xs.drop i) (ys.drop j) with
            | false =>
              rw [hf] at FH
              have hgo : Ed.go c (xs.drop i) (ys.drop j) k = false := by unfold Ed.go; rw [hf, Bool.false_and]
              have G2 := GN hgo
              clear hgo GN lx ly hf
              go_quiet ((go_at_fn (ffits k); exact Calls.quiet_of (FH.out _)))
              go_wp2
              go_roundg (5 - k)
              case measure => omega
              case rel => exact ⟨k + 1, rfl, rfl, rfl, by omega, by omega, by go_num, G2.out, below_drewN B3.out _⟩
            | true =>
              rw [hf] at FH
              have K3 := (K1.out.below B2.out).below b1
              have M3 := (M1.out.below B2.out).below b1
              obtain ⟨ga, ca, m1, m2⟩ := M3 (i + t) (by have := LA.out; omega)
              have m2 : w3.cell? ⟨ga, j + r, none⟩ = some (.int .i64 (Ed.ds c (xs.drop (i + t)) (ys.drop (j + r)))) := m2 (j + r) (by have := LB.out; omega)
              obtain ⟨gc, cc, m3, m4⟩ := M3 i (by have := LA.out; omega)
              have m4 : w3.cell? ⟨gc, j, none⟩ = some (.int .i64 (Ed.ds c (xs.drop i) (ys.drop j))) := m4 j (by have := LB.out; omega)
              obtain ⟨d1, hd1⟩ : ∃ d, d = Ed.ds c (xs.drop (i + t)) (ys.drop (j + r)) := ⟨_, rfl⟩
              obtain ⟨d0, hd0⟩ : ∃ d, d = Ed.ds c (xs.drop i) (ys.drop j) := ⟨_, rfl⟩
              have db := Ed.ds_bd HC.out (xs.drop (i + t)) (ys.drop (j + r)) (by rw [List.length_drop]; have := HM.out; have := LA.out; omega) (by rw [List.length_drop]; have := HN.out; have := LB.out; omega)
              have cb := Ed.co_nonneg HC.out k
              rw [← hd1] at m2 db
              rw [← hd0] at m4
              have GO : Ed.go c (xs.drop i) (ys.drop j) k = (Ed.co c k + d1 == d0) := by
                unfold Ed.go; rw [hf, Bool.true_and, List.drop_drop, List.drop_drop, hd1, hd0, HT.out, HR.out]
              have CC := Lib.hid (fun w => cost_any c k ⟨hk1, hk5⟩ w)
              have EC := enter_cost k ⟨hk1, hk5⟩
              have nA : (a.size : Int) = m := by rw [LA.out]
              have nB : (b.size : Int) = n := by rw [LB.out]
              have z1 : (i : Int) + t < (m : Int) + 1 := by omega
              have z2 : (j : Int) + r < (n : Int) + 1 := by omega
              have z3 : (i : Int) < (m : Int) + 1 := by omega
              have z4 : (j : Int) < (n : Int) + 1 := by omega
              obtain ⟨cost, hcost⟩ : ∃ x, x = Ed.co c k := ⟨_, rfl⟩
              rw [← hcost] at CC cb GO
              have qs : IntKind.i64.wrap (cost + d1) = cost + d1 := IntWalk.i64_in _ (by omega)
              have HD := Lib.hid hd0
              clear nA nB hd1 hd0 hcost lx ly hf
              have FB : Hid (∀ w, Calls Try.prog (ffits k) #[.string (a.extract i (i + t)), .string (b.extract j (j + r))] w fun e w' => e = .returned (.bool true) ∧ Below w.heap.size w w') := fun w => (FH.out w).mono fun e w' ⟨he, p, hp⟩ => ⟨he, by rw [hp]; exact below_drewN (Below.refl _ _) _⟩
              obtain ⟨x0, x1, x2, x3⟩ := K3
              have s2 : w3.drew.cell? ⟨wr.heap.size, 2, none⟩ = some (fv (fcost k)) := s2
              have s4 : w3.drew.cell? ⟨wr.heap.size, 4, none⟩ = some (fv (ffits k)) := s4
              have x0 : w3.drew.cell? ⟨w.heap.size, 0, none⟩ = some (.int .i64 c.ins) := x0
              have x1 : w3.drew.cell? ⟨w.heap.size, 1, none⟩ = some (.int .i64 c.del) := x1
              have x2 : w3.drew.cell? ⟨w.heap.size, 2, none⟩ = some (.int .i64 c.chg) := x2
              have x3 : w3.drew.cell? ⟨w.heap.size, 3, none⟩ = some (.int .i64 c.swp) := x3
              have m1 : w3.drew.cell? ⟨q, i + t, none⟩ = some (.slice (some ⟨ga, 0, none⟩) (n + 1) ca) := m1
              have m2 : w3.drew.cell? ⟨ga, j + r, none⟩ = some (.int .i64 d1) := m2
              have m3 : w3.drew.cell? ⟨q, i, none⟩ = some (.slice (some ⟨gc, 0, none⟩) (n + 1) cc) := m3
              have m4 : w3.drew.cell? ⟨gc, j, none⟩ = some (.int .i64 d0) := m4
              have gb : Below w3.heap.size w3 w3.drew := (Below.refl _ _).drew
              go_cut [78] (fun s wx => s = .bool (cost + d1 != d0) ∧ Below w3.heap.size w3 wx)
              case first =>
                go_region_held3 (fun w' => w'.cell? ⟨wr.heap.size, 2, none⟩ = some (fv (fcost k)) ∧ w'.cell? ⟨wr.heap.size, 4, none⟩ = some (fv (ffits k)) ∧ w'.cell? ⟨w.heap.size, 0, none⟩ = some (.int .i64 c.ins) ∧ w'.cell? ⟨w.heap.size, 1, none⟩ = some (.int .i64 c.del) ∧ w'.cell? ⟨w.heap.size, 2, none⟩ = some (.int .i64 c.chg) ∧ w'.cell? ⟨w.heap.size, 3, none⟩ = some (.int .i64 c.swp) ∧ w'.cell? ⟨q, i + t, none⟩ = some (.slice (some ⟨ga, 0, none⟩) (n + 1) ca) ∧ w'.cell? ⟨ga, j + r, none⟩ = some (.int .i64 d1) ∧ w'.cell? ⟨q, i, none⟩ = some (.slice (some ⟨gc, 0, none⟩) (n + 1) cc) ∧ w'.cell? ⟨gc, j, none⟩ = some (.int .i64 d0)) (first | (refine ⟨?_, ?_, ?_, ?_, ?_, ?_, ?_, ?_, ?_, ?_⟩ <;> assumption) | skip)
                  (first
                    | (go_at_fn (ffits k); (with_reducible refine (FB.out _).mono ?_); rintro e w5 ⟨rfl, b5⟩; have s2 := below_cell b5 s2; have s4 := below_cell b5 s4; have x0 := below_cell b5 x0; have x1 := below_cell b5 x1; have x2 := below_cell b5 x2; have x3 := below_cell b5 x3; have m1 := below_cell b5 m1; have m2 := below_cell b5 m2; have m3 := below_cell b5 m3; have m4 := below_cell b5 m4; have gb := gb.trans (b5.mono gb.size); clear b5)
                    | (go_at_fn (fcost k); (with_reducible refine (CC.out _).mono ?_); rintro e w5 ⟨rfl, b5⟩; have s2 := below_cell b5 s2; have s4 := below_cell b5 s4; have x0 := below_cell b5 x0; have x1 := below_cell b5 x1; have x2 := below_cell b5 x2; have x3 := below_cell b5 x3; have m1 := below_cell b5 m1; have m2 := below_cell b5 m2; have m3 := below_cell b5 m3; have m4 := below_cell b5 m4; have gb := gb.trans (b5.mono gb.size); clear b5))
                go_wp2
                go_meet
                case rel => exact ⟨rfl, gb⟩
              case rest =>
                obtain ⟨rfl, b5⟩ := hcut
                clear gb s2 s4 x0 x1 x2 x3 m1 m2 m3 m4
                have B5 := Lib.hid (BO.out.trans ((b1.trans (b5.mono b1.size)).mono BO.out.size))
                cases hgo : (cost + d1 == d0) with
                | false =>
                  rw [hgo] at GO
                  have G2 := GN GO
                  have hn : (cost + d1 != d0) = true := by rw [bne, hgo]; rfl
                  clear GO GN b5 hgo
                  go_wp2
                  go_roundg (5 - k)
                  case measure => omega
                  case rel => exact ⟨k + 1, rfl, rfl, rfl, by omega, by omega, by go_num, G2.out, B5.out⟩
                | true =>
                  rw [hgo] at GO
                  have hn : (cost + d1 != d0) = false := by rw [bne, hgo]; rfl
                  have NX := Ed.nx_is G.out GO
                  have PS := Ed.path_step (c := c) (xs := xs.drop i) (ys := ys.drop j) (by rw [NX]; omega)
                  rw [NX, List.drop_drop, List.drop_drop, ← HT.out, ← HR.out] at PS
                  obtain ⟨l, ho, hp⟩ := K.out.done
                  rw [PS] at hp
                  have OL := Lib.hid (ho.quiet B5.out)
                  have HPP : Hid ((l ++ [Ed.opO k (ys.drop j)]) ++ Ed.path c (xs.drop (i + t)) (ys.drop (j + r)) = Ed.path c xs ys) := by show _ = _; rw [← hp]; simp
                  have LL : l.length ≤ 1000000 := by
                    have h1 := congrArg List.length hp
                    rw [List.length_append] at h1
                    have h2 := Ed.path_len c (xs.length + ys.length) xs ys
                    have h3 : (Ed.path c xs ys).length ≤ xs.length + ys.length := h2
                    have := LA.out; have := LB.out; have := HM.out; have := HN.out
                    omega
                  have OP : Hid (∀ w, Calls Try.prog 64 #[.int .u8 (k : Nat), .string (b.extract j (j + r))] w fun e w' => e = .returned (.agg #[.int .u8 (k : Nat), .int .u8 ((Ed.opO k (ys.drop j)).b.toNat : Nat)]) ∧ Below w.heap.size w w') := by
                    intro w
                    have X2 : b.extract j (j + r) = ⟨((ys.drop j).take r).toArray⟩ := by rw [Ed.extract_is, HXB.out]; show (⟨((ys.drop j).take (j + r - j)).toArray⟩ : ByteArray) = _; rw [Nat.add_sub_cancel_left]
                    have hl : r ≤ (ys.drop j).length := by rw [List.length_drop]; have := LB.out; have := HN.out; omega
                    rw [X2, ← Ed.opO_cut ⟨hk1, hk5⟩ (by rw [← HR.out]; exact hl), HR.out]
                    exact opOf_any k _ (fun h e => by
                      have h1 := congrArg List.length e
                      rw [List.length_take, ← HR.out] at h1
                      have h2 : r = 1 := by rw [HR.out]; rcases h with rfl | rfl <;> rfl
                      simp only [List.length_nil] at h1
                      omega) w
                  clear GO GN b5 hgo NX PS ho hp
                  go_wp2_with (first
                    | (go_at_call 64; (with_reducible refine (OP.out _).mono ?_); rintro e w6 ⟨rfl, b6⟩; have O6 := Lib.hid (OL.out.quiet b6); clear b6)
                    | (at_builtin; refine wp_pusho rfl _ _ rfl _ _ rfl (O6.out.alloc _) (Ed.opO k (ys.drop j)) w6.heap.size 1 rfl ?_ LL ?_))
                  · intro p u hu
                    match p, hu with
                    | 0, hu => exact cell_at _ _ _ 0 _ _ rfl hu
                    | 1, hu => exact cell_at _ _ _ 1 _ _ rfl hu
                    | p + 2, hu => simp [ocells] at hu
                  · intro v' w7 O7
                    have OH := Lib.hid O7
                    clear O7
                    have BB : Hid (Below w1.heap.size w1 w7) := OH.out.bl
                    have tr : 1 ≤ t + r := by rw [HT.out, HR.out]; exact Ed.tk_wr ⟨hk1, hk5⟩
                    go_wp2
                    go_roundg (a.size + b.size - (i + t) - (j + r))
                    case measure => omega
                    case rel => exact ⟨i + t, j + r, by omega, by go_num, by go_num, hA, hB, ⟨by have := LA.out; have := HM.out; omega, by have := LB.out; have := HN.out; omega, _, OH.out, HPP.out⟩, BB.out⟩
          · have hgo : Ed.go c (xs.drop i) (ys.drop j) k = false := by
              cases e : Ed.go c (xs.drop i) (ys.drop j) k with
              | false => rfl
              | true => have := (Ed.ft_len (Ed.go_iff.1 e).1).2; have := HR.out; omega
            have G2 := GN hgo
            have dA : decide ((a.size : Int) < (i : Int) + t) = false := decide_eq_false (by omega)
            have dB : (b.size : Int) < (j : Int) + r := by omega
            clear hgo GN lx ly
            go_quiet (fail)
            go_wp2
            go_roundg (5 - k)
            case measure => omega
            case rel => exact ⟨k + 1, rfl, rfl, rfl, by omega, by omega, by go_num, G2.out, below_drewN B3.out _⟩
        · have hgo : Ed.go c (xs.drop i) (ys.drop j) k = false := by
            cases e : Ed.go c (xs.drop i) (ys.drop j) k with
            | false => rfl
            | true => have := (Ed.ft_len (Ed.go_iff.1 e).1).1; have := HT.out; omega
          have G2 := GN hgo
          have dA : (a.size : Int) < (i : Int) + t := by omega
          clear hgo GN lx ly
          go_quiet (fail)
          go_wp2
          go_roundg (5 - k)
          case measure => omega
          case rel => exact ⟨k + 1, rfl, rfl, rfl, by omega, by omega, by go_num, G2.out, below_drewN B3.out _⟩
      · obtain rfl : k = 6 := by omega
        have PE : Hid (Oo w wr u9 (Ed.path c xs ys)) := by
          obtain ⟨l, ho, hp⟩ := K.out.done
          rw [Ed.path_end (Ed.nx_none G.out), List.append_nil] at hp
          show Oo _ _ _ _
          rw [← hp]; exact (ho.quiet BO.out).weak B1.out
        go_wp2
        try rw [Exit.noGoto_ret]
        go_ret
        exact ⟨_, rfl, PE.out⟩
end Go.Proofs.Ytalldnnegofdkaa
