/- Same, SameInts, Best. -/
import Derived.Test.YtkhgjjbiifbfgaaLc7
import Derived.Laws.StructEq
namespace Go.Proofs.Ytkhgjjbiifbfgaa
open Go.RowKit Go.Shelf

def hEq (x y : Hit) : Bool := (x.1 == y.1) && (x.2 == y.2)
theorem hEq_iff (x y : Hit) : hEq x y = true ↔ x = y := by
  obtain ⟨a, b⟩ := x
  obtain ⟨c, d⟩ := y
  unfold hEq
  simp
def eqh : List Hit → List Hit → Bool
  | [], [] => true
  | o :: l, p :: m => hEq o p && eqh l m
  | _, _ => false
theorem eqh_iff : ∀ l m : List Hit, eqh l m = true ↔ l = m
  | [], [] => by simp [eqh]
  | [], _ :: _ => by simp [eqh]
  | _ :: _, [] => by simp [eqh]
  | o :: l, p :: m => by
    have ih := eqh_iff l m
    unfold eqh
    rw [Bool.and_eq_true_iff, hEq_iff, ih]
    simp
theorem eqh_refl (l : List Hit) : eqh l l = true := (eqh_iff l l).2 rfl
theorem eqh_len {l m : List Hit} (h : l.length ≠ m.length) : eqh l m = false := by
  cases e : eqh l m with
  | false => rfl
  | true => rw [eqh_iff] at e; subst e; exact absurd rfl h
theorem hit_guard : Try.prog.eqGuardType Try.prog.depth 38 = false := by kernel_rfl
theorem hit_held : Try.prog.stoodInHeld 38 = false := by kernel_rfl
theorem hit_fields : Try.prog.underlying 38 = some (.struct (Try.prog.fieldsOf 38)) := by kernel_rfl
theorem run_equal_hit (k1 b1 k2 b2 : Int) (w : World) : (Op.equalIn 10000 38 (.agg #[.int .i64 k1, .int .i64 b1]) (.agg #[.int .i64 k2, .int .i64 b2])).run Try.prog w = .ok ((k1 == k2) && (b1 == b2)) w := by
  rw [run_equalIn_agg w 9999 _ _ _ hit_fields hit_held]
  cases h1 : k1 == k2 <;> cases h2 : b1 == b2
  all_goals
    simp [go_sem, Program.fieldsOf, Try.underlying38, Try.underlying3, h1, h2]
theorem run_neq_hit (k1 b1 k2 b2 : Int) (w : World) : (binOp .neq 38 (.agg #[.int .i64 k1, .int .i64 b1]) (.agg #[.int .i64 k2, .int .i64 b2])).run Try.prog w = .ok (.bool (!((k1 == k2) && (b1 == b2)))) w := by
  rw [run_neq_struct, run_equal_hit]; rfl
set_option maxRecDepth 100000 in
set_option maxHeartbeats 1600000 in
theorem sameH_any (u v : Value) (l m : List Hit) (w : World) (hu : Hl w u l) (hv : Hl w v m) (hm : m.length ≤ 1000000) (_ : l.length ≤ 1000000) : Calls Try.prog 14 #[u, v] w fun e w' => e = .returned (.bool (eqh l m)) ∧ Below w.heap.size w w' := by
  obtain ⟨a1, c1, rfl, -, h1⟩ := hu
  obtain ⟨a2, c2, rfl, -, h2⟩ := hv
  by_cases hlm : l.length = m.length
  · obtain ⟨n, hn⟩ : ∃ n, n = m.length := ⟨_, rfl⟩
    have HN := Lib.hid hn
    have HL : Hid (l.length = n) := by show _ = _; rw [hn]; exact hlm
    have n6 : n ≤ 1000000 := by rw [hn]; exact hm
    have H1 := Lib.hid h1
    have H2 := Lib.hid h2
    rw [hlm, ← hn]
    clear h1 h2 hn hlm hm
    go_enter Try.func14, Try.ntmps14
    go_wp2
    go_loopw [5] (fun i wr => ∃ k : Nat, k ≤ n ∧ i = .int .i64 k ∧ Hid (eqh l m = eqh (l.drop k) (m.drop k)) ∧ Hid (Below w.heap.size w wr)) (fun i _ => n - (intOf i).toNat)
    case atStart => exact ⟨0, Nat.zero_le _, rfl, rfl, Below.refl _ _⟩
    case round =>
      obtain ⟨k, hk, rfl, E, B⟩ := hrel
      by_cases hlt : k < n
      · have kl : k < l.length := by rw [HL.out]; exact hlt
        have km : k < m.length := by rw [← HN.out]; exact hlt
        obtain ⟨b1, o1, rfl, g1⟩ := H1.out.resolve_left (by intro e; rw [e] at kl; simp at kl)
        obtain ⟨b2, o2, rfl, g2⟩ := H2.out.resolve_left (by intro e; rw [e] at km; simp at km)
        obtain ⟨x0, x1⟩ := g1 k kl
        obtain ⟨y0, y1⟩ := g2 k km
        have x0 := kept_cell B.out x0
        have x1 := kept_cell B.out x1
        have y0 := kept_cell B.out y0
        have y1 := kept_cell B.out y1
        have E2 := E.out
        rw [List.drop_eq_getElem_cons kl, List.drop_eq_getElem_cons km] at E2
        obtain ⟨p, hp⟩ : ∃ p, p = l[k] := ⟨_, rfl⟩
        obtain ⟨q, hq⟩ : ∃ q, q = m[k] := ⟨_, rfl⟩
        rw [← hp] at x0 x1 E2
        rw [← hq] at y0 y1 E2
        have E3 : Hid (eqh l m = (hEq p q && eqh (l.drop (k + 1)) (m.drop (k + 1)))) := E2
        clear hp hq E2 g1 g2
        have og := hit_guard
        have nq : ∀ w, (binOp .neq 38 (.agg #[.int .i64 p.1, .int .i64 p.2]) (.agg #[.int .i64 q.1, .int .i64 q.2])).run Try.prog w = .ok (.bool (!(hEq p q))) w := fun w => run_neq_hit p.1 p.2 q.1 q.2 w
        cases hpq : hEq p q with
        | false =>
          rw [hpq] at nq E3
          clear hpq
          go_wp2
          go_quiet (fail)
          go_wp2
          go_ret
          exact ⟨ret_bool E3.out.symm, below_drewN B.out _⟩
        | true =>
          rw [hpq] at nq E3
          clear hpq
          go_wp2
          go_quiet (fail)
          go_wp2
          go_roundw
          case rel => exact ⟨k + 1, by omega, by go_num, E3.out, below_drewN B.out _⟩
          case measure => simp [intOf]; omega
      · have hkn : k = n := by omega
        have E4 : Hid (eqh l m = true) := by
          show _ = _
          rw [E.out, List.drop_of_length_le (by rw [HL.out]; omega), List.drop_of_length_le (by rw [← HN.out]; omega)]; rfl
        go_wp2
        go_ret
        exact ⟨ret_bool E4.out.symm, B.out⟩
  · have E : Hid (eqh l m = false) := eqh_len hlm
    have d : ((l.length : Int) != (m.length : Int)) = true := by rw [bne_iff_ne]; omega
    go_enter Try.func14, Try.ntmps14
    go_wp2
    go_ret
    exact ⟨ret_bool E.out.symm, Below.refl _ _⟩
set_option maxRecDepth 100000 in
set_option maxHeartbeats 1600000 in
/-- SameInts of equal lists. -/
theorem sameInts_yes (u v : Value) (l : List Int) (w : World) (hu : Sl w u l) (hv : Sl w v l) (hl : l.length ≤ 1000000) : Calls Try.prog 18 #[u, v] w fun e w' => e = .returned (.bool true) ∧ Below w.heap.size w w' := by
  obtain ⟨a1, c1, rfl, h1⟩ := hu
  obtain ⟨a2, c2, rfl, h2⟩ := hv
  obtain ⟨n, hn⟩ : ∃ n, n = l.length := ⟨_, rfl⟩
  have HN := Lib.hid hn
  have H1 := Lib.hid h1
  have H2 := Lib.hid h2
  rw [← hn] at hl ⊢
  clear h1 h2 hn
  go_enter Try.func18, Try.ntmps18
  go_wp2
  go_loopw [5] (fun i wr => ∃ k : Nat, k ≤ n ∧ i = .int .i64 k ∧ Hid (Below w.heap.size w wr)) (fun i _ => n - (intOf i).toNat)
  case atStart => exact ⟨0, Nat.zero_le _, rfl, Below.refl _ _⟩
  case round =>
    obtain ⟨k, hk, rfl, B⟩ := hrel
    by_cases hlt : k < n
    · have kl : k < l.length := by rw [← HN.out]; exact hlt
      obtain ⟨b1, o1, rfl, g1⟩ := H1.out.resolve_left (by intro e; rw [e] at kl; simp at kl)
      obtain ⟨b2, o2, rfl, g2⟩ := H2.out.resolve_left (by intro e; rw [e] at kl; simp at kl)
      have x0 := kept_cell B.out (g1 k kl)
      have y0 := kept_cell B.out (g2 k kl)
      obtain ⟨p, hp⟩ : ∃ p, p = l.getD k 0 := ⟨_, rfl⟩
      rw [← hp] at x0 y0
      clear hp g1 g2
      go_wp2
      go_quiet (fail)
      go_wp2
      go_roundw
      case rel => exact ⟨k + 1, by omega, by go_num, below_drewN B.out _⟩
      case measure => simp [intOf]; omega
    · go_wp2
      go_ret
      exact ⟨rfl, B.out⟩
theorem cell_quiet {w : World} {p : Addr} {v : Value} (m : Nat) (h : w.cell? p = some v) : (w.drewN m).cell? p = some v := kept_cell (below_drewN (Below.refl _ _) m) h
/-- The hits that cost as much as the first one. -/
def bst (l : List Hit) : List Hit := l.filter fun x => x.2 == (l.getD 0 (0, 0)).2
theorem bst_len (l : List Hit) : (bst l).length ≤ l.length := List.length_filter_le _ _
set_option maxRecDepth 100000 in
set_option maxHeartbeats 3200000 in
theorem best_any {B X : Nat} {w : World} {ws : List Ed.Bs} (h : Lex B X w ws) (hn : ws.length ≤ 1000) (c : Ed.Cs) (hc : Ed.Rc c) (s : Ed.Bs) (hs : s.length ≤ 60) (most : Int) : Calls Try.prog 12 #[nd X, sb s, cv c, .int .i64 most] w fun e w' => ∃ v, e = .returned (.tuple #[v, .int .i64 0]) ∧ Oh w w' v (bst (Lx.near c s ws most)) := by
  have NA := Lib.hid (near_any (h.quiet (show Below w.heap.size w (w.alloc (.cells #[.int .i64 c.ins, .int .i64 c.del, .int .i64 c.chg, .int .i64 c.swp] 24)) from (Below.refl _ _).alloc (Nat.le_refl _) _)) hn c hc s hs most)
  have ll := Lx.near_len c s ws most
  obtain ⟨l, hl⟩ : ∃ l, l = Lx.near c s ws most := ⟨_, rfl⟩
  rw [← hl] at NA ll ⊢
  have l3 : l.length ≤ 1000 := by omega
  clear hl h hc ll
  go_enter Try.func12, Try.ntmps12
  obtain ⟨n, hn'⟩ : ∃ n, n = l.length := ⟨_, rfl⟩
  have HN := Lib.hid hn'
  rw [← hn'] at l3
  clear hn'
  go_wp2_with (go_at_call 11; (with_reducible refine NA.out.mono ?_); rintro e w1 ⟨v, rfl, O⟩; have B0 := Lib.hid (((Below.refl w.heap.size w).alloc (Nat.le_refl _) (.cells #[.int .i64 c.ins, .int .i64 c.del, .int .i64 c.chg, .int .i64 c.swp] 24)).trans (O.bl.mono (by simp))); obtain ⟨a, cc, rfl, -, hcs⟩ := O.hl; have HC := Lib.hid hcs; rw [← HN.out]; clear O hcs)
  obtain ⟨c0, hc0⟩ : ∃ c0, c0 = (l.getD 0 (0, 0)).2 := ⟨_, rfl⟩
  have EB : Hid (bst l = l.filter fun x => x.2 == c0) := by show _ = _; rw [hc0]; rfl
  have HC0 := Lib.hid hc0
  clear hc0
  go_loopw [12, 25] (fun b i wr => ∃ k : Nat, k ≤ n ∧ i = .int .i64 k ∧ Hid (Oh w1 wr b ((l.take k).filter fun x => x.2 == c0))) (fun _ i _ => n - (intOf i).toNat)
  case atStart => exact ⟨0, Nat.zero_le _, rfl, Oh.nil (Below.refl _ _)⟩
  case round =>
    obtain ⟨k, hk, rfl, O⟩ := hrel
    by_cases hlt : k < n
    · have kl : k < l.length := by rw [← HN.out]; exact hlt
      obtain ⟨b1, o1, rfl, g1⟩ := HC.out.resolve_left (by intro e; rw [e] at kl; simp at kl)
      obtain ⟨y0, y1⟩ := g1 k kl
      have y2 := (g1 0 (by omega)).2
      have e0 : l[0].2 = c0 := by rw [HC0.out, List.getD_eq_getElem?_getD, List.getElem?_eq_getElem (by omega)]; rfl
      rw [e0, Nat.zero_mul, Nat.add_zero] at y2
      have x0 := kept_cell O.out.bl y0
      have x1 := kept_cell O.out.bl y1
      have z1 := fun o => cell_in o (kept_cell O.out.bl y2)
      obtain ⟨x, hx⟩ : ∃ x, x = l[k] := ⟨_, rfl⟩
      rw [← hx] at x0 x1
      have TK : l.take (k + 1) = l.take k ++ [x] := by rw [hx]; exact (List.take_append_getElem kl).symm
      have n0 : 0 < n := by omega
      have LL : ((l.take k).filter fun x => x.2 == c0).length ≤ 1000 := Nat.le_trans (List.length_filter_le _ _) (by rw [List.length_take]; omega)
      have O1 := Lib.hid (O.out.alloc (.cells #[.int .i64 x.1, .int .i64 x.2] 38))
      have t0 := cell_at wr #[.int .i64 x.1, .int .i64 x.2] 38 0 (.int .i64 x.1) _ rfl rfl
      have t1 := cell_at wr #[.int .i64 x.1, .int .i64 x.2] 38 1 (.int .i64 x.2) _ rfl rfl
      clear hx y0 y1 y2 g1 e0 kl
      by_cases he : x.2 = c0
      · have FL : Hid ((l.take (k + 1)).filter (fun x => x.2 == c0) = (l.take k).filter (fun x => x.2 == c0) ++ [x]) := by show _ = _; rw [TK, List.filter_append]; simp [he]
        rw [he] at x1 t1 O1
        have HEE := Lib.hid he
        clear TK he
        go_wp2
        go_quiet (fail)
        have u0 := fun m => cell_quiet m t0
        have u1 := fun m => cell_quiet m t1
        have O2 := Lib.hid (fun m => (O1.out.quiet (below_drewN (Below.refl _ _) m)))
        go_wp2_with (at_builtin; refine wp_pushh rfl _ _ rfl _ _ rfl ((O2.out _).alloc _) x _ 1 rfl ?cc (by omega) ?_)
        case cc =>
          intro j u hj
          match j, hj with
          | 0, hj => exact cell_at _ _ _ 0 _ _ (by simp) hj
          | 1, hj => exact cell_at _ _ _ 1 _ _ (by simp) (by rw [← HEE.out]; exact hj)
          | j + 2, hj => simp [encH] at hj
        intro v' w3 O3
        have O4 := Lib.hid O3
        clear O3
        go_wp2
        go_roundw
        case rel => exact ⟨k + 1, by omega, by go_num, by show Oh _ _ _ _; rw [FL.out]; exact O4.out⟩
        case measure => simp [intOf]; omega
      · have FL : Hid ((l.take (k + 1)).filter (fun x => x.2 == c0) = (l.take k).filter (fun x => x.2 == c0)) := by show _ = _; rw [TK, List.filter_append]; simp [he]
        have d0 : (x.2 == c0) = false := beq_eq_false_iff_ne.2 he
        have O2 := Lib.hid (fun m => (O1.out.quiet (below_drewN (Below.refl _ _) m)))
        clear TK he
        go_wp2
        go_quiet (fail)
        go_wp2
        go_roundw
        case rel => exact ⟨k + 1, by omega, by go_num, by show Oh _ _ _ _; rw [FL.out]; exact O2.out _⟩
        case measure => simp [intOf]; omega
    · have hkn : k = n := by omega
      have FL : Hid ((l.take k).filter (fun x => x.2 == c0) = bst l) := by show _ = _; rw [EB.out, hkn, HN.out, List.take_length]
      clear hkn
      go_wp2
      go_ret2
      refine ⟨_, rfl, ?_⟩
      rw [← FL.out]
      exact O.out.weak B0.out
end Go.Proofs.Ytkhgjjbiifbfgaa
