/- Scripts in memory: read, and built; opOf, Same, before. -/
import Derived.Test.YtalldnnegofdkaaEo
import Derived.Laws.OwnMore
import Derived.Laws.StructEq
namespace Go.Proofs.Ytalldnnegofdkaa
open Go.RowKit Go.Shelf

/-- A slice that reads as a script. -/
def Opl (w : World) (v : Value) (l : List Ed.Op) : Prop := ∃ (a : Option Addr) (c : Nat), v = .slice a l.length c ∧ (l = [] ∨ ∃ b off, a = some ⟨b, off, none⟩ ∧ ∀ j (hj : j < l.length), w.cell? ⟨b, off + j * 2, none⟩ = some (.int .u8 (l[j].k : Nat)) ∧ w.cell? ⟨b, off + j * 2 + 1, none⟩ = some (.int .u8 (l[j].b.toNat : Nat)))
theorem Opl.below {w w' : World} {v : Value} {l : List Ed.Op} (h : Opl w v l) (hb : Below w.heap.size w w') : Opl w' v l := by
  obtain ⟨a, c, rfl, h⟩ := h
  refine ⟨a, c, rfl, ?_⟩
  rcases h with h | ⟨b, off, ha, h⟩
  · exact Or.inl h
  · exact Or.inr ⟨b, off, ha, fun j hj => ⟨below_cell hb (h j hj).1, below_cell hb (h j hj).2⟩⟩
theorem Opl.nil (w : World) (a : Option Addr) (c : Nat) : Opl w (.slice a 0 c) [] := ⟨a, c, rfl, Or.inl rfl⟩
def ocells (o : Ed.Op) : List Value := [.int .u8 (o.k : Nat), .int .u8 (o.b.toNat : Nat)]
def ocs (l : List Ed.Op) : List Value := l.flatMap ocells
theorem ocs_cons (o : Ed.Op) (l : List Ed.Op) : ocs (o :: l) = .int .u8 (o.k : Nat) :: .int .u8 (o.b.toNat : Nat) :: ocs l := rfl
theorem ocs_app (l m : List Ed.Op) : ocs (l ++ m) = ocs l ++ ocs m := List.flatMap_append
theorem ocs_len (l : List Ed.Op) : (ocs l).length = l.length * 2 := by
  induction l with
  | nil => rfl
  | cons o l ih => rw [ocs_cons]; simp only [List.length_cons, ih]; omega
theorem ocs_at : ∀ (l : List Ed.Op) (j : Nat) (hj : j < l.length), (ocs l)[j * 2]? = some (.int .u8 (l[j].k : Nat)) ∧ (ocs l)[j * 2 + 1]? = some (.int .u8 (l[j].b.toNat : Nat))
  | [], j, h => by simp at h
  | o :: l, 0, _ => ⟨rfl, rfl⟩
  | o :: l, j + 1, h => by
    have ih := ocs_at l j (by simpa using h)
    rw [ocs_cons, show (j + 1) * 2 = j * 2 + 1 + 1 by omega, show j * 2 + 1 + 1 + 1 = (j * 2 + 1) + 1 + 1 by omega]
    simpa only [List.getElem?_cons_succ, List.getElem_cons_succ] using ih
theorem info_op : (Try.prog.info? 40).map (fun i => (i.zero, i.size, i.bytes)) = some (some (.agg #[.int .u8 0, .int .u8 0]), 2, 2) := by kernel_rfl
/-- A script that the call has built. -/
structure Oo (w0 w : World) (v : Value) (l : List Ed.Op) : Prop where
  own : w.ownsRow w0.heap.size 40 2 v l.length (ocs l)
  bl : Below w0.heap.size w0 w
theorem Oo.start {w0 w : World} (h : Below w0.heap.size w0 w) : Oo w0 w (.slice none 0 0) [] := ⟨World.ownsRow_nil _ _ _ _, h⟩
theorem Oo.alloc {w0 w : World} {v : Value} {l : List Ed.Op} (h : Oo w0 w v l) (o : Obj) : Oo w0 (w.alloc o) v l := ⟨h.own.alloc _, h.bl.alloc h.bl.size _⟩
theorem Oo.opl {w0 w : World} {v : Value} {l : List Ed.Op} (h : Oo w0 w v l) : Opl w v l := by
  rcases h.own.2 with ⟨rfl, hn⟩ | ⟨g, cap, cur, rfl, _, _, hcap, _⟩
  · exact ⟨none, 0, by rw [hn], Or.inl (List.eq_nil_of_length_eq_zero hn)⟩
  · refine ⟨_, cap, rfl, Or.inr ⟨g, 0, rfl, fun j hj => ?_⟩⟩
    obtain ⟨h1, h2⟩ := ocs_at l j hj
    refine ⟨?_, ?_⟩
    · rw [Nat.zero_add, h.own.cellAt _ (by omega), h1]
    · rw [Nat.zero_add, h.own.cellAt _ (by omega), h2]
theorem own_quiet {w w' : World} {B e size n : Nat} {v : Value} {xs : List Value} (h : w.ownsRow B e size v n xs) (hb : Below w.heap.size w w') : w'.ownsRow B e size v n xs := by
  rcases h with ⟨h1, h2⟩
  refine ⟨h1, ?_⟩
  rcases h2 with h2 | ⟨g, cap, cur, hv, hB, hg, h3⟩
  · exact Or.inl h2
  · exact Or.inr ⟨g, cap, cur, hv, hB, (hb.block g (Array.getElem?_eq_some_iff.1 hg).1).trans hg, h3⟩
theorem Oo.quiet {w0 w w' : World} {v : Value} {l : List Ed.Op} (h : Oo w0 w v l) (hb : Below w.heap.size w w') : Oo w0 w' v l := ⟨own_quiet h.own hb, h.bl.trans (hb.mono h.bl.size)⟩
theorem Oo.weak {w w1 w' : World} {v : Value} {l : List Ed.Op} (h : Oo w1 w' v l) (b : Below w.heap.size w w1) : Oo w w' v l := by
  obtain ⟨⟨h1, h2⟩, h3⟩ := h
  refine ⟨⟨h1, ?_⟩, b.trans (h3.mono b.size)⟩
  rcases h2 with h2 | ⟨g, cap, cur, hv, hB, hg⟩
  · exact Or.inl h2
  · exact Or.inr ⟨g, cap, cur, hv, Nat.le_trans b.size hB, hg⟩
/-- 'append(path, op)'. -/
theorem wp_pusho {ops : Array Oper} {rest : List Oper} {o : Oper} {a : Act} {w0 w : World} {Q : Exit → Act → World → Prop} (hg : o.guard = none) (s x : Operand)
    (hop : o.op = Op.call { callee := Callee.builtin Builtin.append, args := #[s, x], argTypes := #[26, 26] })
    (v : Value) (l : List Ed.Op) (hs : a.eval s = v) (h : Oo w0 w v l) (y : Ed.Op) (d c : Nat) (hx : a.eval x = .slice (some ⟨d, 0, none⟩) 1 c) (hd : ∀ j u, (ocells y)[j]? = some u → w.cell? ⟨d, j, none⟩ = some u) (hl : l.length ≤ 1000000)
    (hK : ∀ v' w', Oo w0 w' v' (l ++ [y]) → wpList Try.prog ops Q rest (a.put o.dst v') w') : wpList Try.prog ops Q (o :: rest) a w := by
  obtain ⟨i0, hi, hz0, hz1, hz2⟩ := info_parts info_op
  refine wpList_append_own w hg s x 26 hop w0.heap.size 40 i0 _ 2 2 Try.underlying26 hi hz0 hz1 hz2 rfl (by decide) v l.length (ocs l) hs h.own ⟨d, 0, none⟩ 1 c (ocells y) hx rfl
    (fun j u hj => ?_) (fun u hu => ?_) (by unfold maxLen; omega) (by omega) h.bl.size (fun v' w' hown hgrow _ => ?_)
  · rw [show (⟨d, 0, none⟩ : Addr).add j = ⟨d, j, none⟩ by cases j <;> simp [Addr.add]]; exact hd j u hj
  · simp only [ocells, List.mem_cons, List.not_mem_nil, or_false] at hu
    rcases hu with rfl | rfl <;> rfl
  · refine hK v' w' ⟨?_, h.bl.grown hgrow h.bl.size (fun g hk => (h.own.lt g hk).1)⟩
    rw [List.length_append, ocs_app]; exact hown
namespace Ed
def eqs : List Op → List Op → Bool
  | [], [] => true
  | o :: l, p :: m => opEq o p && eqs l m
  | _, _ => false
theorem eqs_iff : ∀ l m : List Op, eqs l m = true ↔ l = m
  | [], [] => by simp [eqs]
  | [], _ :: _ => by simp [eqs]
  | _ :: _, [] => by simp [eqs]
  | o :: l, p :: m => by
    have ih := eqs_iff l m
    unfold eqs
    rw [Bool.and_eq_true_iff, opEq_iff, ih]
    simp
theorem eqs_len {l m : List Op} (h : l.length ≠ m.length) : eqs l m = false := by
  cases e : eqs l m with
  | false => rfl
  | true => rw [eqs_iff] at e; subst e; exact absurd rfl h
end Ed
set_option maxRecDepth 100000 in
set_option maxHeartbeats 1600000 in
theorem opOf_2 (x : UInt8) (u : Ed.Bs) (w : World) : Calls Try.prog 64 #[.int .u8 2, sb (x :: u)] w fun e w' => e = .returned (.agg #[.int .u8 2, .int .u8 (x.toNat : Nat)]) ∧ Below w.heap.size w w' := by
  have L : 0 < (⟨(x :: u).toArray⟩ : ByteArray).size := by rw [Ed.size_is]; simp
  have G : (⟨(x :: u).toArray⟩ : ByteArray)[0] = x := rfl
  go_enter Try.func64, Try.ntmps64
  go_wp2
  exact bodyPost_ret (v := .agg #[.int .u8 2, .int .u8 (x.toNat : Nat)]) (by simp [results, Try.results64, go_sem]) rfl ⟨rfl, (Below.refl _ _).alloc (Nat.le_refl _) _⟩
set_option maxRecDepth 100000 in
set_option maxHeartbeats 1600000 in
theorem opOf_5 (x : UInt8) (u : Ed.Bs) (w : World) : Calls Try.prog 64 #[.int .u8 5, sb (x :: u)] w fun e w' => e = .returned (.agg #[.int .u8 5, .int .u8 (x.toNat : Nat)]) ∧ Below w.heap.size w w' := by
  have L : 0 < (⟨(x :: u).toArray⟩ : ByteArray).size := by rw [Ed.size_is]; simp
  have G : (⟨(x :: u).toArray⟩ : ByteArray)[0] = x := rfl
  go_enter Try.func64, Try.ntmps64
  go_wp2
  exact bodyPost_ret (v := .agg #[.int .u8 5, .int .u8 (x.toNat : Nat)]) (by simp [results, Try.results64, go_sem]) rfl ⟨rfl, (Below.refl _ _).alloc (Nat.le_refl _) _⟩
set_option maxRecDepth 100000 in
set_option maxHeartbeats 1600000 in
theorem opOf_n (k : Nat) (h2 : k ≠ 2) (h5 : k ≠ 5) (u : Ed.Bs) (w : World) : Calls Try.prog 64 #[.int .u8 (k : Nat), sb u] w fun e w' => e = .returned (.agg #[.int .u8 (k : Nat), .int .u8 0]) ∧ Below w.heap.size w w' := by
  have e2 : ((k : Int) == 2) = false := beq_eq_false_iff_ne.2 (by omega)
  have e5 : ((k : Int) == 5) = false := beq_eq_false_iff_ne.2 (by omega)
  clear h2 h5
  go_enter Try.func64, Try.ntmps64
  go_wp2
  exact bodyPost_ret (v := .agg #[.int .u8 (k : Nat), .int .u8 0]) (by simp [results, Try.results64, go_sem]) rfl ⟨rfl, (Below.refl _ _).alloc (Nat.le_refl _) _⟩
theorem opOf_any (k : Nat) (u : Ed.Bs) (hu : k = 2 ∨ k = 5 → u ≠ []) (w : World) : Calls Try.prog 64 #[.int .u8 (k : Nat), sb u] w fun e w' => e = .returned (.agg #[.int .u8 (k : Nat), .int .u8 ((Ed.opO k u).b.toNat : Nat)]) ∧ Below w.heap.size w w' := by
  by_cases h2 : k = 2
  · subst h2
    match u, hu (Or.inl rfl) with
    | x :: u, _ => exact opOf_2 x u w
  · by_cases h5 : k = 5
    · subst h5
      match u, hu (Or.inr rfl) with
      | x :: u, _ => exact opOf_5 x u w
    · have E : (Ed.opO k u).b = 0 := by
        show (if k = 2 ∨ k = 5 then u.headD 0 else 0) = _
        rw [if_neg (by omega)]
      rw [E]
      exact opOf_n k h2 h5 u w
theorem op_guard : Try.prog.eqGuardType Try.prog.depth 40 = false := by kernel_rfl
theorem op_held : Try.prog.stoodInHeld 40 = false := by kernel_rfl
theorem op_fields : Try.prog.underlying 40 = some (.struct (Try.prog.fieldsOf 40)) := by kernel_rfl
theorem run_equal_op (k1 b1 k2 b2 : Int) (w : World) : (Op.equalIn 10000 40 (.agg #[.int .u8 k1, .int .u8 b1]) (.agg #[.int .u8 k2, .int .u8 b2])).run Try.prog w = .ok ((k1 == k2) && (b1 == b2)) w := by
  rw [run_equalIn_agg w 9999 _ _ _ op_fields op_held]
  cases h1 : k1 == k2 <;> cases h2 : b1 == b2
  all_goals
    simp [go_sem, Program.fieldsOf, Try.underlying40, Try.underlying5, h1, h2]
theorem run_neq_op (k1 b1 k2 b2 : Int) (w : World) : (binOp .neq 40 (.agg #[.int .u8 k1, .int .u8 b1]) (.agg #[.int .u8 k2, .int .u8 b2])).run Try.prog w = .ok (.bool (!((k1 == k2) && (b1 == b2)))) w := by
  rw [run_neq_struct, run_equal_op]; rfl
theorem run_eql_op (k1 b1 k2 b2 : Int) (w : World) : (binOp .eql 40 (.agg #[.int .u8 k1, .int .u8 b1]) (.agg #[.int .u8 k2, .int .u8 b2])).run Try.prog w = .ok (.bool ((k1 == k2) && (b1 == b2))) w := by
  rw [run_eql_struct, run_equal_op]; rfl
theorem opEq_is (p q : Ed.Op) : (((p.k : Int) == (q.k : Int)) && ((p.b.toNat : Int) == (q.b.toNat : Int))) = Ed.opEq p q := by
  unfold Ed.opEq
  rw [byte_eq, Bool.eq_iff_iff, Bool.and_eq_true_iff, Bool.and_eq_true_iff, beq_iff_eq, beq_iff_eq (a := p.k)]
  constructor
  · exact fun h => ⟨by omega, h.2⟩
  · exact fun h => ⟨by omega, h.2⟩
set_option maxRecDepth 100000 in
set_option maxHeartbeats 1600000 in
theorem same_any (u v : Value) (l m : List Ed.Op) (w : World) (hu : Opl w u l) (hv : Opl w v m) (hm : m.length ≤ 1000000) : Calls Try.prog 26 #[u, v] w fun e w' => e = .returned (.bool (Ed.eqs l m)) ∧ Below w.heap.size w w' := by
  obtain ⟨a1, c1, rfl, h1⟩ := hu
  obtain ⟨a2, c2, rfl, h2⟩ := hv
  by_cases hlm : l.length = m.length
  · obtain ⟨n, hn⟩ : ∃ n, n = m.length := ⟨_, rfl⟩
    have HN := Lib.hid hn
    have HL : Hid (l.length = n) := by show _ = _; rw [hn]; exact hlm
    have n6 : n ≤ 1000000 := by rw [hn]; exact hm
    have H1 := Lib.hid h1
    have H2 := Lib.hid h2
    rw [hlm, ← hn]
    clear h1 h2 hn hlm hm
    go_enter Try.func26, Try.ntmps26
    go_wp2
    go_loopw [5] (fun i wr => ∃ k : Nat, k ≤ n ∧ i = .int .i64 k ∧ Hid (Ed.eqs l m = Ed.eqs (l.drop k) (m.drop k)) ∧ Hid (Below w.heap.size w wr)) (fun i _ => n - (intOf i).toNat)
    case atStart => exact ⟨0, Nat.zero_le _, rfl, rfl, Below.refl _ _⟩
    case round =>
      obtain ⟨k, hk, rfl, E, B⟩ := hrel
      by_cases hlt : k < n
      · have kl : k < l.length := by rw [HL.out]; exact hlt
        have km : k < m.length := by rw [← HN.out]; exact hlt
        obtain ⟨b1, o1, rfl, g1⟩ := H1.out.resolve_left (by intro e; rw [e] at kl; simp at kl)
        obtain ⟨b2, o2, rfl, g2⟩ := H2.out.resolve_left (by intro e; rw [e] at km; simp at km)
        obtain ⟨x0, x1⟩ := g1 k kl
        obtain ⟨y0, y1⟩ := g2 k km
        have x0 := below_cell B.out x0
        have x1 := below_cell B.out x1
        have y0 := below_cell B.out y0
        have y1 := below_cell B.out y1
        have E2 := E.out
        rw [List.drop_eq_getElem_cons kl, List.drop_eq_getElem_cons km] at E2
        obtain ⟨p, hp⟩ : ∃ p, p = l[k] := ⟨_, rfl⟩
        obtain ⟨q, hq⟩ : ∃ q, q = m[k] := ⟨_, rfl⟩
        rw [← hp] at x0 x1 E2
        rw [← hq] at y0 y1 E2
        have E3 : Hid (Ed.eqs l m = (Ed.opEq p q && Ed.eqs (l.drop (k + 1)) (m.drop (k + 1)))) := E2
        clear hp hq E2 g1 g2
        have og := op_guard
        have nq := fun w => run_neq_op p.k p.b.toNat q.k q.b.toNat w
        rw [opEq_is] at nq
        cases hpq : Ed.opEq p q with
        | false =>
          rw [hpq] at nq E3
          clear hpq
          go_wp2
          go_quiet (fail)
          go_wp2
          go_ret
          exact ⟨ret_bool E3.out.symm, below_drewN B.out _⟩
        | true =>
          rw [hpq] at nq E3
          clear hpq
          go_wp2
          go_quiet (fail)
          go_wp2
          go_roundw
          case rel => exact ⟨k + 1, by omega, by go_num, E3.out, below_drewN B.out _⟩
          case measure => simp [intOf]; omega
      · have hkn : k = n := by omega
        have E4 : Hid (Ed.eqs l m = true) := by
          show _ = _
          rw [E.out, List.drop_of_length_le (by rw [HL.out]; omega), List.drop_of_length_le (by rw [← HN.out]; omega)]; rfl
        go_wp2
        go_ret
        exact ⟨ret_bool E4.out.symm, B.out⟩
  · rw [Ed.eqs_len hlm]
    have e : ((l.length : Int) == (m.length : Int)) = false := beq_eq_false_iff_ne.2 (by omega)
    go_enter Try.func26, Try.ntmps26
    go_wp2
    go_ret
    exact ⟨rfl, Below.refl _ _⟩
end Go.Proofs.Ytalldnnegofdkaa
