/- The reference's Right, and scripts that are built for it. -/
import Derived.Test.YtalldnnegofdkaaCEJoined
import Derived.Test.YtalldnnegofdkaaEbk
import Derived.Deep.RegionLawGrows
namespace Go.Proofs.Ytalldnnegofdkaa
open Go.RowKit Go.Shelf

theorem info_rop : (Try.prog.info? 66).map (fun i => (i.zero, i.size, i.bytes)) = some (some (.agg #[.int .u8 0, .int .u8 0]), 2, 2) := by kernel_rfl
/-- A script of the reference's that the call has built. -/
structure Ro (w0 w : World) (v : Value) (l : List Ed.Op) : Prop where
  own : w.ownsRow w0.heap.size 66 2 v l.length (ocs l)
  bl : Below w0.heap.size w0 w
theorem Ro.start {w0 w : World} (h : Below w0.heap.size w0 w) : Ro w0 w (.slice none 0 0) [] := ⟨World.ownsRow_nil _ _ _ _, h⟩
theorem Ro.alloc {w0 w : World} {v : Value} {l : List Ed.Op} (h : Ro w0 w v l) (o : Obj) : Ro w0 (w.alloc o) v l := ⟨h.own.alloc _, h.bl.alloc h.bl.size _⟩
theorem Ro.opl {w0 w : World} {v : Value} {l : List Ed.Op} (h : Ro w0 w v l) : Opl w v l := by
  rcases h.own.2 with ⟨rfl, hn⟩ | ⟨g, cap, cur, rfl, _, _, hcap, _⟩
  · exact ⟨none, 0, by rw [hn], Or.inl (List.eq_nil_of_length_eq_zero hn)⟩
  · refine ⟨_, cap, rfl, Or.inr ⟨g, 0, rfl, fun j hj => ?_⟩⟩
    obtain ⟨h1, h2⟩ := ocs_at l j hj
    refine ⟨?_, ?_⟩
    · rw [Nat.zero_add, h.own.cellAt _ (by omega), h1]
    · rw [Nat.zero_add, h.own.cellAt _ (by omega), h2]
theorem wp_pushq {ops : Array Oper} {rest : List Oper} {o : Oper} {a : Act} {w0 w : World} {Q : Exit → Act → World → Prop} (hg : o.guard = none) (s x : Operand)
    (hop : o.op = Op.call { callee := Callee.builtin Builtin.append, args := #[s, x], argTypes := #[63, 63] })
    (v : Value) (l : List Ed.Op) (hs : a.eval s = v) (h : Ro w0 w v l) (y : Ed.Op) (d c : Nat) (hx : a.eval x = .slice (some ⟨d, 0, none⟩) 1 c) (hd : ∀ j u, (ocells y)[j]? = some u → w.cell? ⟨d, j, none⟩ = some u) (hl : l.length ≤ 1000000)
    (hK : ∀ v' w', Ro w0 w' v' (l ++ [y]) → wpList Try.prog ops Q rest (a.put o.dst v') w') : wpList Try.prog ops Q (o :: rest) a w := by
  obtain ⟨i0, hi, hz0, hz1, hz2⟩ := info_parts info_rop
  refine wpList_append_own w hg s x 63 hop w0.heap.size 66 i0 _ 2 2 Try.underlying63 hi hz0 hz1 hz2 rfl (by decide) v l.length (ocs l) hs h.own ⟨d, 0, none⟩ 1 c (ocells y) hx rfl
    (fun j u hj => ?_) (fun u hu => ?_) (by unfold maxLen; omega) (by omega) h.bl.size (fun v' w' hown hgrow _ => ?_)
  · rw [show (⟨d, 0, none⟩ : Addr).add j = ⟨d, j, none⟩ by cases j <;> simp [Addr.add]]; exact hd j u hj
  · simp only [ocells, List.mem_cons, List.not_mem_nil, or_false] at hu
    rcases hu with rfl | rfl <;> rfl
  · refine hK v' w' ⟨?_, h.bl.grown hgrow h.bl.size (fun g hk => (h.own.lt g hk).1)⟩
    rw [List.length_append, ocs_app]; exact hown
theorem push_cells (w : World) (y : Ed.Op) (t : TypeId) : ∀ j u, (ocells y)[j]? = some u → (w.alloc (.cells #[.int .u8 (y.k : Nat), .int .u8 (y.b.toNat : Nat)] t)).cell? ⟨w.heap.size, j, none⟩ = some u := by
  intro q z hz
  match q, hz with
  | 0, hz => exact cell_at _ _ _ 0 _ _ rfl hz
  | 1, hz => exact cell_at _ _ _ 1 _ _ rfl hz
  | q + 2, hz => simp [ocells] at hz
theorem step_pushq {ops : Array Oper} {o : Oper} {a : Act} {w0 w : World} {K : Act → World → Prop} {Q : Exit → Act → World → Prop} {E : Prop} (hg : o.guard = none) (s x : Operand)
    (hop : o.op = Op.call { callee := Callee.builtin Builtin.append, args := #[s, x], argTypes := #[63, 63] })
    (v : Value) (l : List Ed.Op) (hs : a.eval s = v) (h : Ro w0 w v l) (y : Ed.Op) (d c : Nat) (hx : a.eval x = .slice (some ⟨d, 0, none⟩) 1 c) (hd : ∀ j u, (ocells y)[j]? = some u → w.cell? ⟨d, j, none⟩ = some u) (hl : l.length ≤ 1000000)
    (hK : ∀ v' w', Ro w0 w' v' (l ++ [y]) → K (a.put o.dst v') w') : if Region.wanted o (yielded ops a.tmps) = true then Oper.wp Try.prog o a w K Q else E := by
  have hw : Region.wanted o (yielded ops a.tmps) = true := by simp [Region.wanted, hg]
  rw [if_pos hw]
  obtain ⟨i0, hi, hz0, hz1, hz2⟩ := info_parts info_rop
  obtain ⟨v', w', hrun, r1, r2, _⟩ := run_append_own (P := Try.prog) w w0.heap.size 63 o.type 66 i0 _ 2 2 Try.underlying63 hi hz0 hz1 hz2 rfl (by decide) v l.length (ocs l) h.own ⟨d, 0, none⟩ 1 c (ocells y) rfl
    (fun j u hj => by rw [show (⟨d, 0, none⟩ : Addr).add j = ⟨d, j, none⟩ by cases j <;> simp [Addr.add]]; exact hd j u hj)
    (fun u hu => by
      simp only [ocells, List.mem_cons, List.not_mem_nil, or_false] at hu
      rcases hu with rfl | rfl <;> rfl) (by unfold maxLen; omega) (by omega) h.bl.size
  have hk := hK v' w' ⟨by rw [List.length_append, ocs_app]; exact r1, h.bl.grown r2 h.bl.size (fun g hk => (h.own.lt g hk).1)⟩
  unfold Oper.wp
  simp [execOp, hop, resolve, invoke, builtin, hs, hx, hrun, Result.andThen]
  exact hk
set_option maxRecDepth 100000 in
set_option maxHeartbeats 1600000 in
theorem ops_any (l : List Ed.Op) (v : Value) (w : World) (h : Opl w v l) (hl : l.length ≤ 1000) :
    Calls Try.prog 32 #[v] w fun e w' => ∃ v', e = .returned v' ∧ Ro w w' v' l := by
  obtain ⟨a, c, rfl, h1⟩ := h
  obtain ⟨n, hn⟩ : ∃ n, n = l.length := ⟨_, rfl⟩
  have HN := Lib.hid hn
  have H1 := Lib.hid h1
  rw [← hn] at hl ⊢
  clear h1 hn
  go_enter Try.func32, Try.ntmps32
  go_wp2
  go_loopw [3, 4] (fun o iv wr => ∃ k : Nat, k ≤ n ∧ iv = .int .i64 k ∧ Hid (Ro w wr o (l.take k))) (fun _ iv _ => n - (intOf iv).toNat)
  case atStart => exact ⟨0, Nat.zero_le _, rfl, Ro.start (Below.refl _ _)⟩
  case round =>
    obtain ⟨k, hk, rfl, O⟩ := hrel
    by_cases hlt : k < n
    · have kl : k < l.length := by rw [← HN.out]; exact hlt
      obtain ⟨b, off, rfl, g1⟩ := H1.out.resolve_left (by intro e; rw [e] at kl; simp at kl)
      obtain ⟨z0, z1⟩ := g1 k kl
      have x0 := (O.out.bl.cell (World.block_lt_of_cell? _ _ z0)).trans z0
      have x1 := (O.out.bl.cell (World.block_lt_of_cell? _ _ z1)).trans z1
      have TK := Lib.hid (List.take_append_getElem kl)
      have LL : (l.take k).length ≤ 1000000 := by rw [List.length_take]; omega
      obtain ⟨p, hp⟩ : ∃ p, p = l[k] := ⟨_, rfl⟩
      rw [← hp] at z0 z1 x0 x1 TK
      have x2 := fun o => cell_in o x0
      have x3 := fun o => cell_in o x1
      have O1 := Lib.hid fun o1 o2 => (O.out.alloc o1).alloc o2
      clear hp g1
      have O2 : Ro w wr.drew u3 (l.take k) := ⟨own_quiet O.out.own (Below.refl _ _).drew, O.out.bl.drew⟩
      go_wp2
      go_region_held3 (fun w' => w'.cell? ⟨b, off + k * 2, none⟩ = some (.int .u8 (p.k : Nat)) ∧ w'.cell? ⟨b, off + k * 2 + 1, none⟩ = some (.int .u8 (p.b.toNat : Nat))) (first | (refine ⟨?_, ?_⟩ <;> first | assumption | exact x2 _ | exact x3 _ | exact x0 | exact x1) | skip)
        (first
          | ((refine step_pushq rfl _ _ rfl _ _ rfl (O2.alloc _) p wr.heap.size 1 rfl (push_cells _ p _) LL ?_); intro v' w7 O7; have x0 := (O7.bl.cell (World.block_lt_of_cell? _ _ z0)).trans z0; have x1 := (O7.bl.cell (World.block_lt_of_cell? _ _ z1)).trans z1))
      rw [TK.out] at O7
      have OH := Lib.hid O7
      clear O7 x0 x1
      go_wp2
      go_roundw
      case rel => exact ⟨k + 1, by omega, by go_num, OH.out⟩
      case measure => simp [intOf]; omega
    · have TK : l.take k = l := List.take_of_length_le (by rw [← HN.out]; omega)
      have OH := O.out
      rw [TK] at OH
      have HO := Lib.hid OH
      clear OH TK
      go_wp2
      go_ret
      exact ⟨_, rfl, HO.out⟩
set_option maxRecDepth 100000 in
set_option maxHeartbeats 1600000 in
theorem costs_any (c : Ed.Cs) (w : World) : Calls Try.prog 27 #[cv c] w fun e w' => e = .returned (cv c) ∧ Below w.heap.size w w' := by
  go_enter Try.func27, Try.ntmps27
  go_wp2
  exact bodyPost_ret (v := cv c) (by simp [results, Try.results27, go_sem]) rfl ⟨rfl, ((Below.refl _ _).alloc (Nat.le_refl _) _).alloc (by simp) _⟩
set_option maxRecDepth 100000 in
theorem rright_0 (c : Ed.Cs) (w : World) (h0 : ¬ 1 ≤ c.ins) : Calls Try.prog 29 #[cv c] w fun e w' => e = .returned (.bool false) ∧ Below w.heap.size w w' := by
  go_enter Try.func29, Try.ntmps29
  go_wp2
  go_ret
  exact ⟨rfl, (Below.refl _ _).alloc (Nat.le_refl _) _⟩
set_option maxRecDepth 100000 in
theorem rright_1 (c : Ed.Cs) (w : World) (h0 : 1 ≤ c.ins) (h1 : ¬ c.ins ≤ 1000) : Calls Try.prog 29 #[cv c] w fun e w' => e = .returned (.bool false) ∧ Below w.heap.size w w' := by
  go_enter Try.func29, Try.ntmps29
  go_wp2
  go_ret
  exact ⟨rfl, (Below.refl _ _).alloc (Nat.le_refl _) _⟩
set_option maxRecDepth 100000 in
theorem rright_2 (c : Ed.Cs) (w : World) (h0 : 1 ≤ c.ins) (h1 : c.ins ≤ 1000) (h2 : ¬ 1 ≤ c.del) : Calls Try.prog 29 #[cv c] w fun e w' => e = .returned (.bool false) ∧ Below w.heap.size w w' := by
  go_enter Try.func29, Try.ntmps29
  go_wp2
  go_ret
  exact ⟨rfl, (Below.refl _ _).alloc (Nat.le_refl _) _⟩
set_option maxRecDepth 100000 in
theorem rright_3 (c : Ed.Cs) (w : World) (h0 : 1 ≤ c.ins) (h1 : c.ins ≤ 1000) (h2 : 1 ≤ c.del) (h3 : ¬ c.del ≤ 1000) : Calls Try.prog 29 #[cv c] w fun e w' => e = .returned (.bool false) ∧ Below w.heap.size w w' := by
  go_enter Try.func29, Try.ntmps29
  go_wp2
  go_ret
  exact ⟨rfl, (Below.refl _ _).alloc (Nat.le_refl _) _⟩
set_option maxRecDepth 100000 in
theorem rright_4 (c : Ed.Cs) (w : World) (h0 : 1 ≤ c.ins) (h1 : c.ins ≤ 1000) (h2 : 1 ≤ c.del) (h3 : c.del ≤ 1000) (h4 : ¬ 1 ≤ c.chg) : Calls Try.prog 29 #[cv c] w fun e w' => e = .returned (.bool false) ∧ Below w.heap.size w w' := by
  go_enter Try.func29, Try.ntmps29
  go_wp2
  go_ret
  exact ⟨rfl, (Below.refl _ _).alloc (Nat.le_refl _) _⟩
set_option maxRecDepth 100000 in
theorem rright_5 (c : Ed.Cs) (w : World) (h0 : 1 ≤ c.ins) (h1 : c.ins ≤ 1000) (h2 : 1 ≤ c.del) (h3 : c.del ≤ 1000) (h4 : 1 ≤ c.chg) (h5 : ¬ c.chg ≤ 1000) : Calls Try.prog 29 #[cv c] w fun e w' => e = .returned (.bool false) ∧ Below w.heap.size w w' := by
  go_enter Try.func29, Try.ntmps29
  go_wp2
  go_ret
  exact ⟨rfl, (Below.refl _ _).alloc (Nat.le_refl _) _⟩
set_option maxRecDepth 100000 in
theorem rright_6 (c : Ed.Cs) (w : World) (h0 : 1 ≤ c.ins) (h1 : c.ins ≤ 1000) (h2 : 1 ≤ c.del) (h3 : c.del ≤ 1000) (h4 : 1 ≤ c.chg) (h5 : c.chg ≤ 1000) (h6 : ¬ 1 ≤ c.swp) : Calls Try.prog 29 #[cv c] w fun e w' => e = .returned (.bool false) ∧ Below w.heap.size w w' := by
  go_enter Try.func29, Try.ntmps29
  go_wp2
  go_ret
  exact ⟨rfl, (Below.refl _ _).alloc (Nat.le_refl _) _⟩
set_option maxRecDepth 100000 in
theorem rright_7 (c : Ed.Cs) (w : World) (h0 : 1 ≤ c.ins) (h1 : c.ins ≤ 1000) (h2 : 1 ≤ c.del) (h3 : c.del ≤ 1000) (h4 : 1 ≤ c.chg) (h5 : c.chg ≤ 1000) (h6 : 1 ≤ c.swp) (h7 : ¬ c.swp ≤ 1000) : Calls Try.prog 29 #[cv c] w fun e w' => e = .returned (.bool false) ∧ Below w.heap.size w w' := by
  go_enter Try.func29, Try.ntmps29
  go_wp2
  go_ret
  exact ⟨rfl, (Below.refl _ _).alloc (Nat.le_refl _) _⟩
set_option maxRecDepth 100000 in
theorem rright_8 (c : Ed.Cs) (w : World) (h0 : 1 ≤ c.ins) (h1 : c.ins ≤ 1000) (h2 : 1 ≤ c.del) (h3 : c.del ≤ 1000) (h4 : 1 ≤ c.chg) (h5 : c.chg ≤ 1000) (h6 : 1 ≤ c.swp) (h7 : c.swp ≤ 1000) : Calls Try.prog 29 #[cv c] w fun e w' => e = .returned (.bool true) ∧ Below w.heap.size w w' := by
  go_enter Try.func29, Try.ntmps29
  go_wp2
  go_ret
  exact ⟨rfl, (Below.refl _ _).alloc (Nat.le_refl _) _⟩
theorem rright_any (c : Ed.Cs) (w : World) : Calls Try.prog 29 #[cv c] w fun e w' => e = .returned (.bool (Ed.Rcb c)) ∧ Below w.heap.size w w' := by
  by_cases h0 : 1 ≤ c.ins
  · skip
    by_cases h1 : c.ins ≤ 1000
    · skip
      by_cases h2 : 1 ≤ c.del
      · skip
        by_cases h3 : c.del ≤ 1000
        · skip
          by_cases h4 : 1 ≤ c.chg
          · skip
            by_cases h5 : c.chg ≤ 1000
            · skip
              by_cases h6 : 1 ≤ c.swp
              · skip
                by_cases h7 : c.swp ≤ 1000
                · skip
                  rw [(Ed.rc_iff c).2 ⟨⟨h0, h1⟩, ⟨h2, h3⟩, ⟨h4, h5⟩, h6, h7⟩]; exact rright_8 c w h0 h1 h2 h3 h4 h5 h6 h7
                · rw [show Ed.Rcb c = false from rcb_no (fun h => h7 h.2.2.2.2)]; exact rright_7 c w h0 h1 h2 h3 h4 h5 h6 h7
              · rw [show Ed.Rcb c = false from rcb_no (fun h => h6 h.2.2.2.1)]; exact rright_6 c w h0 h1 h2 h3 h4 h5 h6
            · rw [show Ed.Rcb c = false from rcb_no (fun h => h5 h.2.2.1.2)]; exact rright_5 c w h0 h1 h2 h3 h4 h5
          · rw [show Ed.Rcb c = false from rcb_no (fun h => h4 h.2.2.1.1)]; exact rright_4 c w h0 h1 h2 h3 h4
        · rw [show Ed.Rcb c = false from rcb_no (fun h => h3 h.2.1.2)]; exact rright_3 c w h0 h1 h2 h3
      · rw [show Ed.Rcb c = false from rcb_no (fun h => h2 h.2.1.1)]; exact rright_2 c w h0 h1 h2
    · rw [show Ed.Rcb c = false from rcb_no (fun h => h1 h.1.2)]; exact rright_1 c w h0 h1
  · rw [show Ed.Rcb c = false from rcb_no (fun h => h0 h.1.1)]; exact rright_0 c w h0
end Go.Proofs.Ytalldnnegofdkaa
