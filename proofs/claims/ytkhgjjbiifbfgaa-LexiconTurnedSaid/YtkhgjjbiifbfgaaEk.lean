/- The table of steps: stepKinds, and what the map tells. -/
import Derived.Test.YtkhgjjbiifbfgaaEc
namespace Go.Proofs.Ytkhgjjbiifbfgaa
open Go.RowKit
open Go.Maps (Keyed)

/-- A kind of steps as a value. -/
abbrev fv (n : Nat) : Value := .func (.func n) #[] #[]
def sv (k : Nat) : Value := .agg #[.int .i64 (Ed.tk k : Nat), .int .i64 (Ed.wr k : Nat), fv (fcost k), fv (fdoes k), fv (ffits k)]
abbrev sv0 : Value := .agg #[.int .i64 0, .int .i64 0, .nilFunc, .nilFunc, .nilFunc]
abbrev num (n : Int) : DataW Unit := .lit (.int .i64 n)
open Classical in
/-- How the map's values read. -/
noncomputable def Rk (v : Value) : Option (DataW Unit × List MemPlace) :=
  if v = sv 1 then some (num 1, []) else if v = sv 2 then some (num 2, []) else if v = sv 3 then some (num 3, []) else if v = sv 4 then some (num 4, []) else if v = sv 5 then some (num 5, []) else if v = sv0 then some (num 0, []) else none
theorem sv_ne {i j : Nat} (h : fcost i ≠ fcost j) : sv i ≠ sv j := by
  intro e
  unfold sv at e
  simp at e
  exact h e.2.2.1
theorem sv_ne0 (i : Nat) : sv0 ≠ sv i := by
  intro e
  unfold sv at e
  simp at e
theorem rk_1 : Rk (sv 1) = some (num 1, []) := by unfold Rk; simp
theorem rk_2 : Rk (sv 2) = some (num 2, []) := by unfold Rk; rw [if_neg (sv_ne (by decide)), if_pos rfl]
theorem rk_3 : Rk (sv 3) = some (num 3, []) := by unfold Rk; rw [if_neg (sv_ne (by decide)), if_neg (sv_ne (by decide)), if_pos rfl]
theorem rk_4 : Rk (sv 4) = some (num 4, []) := by unfold Rk; rw [if_neg (sv_ne (by decide)), if_neg (sv_ne (by decide)), if_neg (sv_ne (by decide)), if_pos rfl]
theorem rk_5 : Rk (sv 5) = some (num 5, []) := by unfold Rk; rw [if_neg (sv_ne (by decide)), if_neg (sv_ne (by decide)), if_neg (sv_ne (by decide)), if_neg (sv_ne (by decide)), if_pos rfl]
theorem rk_0 : Rk sv0 = some (num 0, []) := by unfold Rk; rw [if_neg (sv_ne0 1), if_neg (sv_ne0 2), if_neg (sv_ne0 3), if_neg (sv_ne0 4), if_neg (sv_ne0 5), if_pos rfl]
theorem rk_inv {v : Value} {k : Nat} {ps : List MemPlace} (hk : 1 ≤ k ∧ k ≤ 5) (h : Rk v = some (num k, ps)) : v = sv k := by
  rcases kind5 hk with rfl | rfl | rfl | rfl | rfl
  all_goals
    unfold Rk at h
    repeat' split at h
    all_goals first
      | assumption
      | (exfalso; simp at h; done)
/-- What the map holds. -/
def Dk : DataW Unit := .map [(.int .u8 1, num 1), (.int .u8 2, num 2), (.int .u8 3, num 3), (.int .u8 4, num 4), (.int .u8 5, num 5)]
theorem dk_put : (((((DataW.map (H := Unit) []).put (.int .u8 1) (num 1)).put (.int .u8 2) (num 2)).put (.int .u8 3) (num 3)).put (.int .u8 4) (num 4)).put (.int .u8 5) (num 5) = Dk := rfl
theorem dk_no (x : Int) (h : x < 1 ∨ 5 < x) : Go.Maps.has Dk (.int .u8 x) = false := by
  unfold Dk
  rw [Go.Maps.has_eq]
  simp [Lit.sameKey]
  omega
theorem dk_yes (k : Nat) (h : 1 ≤ k ∧ k ≤ 5) : Go.Maps.has Dk (.int .u8 (k : Int)) = true ∧ Dk.atKey (.int .u8 (k : Int)) (num 0) = num k := by
  rcases kind5 h with rfl | rfl | rfl | rfl | rfl
  all_goals exact ⟨rfl, rfl⟩
theorem keyU8 : Keyed Try.prog 5 := Go.Maps.int_keyed Try.underlying5
theorem zeroK (w : World) : (zeroValue 87).run Try.prog w = .ok sv0 w := by kernel_rfl
/-- An entry of a map's literal. -/
theorem wpList_insert_at {H : Type} {P : Program} (w : World) {ops : Array Oper} {rest : List Oper} {o : Oper} {a : Act} {Q : Exit → Act → World → Prop}
    (hg : o.guard = none) (m x v : Operand) (t : TypeId) (hop : o.op = Op.insert t m x v)
    (k e : TypeId) (K : Keyed P k) (ht : P.underlying t = some (.map k e)) (R : Value → Option (DataW H × List MemPlace)) (b n : Nat) (D : DataW H)
    (hm : a.eval m = .map (some b)) (hown : w.ownsMap P k R b n D) (hn : n < maxLen) (key val : Value) (kl : Lit) (hx : a.eval x = key) (hv : a.eval v = val) (hkey : keyOf P k key = some kl)
    (d : DataW H) (ps : List MemPlace) (hval : R val = some (d, ps))
    (hK : ∀ w', w'.ownsMap P k R b (n + 1) (D.put kl d) → w.grownBy w' (some b) → wpList P ops Q rest (a.put o.dst undef) w') :
    wpList P ops Q (o :: rest) a w :=
  wpList_plain hg fun K' hK' => by
    obtain ⟨w', hrun, s1, s2⟩ := hown.update K ht hn hkey hval
    unfold Oper.wp
    simp [execOp, hop, hm, hx, hv, hrun, Result.andThen]
    exact hK' _ _ (hK w' s1 s2)
/-- The table in memory. -/
abbrev Tm (w : World) (b : Nat) : Prop := w.ownsMap Try.prog 5 Rk b 5 Dk
theorem Tm.keep {w w' : World} {b : Nat} (h : Tm w b) (hb : w'.heap[b]? = w.heap[b]?) : Tm w' b := by
  obtain ⟨es, clock, hg, F, hs, hD⟩ := h
  exact ⟨es, clock, hb.trans hg, F, hs, hD⟩
set_option maxRecDepth 100000 in
set_option maxHeartbeats 1600000 in
theorem stepKinds_any (w : World) : Calls Try.prog 42 #[] w fun e w' => ∃ b, e = .returned (.map (some b)) ∧ w.heap.size ≤ b ∧ Tm w' b ∧ Below w.heap.size w w' := by
  have hmm := @run_makeMap Try.prog
  have own0 : (w.alloc (Obj.map #[] 0)).ownsMap Try.prog 5 Rk w.heap.size 0 (.map []) := World.ownsMap_made w Try.prog 5 Rk
  have b0 : Below w.heap.size w (w.alloc (Obj.map #[] 0)) := (Below.refl _ _).alloc (Nat.le_refl _) _
  have BL := Lib.hid b0
  clear b0
  go_enter Try.func42, Try.ntmps42
  go_wp2_with (first | (refine wpList_insert_at _ rfl _ _ _ 82 rfl 5 87 keyU8 Try.underlying82 _ _ _ _ rfl own0 (by unfold maxLen; omega) _ _ _ rfl rfl (Go.Maps.keyOf_int_mk Try.underlying5 rfl) _ _ rk_1 ?_; intro w1 own1 gr1; clear own0) | (refine wpList_insert_at _ rfl _ _ _ 82 rfl 5 87 keyU8 Try.underlying82 _ _ _ _ rfl own1 (by unfold maxLen; omega) _ _ _ rfl rfl (Go.Maps.keyOf_int_mk Try.underlying5 rfl) _ _ rk_2 ?_; intro w2 own2 gr2; clear own1) | (refine wpList_insert_at _ rfl _ _ _ 82 rfl 5 87 keyU8 Try.underlying82 _ _ _ _ rfl own2 (by unfold maxLen; omega) _ _ _ rfl rfl (Go.Maps.keyOf_int_mk Try.underlying5 rfl) _ _ rk_3 ?_; intro w3 own3 gr3; clear own2) | (refine wpList_insert_at _ rfl _ _ _ 82 rfl 5 87 keyU8 Try.underlying82 _ _ _ _ rfl own3 (by unfold maxLen; omega) _ _ _ rfl rfl (Go.Maps.keyOf_int_mk Try.underlying5 rfl) _ _ rk_4 ?_; intro w4 own4 gr4; clear own3) | (refine wpList_insert_at _ rfl _ _ _ 82 rfl 5 87 keyU8 Try.underlying82 _ _ _ _ rfl own4 (by unfold maxLen; omega) _ _ _ rfl rfl (Go.Maps.keyOf_int_mk Try.underlying5 rfl) _ _ rk_5 ?_; intro w5 own5 gr5; clear own4))
  go_ret
  have bl : ∀ {wa wb : World}, Below w.heap.size w wa → wa.grownBy wb (some w.heap.size) → Below w.heap.size w wb := fun ha hg => ha.grown hg ha.size (fun k hk => by cases hk; exact Nat.le_refl _)
  exact ⟨_, rfl, Nat.le_refl _, (by show World.ownsMap _ _ _ _ _ _ Dk; rw [← dk_put]; exact own5), bl (bl (bl (bl (bl BL.out gr1) gr2) gr3) gr4) gr5⟩
theorem wf_k {k : Nat} (hk : 1 ≤ k ∧ k ≤ 5) : (Lit.int .u8 (k : Int)).wf = true := by
  rcases kind5 hk with rfl | rfl | rfl | rfl | rfl
  all_goals rfl
theorem table_at {w : World} {b k : Nat} (h : Tm w b) (hk : 1 ≤ k ∧ k ≤ 5) : (Instr.lookup 82 (.map (some b)) (.int .u8 (k : Int)) false).run Try.prog w = .ok (sv k) w := by
  obtain ⟨v, ps, h1, h2⟩ := h.lookup keyU8 Try.underlying82 (zeroK w) rk_0 (Go.Maps.keyOf_int_mk Try.underlying5 (wf_k hk))
  rw [(dk_yes k hk).2] at h2
  rw [h1, rk_inv hk h2]
end Go.Proofs.Ytkhgjjbiifbfgaa
