/- Trees of words in memory; new nodes. -/
import Derived.Test.YtkhgjjbiifbfgaaLs
namespace Go.Proofs.Ytkhgjjbiifbfgaa
open Go.RowKit
open Go.Maps (Keyed)

abbrev nmv (n : Int) : DataW Unit := .lit (.int .i64 n)
abbrev nd (b : Nat) : Value := .pointer (some ⟨b, 0, none⟩)
/-- A node's place, or none, as a pointer, and as a number. -/
def ptr : Option (Nat × Nat) → Value
  | some x => nd x.1
  | none => .pointer none
def pid : Option (Nat × Nat) → Int
  | some x => x.1
  | none => -1
open Classical in
/-- How pointers to nodes read. -/
noncomputable def Rn (v : Value) : Option (DataW Unit × List MemPlace) :=
  if v = .pointer none then some (nmv (-1), []) else if h : ∃ b, v = nd b then some (nmv (h.choose : Nat), []) else none
theorem rn_ptr (o : Option (Nat × Nat)) : Rn (ptr o) = some (nmv (pid o), []) := by
  cases o with
  | none => unfold Rn ptr pid; rw [if_pos rfl]
  | some x =>
    unfold Rn ptr pid
    rw [if_neg (by simp)]
    have h : ∃ b, nd x.1 = nd b := ⟨_, rfl⟩
    rw [dif_pos h]
    have e : h.choose = x.1 := by
      have := h.choose_spec
      simpa using this.symm
    rw [e]
theorem rn_inv {v : Value} {o : Option (Nat × Nat)} {ps : List MemPlace} (h : Rn v = some (nmv (pid o), ps)) : v = ptr o := by
  unfold Rn at h
  split at h
  · rename_i e
    cases o with
    | none => exact e
    | some x => simp [pid] at h
  · split at h
    · rename_i e
      cases o with
      | none => simp [pid] at h
      | some x =>
        simp [pid] at h
        have := e.choose_spec
        have e2 : e.choose = x.1 := by omega
        rw [e2] at this
        exact this
    · cases h
theorem keyB : Keyed Try.prog 5 := Go.Maps.int_keyed Try.underlying5
theorem zeroN (w : World) : (zeroValue 55).run Try.prog w = .ok (.pointer none) w := by kernel_rfl
theorem wf_b (c : UInt8) : (Lit.int .u8 (c.toNat : Int)).wf = true := by
  have := c.toNat_lt
  simp [Lit.wf, IntKind.min, IntKind.max, IntKind.signed, IntKind.bits]
  omega
theorem key_b (c : UInt8) : keyOf Try.prog 5 (.int .u8 (c.toNat : Int)) = some (.int .u8 (c.toNat : Int)) := Go.Maps.keyOf_int_mk Try.underlying5 (wf_b c)
abbrev kb (c : UInt8) : Lit := .int .u8 (c.toNat : Int)
theorem kb_ne {c d : UInt8} (h : d ≠ c) : kb d ≠ kb c := by
  intro e
  apply h
  have : (d.toNat : Int) = c.toNat := by injection e
  exact UInt8.toNat_inj.1 (by omega)
/-- What the map of a node tells. -/
structure Kids (M : Ed.Bs → Option (Nat × Nat)) (p : Ed.Bs) (D : DataW Unit) : Prop where
  map : Go.Maps.IsMap D
  at' : ∀ c : UInt8, D.atKey (kb c) (nmv (-1)) = nmv (pid (M (p ++ [c])))
  has : ∀ c : UInt8, Go.Maps.has D (kb c) = (M (p ++ [c])).isSome
/-- A tree in memory: M tells the blocks of the node and of the map behind a text; nm the node's number. -/
structure Tr (B : Nat) (w : World) (M : Ed.Bs → Option (Nat × Nat)) (nm : Ed.Bs → Int) (N : Nat) : Prop where
  apart : ∀ p q x y, M p = some x → M q = some y → x.1 = y.1 ∨ x.2 = y.2 → p = q
  ge : ∀ p x, M p = some x → B ≤ x.1 ∧ B ≤ x.2
  c0 : ∀ p x, M p = some x → w.cell? ⟨x.1, 0, none⟩ = some (.int .i64 (nm p))
  c1 : ∀ p x, M p = some x → w.cell? ⟨x.1, 1, none⟩ = some (.map (some x.2))
  fz : ∀ p x, M p = some x → w.frozen? ⟨x.1, 0, none⟩ = false
  mp : ∀ p x, M p = some x → ∃ D n, n ≤ N ∧ w.ownsMap Try.prog 5 Rn x.2 n D ∧ Kids M p D
variable {B N : Nat} {w w' : World} {M : Ed.Bs → Option (Nat × Nat)} {nm : Ed.Bs → Int}
theorem Tr.lt (h : Tr B w M nm N) {p : Ed.Bs} {x : Nat × Nat} (hx : M p = some x) : x.1 < w.heap.size ∧ x.2 < w.heap.size := by
  obtain ⟨D, n, _, h2, _⟩ := h.mp p x hx
  exact ⟨World.block_lt_of_cell? _ _ (h.c0 p x hx), h2.lt⟩
theorem map_keep {b n : Nat} {D : DataW Unit} (h : w.ownsMap Try.prog 5 Rn b n D) (hb : w'.heap[b]? = w.heap[b]?) : w'.ownsMap Try.prog 5 Rn b n D := by
  obtain ⟨es, clock, hg, F, hs, hD⟩ := h
  exact ⟨es, clock, hb.trans hg, F, hs, hD⟩
theorem Tr.quiet (h : Tr B w M nm N) (hb : Below w.heap.size w w') : Tr B w' M nm N where
  apart := h.apart
  ge := h.ge
  c0 := fun p x hx => kept_cell hb (h.c0 p x hx)
  c1 := fun p x hx => kept_cell hb (h.c1 p x hx)
  fz := fun p x hx => (hb.frozen (p := ⟨x.1, 0, none⟩) (h.lt hx).1).trans (h.fz p x hx)
  mp := fun p x hx => by
    obtain ⟨D, n, h1, h2, h3⟩ := h.mp p x hx
    exact ⟨D, n, h1, map_keep h2 (hb.block _ h2.lt), h3⟩
/-- The node behind one byte more. -/
theorem Tr.next (h : Tr B w M nm N) {p : Ed.Bs} {x : Nat × Nat} (hx : M p = some x) (c : UInt8) (W : World) (hb : Below w.heap.size w W) :
    (Instr.lookup 68 (.map (some x.2)) (.int .u8 (c.toNat : Int)) false).run Try.prog W = .ok (ptr (M (p ++ [c]))) W := by
  obtain ⟨D, n, h1, h2, h3⟩ := (h.quiet hb).mp p x hx
  obtain ⟨v, ps, hrun, hv⟩ := h2.lookup keyB Try.underlying68 (zeroN W) (rn_ptr none) (key_b c)
  rw [show nmv (pid none) = nmv (-1) from rfl, h3.at' c] at hv
  rw [hrun, rn_inv hv]
theorem Tr.mono (h : Tr B w M nm N) {N' : Nat} (hN : N ≤ N') : Tr B w M nm N' :=
  ⟨h.apart, h.ge, h.c0, h.c1, h.fz, fun p x hx => by
    obtain ⟨D, n, h1, h2, h3⟩ := h.mp p x hx
    exact ⟨D, n, Nat.le_trans h1 hN, h2, h3⟩⟩
/-- A node that has just been made. -/
structure Fresh (w w' : World) (b m : Nat) : Prop where
  lb : w.heap.size ≤ b
  lm : w.heap.size ≤ m
  c0 : w'.cell? ⟨b, 0, none⟩ = some (.int .i64 (-1))
  c1 : w'.cell? ⟨b, 1, none⟩ = some (.map (some m))
  fz : w'.frozen? ⟨b, 0, none⟩ = false
  mp : w'.ownsMap Try.prog 5 Rn m 0 (.map [])
  bl : Below w.heap.size w w'
set_option maxRecDepth 100000 in
set_option maxHeartbeats 1600000 in
theorem newNode_any (w : World) : Calls Try.prog 22 #[] w fun e w' => ∃ b m, e = .returned (nd b) ∧ Fresh w w' b m := by
  have hmm := @run_makeMap Try.prog
  have own0 : (w.alloc (Obj.map #[] 0)).ownsMap Try.prog 5 Rn w.heap.size 0 (.map []) := World.ownsMap_made w Try.prog 5 Rn
  have HO := Lib.hid own0
  clear own0
  go_enter Try.func22, Try.ntmps22
  go_wp2
  go_ret
  refine ⟨w.heap.size + 1, w.heap.size, by simp, by omega, Nat.le_refl _, cell_at _ _ _ 0 _ _ (by simp) rfl, cell_at _ _ _ 1 _ _ (by simp) rfl, ?_, HO.out.alloc _, ((Below.refl _ _).alloc (Nat.le_refl _) _).alloc (by simp) _⟩
  simp
/-- A node more. -/
theorem Tr.add {w2 w3 : World} {p : Ed.Bs} {x : Nat × Nat} {c : UInt8} {b m n : Nat} {D : DataW Unit} (h : Tr B w M nm N) (hx : M p = some x) (hn : M (p ++ [c]) = none) (hcl : ∀ d, M (p ++ [c] ++ [d]) = none) (hnm : nm (p ++ [c]) = -1)
    (hB : B ≤ w.heap.size) (F : Fresh w w2 b m) (hnN : n ≤ N) (hk : Kids M p D) (ho : w3.ownsMap Try.prog 5 Rn x.2 (n + 1) (D.put (kb c) (nmv b))) (hg : w2.grownBy w3 (some x.2)) :
    Tr B w3 (fun q => if q = p ++ [c] then some (b, m) else M q) nm (N + 1) ∧ Kc B w w3 := by
  have T2 := h.quiet F.bl
  have lt2 := fun q y (hy : M q = some y) => T2.lt hy
  have lt1 := fun q y (hy : M q = some y) => h.lt hy
  have lb := F.lb
  have lm := F.lm
  obtain ⟨D0, n0, _, mx0, _⟩ := T2.mp p x hx
  have kc : Kc B w2 w3 := by
    obtain ⟨es, clock, hes, _⟩ := mx0
    exact Kc.of_map hg hes (h.ge p x hx).2
  have kcw : Kc B w w3 := (Kc.of_below F.bl).trans kc
  refine ⟨⟨?_, ?_, ?_, ?_, ?_, ?_⟩, kcw⟩
  · intro q r y z hy hz e
    split at hy <;> split at hz
    · rename_i e1 e2; rw [e1, e2]
    · cases hy
      have := lt1 r z hz
      exfalso; rcases e with e | e <;> dsimp only at e <;> omega
    · cases hz
      have := lt1 q y hy
      exfalso; rcases e with e | e <;> dsimp only at e <;> omega
    · exact h.apart q r y z hy hz e
  · intro q y hy
    split at hy
    · cases hy; exact ⟨by dsimp only; omega, by dsimp only; omega⟩
    · exact h.ge q y hy
  · intro q y hy
    split at hy
    · rename_i e; cases hy; rw [e, hnm]; exact kc.cell F.c0
    · exact kcw.cell (h.c0 q y hy)
  · intro q y hy
    split at hy
    · cases hy; exact kc.cell F.c1
    · exact kcw.cell (h.c1 q y hy)
  · intro q y hy
    split at hy
    · cases hy; exact (kc.frozen F.c0).trans F.fz
    · exact (kcw.frozen (h.c0 q y hy)).trans (h.fz q y hy)
  · intro q y hy
    have hxlt := lt1 p x hx
    split at hy
    · rename_i e
      cases hy
      refine ⟨_, 0, Nat.zero_le _, map_keep F.mp (hg.block _ F.mp.lt (by simp; omega)), ⟨⟨_, rfl⟩, fun d => ?_, fun d => ?_⟩⟩
      · rw [e, if_neg (by intro e2; have := congrArg List.length e2; simp at this), hcl d]; rfl
      · rw [e, if_neg (by intro e2; have := congrArg List.length e2; simp at this), hcl d]; rfl
    · rename_i hne
      by_cases hqp : q = p
      · subst hqp
        rw [hx] at hy
        cases hy
        refine ⟨_, n + 1, by omega, ho, ⟨hk.map.put _ _, fun d => ?_, fun d => ?_⟩⟩
        · by_cases hd : d = c
          · subst hd
            rw [if_pos rfl, Go.Maps.atKey_put_same hk.map (keyB.key (key_b d))]; rfl
          · rw [if_neg (by intro e2; apply hd; simpa using e2), Go.Maps.atKey_put_other (kb_ne hd), hk.at' d]
        · by_cases hd : d = c
          · subst hd
            rw [if_pos rfl, Go.Maps.has_put_same hk.map (keyB.key (key_b d))]; rfl
          · rw [if_neg (by intro e2; apply hd; simpa using e2), Go.Maps.has_put_other (kb_ne hd), hk.has d]
      · obtain ⟨D1, n1, h1, h2, h3⟩ := T2.mp q y hy
        have hyx : y.2 ≠ x.2 := fun e => hqp (h.apart q p y x hy hx (Or.inr e))
        refine ⟨D1, n1, by omega, map_keep h2 (hg.block _ h2.lt (by simp; exact hyx)), ⟨h3.map, fun d => ?_, fun d => ?_⟩⟩
        · rw [if_neg (by intro e2; apply hqp; exact (List.append_inj' e2 rfl).1)]; exact h3.at' d
        · rw [if_neg (by intro e2; apply hqp; exact (List.append_inj' e2 rfl).1)]; exact h3.has d
end Go.Proofs.Ytkhgjjbiifbfgaa
