/- A loop over an iterator: what it says of each thing is said in the world in which it hands it over; the loop's variable may be laid anew in each round. -/
import Derived.RangeFuncNested
import Derived.RangeFuncBound
import Derived.RangeFuncLeaves
import Derived.Shelf.Abstract
import Derived.Shelf.RegionOpen
import Derived.OwnWalkIn
import Derived.TacticsInMore
import Derived.LoopNIn
import Derived.LoopIn
import Derived.Test.YtkhgjjbiifbfgaaLm7
namespace Go.Proofs.Ytkhgjjbiifbfgaa
open Go.RowKit

/-- The k-th thing of N is handed over with 'Ok k' said of it; a round that asks for more has kept what K says. -/
def Hands (n : Nat) (P : Program) (g : Nat) (lb : Array Value) (encs : Nat → Value → Array Value) (Ok : Nat → Value → World → Prop) (K : World → World → Prop) (N : Nat) (w : World) : Prop :=
  ∀ (l : Nat) (J X : Nat → World → Prop) (W : World), Below w.heap.size w W → AbidesFrom W.heap.size J →
    (∀ k v V, k < N → J k V → Ok k v V → YieldAt Fence.wide (n - 1) P l (encs k v) V fun e V' => (e = .returned (.bool true) ∧ J (k + 1) V' ∧ K V V') ∨ (e = .returned (.bool false) ∧ X k V')) →
    J 0 W → CallsIn Fence.wide n P g (#[.func (.yield l) #[] #[]] ++ lb) W fun e V => (∃ v, e = .returned v) ∧ (J N V ∨ ∃ k, k < N ∧ X k V)
/-- How a round may end. -/
def Ends (B : Nat) (K : World → World → Prop) (I : Nat → World → Prop) (X : Code → Nat → World → Prop) (k : Nat) (V : World) : Exit → Act → World → Prop
  | .normal, _, V' => KeepsFrom B V V' ∧ K V V' ∧ I (k + 1) V'
  | .ret, _, V' => KeepsFrom B V V' ∧ X .ret k V'
  | .exit id, _, V' => KeepsFrom B V V' ∧ X (.exit id) k V'
  | .goto t, _, V' => KeepsFrom B V V' ∧ X (.goto t) k V'
  | .panic _, _, _ => False
  | .outgrown, _, _ => False
variable {n : Nat} {P : Program} {α : Type}
theorem over_hands {g : Operand} {ps : Array Tmp} {assign body : Code} {Q : Exit → Act → World → Prop} {a : Act} {w w0 : World} {gf N : Nat} {lb : Array Value} {encs : Nat → Value → Array Value} {Ok : Nat → Value → World → Prop} {K : World → World → Prop}
    (h1 : 1 ≤ n) (hg : a.eval g = .func (.func gf) #[] lb) (eg : ∀ args w, (callFunc gf args).run P w = .ok (.enter gf args) w)
    (hands : Hands (n - 1) P gf lb encs Ok K N w0) (hb0 : Below w0.heap.size w0 w) (hps : ∀ k v, (encs k v).size = ps.size)
    (I : Nat → World → Prop) (X : Code → Nat → World → Prop) (hI : OwnFrom w.heap.size I) (hX : ∀ c, OwnFrom w.heap.size (X c)) (hOk : ∀ k v, OwnFrom w.heap.size (fun (_ : Unit) V => Ok k v V)) (hKt : ∀ {A B C : World}, K A B → K B C → K A C) (hK : ∀ (V : World) (l : Nat) (o o' : Obj), w.heap.size ≤ l → V.heap[l]? = some o → o.isCells = false → K V (V.putObj l o')) (h0 : I 0 w) (Ax : Nat → Value → Act → World → Prop) (hAx : ∀ k v a', OwnFrom w.heap.size (fun (_ : Unit) V => Ax k v a' V))
    (hassign : ∀ (l k : Nat) (v : Value) (V : World) (Z : Act → World → Prop), I k V → Ok k v V → (∀ a' V', Ax k v a' V' → KeepsFrom w.heap.size V V' → K V V' → I k V' → Ok k v V' → Z a' V') →
      assign.wpIn (Fence.wide.inRound l) (n - 1 - 1) P (Exit.then Z (fun _ _ _ => False)) { tmps := (ps.zip (encs k v)).foldl (fun t (p, u) => t.setIfInBounds p u) a.tmps, defers := [] } V)
    (hbody : ∀ (l k : Nat) (v : Value) (V : World) (a' : Act), k < N → Ax k v a' V → I k V → Ok k v V → body.wpIn (Fence.wide.inRound l) (n - 1 - 1) P (Ends w.heap.size K I X k V) a' V)
    (hdone : ∀ (D : Nat) (V : World), w.heap.size ≤ D → I N V → V.heap[D]? = some (.deferred (some [])) → Q .normal { a with defers := { target := .collected D, args := #[] } :: a.defers } V)
    (hstop : ∀ (D : Nat) (c : Code) (k : Nat) (V : World), w.heap.size ≤ D → k < N → X c k V → V.heap[D]? = some (.deferred (some [])) → c.wpIn Fence.wide n P Q { a with defers := { target := .collected D, args := #[] } :: a.defers } V) :
    (Code.rangeFunc g ps assign body).wpIn Fence.wide n P Q a w := by
  refine wpIn_rangeFunc fun fn hfn => ?_
  -- the two blocks that the loop lays: D for what is deferred, D + 1 for its record
  obtain ⟨D, hD⟩ : ∃ D, D = w.heap.size := ⟨_, rfl⟩
  obtain ⟨R, hR⟩ : ∃ R : LoopState → Option Code → Loop, R = fun s j => { state := s, pending := j, fn, tmps := a.tmps, params := ps, assign, body, defers := D } := ⟨_, rfl⟩
  obtain ⟨V0, hV0⟩ : ∃ V0, V0 = (w.alloc (.deferred (some []))).alloc (.loop (R .ready none)) := ⟨_, rfl⟩
  have rec0 : V0.heap[D + 1]? = some (.loop (R .ready none)) := by
    have := World.alloc_heap_new (w.alloc (.deferred (some []))) (.loop (R .ready none))
    rw [World.size_alloc, ← hD, ← hV0] at this; exact this
  have def0 : V0.heap[D]? = some (.deferred (some [])) := by
    rw [hV0, hD, Below.heap_alloc _ _ _ (by simp)]; exact World.alloc_heap_new w _
  have old0 : Below w.heap.size w V0 := by rw [hV0]; exact ((Below.refl _ w).alloc (Nat.le_refl _) _).alloc (by simp) _
  have inv0 : I 0 V0 := by rw [hV0]; exact hI.alloc _ (hI.alloc _ h0)
  have stays : ∀ {A B : World} {row : Option Nat} {k : Nat} {o : Obj}, A.grownBy B row → (∀ r, row = some r → V0.heap.size ≤ r ∧ ∃ o : Obj, A.heap[r]? = some o ∧ o.isWalk = true) → A.heap[k]? = some o → o.isWalk = false → B.heap[k]? = some o :=
    fun hg' hr hk ho => (grownBy_keeps hg' (fun r e => (hr r e).2) hk ho).trans hk
  have late : ∀ {A : World} {row : Option Nat}, (∀ r, row = some r → V0.heap.size ≤ r ∧ ∃ o : Obj, A.heap[r]? = some o ∧ o.isWalk = true) → ∀ r, row = some r → w.heap.size ≤ r ∧ ∃ o : Obj, A.heap[r]? = some o ∧ o.isCells = false := by
    intro A row hr r e
    obtain ⟨hle, o, ho, hw⟩ := hr r e
    exact ⟨Nat.le_trans old0.size hle, o, ho, Obj.not_cells_of_walk hw⟩
  refine ⟨D + 1, [{ target := .collected D, args := #[] }], V0, { target := .fn (.func gf) lb, args := #[.func (.yield (D + 1)) #[] #[]] }, V0, gf, #[.func (.yield (D + 1)) #[] #[]] ++ lb, V0, ?_, ?_, fun _ _ => trivial, ?_, fun _ => h1, ?_⟩
  · rw [hV0, hR, hD]; exact run_enterLoop_outer _ _ _ _ _
  · simp only [resolve, hg]; simp [go_sem]
  · simp [invoke, go_sem, eg]
  · refine (hands (D + 1)
      (fun k V => I k V ∧ V.heap[D + 1]? = some (.loop (R .ready none)) ∧ V.heap[D]? = some (.deferred (some [])))
      (fun k V => ∃ c, X c k V ∧ V.heap[D + 1]? = some (.loop (R .done (some c))) ∧ V.heap[D]? = some (.deferred (some [])))
      V0 (hb0.trans (old0.mono hb0.size))
      (fun k A B row h hg' hr => ⟨hI k A B row h.1 hg' (late hr), stays hg' hr h.2.1 rfl, stays hg' hr h.2.2 rfl⟩) ?_ ⟨inv0, rec0, def0⟩).mono ?_
    · rintro k v V hk ⟨hi, hl, hd⟩ hv
      have yields := run_yield (P := P) (args := encs k v) hl (by rw [hR]; exact hps k v)
      rw [hR] at yields
      refine ⟨fn, _, assign, body, yields, roundIn_of_wpIn hfn (hassign _ k v V _ hi hv fun a' V' hax kf0 sv0 hi' hv' => ?_)⟩
      have hl' := kf0.same _ _ (by omega) hl rfl
      have hd' := kf0.same _ _ (by omega) hd rfl
      refine ⟨_, run_beginRound hl' (by rw [hR]), ?_⟩
      clear hi hv
      obtain ⟨U, hU⟩ : ∃ U, U = V'.putObj (D + 1) (.loop { R .ready none with state := .busy }) := ⟨_, rfl⟩
      rw [← hU]
      have recU : U.heap[D + 1]? = some (.loop { R .ready none with state := .busy }) := by rw [hU]; exact World.putObj_heap_same (Array.getElem?_eq_some_iff.1 hl').1
      have defU : U.heap[D]? = some (.deferred (some [])) := by rw [hU]; exact (World.putObj_heap_other (by omega)).trans hd'
      have svU : K V U := by rw [hU]; exact hKt sv0 (hK V' _ _ _ (by omega) hl' rfl)
      have endU : ∀ (j : Option Code) (Y : World), KeepsFrom w.heap.size U Y → ∃ Z, Z = Y.putObj (D + 1) (.loop (R (if j.isNone then .ready else .done) j)) ∧ (Instr.endRound (D + 1) j).run P Y = .ok (.bool j.isNone) Z ∧
          Y.heap[D + 1]? = some (.loop { R .ready none with state := .busy }) ∧ Z.heap[D + 1]? = some (.loop (R (if j.isNone then .ready else .done) j)) ∧ Z.heap[D]? = some (.deferred (some [])) := by
        intro j Y hY
        have recY := hY.same _ _ (by omega) recU rfl
        have er := run_endRound (P := P) j recY
        refine ⟨_, rfl, ?_, recY, World.putObj_heap_same (Array.getElem?_eq_some_iff.1 recY).1, (World.putObj_heap_other (by omega)).trans (hY.same _ _ (by omega) defU rfl)⟩
        rw [hR] at er ⊢; exact er
      refine wpIn_mono (hbody _ k v U a' hk (by rw [hU]; exact (hAx k v a').putObj (s := ()) _ hax (by omega) hl' rfl) (by rw [hU]; exact hI.putObj _ hi' (by omega) hl' rfl) (by rw [hU]; exact (hOk k v).putObj (s := ()) _ hv' (by omega) hl' rfl)) ?_
      rintro e a3 Y he
      cases e with
      | panic _ => exact he.elim
      | outgrown => exact he.elim
      | normal =>
        obtain ⟨kf, sv, hi'⟩ := he
        obtain ⟨Z, hZ, er, recY, recZ, defZ⟩ := endU none Y kf
        refine ⟨_, Z, er, .inl ⟨rfl, ⟨?_, recZ, defZ⟩, hKt (hKt svU sv) ?_⟩⟩
        · rw [hZ]; exact hI.putObj _ hi' (by omega) recY rfl
        · rw [hZ]; exact hK Y _ _ _ (by omega) recY rfl
      | ret =>
        obtain ⟨Z, hZ, er, recY, recZ, defZ⟩ := endU (some .ret) Y he.1
        refine ⟨_, Z, er, .inr ⟨rfl, .ret, ?_, recZ, defZ⟩⟩
        rw [hZ]; exact (hX _).putObj _ he.2 (by omega) recY rfl
      | exit id =>
        obtain ⟨Z, hZ, er, recY, recZ, defZ⟩ := endU (some (.exit id)) Y he.1
        refine ⟨_, Z, er, .inr ⟨rfl, .exit id, ?_, recZ, defZ⟩⟩
        rw [hZ]; exact (hX _).putObj _ he.2 (by omega) recY rfl
      | goto t =>
        obtain ⟨Z, hZ, er, recY, recZ, defZ⟩ := endU (some (.goto t)) Y he.1
        refine ⟨_, Z, er, .inr ⟨rfl, .goto t, ?_, recZ, defZ⟩⟩
        rw [hZ]; exact (hX _).putObj _ he.2 (by omega) recY rfl
    · rintro e V ⟨⟨v, rfl⟩, ⟨hi, hl, hd⟩ | ⟨k, hk, c, hx, hl, hd⟩⟩
      · refine ⟨none, V.putObj (D + 1) (.loop { R .ready none with state := .exhausted }), ?_, hdone D _ (by omega) (hI.putObj _ hi (by omega) hl rfl) ((World.putObj_heap_other (by omega)).trans hd)⟩
        have := run_endLoop (P := P) hl (by rw [hR]; simp)
        rw [hR] at this ⊢; exact this
      · refine ⟨some c, V.putObj (D + 1) (.loop { R .done (some c) with state := .exhausted }), ?_, hstop D c k _ (by omega) hk ((hX c).putObj _ hx (by omega) hl rfl) ((World.putObj_heap_other (by omega)).trans hd)⟩
        have := run_endLoop (P := P) hl (by rw [hR]; simp)
        rw [hR] at this ⊢; exact this
end Go.Proofs.Ytkhgjjbiifbfgaa
