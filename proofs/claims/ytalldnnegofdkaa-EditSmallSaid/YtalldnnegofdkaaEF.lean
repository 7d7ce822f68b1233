/- What the frames of layer 6's rows share: costs and scripts that came in. -/
import Derived.Test.YtalldnnegofdkaaRows
import Derived.Test.YtalldnnegofdkaaEp
import Derived.ProofKit
import Derived.OpenShut
import Derived.Lay
import Derived.ChangeOld
import Derived.Below
import Derived.Deep.SlicePairs
import Derived.Lib.SmallJoins
namespace Go.Proofs.Ytalldnnegofdkaa
open Go.ChangeShapes Go.WideShapes Go.ChangeAt Go.RowKit Go.Deep Go.Joins

theorem own : ownKnob Try.prog.godebug = none := by kernel_rfl
theorem laidOut : laidOutB Try.prog = true := by kernel_rfl
theorem list_of (p : Nat → Ed.Op → Prop) : ∀ n, (∀ i, i < n → ∃ o, p i o) → ∃ l : List Ed.Op, l.length = n ∧ ∀ j (hj : j < l.length), p j l[j]
  | 0, _ => ⟨[], rfl, fun j hj => absurd hj (Nat.not_lt_zero _)⟩
  | n + 1, h => by
    obtain ⟨l, hl, hp⟩ := list_of p n (fun i hi => h i (by omega))
    obtain ⟨o, ho⟩ := h n (by omega)
    refine ⟨l ++ [o], by simp [hl], fun j hj => ?_⟩
    by_cases e : j < l.length
    · rw [List.getElem_append_left e]; exact hp j e
    · have : j = l.length := by simp at hj; omega
      subst this
      rw [List.getElem_append_right (Nat.le_refl _)]
      simp only [Nat.sub_self, List.getElem_cons_zero]
      rw [hl]; exact ho
set_option maxRecDepth 100000 in
/-- Costs that came in. -/
theorem costs_in {H : Type} {enc : TypeId × Value → H} {w : World} {base : Nat} {spare : Nat → Bool} {held : Bool} {r : Reach} {b0 : Nat} {v : Value} {d : DataW H} {p : List MemPlace}
    (hv : Value.okWide Try.prog w r b0 23 v) (h : DataW.Trod enc Try.prog w base spare held 23 v d p) : ∃ c : Ed.Cs, v = cv c := by
  obtain ⟨c0, c1, c2, c3, y0, y1, y2, y3, m, rfl, _, _, h0, h1, h2, h3⟩ := open_agg4 Try.underlying23 (by kernel_rfl) (by kernel_rfl) hv h
  obtain ⟨x0, e0, _, _⟩ := DataW.trod_int Try.underlying3 h0
  obtain ⟨x1, e1, _, _⟩ := DataW.trod_int Try.underlying3 h1
  obtain ⟨x2, e2, _, _⟩ := DataW.trod_int Try.underlying3 h2
  obtain ⟨x3, e3, _, _⟩ := DataW.trod_int Try.underlying3 h3
  simp at e0 e1 e2 e3
  subst e0 e1 e2 e3
  exact ⟨⟨x0, x1, x2, x3⟩, rfl⟩

set_option maxRecDepth 100000 in
theorem ops_in {H : Type} {enc : TypeId × Value → H} {w : World} {base : Nat} {spare : Nat → Bool} {held : Bool} {r : Reach} {b0 : Nat} {v : Value} {d : DataW H} {p : List MemPlace}
    (hv : Value.okWide Try.prog w r b0 26 v) (h : DataW.Trod enc Try.prog w base spare held 26 v d p) : ∃ l : List Ed.Op, Opl w v l ∧ ∀ o ∈ l, o.k ≤ 255 := by
  obtain ⟨a0, len0, cap0, rfl⟩ := okWide_slice Try.underlying26 hv
  obtain ⟨fuel, hf⟩ := h
  rcases open_slice_pairs Try.underlying26 Try.underlying40 (by kernel_rfl) rfl rfl (by kernel_rfl) (by kernel_rfl) hf with ⟨hcs, _⟩ | ⟨a, len, cap, m, n, V0, V1, D0, D1, P0, P1, hcs, _, hl, hm, hmm, _, hx⟩
  · simp [Value.cells] at hcs
    obtain ⟨rfl, rfl, rfl⟩ := hcs
    exact ⟨[], Opl.nil _ _ _, fun o ho => by simp at ho⟩
  · simp [Value.cells] at hcs
    obtain ⟨rfl, rfl, rfl⟩ := hcs
    have hlm : len0 ≤ m := by rw [hmm]; split <;> omega
    obtain ⟨l, hl, hp⟩ := list_of (fun i o => o.k ≤ 255 ∧ w.cell? (a.add (i * 2)) = some (.int .u8 (o.k : Nat)) ∧ w.cell? (a.add (i * 2 + 1)) = some (.int .u8 (o.b.toNat : Nat))) len0 (fun i hi => by
      obtain ⟨h1, h2, h3, h4⟩ := hx i (by omega)
      obtain ⟨x0, e0, _, w0⟩ := DataW.trod_int Try.underlying5 h3
      obtain ⟨x1, e1, _, w1⟩ := DataW.trod_int Try.underlying5 h4
      simp at e0 e1
      have b0 : 0 ≤ x0 ∧ x0 ≤ 255 := by simpa [Lit.wf, IntKind.min, IntKind.max, IntKind.signed, IntKind.bits] using w0
      have b1 : 0 ≤ x1 ∧ x1 ≤ 255 := by simpa [Lit.wf, IntKind.min, IntKind.max, IntKind.signed, IntKind.bits] using w1
      refine ⟨⟨x0.toNat, UInt8.ofNat x1.toNat⟩, by show x0.toNat ≤ 255; omega, ?_, ?_⟩
      · rw [h1, e0]
        show _ = some (Value.int .u8 ((x0.toNat : Nat) : Int))
        rw [show ((x0.toNat : Nat) : Int) = x0 by omega]
      · rw [h2, e1]
        show _ = some (Value.int .u8 (((UInt8.ofNat x1.toNat).toNat : Nat) : Int))
        rw [UInt8.toNat_ofNat', show (((x1.toNat % 2 ^ 8 : Nat)) : Int) = x1 by omega])
    refine ⟨l, ⟨some a, cap0, by rw [hl], ?_⟩, fun o ho => ?_⟩
    · by_cases h0 : l = []
      · exact Or.inl h0
      · have hpos : 0 < l.length := List.length_pos_iff.2 h0
        obtain ⟨b, off, spot⟩ := a
        have hspot : spot = none := by
          have := (hp 0 hpos).2.1
          simpa [Addr.add] using World.cell?_spot this
        subst hspot
        refine Or.inr ⟨b, off, rfl, fun j hj => ?_⟩
        have := (hp j hj).2
        rw [add_plain, add_plain] at this
        exact ⟨this.1, this.2⟩
    · obtain ⟨j, hj, rfl⟩ := List.mem_iff_getElem.1 ho
      exact (hp j hj).1
end Go.Proofs.Ytalldnnegofdkaa
