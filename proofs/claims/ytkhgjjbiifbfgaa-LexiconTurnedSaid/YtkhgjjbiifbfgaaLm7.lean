/- The numbers of words behind a node. -/
import Derived.Test.YtkhgjjbiifbfgaaLn7
namespace Go.Proofs.Ytkhgjjbiifbfgaa
open Go.RowKit

namespace Lx
theorem inc_len : ∀ (l : List Int) (a : Int) (n : Nat), l.Pairwise (· < ·) → (∀ x ∈ l, a ≤ x ∧ x < a + n) → l.length ≤ n
  | [], _, _, _, _ => Nat.zero_le _
  | x :: l, a, n, h, hb => by
    rw [List.pairwise_cons] at h
    have hx := hb x (by simp)
    cases n with
    | zero => exfalso; omega
    | succ n =>
      have := inc_len l (a + 1) n h.2 (fun y hy => by
        have h1 := h.1 y hy
        have h2 := hb y (by simp [hy])
        omega)
      simp only [List.length_cons]
      omega
theorem nodup_len {l : List Int} {n : Nat} (h : l.Nodup) (hb : ∀ x ∈ l, 0 ≤ x ∧ x < n) : l.length ≤ n := by
  have hp := List.mergeSort_perm l (fun a b => decide (a ≤ b))
  have hs := List.pairwise_mergeSort (le := fun a b : Int => decide (a ≤ b)) (fun a b c h1 h2 => by simp at *; omega) (fun a b => by simp; omega) l
  rw [← hp.length_eq]
  refine inc_len _ 0 n ?_ (fun x hx => by have := hb x (hp.mem_iff.1 hx); omega)
  have nd : (l.mergeSort (fun a b => decide (a ≤ b))).Pairwise (· ≠ ·) := hp.nodup_iff.2 h
  exact (hs.and nd).imp (fun {a b} ⟨h1, h2⟩ => by simp at h1; omega)
theorem Part.len {ws : List Ed.Bs} {p : Ed.Bs} {done : UInt8 → Bool} {l : List Int} (h : Part ws p done l) : l.length ≤ ws.length :=
  nodup_len h.nd fun x hx => by
    obtain ⟨i, hi, e, _⟩ := (h.iff x).1 hx
    omega
theorem Pre.len_le {ws : List Ed.Bs} {p : Ed.Bs} {l : List Int} (h : Pre ws p l) : l.length ≤ ws.length := by rw [h.len]; exact preN_len _ _ _
theorem Pre.ne {ws : List Ed.Bs} {p : Ed.Bs} {l : List Int} (h : Pre ws p l) (hp : ∃ x ∈ ws, p <+: x) : l ≠ [] := by
  obtain ⟨x, hx, hp⟩ := hp
  obtain ⟨i, hi, e⟩ := List.getElem_of_mem hx
  have : (i : Int) ∈ l := (h.iff _).2 ⟨i, hi, rfl, by rw [e]; exact hp⟩
  intro e2; rw [e2] at this; cases this
end Lx
/-- A slice of ints that the call has built. -/
structure Oz (w0 w : World) (v : Value) (l : List Int) : Prop where
  own : w.ownsRow w0.heap.size 3 1 v l.length (l.map (Value.int .i64))
  bl : Below w0.heap.size w0 w
theorem Oz.nil {w0 w : World} (h : Below w0.heap.size w0 w) : Oz w0 w (.slice none 0 0) [] := ⟨World.ownsRow_nil _ _ _ _, h⟩
theorem Oz.quiet {w0 w w' : World} {v : Value} {l : List Int} (h : Oz w0 w v l) (hb : Below w.heap.size w w') : Oz w0 w' v l := ⟨own_quiet h.own hb, h.bl.trans (hb.mono h.bl.size)⟩
theorem Oz.grown {w0 w w' : World} {v : Value} {l : List Int} {row : Option Nat} (h : Oz w0 w v l) (hg : w.grownBy w' row) (hr : ∀ g, row = some g → w0.heap.size ≤ g ∧ ∀ c t f, w.heap[g]? ≠ some (.cells c t f)) : Oz w0 w' v l where
  own := by
    rcases h.own with ⟨h1, h2⟩
    refine ⟨h1, ?_⟩
    rcases h2 with h2 | ⟨g, cap, cur, hv, hB, hh, h3⟩
    · exact Or.inl h2
    · exact Or.inr ⟨g, cap, cur, hv, hB, (hg.block g (Array.getElem?_eq_some_iff.1 hh).1 (fun e => (hr g e.symm).2 _ _ _ hh)).trans hh, h3⟩
  bl := h.bl.grown hg h.bl.size (fun g e => (hr g e).1)
theorem Oz.weak {w w1 w' : World} {v : Value} {l : List Int} (h : Oz w1 w' v l) (b : Below w.heap.size w w1) : Oz w w' v l := by
  obtain ⟨⟨h1, h2⟩, h3⟩ := h
  refine ⟨⟨h1, ?_⟩, b.trans (h3.mono b.size)⟩
  rcases h2 with h2 | ⟨g, cap, cur, hv, hB, hg⟩
  · exact Or.inl h2
  · exact Or.inr ⟨g, cap, cur, hv, Nat.le_trans b.size hB, hg⟩
theorem Oz.cells {w0 w : World} {v : Value} {l : List Int} (h : Oz w0 w v l) (hl : l ≠ []) : ∃ g c, v = .slice (some ⟨g, 0, none⟩) l.length c ∧ ∀ j u, (l.map (Value.int .i64))[j]? = some u → w.cell? ((⟨g, 0, none⟩ : Addr).add j) = some u := by
  rcases h.own.2 with ⟨rfl, hn⟩ | ⟨g, cap, cur, rfl, _⟩
  · exact absurd (List.eq_nil_of_length_eq_zero hn) hl
  · exact ⟨g, cap, rfl, h.own.cells rfl⟩
/-- append(l, m...) or of one int. -/
theorem wp_cat {ops : Array Oper} {rest : List Oper} {o : Oper} {a : Act} {w0 w : World} {Q : Exit → Act → World → Prop} (hg : o.guard = none) (s x : Operand)
    (hop : o.op = Op.call { callee := Callee.builtin Builtin.append, args := #[s, x], argTypes := #[44, 44] })
    (v : Value) (l : List Int) (hs : a.eval s = v) (h : Oz w0 w v l) (ad : Addr) (n c : Nat) (m : List Int) (hx : a.eval x = .slice (some ad) n c) (hn : m.length = n) (hm : ∀ j u, (m.map (Value.int .i64))[j]? = some u → w.cell? (ad.add j) = some u) (hl : l.length + n ≤ 1000000)
    (hK : ∀ v' w', Oz w0 w' v' (l ++ m) → (∀ (k : Nat) (o : Obj), w.heap[k]? = some o → isC o = false → w'.heap[k]? = some o) → wpList Try.prog ops Q rest (a.put o.dst v') w') : wpList Try.prog ops Q (o :: rest) a w := by
  obtain ⟨i0, hi, hz0, hz1, hz2⟩ := info_parts info_int
  refine wpList_append_own w hg s x 44 hop w0.heap.size 3 i0 _ 1 8 Try.underlying44 hi hz0 hz1 hz2 rfl (by decide) v l.length (l.map (Value.int .i64)) hs h.own ad n c (m.map (Value.int .i64)) hx (by rw [List.length_map, hn, Nat.mul_one])
    hm (one_cells m) (by unfold maxLen; omega) (by omega) h.bl.size (fun v' w' hown hgrow _ => ?_)
  refine hK v' w' ⟨?_, h.bl.grown hgrow h.bl.size (fun g hk => (h.own.lt g hk).1)⟩ (fun k o hk ho => (hgrow.block k (Array.getElem?_eq_some_iff.1 hk).1 (fun e => ?_)).trans hk)
  rotate_left
  · rcases h.own.2 with ⟨rfl, _⟩ | ⟨g, cap, cur, rfl, _, hh, _⟩
    · cases e
    · cases e; rw [hh] at hk; cases hk; cases ho
  rw [List.length_append, List.map_append, hn]; exact hown
theorem rn_some {v : Value} {y : DataW Unit × List MemPlace} (h : Rn v = some y) : ∃ o, v = ptr o := by
  unfold Rn at h
  split at h
  · rename_i e; exact ⟨none, e⟩
  · split at h
    · rename_i e; obtain ⟨b, rfl⟩ := e; exact ⟨some (b, 0), rfl⟩
    · cases h
theorem ranges_keep {w w' : World} {b r n cnt : Nat} {D : DataW Unit} {left : Lit → Bool} (h : w.ranges Try.prog 5 Rn b r n D left cnt) (hh : ∀ (k : Nat) (o : Obj), w.heap[k]? = some o → isC o = false → w'.heap[k]? = some o) : w'.ranges Try.prog 5 Rn b r n D left cnt := by
  obtain ⟨es, clock, since, seen, c0, hb, F, hs, hD, hr, rest⟩ := h
  exact ⟨es, clock, since, seen, c0, hh _ _ hb rfl, F, hs, hD, hh _ _ hr rfl, rest⟩
theorem below_grown {w w' : World} (hb : Below w.heap.size w w') : w.grownBy w' none := ⟨hb.os, hb.tape, hb.output, hb.size, fun k hk _ => hb.block k hk⟩
end Go.Proofs.Ytkhgjjbiifbfgaa
