/- The reference's bits: slices that it builds; bits. -/
import Derived.Test.YtlmigbfpdbkkjaaDoorBa
import Derived.Test.YtlmigbfpdbkkjaaDoorLg
namespace Go.Proofs.YtlmigbfpdbkkjaaDoor
open Go.RowKit

/-- Bits as cells. -/
def iv (l : List Nat) : List Value := l.map fun x => Value.int .i64 (x : Nat)
theorem iv_len (l : List Nat) : (iv l).length = l.length := List.length_map _
theorem iv_app (l m : List Nat) : iv (l ++ m) = iv l ++ iv m := List.map_append
theorem iv_at {l : List Nat} {j : Nat} (h : j < l.length) : (iv l)[j]? = some (.int .i64 (l.getD j 0 : Nat)) := by
  unfold iv
  rw [List.getElem?_map, List.getElem?_eq_getElem h, List.getD_eq_getElem?_getD, List.getElem?_eq_getElem h]
  rfl
/-- A slice of bits that the call has built. -/
structure Ob (w0 w : World) (v : Value) (l : List Nat) : Prop where
  own : w.ownsRow w0.heap.size 3 1 v l.length (iv l)
  bl : Below w0.heap.size w0 w
  bits : Nt.Bits l
theorem Ob.nil (w : World) : Ob w w (.slice none 0 0) [] := ⟨World.ownsRow_nil _ _ _ _, Below.refl _ _, Nt.bits_nil⟩
theorem Ob.alloc {w0 w : World} {v : Value} {l : List Nat} (h : Ob w0 w v l) (o : Obj) : Ob w0 (w.alloc o) v l := ⟨h.own.alloc _, h.bl.alloc h.bl.size _, h.bits⟩
theorem Ob.bt {w0 w : World} {v : Value} {l : List Nat} (h : Ob w0 w v l) : Bt w v l := by
  rcases h.own.2 with ⟨rfl, hn⟩ | ⟨g, cap, cur, rfl, _, _, hcap, _⟩
  · have : l = [] := List.eq_nil_of_length_eq_zero hn
    subst this
    exact Bt.nil w
  · refine ⟨_, cap, rfl, h.bits, fun e => (by cases e), hcap, Or.inr ⟨g, 0, rfl, fun j hj => ?_⟩⟩
    have := h.own.cellAt j (by omega)
    rw [Nat.zero_add, this, iv_at hj]
theorem Ob.quiet {w0 w w' : World} {v : Value} {l : List Nat} (h : Ob w0 w v l) (hb : Below w.heap.size w w') : Ob w0 w' v l := by
  refine ⟨?_, h.bl.trans (hb.mono h.bl.size), h.bits⟩
  rcases h.own with ⟨h1, h2⟩
  refine ⟨h1, ?_⟩
  rcases h2 with h2 | ⟨g, cap, cur, hv, hB, hg, h3⟩
  · exact Or.inl h2
  · have hlt : g < w.heap.size := by
      rcases Nat.lt_or_ge g w.heap.size with h' | h'
      · exact h'
      · rw [Array.getElem?_eq_none h'] at hg; cases hg
    exact Or.inr ⟨g, cap, cur, hv, hB, (hb.block g hlt).trans hg, h3⟩
theorem info_i64 : (Tryd.prog.info? 3).map (fun i => (i.zero, i.size, i.bytes)) = some (some (.int .i64 0), 1, 8) := by kernel_rfl
/-- 'append(out, y)'. -/
theorem wp_push {ops : Array Oper} {rest : List Oper} {o : Oper} {a : Act} {w0 w : World} {Q : Exit → Act → World → Prop} (hg : o.guard = none) (s x : Operand)
    (hop : o.op = Op.call { callee := Callee.builtin Builtin.append, args := #[s, x], argTypes := #[78, 78] })
    (v : Value) (l : List Nat) (hs : a.eval s = v) (h : Ob w0 w v l) (y : Nat) (hy : y < 2) (d c : Nat) (hx : a.eval x = .slice (some ⟨d, 0, none⟩) 1 c) (hd : w.cell? ⟨d, 0, none⟩ = some (.int .i64 (y : Nat))) (hl : l.length ≤ 1000000)
    (hK : ∀ v' w', Ob w0 w' v' (l ++ [y]) → wpList Tryd.prog ops Q rest (a.put o.dst v') w') : wpList Tryd.prog ops Q (o :: rest) a w := by
  obtain ⟨i0, hi, hz0, hz1, hz2⟩ := info_parts info_i64
  refine wpList_append_own w hg s x 78 hop w0.heap.size 3 i0 (.int .i64 0) 1 8 Tryd.underlying78 hi hz0 hz1 hz2 rfl (by decide) v l.length (iv l) hs h.own ⟨d, 0, none⟩ 1 c [.int .i64 (y : Nat)] hx rfl
    (fun j u hj => ?_) (fun u hu => ?_) (by unfold maxLen; omega) (by omega) h.bl.size (fun v' w' hown hgrow _ => ?_)
  · cases j with
    | zero => obtain rfl := Option.some.inj hj; exact hd
    | succ j => simp at hj
  · rw [List.mem_singleton] at hu; subst hu; rfl
  · refine hK v' w' ⟨?_, h.bl.grown hgrow h.bl.size (fun g hk => (h.own.lt g hk).1), ?_⟩
    · rw [List.length_append, iv_app]; exact hown
    · intro z hz
      rcases List.mem_append.1 hz with hz | hz
      · exact h.bits z hz
      · rw [List.mem_singleton] at hz; subst hz; exact hy

namespace Nt
theorem bits_round {L : List Nat} {x V y : Nat} (hy : y = x % 2) (h : bv L + 2 ^ L.length * x = V) : bv (L ++ [y]) + 2 ^ (L ++ [y]).length * (x / 2) = V := by
  subst hy
  rw [← h]
  have e : bv (L ++ [x % 2]) = bv L + 2 ^ L.length * (x % 2) := Pos.val_snoc 2 _ _
  rw [e, List.length_append, Nat.pow_add]
  have := Nat.div_add_mod x 2
  show bv L + 2 ^ L.length * (x % 2) + 2 ^ L.length * 2 ^ 1 * (x / 2) = _
  rw [Nat.pow_one, Nat.mul_assoc, Nat.add_assoc, ← Nat.mul_add]
  have e2 : x % 2 + 2 * (x / 2) = x := by omega
  rw [e2]
theorem pow_limb (t : Nat) : 2 ^ (32 * t) = B ^ t := by rw [Nat.pow_mul]; rfl
end Nt
end Go.Proofs.YtlmigbfpdbkkjaaDoor
