/- The reference's limbs, fit, Right. -/
import Derived.Test.YtlmigbfpdbkkjaaDoorBj
import Derived.Test.YtlmigbfpdbkkjaaDoorNp
namespace Go.Proofs.YtlmigbfpdbkkjaaDoor
open Go.RowKit

namespace Nt
theorem val_inc (b : Nat) : ∀ (l : List Nat) (i q : Nat), i < l.length → Pos.val b (l.set i (l.getD i 0 + q)) = Pos.val b l + b ^ i * q
  | [], i, q, h => absurd h (Nat.not_lt_zero i)
  | x :: xs, 0, q, _ => by
    show Pos.val b ((x + q) :: xs) = Pos.val b (x :: xs) + b ^ 0 * q
    rw [Pos.val_cons, Pos.val_cons, Nat.pow_zero, Nat.one_mul]; omega
  | x :: xs, i + 1, q, h => by
    have ih := val_inc b xs i q (Nat.lt_of_succ_lt_succ h)
    show Pos.val b (x :: xs.set i (xs.getD i 0 + q)) = Pos.val b (x :: xs) + b ^ (i + 1) * q
    rw [Pos.val_cons, Pos.val_cons, ih, Nat.mul_add, Nat.pow_succ, Nat.mul_comm (b ^ i) b, Nat.mul_assoc, Nat.add_assoc]
theorem digit_le {l : List Nat} {i : Nat} (h : i < l.length) : B ^ i * l.getD i 0 ≤ val l := by
  have e := Pos.val_take B l i
  have f : val l = Pos.val B (l.take (i + 1)) + B ^ (i + 1) * Pos.val B (l.drop (i + 1)) := Pos.val_split B l (i + 1) h
  rw [f, e]
  exact Nat.le_trans (Nat.le_add_left _ _) (Nat.le_add_right _ _)
theorem digit_lt {l : List Nat} {t : Nat} (h : t / 32 < l.length) (hv : val l < 2 ^ t) : l.getD (t / 32) 0 < 2 ^ (t % 32) := by
  have e : (2 : Nat) ^ t = B ^ (t / 32) * 2 ^ (t % 32) := by
    rw [← pow_limb, ← Nat.pow_add, Nat.div_add_mod]
  have d := digit_le h
  rw [e] at hv
  exact Nat.lt_of_mul_lt_mul_left (Nat.lt_of_le_of_lt d hv)
/-- So many limbs hold so many bits. -/
theorem limbs_done {M : List Nat} {X N : Nat} (hM : Fit M) (hv : val M = X) (hl : M.length = (N + 31) / 32) (hN : N = (bd X).length) : M = dig X := by
  subst hv
  refine (Pos.dig_of two_B ⟨hM, fun hlast => ?_⟩).symm
  have h0 : 0 < M.length := by
    rcases Nat.eq_zero_or_pos M.length with h | h
    · rw [List.eq_nil_of_length_eq_zero h] at hlast; simp at hlast
    · exact h
  obtain ⟨k, hk⟩ : ∃ k, M.length = k + 1 := ⟨M.length - 1, by omega⟩
  have e0 : M.getD k 0 = 0 := by
    rw [List.getLast?_eq_getElem?, hk, Nat.add_sub_cancel] at hlast
    rw [List.getD_eq_getElem?_getD, hlast]; rfl
  have e1 := Pos.val_take_zero (b := B) (l := M) e0
  rw [List.take_of_length_le (by omega)] at e1
  have e2 : Pos.val B (M.take k) < B ^ (M.take k).length := Pos.val_lt (fun x hx => hM x (List.mem_of_mem_take hx))
  rw [List.length_take, Nat.min_eq_left (by omega), ← e1] at e2
  have e3 : val M < 2 ^ (32 * k) := by rw [pow_limb]; exact e2
  have e4 := (bd_len (val M) (32 * k)).2 e3
  omega
end Nt

/-- A slice of limbs that the call has built. -/
structure Ow (w0 w : World) (v : Value) (l : List Nat) : Prop where
  own : w.ownsRow w0.heap.size 48 1 v l.length (cv l)
  bl : Below w0.heap.size w0 w
  fit : Nt.Fit l
theorem Ow.nil (w : World) : Ow w w (.slice none 0 0) [] := ⟨World.ownsRow_nil _ _ _ _, Below.refl _ _, Nt.fit_nil⟩
theorem Ow.alloc {w0 w : World} {v : Value} {l : List Nat} (h : Ow w0 w v l) (o : Obj) : Ow w0 (w.alloc o) v l := ⟨h.own.alloc _, h.bl.alloc h.bl.size _, h.fit⟩
theorem Ow.lm {w0 w : World} {v : Value} {l : List Nat} (h : Ow w0 w v l) : ∃ a c, v = .slice a l.length c ∧ Lm w (.slice a l.length c) l := own_lm rfl h.fit h.own
theorem Ow.row {w0 w : World} {v : Value} {l : List Nat} (h : Ow w0 w v l) (h0 : 0 < l.length) : ∃ g c, v = .slice (some ⟨g, 0, none⟩) l.length c ∧ w0.heap.size ≤ g ∧ l.length ≤ c ∧ Rw w g l := own_rw rfl h.fit h0 h.own
theorem Ow.put {w0 w : World} {g n c : Nat} {l : List Nat} (h : Ow w0 w (.slice (some ⟨g, 0, none⟩) n c) l) (hn : n = l.length) (hg : w0.heap.size ≤ g) (hr : Rw w g l) (j y : Nat) (hy : y < Nt.B) : Ow w0 (w.setCell ⟨g, j, none⟩ (.int .u32 (y : Nat))) (.slice (some ⟨g, 0, none⟩) n c) (l.set j y) := by
  subst hn
  have hr' := hr.put j y hy
  refine ⟨?_, h.bl.setCell hg _, hr'.fit⟩
  have := own_again h.own (Sv.set w ⟨g, j, none⟩ (.int .u32 (y : Nat))) hr' (by rw [List.length_set])
  rw [List.length_set]; exact this
/-- 'append(out, y)'. -/
theorem wp_pushw {ops : Array Oper} {rest : List Oper} {o : Oper} {a : Act} {w0 w : World} {Q : Exit → Act → World → Prop} (hg : o.guard = none) (s x : Operand)
    (hop : o.op = Op.call { callee := Callee.builtin Builtin.append, args := #[s, x], argTypes := #[22, 22] })
    (v : Value) (l : List Nat) (hs : a.eval s = v) (h : Ow w0 w v l) (y : Nat) (hy : y < Nt.B) (d c : Nat) (hx : a.eval x = .slice (some ⟨d, 0, none⟩) 1 c) (hd : w.cell? ⟨d, 0, none⟩ = some (.int .u32 (y : Nat))) (hl : l.length ≤ 1000000)
    (hK : ∀ g c' w', Ow w0 w' (.slice (some ⟨g, 0, none⟩) (l.length + 1) c') (l ++ [y]) → w0.heap.size ≤ g → Rw w' g (l ++ [y]) → l.length + 1 ≤ c' → wpList Tryd.prog ops Q rest (a.put o.dst (.slice (some ⟨g, 0, none⟩) (l.length + 1) c')) w') : wpList Tryd.prog ops Q (o :: rest) a w := by
  obtain ⟨i0, hi, hz0, hz1, hz2⟩ := info_parts info_limb
  refine wpList_append_own w hg s x 22 hop w0.heap.size 48 i0 (.int .u32 0) 1 4 Tryd.underlying22 hi hz0 hz1 hz2 rfl (by decide) v l.length (cv l) hs h.own ⟨d, 0, none⟩ 1 c [.int .u32 (y : Nat)] hx rfl
    (fun j u hj => ?_) (fun u hu => ?_) (by unfold maxLen; omega) (by omega) h.bl.size (fun v' w' hown hgrow _ => ?_)
  · cases j with
    | zero => obtain rfl := Option.some.inj hj; exact hd
    | succ j => simp at hj
  · rw [List.mem_singleton] at hu; subst hu; rfl
  · have hf : Nt.Fit (l ++ [y]) := by
      intro z hz
      rcases List.mem_append.1 hz with hz | hz
      · exact h.fit z hz
      · rw [List.mem_singleton] at hz; subst hz; exact hy
    have el : (l ++ [y]).length = l.length + 1 := by rw [List.length_append]; rfl
    have O : Ow w0 w' v' (l ++ [y]) := ⟨by rw [el, cv_app]; exact hown, h.bl.grown hgrow h.bl.size (fun g hk => (h.own.lt g hk).1), hf⟩
    obtain ⟨g, c', rfl, hB, hc, hr⟩ := O.row (by omega)
    rw [el] at hc O ⊢
    exact hK g c' w' O hB hr hc
end Go.Proofs.YtlmigbfpdbkkjaaDoor
