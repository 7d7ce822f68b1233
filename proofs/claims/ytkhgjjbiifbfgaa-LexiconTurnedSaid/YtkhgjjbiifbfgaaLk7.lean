/- Hits of the words turned round, and of one word more; texts that the call has built. -/
import Derived.Test.YtkhgjjbiifbfgaaLj7
import Derived.Laws.AppendOwnNone
namespace Go.Proofs.Ytkhgjjbiifbfgaa
open Go.RowKit Go.Shelf

namespace Lx
open Ed (Bs Cs)
theorem rawN_cnt (c : Cs) (s : Bs) (ws : List Bs) (most : Int) : ∀ k, k ≤ ws.length → (rawN c s ws most k).length = (ws.take k).countP (fun x => decide (Ed.ds c s x ≤ most))
  | 0, _ => by rw [List.take_zero]; rfl
  | k + 1, hk => by
    have hkl : k < ws.length := by omega
    rw [← List.take_append_getElem hkl, List.countP_append]
    by_cases hd : Ed.ds c s ws[k] ≤ most
    · rw [rawN_yes hkl hd, List.length_append, rawN_cnt c s ws most k (by omega)]
      simp [hd]
    · rw [rawN_no hkl hd, rawN_cnt c s ws most k (by omega)]
      simp [hd]
theorem near_turn_len (c : Cs) (s : Bs) (ws : List Bs) (most : Int) : (near c s ws.reverse most).length = (near c s ws most).length := by
  rw [← near_all, ← near_all, rawN_cnt _ _ _ _ _ (Nat.le_refl _), rawN_cnt _ _ _ _ _ (Nat.le_refl _), List.take_length, List.take_length, List.countP_reverse]
/-- A hit's word is one of the words. -/
theorem near_word (c : Cs) (s : Bs) {ws : List Bs} (most : Int) {q : Nat} (hq : q < (near c s ws most).length) : ∃ i, ∃ h : i < ws.length, (near c s ws most)[q].1 = (i : Int) ∧ (near c s ws most)[q].2 = Ed.ds c s ws[i] := by
  obtain ⟨i, hi, e, _⟩ := (near_mem c s ws most _).1 (List.getElem_mem hq)
  exact ⟨i, hi, by rw [e], by rw [e]⟩
theorem near_back (c : Cs) (s : Bs) {ws : List Bs} (most : Int) {k : Nat} (hk : k < (near c s ws.reverse most).length) : ∃ q, ∃ hq : q < (near c s ws most).length, (near c s ws.reverse most)[k].1 = (ws.length : Int) - 1 - (near c s ws most)[q].1 ∧ (near c s ws.reverse most)[k].2 = (near c s ws most)[q].2 := by
  obtain ⟨i, hi, e, hle⟩ := (near_mem c s ws.reverse most _).1 (List.getElem_mem hk)
  have hi2 : i < ws.length := by rwa [List.length_reverse] at hi
  rw [List.getElem_reverse] at e hle
  have hm : (((ws.length - 1 - i : Nat) : Int), Ed.ds c s ws[ws.length - 1 - i]) ∈ near c s ws most := (near_mem c s ws most _).2 ⟨ws.length - 1 - i, by omega, rfl, hle⟩
  obtain ⟨q, hq, e2⟩ := List.getElem_of_mem hm
  refine ⟨q, hq, ?_, ?_⟩
  · rw [e, e2]; show (i : Int) = _ - _ - ((_ : Nat) : Int); omega
  · rw [e, e2]
/-- With one word more, the hits of the words that were there are the same. -/
theorem near_plus (c : Cs) (s : Bs) (ws : List Bs) (x : Bs) (most : Int) : (near c s (ws ++ [x]) most).filter (fun h => decide (h.1 < (ws.length : Int))) = near c s ws most := by
  refine same_list (lt := fun x y => ltH x y = true) lt_irr lt_asym _ _ ((near_inc c s _ most).sublist (List.filter_sublist)) (near_inc c s ws most) (fun h => ?_)
  rw [List.mem_filter, near_mem, near_mem, decide_eq_true_iff]
  constructor
  · rintro ⟨⟨i, hi, rfl, hd⟩, h2⟩
    have hil : i < ws.length := by have : (i : Int) < ws.length := h2; omega
    rw [List.getElem_append_left hil] at hd ⊢
    exact ⟨i, hil, rfl, hd⟩
  · rintro ⟨i, hi, rfl, hd⟩
    refine ⟨⟨i, by rw [List.length_append]; omega, ?_, ?_⟩, by show (i : Int) < _; omega⟩
    · rw [List.getElem_append_left hi]
    · rw [List.getElem_append_left hi]; exact hd
theorem Good.turned {ws : List Bs} (h : Good ws) : Good ws.reverse :=
  ⟨List.pairwise_reverse.2 (h.nd.imp fun e => Ne.symm e), fun x hx => h.ne x (List.mem_reverse.1 hx), fun x hx => h.le x (List.mem_reverse.1 hx)⟩
theorem wrong_turned {ws : List Bs} (h : wrong [] ws = 0) : wrong [] ws.reverse = 0 := by
  have h2 := (wrong_good ws [] Good.nil).1 h
  rw [List.nil_append] at h2
  refine (wrong_good ws.reverse [] Good.nil).2 ?_
  rw [List.nil_append]; exact h2.turned
end Lx
/-- A slice of texts that the call has built. -/
structure Ot (w0 w : World) (v : Value) (l : List Ed.Bs) : Prop where
  own : w.ownsRow w0.heap.size 9 1 v l.length (tcs l)
  bl : Below w0.heap.size w0 w
theorem Ot.nil (w : World) : Ot w w (.slice none 0 0) [] := ⟨World.ownsRow_nil _ _ _ _, Below.refl _ _⟩
theorem Ot.alloc {w0 w : World} {v : Value} {l : List Ed.Bs} (h : Ot w0 w v l) (o : Obj) : Ot w0 (w.alloc o) v l := ⟨h.own.alloc _, h.bl.alloc h.bl.size _⟩
theorem Ot.tx {w0 w : World} {v : Value} {l : List Ed.Bs} (h : Ot w0 w v l) : Tx w v l := own_tx h.own
theorem Ot.quiet {w0 w w' : World} {v : Value} {l : List Ed.Bs} (h : Ot w0 w v l) (hb : Below w.heap.size w w') : Ot w0 w' v l := ⟨own_quiet h.own hb, h.bl.trans (hb.mono h.bl.size)⟩
theorem tcs_one (l : List Ed.Bs) : ∀ u ∈ tcs l, u.oneCell' = true := by
  intro u hu
  obtain ⟨x, _, rfl⟩ := List.mem_map.1 hu
  rfl
/-- append(l, m...), where m has an address. -/
theorem wp_catt {ops : Array Oper} {rest : List Oper} {o : Oper} {a : Act} {w0 w : World} {Q : Exit → Act → World → Prop} (hg : o.guard = none) (s x : Operand)
    (hop : o.op = Op.call { callee := Callee.builtin Builtin.append, args := #[s, x], argTypes := #[22, 22] })
    (v : Value) (l : List Ed.Bs) (hs : a.eval s = v) (h : Ot w0 w v l) (ad : Addr) (n c : Nat) (m : List Ed.Bs) (hx : a.eval x = .slice (some ad) n c) (hn : m.length = n) (hm : ∀ j u, (tcs m)[j]? = some u → w.cell? (ad.add j) = some u) (hl : l.length + n ≤ 1000000)
    (hK : ∀ v' w', Ot w0 w' v' (l ++ m) → wpList Try.prog ops Q rest (a.put o.dst v') w') : wpList Try.prog ops Q (o :: rest) a w := by
  obtain ⟨i0, hi, hz0, hz1, hz2⟩ := info_parts info_str
  refine wpList_append_own w hg s x 22 hop w0.heap.size 9 i0 _ 1 16 Try.underlying22 hi hz0 hz1 hz2 rfl (by decide) v l.length (tcs l) hs h.own ad n c (tcs m) hx (by rw [tcs_len, hn, Nat.mul_one])
    hm (tcs_one m) (by unfold maxLen; omega) (by omega) h.bl.size (fun v' w' hown hgrow _ => ?_)
  refine hK v' w' ⟨?_, h.bl.grown hgrow h.bl.size (fun g hk => (h.own.lt g hk).1)⟩
  rw [List.length_append, tcs_app, hn]; exact hown
/-- append(l, x). -/
theorem wp_pusht {ops : Array Oper} {rest : List Oper} {o : Oper} {a : Act} {w0 w : World} {Q : Exit → Act → World → Prop} (hg : o.guard = none) (s x : Operand)
    (hop : o.op = Op.call { callee := Callee.builtin Builtin.append, args := #[s, x], argTypes := #[22, 22] })
    (v : Value) (l : List Ed.Bs) (hs : a.eval s = v) (h : Ot w0 w v l) (y : Ed.Bs) (d c : Nat) (hx : a.eval x = .slice (some ⟨d, 0, none⟩) 1 c) (hd : w.cell? ⟨d, 0, none⟩ = some (.string ⟨y.toArray⟩)) (hl : l.length ≤ 100000)
    (hK : ∀ v' w', Ot w0 w' v' (l ++ [y]) → wpList Try.prog ops Q rest (a.put o.dst v') w') : wpList Try.prog ops Q (o :: rest) a w :=
  wp_catt hg s x hop v l hs h ⟨d, 0, none⟩ 1 c [y] hx rfl (fun j u hj => by
    cases j with
    | zero => obtain rfl := Option.some.inj hj; exact hd
    | succ j => simp [tcs] at hj) (by omega) hK
/-- append(l, m...), where m is nil. -/
theorem wp_nonet {ops : Array Oper} {rest : List Oper} {o : Oper} {a : Act} {w0 w : World} {Q : Exit → Act → World → Prop} (hg : o.guard = none) (s x : Operand)
    (hop : o.op = Op.call { callee := Callee.builtin Builtin.append, args := #[s, x], argTypes := #[22, 22] })
    (v : Value) (l : List Ed.Bs) (hs : a.eval s = v) (h : Ot w0 w v l) (hx : a.eval x = .slice none 0 0)
    (hK : wpList Try.prog ops Q rest (a.put o.dst v) w) : wpList Try.prog ops Q (o :: rest) a w := by
  obtain ⟨i0, hi, hz0, hz1, hz2⟩ := info_parts info_str
  exact wpList_append_own_none hg s x 22 hop w0.heap.size 9 i0 1 Try.underlying22 hi v l.length (tcs l) hs h.own hx hK
theorem Tx.cells {w : World} {ad : Addr} {n c : Nat} {l : List Ed.Bs} (h : Tx w (.slice (some ad) n c) l) : ∀ j u, (tcs l)[j]? = some u → w.cell? (ad.add j) = some u := by
  intro j u hu
  have hj : j < l.length := by rw [← tcs_len l]; exact (List.getElem?_eq_some_iff.1 hu).1
  obtain ⟨_, _, e, h⟩ := h
  cases e
  obtain ⟨b, off, e, g⟩ := h.resolve_left (by intro e; rw [e] at hj; simp at hj)
  cases e
  rw [show (⟨b, off, none⟩ : Addr).add j = ⟨b, off + j, none⟩ by unfold Addr.add; split <;> simp_all, g j hj, ← hu, tcs_at l j hj]
/-- append(l, words...). -/
theorem wp_words {ops : Array Oper} {rest : List Oper} {o : Oper} {a : Act} {w0 w : World} {Q : Exit → Act → World → Prop} (hg : o.guard = none) (s x : Operand)
    (hop : o.op = Op.call { callee := Callee.builtin Builtin.append, args := #[s, x], argTypes := #[22, 22] })
    (v : Value) (l : List Ed.Bs) (hs : a.eval s = v) (h : Ot w0 w v l) (u : Value) (m : List Ed.Bs) (hx : a.eval x = u) (ht : Tx w u m) (hu : u = .slice none 0 0 ∨ ∃ ad n c, u = .slice (some ad) n c) (hl : l.length + m.length ≤ 1000000)
    (hK : ∀ v' w', Ot w0 w' v' (l ++ m) → wpList Try.prog ops Q rest (a.put o.dst v') w') : wpList Try.prog ops Q (o :: rest) a w := by
  rcases hu with rfl | ⟨ad, n, c, rfl⟩
  · obtain ⟨_, _, e, _⟩ := ht
    have e2 : m = [] := List.eq_nil_of_length_eq_zero (by injection e with _ e2 _; exact e2.symm)
    subst e2
    exact wp_nonet hg s x hop v l hs h hx (hK v w (by rw [List.append_nil]; exact h))
  · have hm := ht.cells
    obtain ⟨_, _, e, _⟩ := ht
    have en : m.length = n := by injection e with _ e2 _; exact e2.symm
    exact wp_catt hg s x hop v l hs h ad n c m hx en hm (by omega) hK
/-- An empty slice that is not nil. -/
theorem Ot.empty (w : World) : Ot w (w.alloc (.cells #[] 9)) (.slice (some ⟨w.heap.size, 0, none⟩) 0 0) [] :=
  ⟨⟨by simp [tcs], Or.inr ⟨w.heap.size, 0, #[], rfl, Nat.le_refl _, heap_alloc_new _ _, Nat.le_refl _, Nat.zero_le _, rfl, by simp [tcs]⟩⟩, (Below.refl _ _).alloc (Nat.le_refl _) _⟩
/-- Ints kept by word: what the first k hits cost, and one. -/
def Ic (w : World) (g n : Nat) (l : List Hit) (k : Nat) : Prop := ∃ (cur : Array Value) (t : TypeId), w.heap[g]? = some (.cells cur t (0, 0)) ∧ cur.size = n ∧ ∀ q (hq : q < l.length), q < k → cur[l[q].1.toNat]? = some (.int .i64 (wrap64 (l[q].2 + 1)))
theorem Ic.start (w : World) (n : Nat) (l : List Hit) : Ic (w.alloc (.cells (madeCells #[.int .i64 0] n) 3)) w.heap.size n l 0 := ⟨_, _, heap_alloc_new _ _, by simp [size_madeCells], fun _ _ h => by omega⟩
theorem Ic.put {w : World} {g n k : Nat} {l : List Hit} (h : Ic w g n l k) (hk : k < l.length) (i : Nat) (hi : i < n) (e : l[k].1 = (i : Int)) (hsame : ∀ q (hq : q < l.length), l[q].1 = (i : Int) → l[q].2 = l[k].2) (h0 : ∀ q (hq : q < l.length), 0 ≤ l[q].1) : Ic (w.setCell ⟨g, i, none⟩ (.int .i64 (wrap64 (l[k].2 + 1)))) g n l (k + 1) := by
  obtain ⟨cur, t, hg, hs, hc⟩ := h
  refine ⟨cur.setIfInBounds i (.int .i64 (wrap64 (l[k].2 + 1))), t, heap_setCell_same w g i cur t _ hg, by simpa using hs, fun q hq hqk => ?_⟩
  by_cases e2 : l[q].1 = (i : Int)
  · rw [e2, hsame q hq e2, Int.toNat_natCast]
    simp [hs, hi]
  · have hqk2 : q < k := by
      rcases Nat.lt_or_ge q k with h | h
      · exact h
      · have : q = k := by omega
        subst this; exact absurd e e2
    have h1 := hc q hq hqk2
    have h2 := h0 q hq
    rw [Array.getElem?_setIfInBounds_ne (show i ≠ l[q].1.toNat by omega)]
    exact h1
theorem Ic.quiet {w w' : World} {g n k : Nat} {l : List Hit} (h : Ic w g n l k) (hb : Below w.heap.size w w') : Ic w' g n l k := by
  obtain ⟨cur, t, hg, hs, hc⟩ := h
  exact ⟨cur, t, (hb.block g (Array.getElem?_eq_some_iff.1 hg).1).trans hg, hs, hc⟩
theorem Ic.cell {w : World} {g n k : Nat} {l : List Hit} (h : Ic w g n l k) {q : Nat} (hq : q < l.length) (hqk : q < k) {i : Nat} (e : l[q].1 = (i : Int)) : w.cell? ⟨g, i, none⟩ = some (.int .i64 (wrap64 (l[q].2 + 1))) := by
  obtain ⟨cur, t, hg, hs, hc⟩ := h
  have h1 := hc q hq hqk
  rw [e, Int.toNat_natCast] at h1
  rw [cell_of_row w g i cur t (0, 0) hg, h1]
theorem Ic.any {w : World} {g n k : Nat} {l : List Hit} (h : Ic w g n l k) {i : Nat} (hi : i < n) : ∃ v, w.cell? ⟨g, i, none⟩ = some v := by
  obtain ⟨cur, t, hg, hs, hc⟩ := h
  exact ⟨cur[i]'(by omega), by rw [cell_of_row w g i cur t (0, 0) hg, Array.getElem?_eq_getElem (by omega)]⟩
theorem Ic.free {w : World} {g n k : Nat} {l : List Hit} (h : Ic w g n l k) (i : Nat) : w.frozen? ⟨g, i, none⟩ = false := by
  obtain ⟨cur, t, hg, _⟩ := h
  simp [World.frozen?, hg]
end Go.Proofs.Ytkhgjjbiifbfgaa
