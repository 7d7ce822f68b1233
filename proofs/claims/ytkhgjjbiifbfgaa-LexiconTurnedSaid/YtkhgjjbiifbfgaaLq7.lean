/- Hits in memory; inOrder. -/
import Derived.Test.YtkhgjjbiifbfgaaLp7
import Derived.Sort.OwnSortedInts
namespace Go.Proofs.Ytkhgjjbiifbfgaa
open Go.RowKit Go.Shelf Go.Sort

def hcs (l : List Hit) : List Value := l.flatMap encH
theorem hcs_cons (o : Hit) (l : List Hit) : hcs (o :: l) = .int .i64 o.1 :: .int .i64 o.2 :: hcs l := rfl
theorem hcs_app (l m : List Hit) : hcs (l ++ m) = hcs l ++ hcs m := List.flatMap_append
theorem hcs_len (l : List Hit) : (hcs l).length = l.length * 2 := by
  induction l with
  | nil => rfl
  | cons o l ih => rw [hcs_cons]; simp only [List.length_cons, ih]; omega
theorem hcs_at : ∀ (l : List Hit) (j : Nat) (hj : j < l.length), (hcs l)[j * 2]? = some (.int .i64 l[j].1) ∧ (hcs l)[j * 2 + 1]? = some (.int .i64 l[j].2)
  | [], j, h => by simp at h
  | o :: l, 0, _ => ⟨rfl, rfl⟩
  | o :: l, j + 1, h => by
    have ih := hcs_at l j (by simpa using h)
    rw [hcs_cons, show (j + 1) * 2 = j * 2 + 1 + 1 by omega, show j * 2 + 1 + 1 + 1 = (j * 2 + 1) + 1 + 1 by omega]
    simpa only [List.getElem?_cons_succ, List.getElem_cons_succ] using ih
theorem hcs_one (l : List Hit) : ∀ u ∈ hcs l, u.oneCell' = true := by
  intro u hu
  obtain ⟨x, _, hx⟩ := List.mem_flatMap.1 hu
  simp only [encH, List.mem_cons, List.not_mem_nil, or_false] at hx
  rcases hx with rfl | rfl <;> rfl
theorem info_hit : (Try.prog.info? 38).map (fun i => (i.zero, i.size, i.bytes)) = some (some (.agg #[.int .i64 0, .int .i64 0]), 2, 16) := by kernel_rfl
/-- A slice that reads as hits. -/
def Hl (w : World) (v : Value) (l : List Hit) : Prop := ∃ (a : Option Addr) (c : Nat), v = .slice a l.length c ∧ l.length ≤ c ∧ (l = [] ∨ ∃ b off, a = some ⟨b, off, none⟩ ∧ ∀ j (hj : j < l.length), w.cell? ⟨b, off + j * 2, none⟩ = some (.int .i64 l[j].1) ∧ w.cell? ⟨b, off + j * 2 + 1, none⟩ = some (.int .i64 l[j].2))
theorem Hl.below {w w' : World} {v : Value} {l : List Hit} (h : Hl w v l) (hb : Below w.heap.size w w') : Hl w' v l := by
  obtain ⟨a, c, rfl, hc, h⟩ := h
  refine ⟨a, c, rfl, hc, ?_⟩
  rcases h with h | ⟨b, off, ha, h⟩
  · exact Or.inl h
  · exact Or.inr ⟨b, off, ha, fun j hj => ⟨kept_cell hb (h j hj).1, kept_cell hb (h j hj).2⟩⟩
/-- Hits that the call has built. -/
structure Oh (w0 w : World) (v : Value) (l : List Hit) : Prop where
  own : w.ownsRow w0.heap.size 38 2 v l.length (hcs l)
  bl : Below w0.heap.size w0 w
theorem Oh.nil {w0 w : World} (h : Below w0.heap.size w0 w) : Oh w0 w (.slice none 0 0) [] := ⟨World.ownsRow_nil _ _ _ _, h⟩
theorem Oh.alloc {w0 w : World} {v : Value} {l : List Hit} (h : Oh w0 w v l) (o : Obj) : Oh w0 (w.alloc o) v l := ⟨h.own.alloc _, h.bl.alloc h.bl.size _⟩
theorem Oh.hl {w0 w : World} {v : Value} {l : List Hit} (h : Oh w0 w v l) : Hl w v l := by
  rcases h.own.2 with ⟨rfl, hn⟩ | ⟨g, cap, cur, rfl, _, _, hcap, _⟩
  · exact ⟨none, 0, by rw [hn], by omega, Or.inl (List.eq_nil_of_length_eq_zero hn)⟩
  · refine ⟨_, cap, rfl, hcap, Or.inr ⟨g, 0, rfl, fun j hj => ?_⟩⟩
    obtain ⟨h1, h2⟩ := hcs_at l j hj
    refine ⟨?_, ?_⟩
    · rw [Nat.zero_add, h.own.cellAt _ (by omega), h1]
    · rw [Nat.zero_add, h.own.cellAt _ (by omega), h2]
theorem Oh.quiet {w0 w w' : World} {v : Value} {l : List Hit} (h : Oh w0 w v l) (hb : Below w.heap.size w w') : Oh w0 w' v l := ⟨own_quiet h.own hb, h.bl.trans (hb.mono h.bl.size)⟩
theorem Oh.weak {w w1 w' : World} {v : Value} {l : List Hit} (h : Oh w1 w' v l) (b : Below w.heap.size w w1) : Oh w w' v l := by
  obtain ⟨⟨h1, h2⟩, h3⟩ := h
  refine ⟨⟨h1, ?_⟩, b.trans (h3.mono b.size)⟩
  rcases h2 with h2 | ⟨g, cap, cur, hv, hB, hg⟩
  · exact Or.inl h2
  · exact Or.inr ⟨g, cap, cur, hv, Nat.le_trans b.size hB, hg⟩
/-- append(hits, hit). -/
theorem wp_pushh {ops : Array Oper} {rest : List Oper} {o : Oper} {a : Act} {w0 w : World} {Q : Exit → Act → World → Prop} (hg : o.guard = none) (s x : Operand)
    (hop : o.op = Op.call { callee := Callee.builtin Builtin.append, args := #[s, x], argTypes := #[32, 32] })
    (v : Value) (l : List Hit) (hs : a.eval s = v) (h : Oh w0 w v l) (y : Hit) (d c : Nat) (hx : a.eval x = .slice (some ⟨d, 0, none⟩) 1 c) (hd : ∀ j u, (encH y)[j]? = some u → w.cell? ⟨d, j, none⟩ = some u) (hl : l.length ≤ 1000000)
    (hK : ∀ v' w', Oh w0 w' v' (l ++ [y]) → wpList Try.prog ops Q rest (a.put o.dst v') w') : wpList Try.prog ops Q (o :: rest) a w := by
  obtain ⟨i0, hi, hz0, hz1, hz2⟩ := info_parts info_hit
  refine wpList_append_own w hg s x 32 hop w0.heap.size 38 i0 _ 2 16 Try.underlying32 hi hz0 hz1 hz2 rfl (by decide) v l.length (hcs l) hs h.own ⟨d, 0, none⟩ 1 c (encH y) hx rfl
    (fun j u hj => ?_) (fun u hu => ?_) (by unfold maxLen; omega) (by omega) h.bl.size (fun v' w' hown hgrow _ => ?_)
  · rw [show (⟨d, 0, none⟩ : Addr).add j = ⟨d, j, none⟩ by cases j <;> simp [Addr.add]]; exact hd j u hj
  · simp only [encH, List.mem_cons, List.not_mem_nil, or_false] at hu
    rcases hu with rfl | rfl <;> rfl
  · refine hK v' w' ⟨?_, h.bl.grown hgrow h.bl.size (fun g hk => (h.own.lt g hk).1)⟩
    rw [List.length_append, hcs_app]; simpa [hcs] using hown
theorem flat_hits (l : List Hit) : flatK encH 2 l.toArray = (hcs l).toArray := by
  refine ext_get! (by rw [size_flatK]; simp [hcs_len]) fun t ht => ?_
  have ht' : t < l.length * 2 := by simpa using ht
  rw [get_flatK _ _ _ _ (by simpa using ht')]
  have hj : t / 2 < l.length := by omega
  obtain ⟨h1, h2⟩ := hcs_at l (t / 2) hj
  have e0 : l.toArray[t / 2]! = l[t / 2] := by simp [hj]
  rw [e0]
  rcases (show t % 2 = 0 ∨ t % 2 = 1 by omega) with e | e
  · rw [e]
    have e2 : t = t / 2 * 2 := by omega
    rw [← e2] at h1
    simp [encH, h1]
  · rw [e]
    have e2 : t = t / 2 * 2 + 1 := by omega
    rw [← e2] at h2
    simp [encH, h2]
theorem take_put_id (cur : Array Value) (ts : List Value) (h : ts.length ≤ cur.size) : (putCells id 0 ts.toArray cur).toList.take ts.length = ts := by
  apply List.ext_getElem?
  intro j
  by_cases hj : j < ts.length
  · rw [List.getElem?_take_of_lt hj, Array.getElem?_toList]
    simp [putCells, hj, show j < cur.size by omega]
  · rw [List.getElem?_take_eq_none (by omega), List.getElem?_eq_none (by omega)]
/-- Hits by costs, then by numbers. -/
def ltH (x y : Hit) : Bool := decide (x.2 < y.2 ∨ x.2 = y.2 ∧ x.1 < y.1)
theorem ltOf_hit (x y : Hit) : ltOf cmpH x y = ltH x y := by
  unfold ltOf cmpH orV ltH Lib.compareInt
  rw [Bool.eq_iff_iff]
  by_cases h1 : x.2 < y.2
  · simp [h1]
  · by_cases h2 : y.2 < x.2
    · simp [h1, h2]; omega
    · have e : x.2 = y.2 := by omega
      by_cases h3 : x.1 < y.1
      · simp [e, h3]
      · by_cases h4 : y.1 < x.1 <;> simp [e, h3, h4]
theorem swoH : SWO (ltOf cmpH) where
  irrefl x := by rw [ltOf_hit]; unfold ltH; simp
  trans x y z h1 h2 := by rw [ltOf_hit] at *; unfold ltH at *; simp at *; omega
  ntrans x y z h1 h2 := by rw [ltOf_hit] at *; unfold ltH at *; simp at *; omega
theorem totH (x y : Hit) (h1 : ltOf cmpH x y = false) (h2 : ltOf cmpH y x = false) : x = y := by
  rw [ltOf_hit] at h1 h2
  unfold ltH at h1 h2
  simp at h1 h2
  exact Prod.ext (by omega) (by omega)
/-- Hits in order. -/
def srtH (l : List Hit) : List Hit := l.mergeSort fun x y => !(ltH y x)
theorem srtH_len (l : List Hit) : (srtH l).length = l.length := List.length_mergeSort _
theorem heap_sorted_id {w : World} {g n : Nat} {os : Array Obj} {cur : Array Value} {e : TypeId} {fr : Nat × Nat} (d : Array Value) (hb : w.heap[g]? = some (.cells cur e fr)) :
    (grow (putRow id (Sort.ahead w n) g 0 d) os).heap[g]? = some (.cells (putCells id 0 d cur) e fr) := by
  have hg : g < w.heap.size := (Array.getElem?_eq_some_iff.1 hb).1
  rw [heap_grow_old _ _ (by simpa using hg)]
  simp [putRow, mapBlock, Sort.ahead, Array.getElem?_modify, hb, onCells]
theorem grownBy_sorted_id {w : World} {g n : Nat} {os : Array Obj} (d : Array Value) : w.grownBy (grow (putRow id (Sort.ahead w n) g 0 d) os) (some g) := by
  refine ⟨rfl, rfl, rfl, by simp, fun k hk hne => ?_⟩
  rw [heap_grow_old _ _ (by simpa using hk)]
  have : g ≠ k := fun e => hne (by rw [e])
  simp [putRow, mapBlock, Sort.ahead, Array.getElem?_modify, this]
theorem sorted_hits {w0 w : World} {g cap : Nat} {cur : Array Value} {l m : List Hit} (h : Oh w0 w (.slice (some ⟨g, 0, none⟩) l.length cap) l) (hB : w0.heap.size ≤ g) (hh : w.heap[g]? = some (.cells cur 38 (0, 0))) (h1 : l.length ≤ cap) (h2 : cap ≤ maxLen) (h3 : cur.size = cap * 2) (n : Nat) (os : Array Obj) (hm : m.length = l.length) :
    Oh w0 (sortWorldK encH 2 w g 0 n m.toArray os) (.slice (some ⟨g, 0, none⟩) l.length cap) m := by
  unfold sortWorldK putRowK
  rw [flat_hits]
  refine ⟨⟨hcs_len m, Or.inr ⟨g, cap, _, by rw [hm], hB, heap_sorted_id _ hh, by omega, h2, by simp [putCells, h3], ?_⟩⟩, ?_⟩
  · have e : (hcs m).length = m.length * 2 := hcs_len m
    rw [← e]
    exact take_put_id cur (hcs m) (by rw [e]; omega)
  · exact h.bl.grown (grownBy_sorted_id _) h.bl.size (fun k e => by cases e; exact hB)
/-- Whatever is no cells lies as it lay. -/
def Nc (w w' : World) : Prop := ∀ (k : Nat) (o : Obj), w.heap[k]? = some o → isC o = false → w'.heap[k]? = some o
set_option maxRecDepth 100000 in
set_option maxHeartbeats 3200000 in
theorem inOrder_any (v : Value) (l : List Hit) (w0 w : World) (h : Oh w0 w v l) (hl : l.length ≤ 1000000) : Calls Try.prog 26 #[v] w fun e w' => e = .returned v ∧ Oh w0 w' v (srtH l) ∧ Nc w w' := by
  rcases h.own.2 with ⟨rfl, hn⟩ | ⟨g, cap, cur, rfl, hB, hh, h1, h2, h3, h4⟩
  · have e : l = [] := List.eq_nil_of_length_eq_zero hn
    subst e
    have S := Lib.hid (fun fv => Try.slices_SortFunc_hit_none none 0 fv w)
    have HH := Lib.hid h
    clear h hn
    go_enter Try.func26, Try.ntmps26
    go_wp2_with (go_at_call 38; (with_reducible refine (S.out _).mono ?_); rintro e w2 ⟨rfl, rfl⟩)
    go_ret
    exact ⟨rfl, by have := HH.out; rwa [show srtH [] = [] from by unfold srtH; simp], fun _ _ h _ => h⟩
  · have eg : ∀ args w, (callFunc 39 args).run Try.prog w = .ok (.enter 39 args) w := enters_of Try.func39 (by kernel_rfl) rfl
    have hgl : g < w.heap.size := (Array.getElem?_eq_some_iff.1 hh).1
    have hH : HoldsK encH 2 w g 0 l.toArray := by
      unfold HoldsK
      rw [flat_hits]
      intro j hj
      have hj' : j < l.length * 2 := by simpa [hcs_len] using hj
      refine ⟨?_, by simp [World.frozen?, hh]⟩
      rw [Nat.zero_add, h.own.cellAt _ hj']
      have : j < (hcs l).length := by rw [hcs_len]; exact hj'
      simp [this]
    have S := AnyQ.slices_SortFunc_total Try.laysSortFunc 2 Try.isAgg38 Try.sizeOf38 encH (fun _ => rfl) (fun x v hv => by simp [encH] at hv; rcases hv with rfl | rfl <;> rfl) cmpH swoH 39 #[] g 0 cap l.toArray w eg (fun _ _ _ _ x y => order1_any x y _) hH hgl (by simp; omega) totH
    change Calls Try.prog 38 _ _ _ at S
    have es : (fun x y => !(ltOf cmpH) y x) = fun x y => !(ltH y x) := by funext x y; rw [ltOf_hit]
    rw [es] at S
    have S2 : Hid (Calls Try.prog 38 #[.slice (some ⟨g, 0, none⟩) l.length cap, .func (.func 39) #[] #[]] w fun e w' => e = .returned (.tuple #[]) ∧ Oh w0 w' (.slice (some ⟨g, 0, none⟩) l.length cap) (srtH l) ∧ Nc w w') := by
      refine S.mono ?_
      rintro e w' ⟨rfl, n, os, rfl⟩
      refine ⟨rfl, sorted_hits h hB hh h1 h2 h3 n os (srtH_len l), fun k o hk ho => ((grownBy_sorted_id (w := w) (g := g) (n := n) (os := os) _).block k (Array.getElem?_eq_some_iff.1 hk).1 (fun e => ?_)).trans hk⟩
      have e2 : k = g := by simpa using e
      rw [e2, hh] at hk; cases hk; cases ho
    clear S es hH hh h1 h2 h3 h4 h eg hB hgl
    go_enter Try.func26, Try.ntmps26
    go_wp2_with (go_at_call 38; (with_reducible refine S2.out.mono ?_); rintro e w2 ⟨rfl, O, NC⟩)
    go_ret
    exact ⟨rfl, O, NC⟩
end Go.Proofs.Ytkhgjjbiifbfgaa
