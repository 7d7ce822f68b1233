/- The library's sorted copy of a slice of ints: its contract. -/
import Derived.Test.YtjfopggpohakkaaSj
namespace Go.Proofs.Ytjfopggpohakkaa
open Go.RowKit Go.Shelf Go.Sort
attribute [local go_sem] Oper.semAt_some

theorem below_put {B : Nat} (V : World) (l : Nat) (o o' : Obj) (hB : B ≤ l) (h : V.heap[l]? = some o) : Below B V (V.putObj l o') :=
  (Below.refl B V).grown (grownBy_putObj' V l o') (by have := (Array.getElem?_eq_some_iff.1 h).1; omega) (fun k e => by cases e; exact hB)
theorem take_next {zs : List Int} {k : Nat} (h : k < zs.length) : (zs.take (k + 1)).map (Value.int .i64) = (zs.take k).map (Value.int .i64) ++ [.int .i64 (zs.getD k 0)] := by
  rw [List.take_add_one, List.getElem?_eq_getElem h, List.map_append, List.getD_eq_getElem?_getD, List.getElem?_eq_getElem h]; rfl
set_option maxRecDepth 100000 in
set_option maxHeartbeats 3200000 in
theorem appendSeq_any (Bs : Nat) (v : Value) (zs : List Int) (hz : zs.length ≤ 100000) (w : World) (hc : w.cell? ⟨Bs, 0, none⟩ = some v) (hl : Lie w.heap.size w v zs) :
    Calls Try.prog 96 #[.slice none 0 0, .func (.func 90) #[] #[.pointer (some ⟨Bs, 0, none⟩)]] w fun e w' => ∃ u, e = .returned u ∧ w'.ownsRow w.heap.size 3 1 u zs.length (zs.map (Value.int .i64)) ∧ Below w.heap.size w w' := by
  have hs := World.block_lt_of_cell? _ _ hc
  refine (callsIn_wide (n := 6)).1 ?_
  obtain ⟨i0, hi, hz0, hz1, hz2⟩ := info_parts info_int
  have bS := Boxed.new w 24 (.slice none 0 0)
  have bl : Below w.heap.size w (w.alloc (.cells #[.slice none 0 0] 24)) := (Below.refl _ w).alloc (Nat.le_refl _) _
  have HA := values1_hands 5 (by omega) Bs w.heap.size v zs hz (w.alloc (.cells #[.slice none 0 0] 24)) (by simp) hs (kept_cell bl hc) (hl.below bl)
  clear hc hl
  refine callsIn_of_wp_marks Try.func96 rfl trivial ?_ rfl
  simp only [Try.ntmps96, List.size_toArray, List.length_cons, List.length_nil, Nat.reduceAdd, Nat.reduceSub, Array.replicate_succ, Array.replicate_zero, List.push_toArray, List.append_toArray, List.nil_append, List.cons_append]
  gi_wp2
  refine over_hands (n := 6) (gf := 90) (by omega) rfl (enters_of Try.func90 (by kernel_rfl) rfl) HA (Below.refl _ _) (fun _ _ => rfl)
    (fun j V => (∃ u, Boxed V w.heap.size 24 u ∧ V.ownsRow w.heap.size 3 1 u j ((zs.take j).map (Value.int .i64)) ∧ j ≤ zs.length) ∧ Below w.heap.size w V)
    (fun _ _ _ => False)
    (OwnFrom.and (Own.from (holdsRow_own w.heap.size w.heap.size 24 3 1 (fun j => j) (fun j => (zs.take j).map (Value.int .i64)) (fun j _ => j ≤ zs.length)) _) (ownFrom_below (Nat.le_refl _) (by simp)))
    (fun _ _ _ _ _ h _ _ => h) (fun _ _ _ _ _ _ h _ _ => h) (fun h k => h.trans k) (fun V l o o' h1 h2 h3 => below_put V l o o' (by simp at h1; omega) h2)
    ⟨⟨_, bS, World.ownsRow_nil _ _ _ _, Nat.zero_le _⟩, bl⟩
    (fun j u => { tmps := #[.slice none 0 0, .func (.func 90) #[] #[.pointer (some ⟨Bs, 0, none⟩)], .pointer (some ⟨w.heap.size, 0, none⟩), undef, .slice none 0 0, u, .func (.func 90) #[] #[.pointer (some ⟨Bs, 0, none⟩)], u, undef, undef, undef, undef, undef], defers := [] }) ?assign ?body ?done ?stop
  case assign =>
    intro l j u V Z hZ
    dsimp only [enc1]
    gi_wp2
    exact hZ
  case body =>
    rintro l j u V hj ⟨⟨s, hv, hrow, hjz⟩, hB⟩ ⟨hj2, rfl⟩
    have hc := hv.cell
    have HT := Lib.hid (take_next hj2)
    obtain ⟨x, hx⟩ : ∃ x, x = zs.getD j 0 := ⟨_, rfl⟩
    rw [← hx] at HT ⊢
    clear hx HA
    gi_wp2_with (gi_at_builtin; refine wpListIn_append_own _ rfl _ _ 24 rfl w.heap.size 3 i0 (.int .i64 0) 1 8 Try.underlying24 hi hz0 hz1 hz2 rfl (by decide) _ _ _ rfl (hrow.alloc _) ⟨V.heap.size, 0, none⟩ 1 1 [.int .i64 x] rfl rfl (cell_one_new _ _ _) (by simp [Value.oneCell']) (by show _ ≤ maxLen; unfold maxLen; omega) (by omega) (by have := hB.size; simp; omega) ?_; intro v' w1 hown' hgrow _; obtain ⟨g', cap', rfl⟩ := ownsRow_succ hown'; obtain ⟨hv1, hv2, hr2, hk2, hb2⟩ := hv.appended (by decide) hrow hB.size (Nat.le_refl _) hown' hgrow; have hc1 := hv1.cell; have hf1 := hv1.frozen)
    exact ⟨hk2.from _, hb2, ⟨_, hv2, (by rw [HT.out]; exact hr2), hj2⟩, hB.trans hb2⟩
  case done =>
    rintro D V hD ⟨⟨s, hv, hrow, hjz⟩, hB⟩ hK
    have hc := hv.cell
    rw [List.take_of_length_le (Nat.le_refl _)] at hrow
    have HR := Lib.hid hrow
    gi_wp2
    refine ⟨by simp, .inl ⟨_, _, rfl, run_takeDeferred hK, ?_⟩⟩
    exact ⟨_, results_tmp rfl _ _ _, s, rfl, ownsRow_putObj HR.out _ hK rfl, hB.trans (belowK_b (w := w) (Nat.le_refl _) V D _ _ (by simp at hD; omega) hK rfl rfl)⟩
  case stop =>
    rintro D c k' V hD hk' h
    exact h.elim
/-- The ints in order. -/
def srt (zs : List Int) : List Int := zs.mergeSort fun x y => decide (x ≤ y)
theorem srt_len (zs : List Int) : (srt zs).length = zs.length := List.length_mergeSort _
set_option maxHeartbeats 1600000 in
theorem collect_any (Bs : Nat) (v : Value) (zs : List Int) (hz : zs.length ≤ 100000) (w : World) (hc : w.cell? ⟨Bs, 0, none⟩ = some v) (hl : Lie w.heap.size w v zs) :
    Calls Try.prog 88 #[.func (.func 90) #[] #[.pointer (some ⟨Bs, 0, none⟩)]] w fun e w' => ∃ u, e = .returned u ∧ w'.ownsRow w.heap.size 3 1 u zs.length (zs.map (Value.int .i64)) ∧ Below w.heap.size w w' := by
  have A := Lib.hid (appendSeq_any Bs v zs hz w hc hl)
  clear hc hl
  go_enter Try.func88, Try.ntmps88
  go_wp2_with (go_at_call 96; refine A.out.mono ?_; rintro e w1 ⟨u, rfl, hr, b1⟩; have HR := Lib.hid hr; clear hr)
  go_ret
  exact ⟨u, rfl, HR.out, b1⟩
set_option maxHeartbeats 1600000 in
theorem sorted_any (Bs : Nat) (v : Value) (zs : List Int) (hz : zs.length ≤ 100000) (w : World) (hc : w.cell? ⟨Bs, 0, none⟩ = some v) (hl : Lie w.heap.size w v zs) :
    Calls Try.prog 68 #[.func (.func 90) #[] #[.pointer (some ⟨Bs, 0, none⟩)]] w fun e w' => ∃ a c, e = .returned (.slice a zs.length c) ∧ Sl w' (.slice a zs.length c) (srt zs) ∧ zs.length ≤ c ∧ Below w.heap.size w w' := by
  have C := Lib.hid (collect_any Bs v zs hz w hc hl)
  obtain ⟨n, hn⟩ : ∃ n, n = zs.length := ⟨_, rfl⟩
  have HN := Lib.hid hn
  rw [← hn] at C hz ⊢
  clear hc hl hn
  go_enter Try.func68, Try.ntmps68
  go_wp2_with (go_at_call 88; refine C.out.mono ?_; rintro e w1 ⟨u, rfl, hr, b1⟩; have HR := Lib.hid hr; clear hr)
  have hrow := HR.out
  rcases hrow.2 with ⟨rfl, z0⟩ | ⟨gb, cap, cur, rfl, hbase, hgb, r1, r2, r3, r4⟩
  · have ze : zs = [] := List.eq_nil_of_length_eq_zero (by have := HN.out; omega)
    have S0 := Lib.hid (Try.slices_Sort_int_none none 0 w1)
    clear hrow
    go_wp2_with (go_at_call 89; refine S0.out.mono ?_; rintro e w2 ⟨rfl, rfl⟩)
    go_ret
    refine ⟨none, 0, by rw [z0]; rfl, ?_, by omega, b1⟩
    rw [ze, z0]
    have es : srt [] = [] := by simp [srt]
    rw [es]
    exact ⟨none, 0, rfl, .inl rfl⟩
  · have hgl : gb < w1.heap.size := (Array.getElem?_eq_some_iff.1 hgb).1
    have e0 := HN.out
    have hH : Holds (Value.int .i64) w1 gb 0 zs.toArray := holds_of_block_i hgb (by rw [Nat.mul_one] at r4; rw [← e0]; exact r4)
    have S1 := Try.slices_Sort_int gb 0 cap zs w1 hH hgl (by omega)
    rw [← e0] at S1
    have SH := Lib.hid S1
    have FIN : Hid (∀ nn os, Sl (grow (putRow (Value.int .i64) (Sort.ahead w1 nn) gb 0 (zs.mergeSort fun x y => decide (x ≤ y)).toArray) os) (.slice (some ⟨gb, 0, none⟩) n cap) (srt zs) ∧ Below w.heap.size w (grow (putRow (Value.int .i64) (Sort.ahead w1 nn) gb 0 (zs.mergeSort fun x y => decide (x ≤ y)).toArray) os)) := fun nn os => by
      have ow := ownsRow_sorted_i (n := nn) (os := os) (ts := zs.mergeSort fun x y => decide (x ≤ y)) (ss := zs) (List.length_mergeSort _) hbase hgb (by omega) r2 r3
      have ln : (zs.mergeSort fun x y => decide (x ≤ y)).length = zs.length := List.length_mergeSort _
      rw [← ln] at ow
      obtain ⟨a, c, ea, hs, _⟩ := own_sl ow
      rw [ln, ← e0] at hs
      exact ⟨hs, b1.grown (grownBy_sorted_i _) b1.size (fun j hj => by cases hj; exact hbase)⟩
    have C1 := Lib.hid r1
    clear hrow hgb r1 r2 r3 r4 hH S1 hgl hbase e0
    go_wp2_with (go_at_call 89; refine SH.out.mono ?_; rintro e w2 ⟨rfl, hw⟩)
    obtain ⟨nn, os, rfl⟩ := hw
    go_ret
    exact ⟨_, cap, rfl, (FIN.out nn os).1, C1.out, (FIN.out nn os).2⟩
end Go.Proofs.Ytjfopggpohakkaa
