/- Near. -/
import Derived.Test.YtkhgjjbiifbfgaaLb7
namespace Go.Proofs.Ytkhgjjbiifbfgaa
open Go.RowKit Go.Shelf
attribute [local go_sem] Oper.semAt_some

set_option maxRecDepth 100000 in
set_option maxHeartbeats 1600000 in
theorem xcheck_any {B X : Nat} {w : World} {ws : List Ed.Bs} (h : Lex B X w ws) (c : Ed.Cs) (hc : Ed.Rc c) (s : Ed.Bs) (hs : s.length ≤ 60) : Calls Try.prog 24 #[nd X, sb s, cv c] w fun e w' => e = .returned (.int .i64 0) ∧ Below w.heap.size w w' := by
  obtain ⟨M, nm, N, r, v, hN, L⟩ := h
  have x1 := fun o => cell_in o L.x1
  have RI := right_any c
  rw [(Ed.rc_iff c).2 hc] at RI
  have HR := Lib.hid RI
  clear L RI hc
  go_enter Try.func24, Try.ntmps24
  go_wp2_with (go_at_call 9; (with_reducible refine (HR.out _).mono ?_); rintro e w1 ⟨rfl, b1⟩)
  go_ret
  exact ⟨rfl, ((Below.refl _ _).alloc (Nat.le_refl _) _).trans (b1.mono (by simp))⟩
set_option maxHeartbeats 1600000 in
theorem xhits_any (X : Nat) (s : Ed.Bs) (c : Ed.Cs) (most : Int) (w : World) : Calls Try.prog 25 #[nd X, sb s, cv c, .int .i64 most] w fun e w' =>
    e = .returned (.func (.func 36) #[] #[.pointer (some ⟨w.heap.size, 0, none⟩), .pointer (some ⟨w.heap.size + 1, 0, none⟩), .pointer (some ⟨w.heap.size + 1 + 1, 0, none⟩), .pointer (some ⟨w.heap.size + 1 + 1 + 1, 0, none⟩)]) ∧
    w' = (((w.alloc (.cells #[nd X] 28)).alloc (.cells #[sb s] 9)).alloc (.cells #[.int .i64 c.ins, .int .i64 c.del, .int .i64 c.chg, .int .i64 c.swp] 24)).alloc (.cells #[.int .i64 most] 3) := by
  go_enter Try.func25, Try.ntmps25
  go_wp2
  go_ret
  exact ⟨rfl, rfl⟩
theorem c0_of (w : World) (c : Ed.Cs) : (w.alloc (.cells #[.int .i64 c.ins, .int .i64 c.del, .int .i64 c.chg, .int .i64 c.swp] 24)).cell? ⟨w.heap.size, 0, none⟩ = some (.int .i64 c.ins) := cell_at _ _ _ 0 _ _ rfl rfl
theorem c1_of (w : World) (c : Ed.Cs) : (w.alloc (.cells #[.int .i64 c.ins, .int .i64 c.del, .int .i64 c.chg, .int .i64 c.swp] 24)).cell? ⟨w.heap.size, 1, none⟩ = some (.int .i64 c.del) := cell_at _ _ _ 1 _ _ rfl rfl
theorem c2_of (w : World) (c : Ed.Cs) : (w.alloc (.cells #[.int .i64 c.ins, .int .i64 c.del, .int .i64 c.chg, .int .i64 c.swp] 24)).cell? ⟨w.heap.size, 2, none⟩ = some (.int .i64 c.chg) := cell_at _ _ _ 2 _ _ rfl rfl
theorem c3_of (w : World) (c : Ed.Cs) : (w.alloc (.cells #[.int .i64 c.ins, .int .i64 c.del, .int .i64 c.chg, .int .i64 c.swp] 24)).cell? ⟨w.heap.size, 3, none⟩ = some (.int .i64 c.swp) := cell_at _ _ _ 3 _ _ rfl rfl
theorem own_weak {W : World} {B B' e size n : Nat} {v : Value} {xs : List Value} (h : W.ownsRow B e size v n xs) (hB : B' ≤ B) : W.ownsRow B' e size v n xs := by
  rcases h with ⟨h1, h2⟩
  refine ⟨h1, ?_⟩
  rcases h2 with h2 | ⟨g, cap, cur, hv, hg, h3⟩
  · exact Or.inl h2
  · exact Or.inr ⟨g, cap, cur, hv, Nat.le_trans hB hg, h3⟩
/-- Behind an append to a slice in a box, when all that it owns lies from block B on. -/
theorem push_box {W w1 : World} {B g n₀ : Nat} {t e : TypeId} {size : Nat} {v v' : Value} {k m : Nat} {xs ys : List Value} {tmp : Obj} (hv : Boxed W g t v) (hte : t ≠ e) (hrow : W.ownsRow B e size v k xs) (hg : n₀ ≤ g) (hgB : g < B)
    (hBW : B ≤ W.heap.size) (hown' : w1.ownsRow B e size v' m ys) (hgrow : (W.alloc tmp).grownBy w1 v.ownBlock) :
    Boxed w1 g t v ∧ Boxed (w1.setCell ⟨g, 0, none⟩ v') g t v' ∧ (w1.setCell ⟨g, 0, none⟩ v').ownsRow B e size v' m ys ∧ KeepsOthers W (w1.setCell ⟨g, 0, none⟩ v') ∧ Below n₀ W (w1.setCell ⟨g, 0, none⟩ v') ∧ Kb B g W (w1.setCell ⟨g, 0, none⟩ v') := by
  have hl := hv.lt
  obtain ⟨a1, a2, _, a4, a5⟩ := hv.appended hte (own_weak hrow (show n₀ ≤ B by omega)) (by omega) hg (own_weak hown' (show n₀ ≤ B by omega)) hgrow
  refine ⟨a1, a2, hown'.kept (grownBy_setCell' w1 g v') (.inr (a1.not_row hte hown').symm), a4, a5, fun p u h1 h2 h3 => ?_⟩
  rw [set_other h2]
  have hp : p.block < (W.alloc tmp).heap.size := by simp; omega
  have hne : some p.block ≠ v.ownBlock := by
    intro e2
    rcases hrow.2 with ⟨rfl, _⟩ | ⟨g', cap, cur, rfl, hb, _⟩
    · cases e2
    · have e3 : p.block = g' := by simpa [Value.ownBlock] using e2
      omega
  rw [World.cell?_of_block (hgrow.block _ hp hne)]
  exact cell_in _ h3
theorem Kb.puts {B g : Nat} (V : World) (l : Nat) (o' : Obj) (hl : B ≤ l) : Kb B g V (V.putObj l o') := fun p v h1 _ h3 => (World.cell?_of_block (World.putObj_heap_other (by omega))).trans h3
theorem below_put {B : Nat} (V : World) (l : Nat) {o : Obj} {o' : Obj} (hB : B ≤ l) (h : V.heap[l]? = some o) : Below B V (V.putObj l o') :=
  (Below.refl B V).grown (grownBy_putObj' V l o') (by have := (Array.getElem?_eq_some_iff.1 h).1; omega) (fun k e => by cases e; exact hB)
/-- What a variable's box of two cells holds. -/
def AxH (V0 : World) (l : List Hit) (f : Nat → Value → Array Value) (k : Nat) (v : Value) (a' : Act) (V : World) : Prop := ∃ b x, V0.heap.size ≤ b ∧ l[k]? = some x ∧ V.heap[b]? = some (.cells #[.int .i64 x.1, .int .i64 x.2] 38 (0, 0)) ∧ a' = { tmps := f b v, defers := [] }
theorem AxH.own {V0 : World} {l : List Hit} {f : Nat → Value → Array Value} (k : Nat) (v : Value) (a' : Act) : OwnFrom V0.heap.size (fun (_ : Unit) V => AxH V0 l f k v a' V) := by
  rintro s A C row ⟨b, x, h1, h2, h3, h4⟩ hg hr
  refine ⟨b, x, h1, h2, (hg.block b (Array.getElem?_eq_some_iff.1 h3).1 (fun e => ?_)).trans h3, h4⟩
  obtain ⟨_, o, ho, hc⟩ := hr b e.symm
  rw [h3] at ho; cases ho; cases hc
set_option maxRecDepth 100000 in
set_option maxHeartbeats 6400000 in
theorem near_any {B X : Nat} {w : World} {ws : List Ed.Bs} (h : Lex B X w ws) (hn : ws.length ≤ 1000) (c : Ed.Cs) (hc : Ed.Rc c) (s : Ed.Bs) (hs : s.length ≤ 60) (most : Int) : Calls Try.prog 11 #[nd X, sb s, cv c, .int .i64 most] w fun e w' => ∃ v, e = .returned (.tuple #[v, .int .i64 0]) ∧ Oh w w' v (Lx.near c s ws most) := by
  have CK := Lib.hid (fun W (hb : Below w.heap.size w W) => xcheck_any (h.quiet hb) c hc s hs)
  refine (callsIn_wide (n := 6)).1 ?_
  obtain ⟨i0, hi, hz0, hz1, hz2⟩ := info_parts info_hit
  have F1 : Fence.wide.fn 24 := trivial
  have F2 : Fence.wide.fn 25 := trivial
  have F3 : Fence.wide.fn 26 := trivial
  have HH := Lib.hid h
  have HCC := Lib.hid hc
  clear h
  refine callsIn_of_wp_marks Try.func11 rfl trivial ?_ rfl
  simp only [Try.ntmps11, List.size_toArray, List.length_cons, List.length_nil, Nat.reduceAdd, Nat.reduceSub, Array.replicate_succ, Array.replicate_zero, List.push_toArray, List.append_toArray, List.nil_append, List.cons_append]
  gi_wp2_with (first
    | (gi_at_call 24; refine (callsIn_wide.2 (CK.out _ ((Below.refl _ _).alloc (Nat.le_refl _) _))).mono ?_; rintro e w1 ⟨rfl, b1⟩; have hz : w.heap.size < w1.heap.size := (by have := b1.size; simp at this; omega); have hc0 := kept_cell b1 (c0_of w c); have hc1 := kept_cell b1 (c1_of w c); have hc2 := kept_cell b1 (c2_of w c); have hc3 := kept_cell b1 (c3_of w c))
    | (gi_at_call 25; refine (callsIn_wide.2 (xhits_any X s c most _)).mono ?_; rintro e w2 ⟨rfl, rfl⟩))
  have bw : Below w.heap.size w w1 := ((Below.refl _ _).alloc (Nat.le_refl _) _).trans (b1.mono (by simp))
  obtain ⟨V0, hV0⟩ : ∃ V0, V0 = ((((w1.alloc (.cells #[.slice none 0 0] 32)).alloc (.cells #[nd X] 28)).alloc (.cells #[sb s] 9)).alloc (.cells #[.int .i64 c.ins, .int .i64 c.del, .int .i64 c.chg, .int .i64 c.swp] 24)).alloc (.cells #[.int .i64 most] 3) := ⟨_, rfl⟩
  rw [← hV0]
  have sz : V0.heap.size = w1.heap.size + 5 := by rw [hV0]; simp
  have bv : Below w.heap.size w V0 := by rw [hV0]; exact ((((bw.alloc bw.size _).alloc (by simp; have := bw.size; omega) _).alloc (by simp; have := bw.size; omega) _).alloc (by simp; have := bw.size; omega) _).alloc (by simp; have := bw.size; omega) _
  have bx : Boxed V0 w1.heap.size 32 (.slice none 0 0) := by rw [hV0]; exact ((((Boxed.new _ _ _).alloc _).alloc _).alloc _).alloc _
  obtain ⟨M, nm, N, r, v, hN, L⟩ := HH.out
  have hXl := World.block_lt_of_cell? _ _ L.x0
  simp only at hXl
  obtain ⟨p, cp, rfl, hww⟩ := own_tx L.own
  have IT : It V0.heap.size w1.heap.size (w1.heap.size + 1) (w1.heap.size + 1 + 1) (w1.heap.size + 1 + 1 + 1) (w1.heap.size + 1 + 1 + 1 + 1) X c s ws most p ws.length cp V0 := by
    refine ⟨⟨by omega, by omega⟩, ⟨by omega, by omega⟩, ⟨by omega, by omega⟩, ⟨by omega, by omega⟩, ⟨by omega, by omega⟩, rfl, ?_, ?_, ?_, ?_, ?_, ?_, ?_, kept_cell bv L.x0, ?_⟩
    · rw [hV0]; exact cell_in _ (cell_in _ (cell_in _ (cell_at _ _ _ 0 _ _ (by simp) rfl)))
    · rw [hV0]; exact cell_in _ (cell_in _ (cell_at _ _ _ 0 _ _ (by simp) rfl))
    · rw [hV0]; exact cell_in _ (cell_at _ _ _ 0 _ _ (by simp) rfl)
    · rw [hV0]; exact cell_in _ (cell_at _ _ _ 1 _ _ (by simp) rfl)
    · rw [hV0]; exact cell_in _ (cell_at _ _ _ 2 _ _ (by simp) rfl)
    · rw [hV0]; exact cell_in _ (cell_at _ _ _ 3 _ _ (by simp) rfl)
    · rw [hV0]; exact cell_at _ _ _ 0 _ _ (by simp) rfl
    · rcases hww with e | ⟨b, off, e, h2⟩
      · exact Or.inl e
      · by_cases hw0 : ws = []
        · exact Or.inl hw0
        · have hb := World.block_lt_of_cell? _ _ (h2 0 (List.length_pos_iff.2 hw0))
          simp only at hb
          exact Or.inr ⟨b, off, e, by omega, by omega, fun j hj => kept_cell bv (h2 j hj)⟩
  have HA := hits1_hands 5 (by omega) _ _ _ _ _ _ X c hc s hs ws hn (fun x hx => by have := L.good.le x hx; omega) most p ws.length cp V0 IT
  have RL := Lx.rawN_len c s ws most ws.length
  obtain ⟨l, hl⟩ : ∃ l, l = Lx.rawN c s ws most ws.length := ⟨_, rfl⟩
  have NE : Hid (Lx.near c s ws most = srtH l) := by show _ = _; rw [hl]; rfl
  rw [← hl] at HA RL
  obtain ⟨g, hg⟩ : ∃ g, g = w1.heap.size := ⟨_, rfl⟩
  have gw : w.heap.size ≤ g := by omega
  rw [← hg] at HA bx sz ⊢
  have szl : g < V0.heap.size := by omega
  clear hg hl L hww IT hXl hN hc0 hc1 hc2 hc3 b1 hV0 hz bw HH hc sz
  refine over_hands (n := 6) (w0 := V0) (gf := 36) (by omega) rfl (enters_of Try.func36 (by kernel_rfl) rfl) HA (Below.refl _ _) (fun _ _ => rfl)
    (fun j V => (∃ u, Boxed V g 32 u ∧ V.ownsRow V0.heap.size 38 2 u j (hcs (l.take j)) ∧ j ≤ l.length) ∧ (Below w.heap.size w V ∧ V0.heap.size ≤ V.heap.size))
    (fun _ _ _ => False)
    (OwnFrom.and (Own.from (holdsRow_own V0.heap.size g 32 38 2 (fun j => j) (fun j => hcs (l.take j)) (fun j _ => j ≤ l.length)) _) (OwnFrom.and (ownFrom_below (Nat.le_refl _) (by omega)) (fun _ _ _ _ hs hg _ => Nat.le_trans hs hg.size)))
    (fun _ _ _ _ _ h _ _ => h) (fun _ _ _ _ _ _ h _ _ => h) (fun h k => h.trans k) (fun V l' o o' h1 h2 h3 => Kb.puts V l' o' h1)
    ⟨⟨_, bx, World.ownsRow_nil _ _ _ _, Nat.zero_le _⟩, bv, Nat.le_refl _⟩
    (AxH V0 l (fun b v => #[nd X, sb s, cv c, .int .i64 most, undef, undef, .pointer (some ⟨w.heap.size, 0, none⟩), undef, .slice none 0 0, .int .i64 0, .int .i64 0, .pointer (some ⟨g, 0, none⟩), nd b, nd X, sb s, cv c, .int .i64 0, .int .i64 0, .bool false, undef, nd X, sb s, cv c, .int .i64 most,
      .func (.func 36) #[] #[.pointer (some ⟨g + 1, 0, none⟩), .pointer (some ⟨g + 1 + 1, 0, none⟩), .pointer (some ⟨g + 1 + 1 + 1, 0, none⟩), .pointer (some ⟨g + 1 + 1 + 1 + 1, 0, none⟩)], v, undef, undef, undef, undef, undef, undef])) (fun k v a' => AxH.own k v a') ?assign ?body ?done ?stop
  case assign =>
    rintro l' j u V Z hI ⟨x, hx, rfl⟩ hZ
    have hB := hI.2
    have HZ := Lib.hid hZ
    have HI := Lib.hid hI
    have HB := Lib.hid hB
    have HX := Lib.hid hx
    dsimp only [enc1]
    clear hZ hI hB hx
    gi_wp2
    refine HZ.out _ _ ⟨V.heap.size, x, HB.out.2, HX.out, World.alloc_heap_new _ _, rfl⟩ ((KeepsOthers.alloc _ _).from _) (Kb.of_below ((Below.refl _ _).alloc (Nat.le_refl _) _)) ?_ ⟨x, HX.out, rfl⟩
    obtain ⟨⟨u, h1, h2, h3⟩, h4, h5⟩ := HI.out
    exact ⟨⟨u, h1.alloc _, h2.alloc _, h3⟩, h4.alloc h4.size _, by simp; omega⟩
  case body =>
    rintro l' j u V a' hj ⟨b, x, hb, hx, hcell, rfl⟩ ⟨⟨z, hv, hrow, hjz⟩, hB, hS⟩ -
    have hc := hv.cell
    have hx0 : V.cell? ⟨b, 0, none⟩ = some (.int .i64 x.1) := by rw [cell_of_row V b 0 _ _ _ hcell]; rfl
    have hx1 : V.cell? ⟨b, 1, none⟩ = some (.int .i64 x.2) := by rw [cell_of_row V b 1 _ _ _ hcell]; rfl
    have HT : Hid (hcs (l.take (j + 1)) = hcs (l.take j) ++ encH x) := by
      show _ = _
      rw [List.take_add_one, hx, hcs_app]; simp [hcs]
    have HROW := Lib.hid hrow
    have HV := Lib.hid hv
    have HBB := Lib.hid hB
    have HSS := Lib.hid hS
    have jl : j ≤ 1000 := by omega
    clear hcell hx hB HA hb
    gi_wp2_with (gi_at_builtin; refine wpListIn_append_own _ rfl _ _ 32 rfl V0.heap.size 38 i0 _ 2 16 Try.underlying32 hi hz0 hz1 hz2 rfl (by decide) _ j _ rfl (hrow.alloc _) ⟨V.heap.size, 0, none⟩ 1 1 (encH x) rfl rfl ?c0 ?c1 ?c2 ?c3 ?c4 ?_)
    case c0 =>
      intro i q hi2
      rw [show (⟨V.heap.size, 0, none⟩ : Addr).add i = ⟨V.heap.size, i, none⟩ by cases i <;> simp [Addr.add]]
      match i, hi2 with
      | 0, hi2 => exact cell_at _ _ _ 0 _ _ rfl hi2
      | 1, hi2 => exact cell_at _ _ _ 1 _ _ rfl hi2
      | i + 2, hi2 => simp [encH] at hi2
    case c1 =>
      intro q hq
      simp only [encH, List.mem_cons, List.not_mem_nil, or_false] at hq
      rcases hq with rfl | rfl <;> rfl
    case c2 => unfold maxLen; omega
    case c3 => omega
    case c4 => simp; omega
    intro z' w3 own3 gr3 _
    obtain ⟨g', cap', rfl⟩ := ownsRow_succ own3
    obtain ⟨a1, a2, a3, a4, a5, a6⟩ := push_box HV.out (by decide) HROW.out gw (by omega) HSS.out own3 gr3
    have hc1 := a1.cell
    have hf1 := a1.frozen
    have sz3 : V0.heap.size ≤ w3.heap.size := by have := gr3.size; simp at this; omega
    have H2 := Lib.hid a2
    have H3 := Lib.hid a3
    have H4 := Lib.hid a4
    have H5 := Lib.hid a5
    have H6 := Lib.hid a6
    clear a1 a2 a3 a4 a5 a6 own3 gr3 hv hrow hc
    gi_wp2
    exact ⟨H4.out.from _, H6.out, ⟨⟨_, H2.out, by rw [HT.out]; exact H3.out, hj⟩, HBB.out.trans H5.out, by simp; exact sz3⟩⟩
  case done =>
    rintro D V hD ⟨⟨z, hv, hrow, hjz⟩, hB, hS⟩ hK
    have hc := hv.cell
    rw [List.take_length] at hrow
    have IX := Lib.hid (inOrder_any z l w V ⟨own_weak hrow (by omega), hB⟩ (by omega))
    have HKK := Lib.hid hK
    clear hv hrow hB HA hK
    gi_wp2_with (gi_at_call 26; refine (callsIn_wide.2 IX.out).mono ?_; rintro e w3 ⟨rfl, O3, N3⟩)
    have hK3 := N3 D _ HKK.out rfl
    refine ⟨by simp, .inl ⟨_, _, rfl, run_takeDeferred hK3, ?_⟩⟩
    refine ⟨_, results_tmp2 rfl _ _ _, z, rfl, ?_⟩
    rw [NE.out]
    exact ⟨ownsRow_putObj O3.own _ hK3 rfl, O3.bl.trans (below_put w3 D (by have := bv.size; omega) hK3)⟩
  case stop =>
    rintro D c k' V hD hk' h
    exact h.elim
end Go.Proofs.Ytkhgjjbiifbfgaa
