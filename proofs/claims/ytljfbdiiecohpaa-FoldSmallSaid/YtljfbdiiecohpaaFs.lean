/- Rows that a call builds; selected. -/
import Derived.Test.YtljfbdiiecohpaaFe
import Derived.Laws.OwnMore
import Derived.WalkLawsBesides
namespace Go.Proofs.Ytljfbdiiecohpaa
open Go.RowKit

theorem info_row : (Try.prog.info? 30).map (fun i => (i.zero, i.size, i.bytes)) = some (some (.agg #[.int .u8 0, .string ⟨#[]⟩, .string ⟨#[]⟩]), 3, 40) := by kernel_rfl
theorem info_str : (Try.prog.info? 9).map (fun i => (i.zero, i.size, i.bytes)) = some (some (.string ⟨#[]⟩), 1, 16) := by kernel_rfl
/-- A slice of rows that the call has built. -/
structure Orw (w0 w : World) (v : Value) (l : List Fo.Rd) : Prop where
  own : w.ownsRow w0.heap.size 30 3 v l.length (rcs l)
  bl : Below w0.heap.size w0 w
theorem Orw.nil (w : World) : Orw w w (.slice none 0 0) [] := ⟨World.ownsRow_nil _ _ _ _, Below.refl _ _⟩
theorem Orw.alloc {w0 w : World} {v : Value} {l : List Fo.Rd} (h : Orw w0 w v l) (o : Obj) : Orw w0 (w.alloc o) v l := ⟨h.own.alloc _, h.bl.alloc h.bl.size _⟩
theorem Orw.rw {w0 w : World} {v : Value} {l : List Fo.Rd} (h : Orw w0 w v l) : Rw w v l := by
  rcases h.own.2 with ⟨rfl, hn⟩ | ⟨g, cap, cur, rfl, _, _, hcap, _⟩
  · exact ⟨none, 0, by rw [hn], Or.inl (List.eq_nil_of_length_eq_zero hn)⟩
  · refine ⟨_, cap, rfl, Or.inr ⟨g, 0, rfl, fun j hj => ?_⟩⟩
    obtain ⟨h1, h2, h3⟩ := rcs_at l j hj
    refine ⟨?_, ?_, ?_⟩
    · rw [Nat.zero_add, h.own.cellAt _ (by omega), h1]
    · rw [Nat.zero_add, h.own.cellAt _ (by omega), h2]
    · rw [Nat.zero_add, h.own.cellAt _ (by omega), h3]
theorem own_quiet {w w' : World} {B e size n : Nat} {v : Value} {xs : List Value} (h : w.ownsRow B e size v n xs) (hb : Below w.heap.size w w') : w'.ownsRow B e size v n xs := by
  rcases h with ⟨h1, h2⟩
  refine ⟨h1, ?_⟩
  rcases h2 with h2 | ⟨g, cap, cur, hv, hB, hg, h3⟩
  · exact Or.inl h2
  · exact Or.inr ⟨g, cap, cur, hv, hB, (hb.block g (Array.getElem?_eq_some_iff.1 hg).1).trans hg, h3⟩
theorem Orw.quiet {w0 w w' : World} {v : Value} {l : List Fo.Rd} (h : Orw w0 w v l) (hb : Below w.heap.size w w') : Orw w0 w' v l := ⟨own_quiet h.own hb, h.bl.trans (hb.mono h.bl.size)⟩
/-- 'append(found, row)'. -/
theorem wp_pushr {ops : Array Oper} {rest : List Oper} {o : Oper} {a : Act} {w0 w : World} {Q : Exit → Act → World → Prop} (hg : o.guard = none) (s x : Operand)
    (hop : o.op = Op.call { callee := Callee.builtin Builtin.append, args := #[s, x], argTypes := #[25, 25] })
    (v : Value) (l : List Fo.Rd) (hs : a.eval s = v) (h : Orw w0 w v l) (y : Fo.Rd) (d c : Nat) (hx : a.eval x = .slice (some ⟨d, 0, none⟩) 1 c) (hd : ∀ j u, (rcells y)[j]? = some u → w.cell? ⟨d, j, none⟩ = some u) (hl : l.length ≤ 1000000)
    (hK : ∀ v' w', Orw w0 w' v' (l ++ [y]) → wpList Try.prog ops Q rest (a.put o.dst v') w') : wpList Try.prog ops Q (o :: rest) a w := by
  obtain ⟨i0, hi, hz0, hz1, hz2⟩ := info_parts info_row
  refine wpList_append_own w hg s x 25 hop w0.heap.size 30 i0 _ 3 40 Try.underlying25 hi hz0 hz1 hz2 rfl (by decide) v l.length (rcs l) hs h.own ⟨d, 0, none⟩ 1 c (rcells y) hx rfl
    (fun j u hj => ?_) (fun u hu => ?_) (by unfold maxLen; omega) (by omega) h.bl.size (fun v' w' hown hgrow _ => ?_)
  · rw [show (⟨d, 0, none⟩ : Addr).add j = ⟨d, j, none⟩ by cases j <;> simp [Addr.add]]; exact hd j u hj
  · simp only [rcells, List.mem_cons, List.not_mem_nil, or_false] at hu
    rcases hu with rfl | rfl | rfl <;> rfl
  · refine hK v' w' ⟨?_, h.bl.grown hgrow h.bl.size (fun g hk => (h.own.lt g hk).1)⟩
    rw [List.length_append, rcs_app]; exact hown
/-- What a closure answers of rows. -/
def PredRow (g : Nat) (lb : Array Value) (p : Fo.Rd → Bool) (w : World) : Prop :=
  ∀ (W : World) (r : Fo.Rd), Below w.heap.size w W → Calls Try.prog g (#[.agg #[.int .u8 r.k, .string ⟨r.lg.toArray⟩, .string ⟨r.sh.toArray⟩]] ++ lb) W fun e w' => e = .returned (.bool (p r)) ∧ Below W.heap.size W w'
set_option maxRecDepth 100000 in
set_option maxHeartbeats 3200000 in
theorem selected_any (v : Value) (l : List Fo.Rd) (g : Nat) (lb : Array Value) (p : Fo.Rd → Bool) (w : World) (h : Rw w v l) (hl : l.length ≤ 1000) (eg : ∀ args w, (callFunc g args).run Try.prog w = .ok (.enter g args) w) (hp : PredRow g lb p w) :
    Calls Try.prog 46 #[v, .func (.func g) #[] lb] w fun e w' => ∃ u, e = .returned u ∧ Rw w' u (l.filter p) ∧ Below w.heap.size w w' := by
  have HP := Lib.hid hp
  have HR := Lib.hid h
  clear hp
  obtain ⟨a, c, rfl, hc⟩ := h
  obtain ⟨n, hn⟩ : ∃ n, n = l.length := ⟨_, rfl⟩
  rw [← hn] at hl
  have HN := Lib.hid hn
  rw [← hn] at HR ⊢
  clear hn hc
  go_enter Try.func46, Try.ntmps46
  go_wp2
  go_loopw [5, 10] (fun f i wr => ∃ k : Nat, k ≤ n ∧ i = .int .i64 k ∧ Hid (Orw w wr f ((l.take k).filter p))) (fun _ i _ => n - (intOf i).toNat)
  case atStart => exact ⟨0, Nat.zero_le _, rfl, Orw.nil w⟩
  case round =>
    obtain ⟨k, hk, rfl, O⟩ := hrel
    by_cases hlt : k < n
    · have hkl : k < l.length := by rw [← HN.out]; exact hlt
      obtain ⟨r, hr⟩ : ∃ r, r = l[k] := ⟨_, rfl⟩
      have TK : Hid (l.take (k + 1) = l.take k ++ [r]) := by show _ = _; rw [hr]; exact (List.take_append_getElem hkl).symm
      have RB := HR.out.below O.out.bl
      obtain ⟨a', c', e1, h1⟩ := RB
      obtain ⟨rfl, -, rfl⟩ : a' = a ∧ l.length = n ∧ c' = c := by cases e1; exact ⟨rfl, HN.out.symm, rfl⟩
      obtain ⟨b, off, rfl, h2⟩ := h1.resolve_left (by intro e; rw [e] at hkl; simp at hkl)
      obtain ⟨f0, f1, f2⟩ := h2 k hkl
      rw [← hr] at f0 f1 f2
      clear h1 h2 hr e1
      have cS := HP.out (wr.alloc (.cells #[.int .u8 r.k, .string ⟨r.lg.toArray⟩, .string ⟨r.sh.toArray⟩] 30)) r (O.out.bl.alloc O.out.bl.size _)
      have O1 := Lib.hid (O.out.alloc (.cells #[.int .u8 r.k, .string ⟨r.lg.toArray⟩, .string ⟨r.sh.toArray⟩] 30))
      have LL : ((l.take k).filter p).length ≤ 1000 := Nat.le_trans (List.length_filter_le _ _) (by rw [List.length_take]; omega)
      cases hpr : p r with
      | false =>
        rw [hpr] at cS
        have CS := Lib.hid cS
        have FL : Hid ((l.take (k + 1)).filter p = (l.take k).filter p) := by show _ = _; rw [TK.out, List.filter_append]; simp [hpr]
        clear cS hpr TK
        go_wp2_with (go_at_fn g; refine CS.out.mono ?_; rintro e w2 ⟨rfl, b2⟩)
        go_roundw
        case rel => exact ⟨k + 1, by omega, by go_num, by show Orw _ _ _ _; rw [FL.out]; exact O1.out.quiet b2⟩
        case measure => simp [intOf]; omega
      | true =>
        rw [hpr] at cS
        have CS := Lib.hid cS
        have FL : Hid ((l.take (k + 1)).filter p = (l.take k).filter p ++ [r]) := by show _ = _; rw [TK.out, List.filter_append]; simp [hpr]
        clear cS hpr TK
        go_wp2_with (first
          | (go_at_fn g; refine CS.out.mono ?_; rintro e w2 ⟨rfl, b2⟩; have c1 := boxed_row b2; have O2 := Lib.hid (O1.out.quiet b2))
          | (at_builtin; refine wp_pushr rfl _ _ rfl _ _ rfl (O2.out.alloc _) r w2.heap.size 1 rfl ?_ (by omega) ?_))
        · intro j u hj
          match j, hj with
          | 0, hj => exact cell_at _ _ _ 0 _ _ rfl hj
          | 1, hj => exact cell_at _ _ _ 1 _ _ rfl hj
          | 2, hj => exact cell_at _ _ _ 2 _ _ rfl hj
          | j + 3, hj => simp [rcells] at hj
        · intro v' w3 O3
          have O4 := Lib.hid O3
          clear O3
          go_wp2
          go_roundw
          case rel => exact ⟨k + 1, by omega, by go_num, by show Orw _ _ _ _; rw [FL.out]; exact O4.out⟩
          case measure => simp [intOf]; omega
    · have hkn : k = n := by omega
      have TK : Hid ((l.take k).filter p = l.filter p) := by show _ = _; rw [hkn, HN.out, List.take_length]
      go_wp2
      go_ret
      refine ⟨_, rfl, ?_, O.out.bl⟩
      rw [← TK.out]
      exact O.out.rw
end Go.Proofs.Ytljfbdiiecohpaa
