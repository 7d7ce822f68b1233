/- Texts that a call builds; contracts of Longs, Same, SameTexts, Words. -/
import Derived.Test.YtljfbdiiecohpaaFl
import Derived.Test.YtljfbdiiecohpaaFg
import Derived.Test.YtljfbdiiecohpaaShelf
namespace Go.Proofs.Ytljfbdiiecohpaa
open Go.RowKit Go.Lib

/-- Texts as cells. -/
def tcs (l : List Fo.Bs) : List Value := l.map fun x => .string ⟨x.toArray⟩
theorem tcs_len (l : List Fo.Bs) : (tcs l).length = l.length := List.length_map _
theorem tcs_app (l m : List Fo.Bs) : tcs (l ++ m) = tcs l ++ tcs m := List.map_append
theorem tcs_at (l : List Fo.Bs) (j : Nat) (hj : j < l.length) : (tcs l)[j]? = some (.string ⟨l[j].toArray⟩) := by
  unfold tcs
  rw [List.getElem?_map, List.getElem?_eq_getElem hj]; rfl
theorem own_tx {w : World} {B : Nat} {v : Value} {l : List Fo.Bs} (h : w.ownsRow B 9 1 v l.length (tcs l)) : Tx w v l := by
  rcases h.2 with ⟨rfl, hn⟩ | ⟨g, cap, cur, rfl, _, _, hcap, _⟩
  · exact ⟨none, 0, by rw [hn], Or.inl (List.eq_nil_of_length_eq_zero hn)⟩
  · refine ⟨_, cap, rfl, Or.inr ⟨g, 0, rfl, fun j hj => ?_⟩⟩
    rw [Nat.zero_add, h.cellAt _ (by omega), tcs_at l j hj]
/-- A slice of texts that the call has built. -/
structure Otx (w0 w : World) (v : Value) (l : List Fo.Bs) : Prop where
  own : w.ownsRow w0.heap.size 9 1 v l.length (tcs l)
  bl : Below w0.heap.size w0 w
theorem Otx.nil (w : World) : Otx w w (.slice none 0 0) [] := ⟨World.ownsRow_nil _ _ _ _, Below.refl _ _⟩
theorem Otx.alloc {w0 w : World} {v : Value} {l : List Fo.Bs} (h : Otx w0 w v l) (o : Obj) : Otx w0 (w.alloc o) v l := ⟨h.own.alloc _, h.bl.alloc h.bl.size _⟩
theorem Otx.tx {w0 w : World} {v : Value} {l : List Fo.Bs} (h : Otx w0 w v l) : Tx w v l := own_tx h.own
theorem Otx.quiet {w0 w w' : World} {v : Value} {l : List Fo.Bs} (h : Otx w0 w v l) (hb : Below w.heap.size w w') : Otx w0 w' v l := ⟨own_quiet h.own hb, h.bl.trans (hb.mono h.bl.size)⟩
theorem Otx.up {w0 w1 w : World} {v : Value} {l : List Fo.Bs} (h : Otx w1 w v l) (b : Below w0.heap.size w0 w1) : Otx w0 w v l := by
  refine ⟨?_, b.trans (h.bl.mono b.size)⟩
  rcases h.own with ⟨h1, h2⟩
  refine ⟨h1, ?_⟩
  rcases h2 with h2 | ⟨g, cap, cur, hv, hB, h3⟩
  · exact Or.inl h2
  · exact Or.inr ⟨g, cap, cur, hv, Nat.le_trans b.size hB, h3⟩
theorem wp_pusht {ops : Array Oper} {rest : List Oper} {o : Oper} {a : Act} {w0 w : World} {Q : Exit → Act → World → Prop} (hg : o.guard = none) (s x : Operand)
    (hop : o.op = Op.call { callee := Callee.builtin Builtin.append, args := #[s, x], argTypes := #[34, 34] })
    (v : Value) (l : List Fo.Bs) (hs : a.eval s = v) (h : Otx w0 w v l) (y : Fo.Bs) (d c : Nat) (hx : a.eval x = .slice (some ⟨d, 0, none⟩) 1 c) (hd : w.cell? ⟨d, 0, none⟩ = some (.string ⟨y.toArray⟩)) (hl : l.length ≤ 1000000)
    (hK : ∀ v' w', Otx w0 w' v' (l ++ [y]) → wpList Try.prog ops Q rest (a.put o.dst v') w') : wpList Try.prog ops Q (o :: rest) a w := by
  obtain ⟨i0, hi, hz0, hz1, hz2⟩ := info_parts info_str
  refine wpList_append_own w hg s x 34 hop w0.heap.size 9 i0 _ 1 16 Try.underlying34 hi hz0 hz1 hz2 rfl (by decide) v l.length (tcs l) hs h.own ⟨d, 0, none⟩ 1 c [.string ⟨y.toArray⟩] hx rfl
    (fun j u hj => ?_) (fun u hu => ?_) (by unfold maxLen; omega) (by omega) h.bl.size (fun v' w' hown hgrow _ => ?_)
  · cases j with
    | zero => obtain rfl := Option.some.inj hj; exact hd
    | succ j => simp at hj
  · rw [List.mem_singleton] at hu; subst hu; rfl
  · refine hK v' w' ⟨?_, h.bl.grown hgrow h.bl.size (fun g hk => (h.own.lt g hk).1)⟩
    rw [List.length_append, tcs_app]; exact hown
theorem contains_map (l : List Fo.Bs) (x : Fo.Bs) : Lib.containsS (l.map fun x => ⟨x.toArray⟩) ⟨x.toArray⟩ = l.contains x := by
  rw [Bool.eq_iff_iff, Lib.containsS_iff, List.contains_iff_mem, List.mem_map]
  constructor
  · rintro ⟨y, hy, e⟩
    have : y = x := by simpa using congrArg (fun b : ByteArray => b.data.toList) e
    rw [← this]; exact hy
  · exact fun h => ⟨x, h, rfl⟩
/-- slices.Contains. -/
theorem contains_any (v : Value) (l : List Fo.Bs) (x : Fo.Bs) (w : World) (h : Tx w v l) (hl : l.length ≤ 1000000) : Calls Try.prog 43 #[v, .string ⟨x.toArray⟩] w fun e w' => e = .returned (.bool (l.contains x)) ∧ w' = w := by
  obtain ⟨a, c, rfl, h⟩ := h
  rcases h with rfl | ⟨b, off, rfl, h⟩
  · exact Try.slices_Contains_string_empty a c ⟨x.toArray⟩ w
  · have := Try.slices_Contains_string b off l.length c (l.map fun x => ⟨x.toArray⟩) ⟨x.toArray⟩ w (by rw [List.length_map]; exact Nat.le_refl _) (by omega) (by
      intro j hj
      rw [List.length_map] at hj
      rw [h j hj, List.getD_eq_getElem?_getD, List.getElem?_map, List.getElem?_eq_getElem hj]; rfl)
    refine this.mono ?_
    rintro e w' ⟨rfl, rfl⟩
    rw [List.take_of_length_le (by rw [List.length_map]; exact Nat.le_refl _), contains_map]
    exact ⟨rfl, rfl⟩
set_option maxRecDepth 100000 in
set_option maxHeartbeats 3200000 in
theorem longs_any (kk : Nat) (x : Fo.Bs) (w : World) : Calls Try.prog 22 #[.int .u8 kk, .string ⟨x.toArray⟩] w fun e w' => ∃ v, e = .returned v ∧ Otx w w' v (Fo.longs kk x) := by
  have RO := Lib.hid (rowsOf_any kk x w)
  go_enter Try.func22, Try.ntmps22
  go_wp2_with (go_at_call 44; refine RO.out.mono ?_)
  rintro e w1 ⟨v, rfl, hv, b1⟩
  have HR := Lib.hid hv
  have HB := Lib.hid b1
  have hl := Fo.rowsOf_len kk x
  have E : Hid (Fo.longs kk x = Fo.ded [] ((Fo.rowsOf kk x).map (·.lg))) := rfl
  obtain ⟨l, hl'⟩ : ∃ l, l = Fo.rowsOf kk x := ⟨_, rfl⟩
  rw [← hl'] at HR hl E hv
  obtain ⟨a, c, rfl, -⟩ := hv
  obtain ⟨n, hn⟩ : ∃ n, n = l.length := ⟨_, rfl⟩
  rw [← hn] at hl HR ⊢
  have HN := Lib.hid hn
  clear hn hl' b1
  go_wp2
  go_loopw [5, 12] (fun s i wr => ∃ (k : Nat) (z : List Fo.Bs), k ≤ n ∧ i = .int .i64 k ∧ z.length ≤ k ∧ Hid (Otx w1 wr s z) ∧ Hid (Fo.ded z ((l.drop k).map (·.lg)) = Fo.ded [] (l.map (·.lg)))) (fun _ i _ => n - (intOf i).toNat)
  case atStart => exact ⟨0, [], Nat.zero_le _, rfl, Nat.zero_le _, Otx.nil w1, rfl⟩
  case round =>
    obtain ⟨k, z, hk, rfl, hz, O, D⟩ := hrel
    by_cases hlt : k < n
    · have hkl : k < l.length := by rw [← HN.out]; exact hlt
      obtain ⟨r, hr⟩ : ∃ r, r = l[k] := ⟨_, rfl⟩
      have DK := D.out
      rw [List.drop_eq_getElem_cons hkl, ← hr, List.map_cons, Fo.ded] at DK
      obtain ⟨a', c', e1, h1⟩ := HR.out.below O.out.bl
      obtain ⟨rfl, -, rfl⟩ : a' = a ∧ l.length = n ∧ c' = c := by cases e1; exact ⟨rfl, HN.out.symm, rfl⟩
      obtain ⟨b, off, rfl, h2⟩ := h1.resolve_left (by intro e; rw [e] at hkl; simp at hkl)
      obtain ⟨f0, f1, f2⟩ := h2 k hkl
      rw [← hr] at f0 f1 f2
      have O1 := Lib.hid (O.out.alloc (.cells #[.int .u8 r.k, .string ⟨r.lg.toArray⟩, .string ⟨r.sh.toArray⟩] 30))
      have C1 := contains_any _ z r.lg _ O1.out.tx (by omega)
      clear h1 h2 hr e1 D
      cases hc : z.contains r.lg with
      | true =>
        rw [hc] at C1
        rw [hc, if_pos rfl] at DK
        have CC := Lib.hid C1
        have D2 := Lib.hid DK
        clear C1 DK hc
        go_wp2_with (go_at_call 43; refine CC.out.mono ?_; rintro e w3 ⟨rfl, rfl⟩)
        go_roundw
        case rel => exact ⟨k + 1, z, by omega, by go_num, by omega, O1, D2⟩
        case measure => simp [intOf]; omega
      | false =>
        rw [hc] at C1
        rw [hc, if_neg (by simp)] at DK
        have CC := Lib.hid C1
        have D2 := Lib.hid DK
        clear C1 DK hc
        go_wp2_with (first
          | (go_at_call 43; refine CC.out.mono ?_; rintro e w3 ⟨rfl, rfl⟩)
          | (at_builtin; refine wp_pusht rfl _ _ rfl _ _ rfl (O1.out.alloc _) r.lg _ 1 rfl ?_ (by omega) ?_))
        · exact cell_at _ _ _ 0 _ _ (by simp) rfl
        · intro v' w3 O3
          have O4 := Lib.hid O3
          clear O3
          go_wp2
          go_roundw
          case rel => exact ⟨k + 1, z ++ [r.lg], by omega, by go_num, by rw [List.length_append]; simp; omega, O4, D2⟩
          case measure => simp [intOf]; omega
    · have hkn : k = n := by omega
      have EZ : Hid (z = Fo.longs kk x) := by
        have d := D.out
        rw [hkn, HN.out, List.drop_length, List.map_nil] at d
        show _ = _
        rw [E.out, ← d]; rfl
      clear D E
      go_wp2
      go_ret
      rw [← EZ.out]
      exact ⟨_, rfl, O.out.up HB.out⟩
end Go.Proofs.Ytljfbdiiecohpaa
