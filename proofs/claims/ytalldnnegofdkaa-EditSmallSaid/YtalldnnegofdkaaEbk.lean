/- Bytes that a call has built; back. -/
import Derived.Test.YtalldnnegofdkaaEp
import Derived.Laws.IdiomStrings
namespace Go.Proofs.Ytalldnnegofdkaa
open Go.RowKit Go.Shelf

theorem info_u8 : (Try.prog.info? 5).map (fun i => (i.zero, i.size, i.bytes)) = some (some (.int .u8 0), 1, 1) := by kernel_rfl
/-- Bytes as cells. -/
def bcs (l : Ed.Bs) : List Value := l.map fun b => .int .u8 (b.toNat : Nat)
/-- Bytes that the call has built. -/
structure Oby (w0 w : World) (v : Value) (l : Ed.Bs) : Prop where
  own : w.ownsRow w0.heap.size 5 1 v l.length (bcs l)
  bl : Below w0.heap.size w0 w
theorem Oby.start {w0 w : World} (h : Below w0.heap.size w0 w) : Oby w0 w (.slice none 0 0) [] := ⟨World.ownsRow_nil _ _ _ _, h⟩
theorem Oby.alloc {w0 w : World} {v : Value} {l : Ed.Bs} (h : Oby w0 w v l) (o : Obj) : Oby w0 (w.alloc o) v l := ⟨h.own.alloc _, h.bl.alloc h.bl.size _⟩
theorem Oby.quiet {w0 w w' : World} {v : Value} {l : Ed.Bs} (h : Oby w0 w v l) (hb : Below w.heap.size w w') : Oby w0 w' v l := ⟨own_quiet h.own hb, h.bl.trans (hb.mono h.bl.size)⟩
/-- 'append(out, b ..)': some bytes in a slice just made. -/
theorem wp_pushb {ops : Array Oper} {rest : List Oper} {o : Oper} {a : Act} {w0 w : World} {Q : Exit → Act → World → Prop} (hg : o.guard = none) (s x : Operand)
    (hop : o.op = Op.call { callee := Callee.builtin Builtin.append, args := #[s, x], argTypes := #[37, 37] })
    (v : Value) (l : Ed.Bs) (hs : a.eval s = v) (h : Oby w0 w v l) (y : Ed.Bs) (n d c : Nat) (hx : a.eval x = .slice (some ⟨d, 0, none⟩) n c) (hn : n = y.length) (hd : ∀ j u, (bcs y)[j]? = some u → w.cell? ⟨d, j, none⟩ = some u) (hl : l.length + y.length ≤ 1000000)
    (hK : ∀ v' w', Oby w0 w' v' (l ++ y) → wpList Try.prog ops Q rest (a.put o.dst v') w') : wpList Try.prog ops Q (o :: rest) a w := by
  obtain ⟨i0, hi, hz0, hz1, hz2⟩ := info_parts info_u8
  subst hn
  have hbl : (bcs y).length = y.length := List.length_map _
  refine wpList_append_own w hg s x 37 hop w0.heap.size 5 i0 _ 1 1 Try.underlying37 hi hz0 hz1 hz2 rfl (by decide) v l.length (bcs l) hs h.own ⟨d, 0, none⟩ y.length c (bcs y) hx (by rw [hbl]; omega)
    (fun j u hj => ?_) (fun u hu => ?_) (by unfold maxLen; omega) (by omega) h.bl.size (fun v' w' hown hgrow _ => ?_)
  · rw [show (⟨d, 0, none⟩ : Addr).add j = ⟨d, j, none⟩ by cases j <;> simp [Addr.add]]; exact hd j u hj
  · unfold bcs at hu
    obtain ⟨b, _, rfl⟩ := List.mem_map.1 hu
    rfl
  · refine hK v' w' ⟨?_, h.bl.grown hgrow h.bl.size (fun g hk => (h.own.lt g hk).1)⟩
    rw [List.length_append, show bcs (l ++ y) = bcs l ++ bcs y from List.map_append]; exact hown
theorem nil_text (w : World) : (convert 37 9 (.slice none 0 0)).run Try.prog w = .ok (.string ⟨#[]⟩) w := by kernel_rfl
theorem Oby.text {w0 w : World} {v : Value} {l : Ed.Bs} (h : Oby w0 w v l) : (convert 37 9 v).run Try.prog w = .ok (.string ⟨l.toArray⟩) w := by
  rcases h.own.2 with ⟨rfl, hn⟩ | ⟨g, cap, cur, rfl, _, _, hcap, _⟩
  · have : l = [] := List.eq_nil_of_length_eq_zero hn
    subst this
    exact nil_text w
  · refine run_convert_bytes_back w _ _ 5 ⟨g, 0, none⟩ _ l Try.underlying37 Try.underlying5 Try.underlying9 fun j hj => ?_
    rw [Go.WideShapes.add_plain, Nat.zero_add, h.own.cellAt j (by omega)]
    unfold bcs
    rw [List.getElem?_map, List.getElem?_eq_getElem hj]
    rfl
set_option maxRecDepth 100000 in
set_option maxHeartbeats 1600000 in
theorem back_any (l : Ed.Bs) (w : World) (hl : l.length ≤ 1000) : Calls Try.prog 23 #[sb l] w fun e w' => e = .returned (sb l.reverse) ∧ Below w.heap.size w w' := by
  have LS := Ed.size_is l
  obtain ⟨s, hs⟩ : ∃ s : ByteArray, s = ⟨l.toArray⟩ := ⟨_, rfl⟩
  have e1 : sb l = .string s := by rw [hs]
  rw [e1]
  rw [← hs] at LS
  have HS := Lib.hid hs
  have HL := Lib.hid LS
  have ls : s.size ≤ 1000 := by rw [LS]; exact hl
  clear hs e1 LS
  go_enter Try.func23, Try.ntmps23
  have q0 : IntKind.i64.wrap ((s.size : Int) - 1) = (s.size : Int) - 1 := IntWalk.i64_in _ (by omega)
  go_wp2
  go_loopw [3, 4] (fun v iv wr => ∃ k : Nat, k ≤ s.size ∧ iv = .int .i64 ((k : Int) - 1) ∧ Hid (Oby w wr v (l.drop k).reverse)) (fun _ iv _ => (intOf iv + 1).toNat)
  case atStart => exact ⟨s.size, Nat.le_refl _, rfl, by show Oby _ _ _ _; rw [HL.out, List.drop_length]; exact Oby.start (Below.refl _ _)⟩
  case round =>
    obtain ⟨k, hk, rfl, O⟩ := hrel
    cases k with
    | zero =>
      have CV := O.out.text
      have HO := O
      rw [List.drop_zero] at CV
      go_wp2
      go_ret
      exact ⟨rfl, HO.out.bl⟩
    | succ k =>
      have ek : ((k + 1 : Nat) : Int) - 1 = (k : Int) := by omega
      rw [ek]
      have hkl : k < l.length := by rw [← HL.out]; omega
      have hks : k < s.size := by omega
      have SE : s[k] = l[k] := by
        have := HS.out
        subst this
        rfl
      have DR : Hid ((l.drop k).reverse = (l.drop (k + 1)).reverse ++ [l[k]]) := by show _ = _; rw [List.drop_eq_getElem_cons hkl, List.reverse_cons]
      have O1 := Lib.hid fun o => O.out.alloc o
      have LN : (l.drop (k + 1)).reverse.length + 1 ≤ 1000000 := by rw [List.length_reverse, List.length_drop]; omega
      obtain ⟨b, hb⟩ : ∃ b, b = l[k] := ⟨_, rfl⟩
      rw [← hb] at SE DR
      have LN2 : (l.drop (k + 1)).reverse.length + [b].length ≤ 1000000 := LN
      clear ek hb LN
      go_wp2_with (at_builtin; refine wp_pushb rfl _ _ rfl _ _ rfl (O1.out _) [b] 1 wr.heap.size 1 rfl rfl ?_ LN2 ?_)
      · intro q u hu
        match q, hu with
        | 0, hu => exact cell_at _ _ _ 0 _ _ rfl hu
        | q + 1, hu => simp [bcs] at hu
      · intro v' w7 O7
        have OH : Hid (Oby w w7 v' (l.drop k).reverse) := by show Oby _ _ _ _; rw [DR.out]; exact O7
        clear O7
        go_wp2
        go_roundw
        case rel => exact ⟨k, by omega, by go_num, OH.out⟩
        case measure => simp [intOf]
end Go.Proofs.Ytalldnnegofdkaa
