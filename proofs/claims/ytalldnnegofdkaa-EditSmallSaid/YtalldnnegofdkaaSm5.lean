/- Texts that a call builds; 'texts'. -/
import Derived.Test.YtalldnnegofdkaaEp
import Derived.Laws.IdiomStrings
import Derived.Deep.RegionLaw
namespace Go.Proofs.Ytalldnnegofdkaa
open Go.RowKit Go.Shelf

theorem info_str : (Try.prog.info? 9).map (fun i => (i.zero, i.size, i.bytes)) = some (some (.string ⟨#[]⟩), 1, 16) := by kernel_rfl
/-- A slice that reads as texts. -/
def Tx (w : World) (v : Value) (l : List Ed.Bs) : Prop := ∃ (a : Option Addr) (c : Nat), v = .slice a l.length c ∧ (l = [] ∨ ∃ b off, a = some ⟨b, off, none⟩ ∧ ∀ j (hj : j < l.length), w.cell? ⟨b, off + j, none⟩ = some (.string ⟨l[j].toArray⟩))
theorem Tx.below {w w' : World} {v : Value} {l : List Ed.Bs} (h : Tx w v l) (hb : Below w.heap.size w w') : Tx w' v l := by
  obtain ⟨a, c, rfl, h⟩ := h
  refine ⟨a, c, rfl, ?_⟩
  rcases h with h | ⟨b, off, ha, h⟩
  · exact Or.inl h
  · exact Or.inr ⟨b, off, ha, fun j hj => below_cell hb (h j hj)⟩
/-- Texts as cells. -/
def tcs (l : List Ed.Bs) : List Value := l.map fun x => .string ⟨x.toArray⟩
theorem tcs_len (l : List Ed.Bs) : (tcs l).length = l.length := List.length_map _
theorem tcs_app (l m : List Ed.Bs) : tcs (l ++ m) = tcs l ++ tcs m := List.map_append
theorem tcs_at (l : List Ed.Bs) (j : Nat) (hj : j < l.length) : (tcs l)[j]? = some (.string ⟨l[j].toArray⟩) := by
  unfold tcs
  rw [List.getElem?_map, List.getElem?_eq_getElem hj]; rfl
theorem own_tx {w : World} {B : Nat} {v : Value} {l : List Ed.Bs} (h : w.ownsRow B 9 1 v l.length (tcs l)) : Tx w v l := by
  rcases h.2 with ⟨rfl, hn⟩ | ⟨g, cap, cur, rfl, _, _, hcap, _⟩
  · exact ⟨none, 0, by rw [hn], Or.inl (List.eq_nil_of_length_eq_zero hn)⟩
  · refine ⟨_, cap, rfl, Or.inr ⟨g, 0, rfl, fun j hj => ?_⟩⟩
    rw [Nat.zero_add, h.cellAt _ (by omega), tcs_at l j hj]
/-- A slice of texts that the call has built. -/
structure Otx (w0 w : World) (v : Value) (l : List Ed.Bs) : Prop where
  own : w.ownsRow w0.heap.size 9 1 v l.length (tcs l)
  bl : Below w0.heap.size w0 w
theorem Otx.nil (w : World) : Otx w w (.slice none 0 0) [] := ⟨World.ownsRow_nil _ _ _ _, Below.refl _ _⟩
theorem Otx.alloc {w0 w : World} {v : Value} {l : List Ed.Bs} (h : Otx w0 w v l) (o : Obj) : Otx w0 (w.alloc o) v l := ⟨h.own.alloc _, h.bl.alloc h.bl.size _⟩
theorem Otx.tx {w0 w : World} {v : Value} {l : List Ed.Bs} (h : Otx w0 w v l) : Tx w v l := own_tx h.own
theorem Otx.quiet {w0 w w' : World} {v : Value} {l : List Ed.Bs} (h : Otx w0 w v l) (hb : Below w.heap.size w w') : Otx w0 w' v l := ⟨own_quiet h.own hb, h.bl.trans (hb.mono h.bl.size)⟩
theorem Otx.up {w0 w1 w : World} {v : Value} {l : List Ed.Bs} (h : Otx w1 w v l) (b : Below w0.heap.size w0 w1) : Otx w0 w v l := by
  refine ⟨?_, b.trans (h.bl.mono b.size)⟩
  rcases h.own with ⟨h1, h2⟩
  refine ⟨h1, ?_⟩
  rcases h2 with h2 | ⟨g, cap, cur, hv, hB, h3⟩
  · exact Or.inl h2
  · exact Or.inr ⟨g, cap, cur, hv, Nat.le_trans b.size hB, h3⟩
theorem step_pusht {ops : Array Oper} {o : Oper} {a : Act} {w0 w : World} {K : Act → World → Prop} {Q : Exit → Act → World → Prop} {E : Prop} (hg : o.guard = none) (s x : Operand)
    (hop : o.op = Op.call { callee := Callee.builtin Builtin.append, args := #[s, x], argTypes := #[30, 30] })
    (v : Value) (l : List Ed.Bs) (hs : a.eval s = v) (h : Otx w0 w v l) (y : Ed.Bs) (d c : Nat) (hx : a.eval x = .slice (some ⟨d, 0, none⟩) 1 c) (hd : w.cell? ⟨d, 0, none⟩ = some (.string ⟨y.toArray⟩)) (hl : l.length ≤ 1000000)
    (hK : ∀ v' w', Otx w0 w' v' (l ++ [y]) → K (a.put o.dst v') w') : if Region.wanted o (yielded ops a.tmps) = true then Oper.wp Try.prog o a w K Q else E := by
  have hw : Region.wanted o (yielded ops a.tmps) = true := by simp [Region.wanted, hg]
  rw [if_pos hw]
  obtain ⟨i0, hi, hz0, hz1, hz2⟩ := info_parts info_str
  obtain ⟨v', w', hrun, r1, r2, _⟩ := run_append_own (P := Try.prog) w w0.heap.size 30 o.type 9 i0 _ 1 16 Try.underlying30 hi hz0 hz1 hz2 rfl (by decide) v l.length (tcs l) h.own ⟨d, 0, none⟩ 1 c [.string ⟨y.toArray⟩] rfl
    (fun j u hj => by
      cases j with
      | zero => obtain rfl := Option.some.inj hj; exact hd
      | succ j => simp at hj)
    (fun u hu => by rw [List.mem_singleton] at hu; subst hu; rfl) (by unfold maxLen; omega) (by omega) h.bl.size
  have hk := hK v' w' ⟨by rw [List.length_append, tcs_app]; exact r1, h.bl.grown r2 h.bl.size (fun g hk => (h.own.lt g hk).1)⟩
  unfold Oper.wp
  simp [execOp, hop, resolve, invoke, builtin, hs, hx, hrun, Result.andThen]
  exact hk
theorem Otx.lit (w : World) : Otx w (w.alloc (.cells #[.string ⟨#[]⟩] 9)) (.slice (some ⟨w.heap.size, 0, none⟩) 1 1) [[]] :=
  ⟨⟨rfl, Or.inr ⟨w.heap.size, 1, #[.string ⟨#[]⟩], rfl, Nat.le_refl _, heap_alloc_new _ _, Nat.le_refl _, by unfold maxLen; omega, rfl, rfl⟩⟩, (Below.refl _ _).alloc (Nat.le_refl _) _⟩
theorem Otx.get {w0 w : World} {v : Value} {l : List Ed.Bs} (h : Otx w0 w v l) (j : Nat) (hj : j < l.length) : ∃ g cap, v = .slice (some ⟨g, 0, none⟩) l.length cap ∧ w.cell? ⟨g, j, none⟩ = some (.string ⟨l[j].toArray⟩) := by
  rcases h.own.2 with ⟨rfl, hn⟩ | ⟨g, cap, cur, rfl, _, _, hcap, _⟩
  · omega
  · exact ⟨g, cap, rfl, by rw [h.own.cellAt _ (by omega), tcs_at l j hj]⟩
set_option maxRecDepth 100000 in
set_option maxHeartbeats 3200000 in
theorem texts_any (letters most : Nat) (h1 : letters ≤ 3) (h2 : most ≤ 4) (w : World) :
    Calls Try.prog 15 #[.int .i64 letters, .int .i64 most] w fun e w' => ∃ v L, e = .returned v ∧ Otx w w' v L ∧ (∀ x ∈ L, x.length ≤ 4) ∧ L.length ≤ 256 ∧ 1 ≤ L.length := by
  have O0 := Lib.hid (Otx.lit w)
  go_enter Try.func15, Try.ntmps15
  go_wp2
  go_loopw [1, 5, 6] (fun mv o fv wr => ∃ (d p : Nat) (L : List Ed.Bs), mv = .int .i64 d ∧ d ≤ most ∧ fv = .int .i64 p ∧ 1 ≤ L.length ∧ p ≤ L.length ∧ L.length ≤ 4 ^ (most - d) ∧ Hid (∀ x ∈ L, x.length ≤ most - d) ∧ Hid (Otx w wr o L)) (fun mv _ _ _ => (intOf mv).toNat)
  case atStart => exact ⟨most, 0, [[]], rfl, Nat.le_refl _, rfl, Nat.le_refl _, Nat.zero_le _, by rw [Nat.sub_self]; exact Nat.le_refl _, fun x hx => by rw [List.mem_singleton] at hx; subst hx; exact Nat.zero_le _, O0.out⟩
  case round =>
    obtain ⟨d, p, L, rfl, hd, rfl, hL1, hp, hL, E, O⟩ := hrel
    have h256 : 4 ^ (most - d) ≤ 256 := by
      have : 4 ^ (most - d) ≤ 4 ^ 4 := Nat.pow_le_pow_right (by omega) (by omega)
      exact this
    by_cases hd0 : 0 < d
    · have h64 : 4 ^ (most - d) ≤ 64 := by
        have : 4 ^ (most - d) ≤ 4 ^ 3 := Nat.pow_le_pow_right (by omega) (by omega)
        exact this
      have hnx : 4 ^ (most - (d - 1)) = 4 * 4 ^ (most - d) := by
        rw [show most - (d - 1) = most - d + 1 by omega, Nat.pow_succ]; omega
      obtain ⟨t, ht⟩ : ∃ t, t = L.length := ⟨_, rfl⟩
      have HT := Lib.hid ht
      obtain ⟨a5, c5, rfl, -⟩ := O.out.tx
      rw [← ht] at O hp hL hL1 ⊢
      clear ht
      go_wp2
      go_loopw [5, 6] (fun o fv wy => ∃ (q : Nat) (M : List Ed.Bs), fv = .int .i64 q ∧ q ≤ t ∧ (L ++ M).length ≤ t + 3 * q ∧ Hid (∀ x ∈ M, x.length ≤ most - d + 1) ∧ Hid (Otx w wy o (L ++ M))) (fun _ fv _ => t - (intOf fv).toNat)
      case atStart => exact ⟨p, [], rfl, hp, by rw [List.append_nil, ← HT.out]; omega, fun x hx => by (cases hx), by rw [List.append_nil]; exact O.out⟩
      case round =>
        obtain ⟨q, M, rfl, hq, hM, EM, OM⟩ := hrel
        by_cases hqt : q < t
        · go_wp2
          go_loopw [5, 8] (fun o kv wz => ∃ (k : Nat) (M : List Ed.Bs), kv = .int .i64 k ∧ k ≤ letters ∧ (L ++ M).length ≤ t + 3 * q + k ∧ Hid (∀ x ∈ M, x.length ≤ most - d + 1) ∧ Hid (Otx w wz o (L ++ M))) (fun _ kv _ => letters - (intOf kv).toNat)
          case atStart => exact ⟨0, M, rfl, Nat.zero_le _, hM, EM.out, OM.out⟩
          case round =>
            obtain ⟨k, M, rfl, hk, hM, EM, OM⟩ := hrel
            by_cases hkl : k < letters
            · have qL : q < L.length := by rw [← HT.out]; exact hqt
              have hql : q < (L ++ M).length := by rw [List.length_append]; omega
              obtain ⟨g, cap, rfl, x0⟩ := OM.out.get q hql
              rw [List.getElem_append_left qL] at x0
              obtain ⟨x, hx⟩ : ∃ x, x = L[q] := ⟨_, rfl⟩
              have hxl : x.length ≤ most - d := by rw [hx]; exact E.out _ (List.getElem_mem _)
              rw [← hx] at x0
              obtain ⟨n, hn⟩ : ∃ n, n = (L ++ M).length := ⟨_, rfl⟩
              rw [← hn] at hql hM OM ⊢
              have HN := Lib.hid hn
              obtain ⟨b, hb⟩ : ∃ b : UInt8, ((b.toNat : Nat) : Int) = 65 + (k : Int) := ⟨UInt8.ofNat (65 + k), by rw [UInt8.toNat_ofNat']; omega⟩
              have CV : ∀ w : World, (convert 37 9 (.slice (some ⟨w.heap.size, 0, none⟩) 1 1)).run Try.prog (w.alloc (.cells #[.int .u8 (65 + (k : Int))] 5)) = .ok (.string ⟨[b].toArray⟩) (w.alloc (.cells #[.int .u8 (65 + (k : Int))] 5)) := by
                intro w
                refine run_convert_bytes_back _ _ _ 5 ⟨w.heap.size, 0, none⟩ _ [b] Try.underlying37 Try.underlying5 Try.underlying9 fun j hj => ?_
                have : j = 0 := by simp at hj; omega
                subst this
                rw [Go.WideShapes.add_plain, Nat.zero_add]
                refine cell_at _ _ _ 0 _ _ rfl ?_
                show some (Value.int .u8 (65 + (k : Int))) = some (.int .u8 ((b.toNat : Nat) : Int))
                rw [hb]
              have CD : ∀ w : World, (convert 37 9 (.slice (some ⟨w.heap.size, 0, none⟩) 1 1)).run Try.prog (w.alloc (.cells #[.int .u8 (65 + (k : Int))] 5)).drew = .ok (.string ⟨[b].toArray⟩) (w.alloc (.cells #[.int .u8 (65 + (k : Int))] 5)).drew := by
                intro w
                refine run_convert_bytes_back _ _ _ 5 ⟨w.heap.size, 0, none⟩ _ [b] Try.underlying37 Try.underlying5 Try.underlying9 fun j hj => ?_
                have : j = 0 := by simp at hj; omega
                subst this
                rw [Go.WideShapes.add_plain, Nat.zero_add]
                refine (cell_at w _ _ 0 _ _ rfl ?_ : (w.alloc (.cells #[.int .u8 (65 + (k : Int))] 5)).cell? _ = _)
                show some (Value.int .u8 (65 + (k : Int))) = some (.int .u8 ((b.toNat : Nat) : Int))
                rw [hb]
              have YA : (⟨x.toArray⟩ : ByteArray) ++ ⟨([b] : Ed.Bs).toArray⟩ = ⟨(x ++ [b]).toArray⟩ := by
                apply ByteArray.ext
                rw [ByteArray.data_append]
                apply Array.ext'
                simp
              have LL : (L ++ M).length ≤ 1000000 := by rw [← HN.out]; omega
              have sx : (⟨x.toArray⟩ : ByteArray).size ≤ 4 := by rw [Ed.size_is]; omega
              have sb1 : (⟨([b] : Ed.Bs).toArray⟩ : ByteArray).size ≤ 1 := by rw [Ed.size_is]; simp
              obtain ⟨X, hX⟩ : ∃ X : ByteArray, X = ⟨x.toArray⟩ := ⟨_, rfl⟩
              obtain ⟨B, hB⟩ : ∃ X : ByteArray, X = ⟨([b] : Ed.Bs).toArray⟩ := ⟨_, rfl⟩
              rw [← hX] at x0 sx YA
              rw [← hB] at CV CD YA sb1
              have z1 : X.size + B.size ≤ 9223372036854775807 := by omega
              have z3 : ¬ 9223372036854775807 < X.size + B.size := by omega
              have z2 : (q : Int) < n := by omega
              have w1 : IntKind.i64.wrap (65 + (k : Int)) = 65 + (k : Int) := IntWalk.i64_in _ (by omega)
              have w2 : IntKind.u8.wrap (65 + (k : Int)) = 65 + (k : Int) := by
                simp [IntKind.wrap, IntKind.signed, IntKind.bits]
                omega
              have HY : Hid ((x ++ [b]).length ≤ most - d + 1) := by show _ ≤ _; simp; omega
              clear hX hB hx hn hb qL
              go_upto_region 11 with fail
              have y0 : wr.drew.cell? ⟨g, q, none⟩ = some (.string X) := x0
              have y1 := fun o => cell_in o x0
              have O3 := OM.out
              go_region_law
                (first
                  | (refine step_pusht rfl _ _ rfl _ _ rfl (O3.quiet (by repeat (first | exact Below.refl _ _ | refine Below.drew ?_ | refine Below.alloc ?_ (by simp; try omega) _))) (x ++ [b]) (wr.heap.size + 1) 1 rfl (by rw [← YA]; exact cell_at _ _ _ 0 _ _ (by simp) rfl) LL ?_; intro v' w7 O7))
              all_goals
                have OH := Lib.hid O7
                clear O7
                rw [List.append_assoc] at OH
                go_wp2
                go_roundw
                case rel =>
                  refine ⟨k + 1, M ++ [x ++ [b]], by go_num, by omega, ?_, fun z hz => ?_, OH.out⟩
                  · rw [← List.append_assoc, List.length_append, ← HN.out]; simp; omega
                  · rcases List.mem_append.1 hz with h | h
                    · exact EM.out z h
                    · rw [List.mem_singleton] at h; subst h; exact HY.out
                case measure => simp [intOf]; omega
            · obtain rfl : k = letters := by omega
              go_wp2
              go_roundw
              case rel => exact ⟨q + 1, M, by go_num, by omega, by omega, EM.out, OM.out⟩
              case measure => simp [intOf]; omega
        · obtain rfl : q = t := by omega
          go_wp2
          go_roundw
          case rel =>
            refine ⟨d - 1, q, L ++ M, by go_num, by omega, rfl, by rw [List.length_append, ← HT.out]; omega, by rw [List.length_append, ← HT.out]; omega, by rw [hnx]; omega, fun x hx => ?_, OM.out⟩
            rcases List.mem_append.1 hx with h | h
            · have := E.out x h; omega
            · have := EM.out x h; omega
          case measure => simp [intOf]; omega
    · obtain rfl : d = 0 := by omega
      go_wp2
      go_ret
      exact ⟨_, _, rfl, O.out, fun x hx => by have := E.out x hx; omega, by omega, hL1⟩
end Go.Proofs.Ytalldnnegofdkaa
