/- Contracts of Fold and Right. -/
import Derived.Test.YtljfbdiiecohpaaFb
import Derived.Test.YtljfbdiiecohpaaBx
import Derived.Test.YtljfbdiiecohpaaShelf
namespace Go.Proofs.Ytljfbdiiecohpaa
open Go.RowKit

namespace Fo
theorem text_blank {t : Bs} (h : t ≠ [32]) : (t == [32]) = false := beq_eq_false_iff_ne.2 h
theorem box_ne {n : Nat} : some (n + 1) ≠ some n := by simp
theorem box_kind (v : Value) : ∀ (c : Array Value) (fz : Nat × Nat), Obj.cells #[v] 9 (0, 0) ≠ .cells c 5 fz := by intro c fz e; cases e
theorem ib_drew {T e : TypeId} {B b : Nat} {bs : List Value} {w : World} {q : Nat} (h : Lib.IsBuilderF T e B b bs w) : Lib.IsBuilderF T e B b bs (w.drewN q) := h
end Fo
set_option maxRecDepth 100000 in
set_option maxHeartbeats 3200000 in
theorem fold_any (s : ByteArray) (w : World) (hs : s.size ≤ 1000000) :
    Calls Try.prog 13 #[.string s] w fun e w' => e = .returned (.string ⟨(Fo.fold s.data.toList).toArray⟩) ∧ Below w.heap.size w w' := by
  have CV := Lib.hid (fun w => converting_any s w)
  have BC := Lib.hid (fun g p w hp hg => becomes_any s g p w hs hp hg)
  have WR := Lib.hid (fun B b l m w h hl hB => write_k B b l m w h hl hB)
  go_enter Try.func13, Try.ntmps13
  go_wp2_with (go_at_call 33; with_reducible refine (CV.out _).mono ?_; rintro e w1 ⟨rfl, rfl⟩)
  go_loopw [5, 6] (fun ap i wr => ∃ (p : Nat) (a : Bool) (out : List UInt8), p ≤ s.size ∧ i = .int .i64 p ∧ ap = .bool a ∧ Hid (Lib.IsBuilderF 50 5 w.heap.size w.heap.size (Lib.byteCells out) wr) ∧ Hid (wr.heap[w.heap.size + 1]? = some (.cells #[.string s] 9 (0, 0))) ∧ Hid (Below w.heap.size w wr) ∧ Hid (Fo.sq (Fo.conv (s.data.toList.drop p)) out a = Fo.fold s.data.toList) ∧ Hid (out.length ≤ 3 * p)) (fun _ i _ => s.size - (intOf i).toNat)
  case atStart =>
    refine ⟨0, false, [], Nat.zero_le _, rfl, rfl, ?_, ?_, ?_, Fo.sq_fold _, Nat.zero_le _⟩
    · exact (Lib.IsBuilderF.of (Lib.fresh_isBuilder 50 5 w)).alloc _
    · show _ = _
      have := heap_alloc_new (w.alloc (.cells #[.pointer none, .slice none 0 0] 50)) (.cells #[.string s] 9)
      simpa using this
    · exact ((Below.refl _ w).alloc (Nat.le_refl _) _).alloc (by simp) _
  case round =>
    obtain ⟨p, a, out, hp, rfl, rfl, IB, HC, BL, SQ, OL⟩ := hrel
    have hc : wr.cell? ⟨w.heap.size + 1, 0, none⟩ = some (.string s) := by rw [Lib.cell_of_heap HC.out]; rfl
    have ol := OL.out
    by_cases hlt : p < s.size
    · have hne : s.data.toList.drop p ≠ [] := by rw [Fo.drop_at hlt]; simp
      have b1 := BC.out (w.heap.size + 1) p wr hlt hc
      obtain ⟨T, hT⟩ : ∃ T, T = (Fo.pcd (s.data.toList.drop p)).1 := ⟨_, rfl⟩
      obtain ⟨K, hK⟩ : ∃ K, K = (Fo.pcd (s.data.toList.drop p)).2 := ⟨_, rfl⟩
      have e1 := Fo.pcd_pos _ hne
      have e2 := Fo.pcd_text _ hne
      have e3 := Fo.pcd_conv (s.data.toList.drop p)
      rw [← hT, ← hK] at b1
      rw [← hT] at e2 e3
      rw [← hK] at e1 e3
      rw [List.length_drop, Array.length_toList] at e1
      have e4 : p + K ≤ s.size := by have := e1.2; have e : s.data.size = s.size := rfl; omega
      have e5 := e1.1
      have e6 : T.length ≤ 2 := e2.1
      have B1 := Lib.hid b1
      have sq := SQ.out
      rw [e3, List.drop_drop] at sq
      have e7 := e2.2
      clear e1 e2 e3 b1 hT hK hne SQ
      by_cases t32 : T = [32]
      · subst t32
        have sq' : Fo.sq (Fo.conv (s.data.toList.drop (p + K))) out (!out.isEmpty) = Fo.fold s.data.toList := by
          rw [← sq, List.cons_append, List.nil_append, Fo.sq_cons, if_pos rfl]
        have S' := Lib.hid sq'
        have LN := Lib.hid (fun w1 h => Try.Builder_Len_f w.heap.size w.heap.size (Lib.byteCells out) w1 h)
        have hbl : (Lib.byteCells out).length = out.length := Lib.byteCells_length out
        have OO : Hid ((!out.isEmpty) = decide (0 < out.length)) := by
          show _ = _
          cases out with
          | nil => rfl
          | cons c r => simp
        clear sq sq' e7
        go_wp2_with (first
          | (go_at_call 53; (with_reducible refine B1.out.mono ?_); rintro e w2 ⟨rfl, q, rfl⟩)
          | (go_at_call 34; refine (LN.out _ (Fo.ib_drew IB.out)).mono ?_; rintro e w3 ⟨rfl, rfl⟩))
        go_roundw
        case rel => exact ⟨p + K, !out.isEmpty, out, e4, by go_num, by rw [OO.out], Fo.ib_drew IB.out, HC, below_drewN BL.out q, S', by show _ ≤ _; omega⟩
        case measure => simp [intOf]; omega
      · have e8 := e7.resolve_left t32
        have NB := Fo.text_blank t32
        have hw0 : w.heap.size ≤ wr.heap.size := BL.out.size
        have W1 := Lib.hid (fun l w1 h hl hB => WR.out w.heap.size w.heap.size l T w1 h hl hB)
        clear e7 t32
        cases a with
        | true =>
          have sq' : Fo.sq (Fo.conv (s.data.toList.drop (p + K))) (out ++ [32] ++ T) false = Fo.fold s.data.toList := by
            rw [← sq, Fo.sq_more T _ out true e8.2 e8.1, if_pos rfl]
          have S' := Lib.hid sq'
          have W0 := Lib.hid (fun w1 h hl hB => WR.out w.heap.size w.heap.size out [32] w1 h hl hB)
          clear sq sq' e8
          go_wp2_with (first
            | (go_at_call 53; (with_reducible refine B1.out.mono ?_); rintro e w2 ⟨rfl, q, rfl⟩)
            | (go_at_call 35; refine (W0.out _ (Fo.ib_drew IB.out) (by simp; omega) hw0).mono ?_))
          rintro e w3 ⟨rfl, ib3, bl3, ok3⟩
          have hw3 : w.heap.size ≤ w3.heap.size := Nat.le_trans hw0 bl3.size
          have I3 := Lib.hid ib3
          have BL3 := Lib.hid (bl3)
          have OK3 := Lib.hid (ok3)
          clear ib3 bl3 ok3
          go_wp2_with (go_at_call 35; (refine (W1.out (out ++ [32]) _ I3.out (by simp; omega) hw3).mono ?_))
          rintro e w4 ⟨rfl, ib4, bl4, ok4⟩
          have I4 := Lib.hid ib4
          have BL4 := Lib.hid ((below_drewN BL.out q).trans (BL3.out.trans bl4))
          have HC4 := Lib.hid (ok4 _ _ (OK3.out _ _ HC.out Fo.box_ne (Fo.box_kind _)) Fo.box_ne (Fo.box_kind _))
          clear ib4 bl4 ok4
          go_wp2
          go_roundw
          case rel => exact ⟨p + K, false, out ++ [32] ++ T, e4, by go_num, rfl, I4, HC4, BL4, S', by show _ ≤ _; simp only [List.length_append, List.length_cons, List.length_nil]; omega⟩
          case measure => simp [intOf]; omega
        | false =>
          have sq' : Fo.sq (Fo.conv (s.data.toList.drop (p + K))) (out ++ T) false = Fo.fold s.data.toList := by
            rw [← sq, Fo.sq_more T _ out false e8.2 e8.1, if_neg (by simp), List.append_nil]
          have S' := Lib.hid sq'
          clear sq sq' e8
          go_wp2_with (first
            | (go_at_call 53; (with_reducible refine B1.out.mono ?_); rintro e w2 ⟨rfl, q, rfl⟩)
            | (go_at_call 35; refine (W1.out out _ (Fo.ib_drew IB.out) (by omega) hw0).mono ?_))
          rintro e w4 ⟨rfl, ib4, bl4, ok4⟩
          have I4 := Lib.hid ib4
          have BL4 := Lib.hid ((below_drewN BL.out q).trans bl4)
          have HC4 := Lib.hid (ok4 _ _ HC.out Fo.box_ne (Fo.box_kind _))
          clear ib4 bl4 ok4
          go_wp2
          go_roundw
          case rel => exact ⟨p + K, false, out ++ T, e4, by go_num, rfl, I4, HC4, BL4, S', by show _ ≤ _; rw [List.length_append]; omega⟩
          case measure => simp [intOf]; omega
    · have hw0 : w.heap.size ≤ wr.heap.size := BL.out.size
      have hpe : p = s.size := by omega
      have ST := Lib.hid (fun w1 h hB => Try.Builder_String_any_k w.heap.size w.heap.size out w1 h hB)
      have E : Hid (out = Fo.fold s.data.toList) := by
        have sq := SQ.out
        rw [Fo.drop_end hlt] at sq
        exact sq
      clear SQ
      go_wp2_with (go_at_call 36; refine (ST.out _ IB.out hw0).mono ?_)
      rintro e w4 ⟨rfl, _, bl4, _⟩
      go_wp2
      go_ret
      rw [E.out]
      exact ⟨rfl, BL.out.trans bl4⟩
end Go.Proofs.Ytljfbdiiecohpaa
