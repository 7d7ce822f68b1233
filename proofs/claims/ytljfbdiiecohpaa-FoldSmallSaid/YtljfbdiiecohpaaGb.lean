/- The reference's Words. -/
import Derived.Test.YtljfbdiiecohpaaFx
namespace Go.Proofs.Ytljfbdiiecohpaa
open Go.RowKit Go.Lib

/-- The state of the reference's Words: at place i, the word began at f. -/
structure RwI (s : ByteArray) (w wr : World) (v : Value) (f i : Nat) (z : List Fo.Bs) : Prop where
  own : Otx w wr v z
  le : f ≤ i
  len : z.length ≤ i
  eq : z ++ Fo.wds (s.data.toList.drop i) ((s.data.toList.drop f).take (i - f)) = Fo.words s.data.toList
theorem RwI.more {s : ByteArray} {w wr : World} {v : Value} {f i : Nat} {z : List Fo.Bs} (h : RwI s w wr v f i z) (hi : i < s.size) (hc : s[i] ≠ 32) : RwI s w wr v f (i + 1) z := by
  refine ⟨h.own, by have := h.le; omega, by have := h.len; omega, ?_⟩
  have e := h.eq
  rw [Fo.drop_at hi, Fo.wds_cons, if_neg hc] at e
  rw [← e]
  congr 2
  have := Fo.take_more s.data.toList f i 1 h.le
  rw [this, Fo.drop_at hi]; rfl
/-- At a blank, or behind the text. -/
theorem RwI.blank {s : ByteArray} {w wr : World} {v : Value} {f i : Nat} {z : List Fo.Bs} (h : RwI s w wr v f i z) (hi : i < s.size) (hc : s[i] = 32) : z ++ (if f < i then [(s.data.toList.drop f).take (i - f)] else []) ++ Fo.wds (s.data.toList.drop (i + 1)) [] = Fo.words s.data.toList := by
  have e := h.eq
  have hl : s.data.toList.length = s.size := by rw [Array.length_toList]; rfl
  rw [Fo.drop_at hi, Fo.wds_cons, if_pos hc] at e
  rw [← e]
  by_cases hf : f < i
  · have ne : (s.data.toList.drop f).take (i - f) ≠ [] := by
      intro e2
      have := congrArg List.length e2
      rw [List.length_take, List.length_drop, hl, List.length_nil] at this
      omega
    rw [if_pos hf, if_neg ne, List.append_assoc]; rfl
  · have : i - f = 0 := by omega
    rw [if_neg hf, this, List.take_zero, if_pos rfl, List.append_nil]
theorem RwI.last {s : ByteArray} {w wr : World} {v : Value} {f i : Nat} {z : List Fo.Bs} (h : RwI s w wr v f i z) (hi : i = s.size) : z ++ (if f < i then [(s.data.toList.drop f).take (i - f)] else []) = Fo.words s.data.toList := by
  have e := h.eq
  have hl : s.data.toList.length = s.size := by rw [Array.length_toList]; rfl
  rw [Fo.drop_end (by omega), Fo.wds_nil] at e
  rw [← e]
  by_cases hf : f < i
  · have ne : (s.data.toList.drop f).take (i - f) ≠ [] := by
      intro e2
      have := congrArg List.length e2
      rw [List.length_take, List.length_drop, hl, List.length_nil] at this
      omega
    rw [if_pos hf, if_neg ne]
  · have : i - f = 0 := by omega
    rw [if_neg hf, this, List.take_zero, if_pos rfl]
set_option maxRecDepth 100000 in
set_option maxHeartbeats 6400000 in
theorem rwords_any (s : ByteArray) (w : World) (hs : s.size ≤ 900000) : Calls Try.prog 27 #[.string s] w fun e w' => ∃ v, e = .returned v ∧ Otx w w' v (Fo.words s.data.toList) := by
  go_enter Try.func27, Try.ntmps27
  go_wp2
  go_loopw [3, 4, 5] (fun v fv iv wr => ∃ (i f : Nat) (z : List Fo.Bs), i ≤ s.size + 1 ∧ iv = .int .i64 i ∧ fv = .int .i64 f ∧ ((i ≤ s.size ∧ Hid (RwI s w wr v f i z)) ∨ (i = s.size + 1 ∧ Hid (Otx w wr v (Fo.words s.data.toList))))) (fun _ _ i _ => s.size + 1 - (intOf i).toNat)
  case atStart => exact ⟨0, 0, [], by omega, rfl, rfl, Or.inl ⟨by omega, ⟨Otx.nil w, Nat.le_refl _, Nat.le_refl _, rfl⟩⟩⟩
  case round =>
    obtain ⟨i, f, z, hi, rfl, rfl, h⟩ := hrel
    rcases h with ⟨hi2, I⟩ | ⟨hi2, O⟩
    · have hfi := I.out.le
      have hz := I.out.len
      by_cases hlt : i < s.size
      · have l1 : (i : Int) ≤ s.size := by omega
        have l2 : ((i : Int) == s.size) = false := beq_eq_false_iff_ne.2 (by omega)
        by_cases hc : s[i] = 32
        · have fc : (s[i].toNat : Int) = 32 := by rw [hc]; rfl
          have BL := I.out.blank hlt hc
          by_cases hf : f < i
          · have l3 : (f : Int) < i := by omega
            rw [if_pos hf] at BL
            have X := Fo.extract_is s f i
            have XX := Lib.hid X
            have BB := Lib.hid BL
            clear hc BL X hf
            go_wp2_with (at_builtin; refine wp_pusht rfl _ _ rfl _ _ rfl (I.out.own.alloc _) ((s.data.toList.drop f).take (i - f)) _ 1 rfl ?_ (by omega) ?_)
            · rw [← XX.out]; exact cell_at _ _ _ 0 _ _ rfl rfl
            · intro v' w3 O3
              have J : Hid (RwI s w w3 v' (i + 1) (i + 1) (z ++ [(s.data.toList.drop f).take (i - f)])) := ⟨O3, Nat.le_refl _, by rw [List.length_append]; simp; omega, by rw [Nat.sub_self, List.take_zero]; exact BB.out⟩
              clear O3
              go_wp2
              go_roundw
              case rel => exact ⟨i + 1, i + 1, _, by omega, by go_num, by go_num, Or.inl ⟨by omega, J⟩⟩
              case measure => simp [intOf]; omega
          · have l3 : ¬ (f : Int) < i := by omega
            rw [if_neg hf, List.append_nil] at BL
            have J : Hid (RwI s w wr u3 (i + 1) (i + 1) z) := ⟨I.out.own, Nat.le_refl _, by omega, by rw [Nat.sub_self, List.take_zero]; exact BL⟩
            clear hc BL hf
            go_wp2
            go_roundw
            case rel => exact ⟨i + 1, i + 1, _, by omega, by go_num, by go_num, Or.inl ⟨by omega, J⟩⟩
            case measure => simp [intOf]; omega
        · have fc : ((s[i].toNat : Int) == 32) = false := beq_eq_false_iff_ne.2 (by intro e; exact hc (UInt8.toNat_inj.1 (by show s[i].toNat = 32; omega)))
          have J := Lib.hid (I.out.more hlt hc)
          clear hc
          go_wp2
          go_roundw
          case rel => exact ⟨i + 1, f, _, by omega, by go_num, rfl, Or.inl ⟨by omega, J⟩⟩
          case measure => simp [intOf]; omega
      · obtain rfl : i = s.size := by omega
        have LA := I.out.last rfl
        by_cases hf : f < s.size
        · have l3 : (f : Int) < s.size := by omega
          rw [if_pos hf] at LA
          have X := Fo.extract_is s f s.size
          have XX := Lib.hid X
          have BB := Lib.hid LA
          clear LA X hf
          go_wp2_with (at_builtin; refine wp_pusht rfl _ _ rfl _ _ rfl (I.out.own.alloc _) ((s.data.toList.drop f).take (s.size - f)) _ 1 rfl ?_ (by omega) ?_)
          · rw [← XX.out]; exact cell_at _ _ _ 0 _ _ rfl rfl
          · intro v' w3 O3
            rw [BB.out] at O3
            have J := Lib.hid O3
            clear O3
            go_wp2
            go_roundw
            case rel => exact ⟨s.size + 1, s.size + 1, [], by omega, by go_num, by go_num, Or.inr ⟨rfl, J⟩⟩
            case measure => simp [intOf]
        · have l3 : ¬ (f : Int) < s.size := by omega
          rw [if_neg hf, List.append_nil] at LA
          have J : Hid (Otx w wr u3 (Fo.words s.data.toList)) := by show Otx _ _ _ _; rw [← LA]; exact I.out.own
          clear LA hf
          go_wp2
          go_roundw
          case rel => exact ⟨s.size + 1, s.size + 1, [], by omega, by go_num, by go_num, Or.inr ⟨rfl, J⟩⟩
          case measure => simp [intOf]
    · have l1 : ¬ (i : Int) ≤ s.size := by omega
      clear hi2
      go_wp2
      go_ret
      exact ⟨_, rfl, O.out⟩
end Go.Proofs.Ytljfbdiiecohpaa
