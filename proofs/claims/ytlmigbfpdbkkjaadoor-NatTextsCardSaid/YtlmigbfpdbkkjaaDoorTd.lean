/- Contracts of isText and Read. -/
import Derived.Test.YtlmigbfpdbkkjaaDoorTb
import Derived.Test.YtlmigbfpdbkkjaaDoorTr
import Derived.Shelf.Strings.SlTrimAscii
namespace Go.Proofs.YtlmigbfpdbkkjaaDoor
open Go.RowKit

theorem trim_any (l : List UInt8) (hl : l.length ≤ 1000000) (w : World) : Calls Tryd.prog 67 #[.string ⟨l.toArray⟩, .string ⟨#[48, 49, 50, 51, 52, 53, 54, 55, 56, 57]⟩] w fun e w' => ∃ r : List UInt8, e = .returned (.string ⟨r.toArray⟩) ∧ (r = [] ↔ l.all Nt.isD = true) ∧ Below w.heap.size w w' := by
  have h := Any.strings_Trim_laid Tryd.lays160 (by kernel_rfl) ⟨l.toArray⟩ ⟨#[48, 49, 50, 51, 52, 53, 54, 55, 56, 57]⟩ w (by show l.toArray.size ≤ _; rw [List.size_toArray]; omega) (by decide) (ascii_of_all (by decide))
  refine h.mono ?_
  rintro e w' ⟨rfl, b⟩
  refine ⟨_, rfl, ?_, b⟩
  rw [show (⟨l.toArray⟩ : ByteArray).data.toList = l by simp]
  exact Nt.trim_digits l
set_option maxRecDepth 100000 in
set_option maxHeartbeats 1600000 in
theorem isText_any (l : List UInt8) (hl : l.length ≤ 1000000) (w : World) : Calls Tryd.prog 46 #[.string ⟨l.toArray⟩] w fun e w' => e = .returned (.bool (Nt.isTx l)) ∧ Below w.heap.size w w' := by
  have T := Lib.hid (trim_any l hl w)
  cases l with
  | nil =>
    clear T
    go_enter Tryd.func46, Tryd.ntmps46
    go_wp2
    go_ret
    exact ⟨rfl, Below.refl _ _⟩
  | cons c r =>
    by_cases h48 : c :: r = [48]
    · rw [h48]
      clear T
      go_enter Tryd.func46, Tryd.ntmps46
      go_wp2
      go_ret
      exact ⟨rfl, Below.refl _ _⟩
    · by_cases c0 : c = 48
      · subst c0
        have E : Hid (Nt.isTx (48 :: r) = false) := by
          show _ = _
          unfold Nt.isTx
          rw [beq_eq_false_iff_ne.2 h48]; simp
        have B1 : ((48 :: r) == [48]) = false := beq_eq_false_iff_ne.2 h48
        clear T
        go_enter Tryd.func46, Tryd.ntmps46
        go_wp2
        all_goals first
          | (go_ret; exact ⟨ret_bool E.out.symm, Below.refl _ _⟩)
          | (exfalso; rename_i h; exact h rfl)
      · have N : c.toNat ≠ 48 := fun e => c0 (UInt8.toNat_inj.1 e)
        have B1 : ((c :: r) == [48]) = false := beq_eq_false_iff_ne.2 h48
        have N2 : Hid ((((⟨(c :: r).toArray⟩ : ByteArray)[0]'(Nat.zero_lt_succ _)).toNat : Int) ≠ 48) := by
          show ((c.toNat : Nat) : Int) ≠ 48
          omega
        cases hall : (c :: r).all Nt.isD with
        | true =>
          have E : Hid (Nt.isTx (c :: r) = true) := by
            show _ = _
            unfold Nt.isTx
            rw [hall]
            simp [c0]
          have T2 : Hid (Calls Tryd.prog 67 #[.string ⟨(c :: r).toArray⟩, .string ⟨#[48, 49, 50, 51, 52, 53, 54, 55, 56, 57]⟩] w fun e w' => e = .returned (.string ⟨#[]⟩) ∧ Hid (Below w.heap.size w w')) := by
            show Calls _ _ _ _ _
            refine T.out.mono ?_
            rintro e w' ⟨t, rfl, ht, b⟩
            rw [ht.2 hall]
            exact ⟨rfl, b⟩
          clear hall T h48
          go_enter Tryd.func46, Tryd.ntmps46
          go_wp2_with (go_at_call 67; with_reducible refine T2.out.mono ?_; rintro e w2 ⟨rfl, B2⟩)
          go_ret
          exact ⟨ret_bool (by rw [E.out, bne_iff_ne]; exact N2.out), B2.out⟩
        | false =>
          have E : Hid (Nt.isTx (c :: r) = false) := by
            show _ = _
            unfold Nt.isTx
            rw [hall, B1]
            simp
          have T2 : Hid (Calls Tryd.prog 67 #[.string ⟨(c :: r).toArray⟩, .string ⟨#[48, 49, 50, 51, 52, 53, 54, 55, 56, 57]⟩] w fun e w' => ∃ x t, e = .returned (.string ⟨(x :: t).toArray⟩) ∧ Hid (Below w.heap.size w w')) := by
            show Calls _ _ _ _ _
            refine T.out.mono ?_
            rintro e w' ⟨t, rfl, ht, b⟩
            cases t with
            | nil => have := ht.1 rfl; rw [hall] at this; cases this
            | cons x t => exact ⟨x, t, rfl, b⟩
          clear hall T h48
          go_enter Tryd.func46, Tryd.ntmps46
          go_wp2_with (go_at_call 67; with_reducible refine T2.out.mono ?_; rintro e w2 ⟨x, t, rfl, B2⟩)
          go_ret
          exact ⟨ret_bool E.out.symm, B2.out⟩
/-- What Read answers. -/
def Nt.readR (l : List UInt8) : List Nat × Int := if Nt.isTx l = true then Nt.numR (Nt.dvl 0 l) else ([], 30)
/-- The limbs read so far: none, or a row of the call's own. -/
def Rl (B : Nat) (w : World) (a : Option Addr) (k c : Nat) (lc : List Nat) : Prop := k = lc.length ∧ Nt.Fit lc ∧ ((a = none ∧ k = 0 ∧ c = 0) ∨ ∃ g, a = some ⟨g, 0, none⟩ ∧ w.ownsRow B 48 1 (.slice (some ⟨g, 0, none⟩) k c) k (cv lc))
theorem Rl.own {B : Nat} {w : World} {a : Option Addr} {k c : Nat} {lc : List Nat} (h : Rl B w a k c lc) : w.ownsRow B 48 1 (.slice a k c) k (cv lc) := by
  obtain ⟨hk, hf, ⟨rfl, rfl, rfl⟩ | ⟨g, rfl, h⟩⟩ := h
  · have : lc = [] := List.eq_nil_of_length_eq_zero hk.symm
    subst this
    exact World.ownsRow_nil w _ _ _
  · exact h
theorem Rl.lm {B : Nat} {w : World} {a : Option Addr} {k c : Nat} {lc : List Nat} (h : Rl B w a k c lc) : Lm w (.slice a k c) lc := by
  have ho := h.own
  obtain ⟨hk, hf, _⟩ := h
  obtain ⟨a', c', e, hl⟩ := own_lm hk hf ho
  rw [e]; exact hl
theorem own_rl {B : Nat} {w : World} {v : Value} {k : Nat} {lc : List Nat} (hk : k = lc.length) (hf : Nt.Fit lc) (h : w.ownsRow B 48 1 v k (cv lc)) : ∃ a c, v = .slice a k c ∧ Rl B w a k c lc := by
  rcases h.2 with ⟨rfl, h0⟩ | ⟨g, cap, cur, rfl, h1⟩
  · subst h0; exact ⟨none, 0, rfl, hk, hf, Or.inl ⟨rfl, rfl, rfl⟩⟩
  · exact ⟨_, cap, rfl, hk, hf, Or.inr ⟨g, rfl, h⟩⟩
theorem Rl.quiet {B : Nat} {w w' : World} {a : Option Addr} {k c : Nat} {lc : List Nat} (h : Rl B w a k c lc) (hb : Below w.heap.size w w') : Rl B w' a k c lc := by
  obtain ⟨hk, hf, h | ⟨g, rfl, h⟩⟩ := h
  · exact ⟨hk, hf, Or.inl h⟩
  · exact ⟨hk, hf, Or.inr ⟨g, rfl, own_keep h hb⟩⟩
/-- A shorter part of what was read. -/
theorem Rl.take {B : Nat} {w : World} {a : Option Addr} {k c : Nat} {lc : List Nat} (h : Rl B w a k c lc) (j : Nat) (hj : j ≤ k) : Rl B w a j c (lc.take j) := by
  obtain ⟨hk, hf, h⟩ := h
  have el : (lc.take j).length = j := by rw [List.length_take]; omega
  refine ⟨el.symm, Nt.fit_take hf j, ?_⟩
  rcases h with ⟨rfl, rfl, rfl⟩ | ⟨g, rfl, h⟩
  · exact Or.inl ⟨rfl, by omega, rfl⟩
  · refine Or.inr ⟨g, rfl, ?_⟩
    rcases h.2 with ⟨h', _⟩ | ⟨g', cap', cur, h', hB, hg, h1, h2, h3, h4⟩
    · simp at h'
    · simp only [Value.slice.injEq, Option.some.injEq, Addr.mk.injEq, and_true, true_and] at h'
      obtain ⟨rfl, rfl⟩ := h'
      refine ⟨by rw [cv_len, el, Nat.mul_one], Or.inr ⟨g, c, cur, rfl, hB, hg, by omega, h2, h3, ?_⟩⟩
      rw [Nat.mul_one] at h4 ⊢
      have : cv (lc.take j) = (cv lc).take j := by unfold cv; rw [List.map_take]
      rw [this, ← h4, List.take_take, Nat.min_eq_left hj]
/-- Scaling what was read. -/
theorem scale_rl (B : Nat) (w0 w : World) (a : Option Addr) (k c f u : Nat) (lc : List Nat) (hB : B = w0.heap.size) (hb : Below B w0 w) (h : Rl B w a k c lc) (hk : k ≤ 1000000) (hf : f < Nt.B) (hu : u < Nt.B) :
    Calls Tryd.prog 34 #[.slice a k c, .int .u32 (f : Nat), .int .u32 (u : Nat)] w fun e w' => ∃ r cy, e = .returned (.int .u32 (cy : Nat)) ∧ cy < Nt.B ∧ Nt.val r + Nt.B ^ k * cy = u + f * Nt.val lc ∧ Rl B w' a k c r ∧ Below B w0 w' := by
  have hfit := h.2.1
  have hkl := h.1
  obtain ⟨_, _, ⟨rfl, rfl, rfl⟩ | ⟨g, rfl, ho⟩⟩ := h
  · have : lc = [] := List.eq_nil_of_length_eq_zero hkl.symm
    subst this
    refine (scale_none none 0 f u w hu).mono ?_
    rintro e w' ⟨rfl, b⟩
    refine ⟨[], u, rfl, hu, ?_, ⟨rfl, Nt.fit_nil, Or.inl ⟨rfl, rfl, rfl⟩⟩, hb.trans (b.mono (by rw [hB]; exact hb.size))⟩
    rw [Nt.val_nil, Nat.pow_zero, Nat.mul_zero, Nat.add_zero, Nat.zero_add, Nat.one_mul]
  · by_cases k0 : k = 0
    · subst k0
      have : lc = [] := List.eq_nil_of_length_eq_zero hkl.symm
      subst this
      refine (scale_none _ c f u w hu).mono ?_
      rintro e w' ⟨rfl, b⟩
      refine ⟨[], u, rfl, hu, ?_, ⟨rfl, Nt.fit_nil, Or.inr ⟨g, rfl, own_keep ho b⟩⟩, hb.trans (b.mono (by rw [hB]; exact hb.size))⟩
      rw [Nt.val_nil, Nat.pow_zero, Nat.mul_zero, Nat.add_zero, Nat.zero_add, Nat.one_mul]
    · obtain ⟨g', c', e, hgB, hkc, hr⟩ := own_rw hkl hfit (by omega) ho
      obtain ⟨e1, -, rfl⟩ := Value.slice.inj e
      obtain rfl : g = g' := by simpa using e1
      refine (scale_any g 0 k c f u lc w hr (by omega) hk hkc hf hu).mono ?_
      rintro e w' ⟨r, cy, rfl, cB, rl, rf, re, rr, rs⟩
      rw [splice_whole (by omega)] at rr
      rw [show Nt.part lc 0 k = lc by rw [hkl]; exact Nt.part_all lc] at re
      exact ⟨r, cy, rfl, cB, re, ⟨rl.symm, rf, Or.inr ⟨g, rfl, own_again ho rs rr rl⟩⟩, Sv.below hb rs hgB (by rw [hB]; exact hb.size)⟩
end Go.Proofs.YtlmigbfpdbkkjaaDoor
