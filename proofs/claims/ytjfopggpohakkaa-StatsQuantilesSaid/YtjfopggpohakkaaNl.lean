/- Contract of shrink. -/
import Derived.Test.YtjfopggpohakkaaNk
namespace Go.Proofs.Ytjfopggpohakkaa
open Go.RowKit

/-- What shrink's loop has done: k limbs are left. -/
structure ShI (g dv : Nat) (L : List Nat) (w0 wr : World) (k r : Nat) (d : List Nat) : Prop where
  len : k + d.length = L.length
  fit : Nt.Fit d
  eq : Nt.val (L.drop k) = dv * Nt.val d + r
  lt : r < dv
  row : Rw wr g (Go.splice L k d)
  sv : Sv g w0 wr
theorem ShI.limb {g dv : Nat} {L : List Nat} {w0 wr : World} {j r : Nat} {d : List Nat} (h : ShI g dv L w0 wr (j + 1) r d) : wr.cell? ⟨g, j, none⟩ = some (.int .u32 (L.getD j 0 : Nat)) := by
  have hl := h.len
  have := h.row.cell (j := j) (by rw [length_splice _ _ _ (by omega)]; omega)
  rw [Nt.getD_splice_lt (by omega) (by omega)] at this
  exact this
theorem ShI.next {g dv : Nat} {L : List Nat} {w0 wr w3 : World} {j r q r' x : Nat} {d : List Nat} (h : ShI g dv L w0 wr (j + 1) r d) (xB : x < Nt.B)
    (hx : x = L.getD j 0) (hq : q = (r * Nt.B + x) / dv) (hr : r' = (r * Nt.B + x) % dv) (q3 : Qt wr w3) : ShI g dv L w0 (w3.setCell ⟨g, j, none⟩ (.int .u32 (q : Nat))) j r' (q :: d) := by
  have hl := h.len
  have qB : q < Nt.B := by rw [hq]; exact Nt.shrink_lt h.lt xB
  have r3 : Rw w3 g (Go.splice L (j + 1) d) := h.row.quiet q3.bl
  have r4 := r3.put j q qB
  rw [Nt.splice_back (by omega)] at r4
  have sw : Sv g w3 (w3.setCell ⟨g, j, none⟩ (.int .u32 (q : Nat))) := Sv.set w3 ⟨g, j, none⟩ _
  refine ⟨by rw [List.length_cons]; omega, Nt.fit_cons qB h.fit, ?_, by rw [hr]; exact Nat.mod_lt _ (by have := h.lt; omega), r4, (h.sv.quiet q3.bl).trans sw⟩
  have e := Pos.val_drop Nt.B L j
  show Pos.val Nt.B (L.drop j) = dv * (q + Nt.B * Nt.val d) + r'
  rw [e, ← hx, hq, hr]
  exact Nt.shrink_round h.eq rfl
set_option maxHeartbeats 1600000 in
theorem shrink_any (g n c dv : Nat) (L : List Nat) (w : World) (hr : Rw w g L) (hn : n = L.length) (hl : n ≤ 1000000) (_ : n ≤ c) (h0 : 0 < dv) (h1 : dv < Nt.B) :
    Calls Try.prog 113 #[.slice (some ⟨g, 0, none⟩) n c, .int .u32 (dv : Nat)] w fun e w' => ∃ r rem, e = .returned (.int .u32 (rem : Nat)) ∧ r.length = n ∧ Nt.Fit r ∧ Nt.val L = dv * Nt.val r + rem ∧ rem < dv ∧ Rw w' g r ∧ Sv g w w' := by
  have HR := Lib.hid hr
  have HN := Lib.hid hn
  have J0 : Hid (ShI g dv L w w n 0 []) := ⟨by rw [hn]; rfl, Nt.fit_nil, by rw [List.drop_of_length_le (by omega)]; rfl, h0, by rw [Nt.splice_nil]; exact hr, Sv.refl _ _⟩
  have HD := Lib.hid h1
  clear hr hn h0 h1
  go_enter Try.func113, Try.ntmps113
  go_wp2
  go_loopw [5, 6] (fun s i wr => ∃ (k r : Nat) (d : List Nat), k ≤ n ∧ i = .int .i64 ((k : Int) - 1) ∧ s = .int .u32 (r : Nat) ∧ Hid (ShI g dv L w wr k r d)) (fun _ i _ => (intOf i + 2).toNat)
  case atStart => exact ⟨n, 0, [], Nat.le_refl _, by go_num, rfl, J0⟩
  case round =>
    obtain ⟨k, r, d, hk, rfl, rfl, J⟩ := hrel
    by_cases hk0 : k = 0
    · subst hk0
      go_wp2
      go_ret
      have hl := J.out.len
      have e := J.out.row
      rw [splice_whole (by omega)] at e
      have v := J.out.eq
      rw [List.drop_zero] at v
      exact ⟨d, r, rfl, by have := HN.out; omega, J.out.fit, v, J.out.lt, e, J.out.sv⟩
    · obtain ⟨j, rfl⟩ : ∃ j, k = j + 1 := ⟨k - 1, by omega⟩
      have C1 := J.out.limb
      have X0 := Nt.getD_lt HR.out.fit j
      obtain ⟨x, hx⟩ : ∃ x, x = L.getD j 0 := ⟨_, rfl⟩
      rw [← hx] at C1 X0
      obtain ⟨q, hq⟩ : ∃ q, q = (r * Nt.B + x) / dv := ⟨_, rfl⟩
      obtain ⟨r', hr'⟩ : ∃ r', r' = (r * Nt.B + x) % dv := ⟨_, rfl⟩
      have DV := Lib.hid (fun w => div32_any r x dv q r' w J.out.lt X0 HD.out hq hr')
      have NX := Lib.hid (fun w3 (q3 : Qt wr w3) => J.out.next X0 hx hq hr' q3)
      have C3 : Hid (∀ w3, Qt wr w3 → w3.cell? ⟨g, j, none⟩ = some (.int .u32 (x : Nat)) ∧ w3.frozen? ⟨g, j, none⟩ = false) :=
        fun w3 q3 => ⟨q3.cell C1, (J.out.row.quiet q3.bl).free _⟩
      have ej : ((j + 1 : Nat) : Int) - 1 = (j : Int) := by omega
      clear hx hq hr' X0
      rw [ej]
      go_wp2_with (go_at_call 120; with_reducible refine (DV.out _).mono ?_; rintro e w3 ⟨rfl, q3⟩; have Q3 := Lib.hid q3; obtain ⟨c3, f3⟩ := C3.out w3 q3; clear q3)
      go_roundw
      case rel => exact ⟨j, r', q :: d, by omega, rfl, rfl, NX.out w3 Q3.out⟩
      case measure => simp [intOf]; omega
end Go.Proofs.Ytjfopggpohakkaa
