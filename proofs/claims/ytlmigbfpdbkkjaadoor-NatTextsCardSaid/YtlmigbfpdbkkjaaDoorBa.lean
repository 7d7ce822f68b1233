/- The reference's bits: slices that read as bits; at, trim. -/
import Derived.Test.YtlmigbfpdbkkjaaDoorNa
namespace Go.Proofs.YtlmigbfpdbkkjaaDoor
open Go.RowKit

namespace Nt
/-- All are bits. -/
def Bits (l : List Nat) : Prop := ∀ x ∈ l, x < 2
def bv (l : List Nat) : Nat := Pos.val 2 l
def bd (n : Nat) : List Nat := Pos.dig 2 n
theorem bv_bd (n : Nat) : bv (bd n) = n := Pos.dig_val (Nat.le_refl 2) n
theorem bits_bd (n : Nat) : Bits (bd n) := (Pos.dig_ok (Nat.le_refl 2) n).1
theorem bit_at {l : List Nat} (h : Bits l) (j : Nat) : l.getD j 0 < 2 := by
  rw [List.getD_eq_getElem?_getD]
  cases e : l[j]? with
  | none => exact Nat.succ_pos 1
  | some x => exact h x (List.mem_of_getElem? e)
theorem bits_take {l : List Nat} (h : Bits l) (k : Nat) : Bits (l.take k) := fun x hx => h x (List.mem_of_mem_take hx)
theorem bits_nil : Bits [] := fun _ h => absurd h List.not_mem_nil
end Nt

/-- A slice value that reads as bits. -/
def Bt (w : World) (v : Value) (l : List Nat) : Prop := ∃ (a : Option Addr) (c : Nat), v = .slice a l.length c ∧ Nt.Bits l ∧ (a = none → c = 0) ∧ l.length ≤ c ∧ (l = [] ∨ ∃ b off, a = some ⟨b, off, none⟩ ∧ ∀ j, j < l.length → w.cell? ⟨b, off + j, none⟩ = some (.int .i64 (l.getD j 0 : Nat)))
theorem Bt.below {w w' : World} {v : Value} {l : List Nat} (h : Bt w v l) (hb : Below w.heap.size w w') : Bt w' v l := by
  obtain ⟨a, c, rfl, hf, ha, hc, h⟩ := h
  refine ⟨a, c, rfl, hf, ha, hc, ?_⟩
  rcases h with h | ⟨b, off, rfl, h⟩
  · exact Or.inl h
  · exact Or.inr ⟨b, off, rfl, fun j hj => (hb.cell (World.block_lt_of_cell? _ _ (h j hj))).trans (h j hj)⟩
theorem Bt.nil (w : World) : Bt w (.slice none 0 0) [] := ⟨none, 0, rfl, Nt.bits_nil, fun _ => rfl, Nat.le_refl _, Or.inl rfl⟩
theorem Bt.cap {w : World} {a : Option Addr} {n c : Nat} {l : List Nat} (h : Bt w (.slice a n c) l) : n ≤ c ∧ n = l.length ∧ (a = none → n = 0) := by
  obtain ⟨a', c', e, _, ha, hc, _⟩ := h
  obtain ⟨rfl, hn, rfl⟩ := Value.slice.inj e
  exact ⟨by omega, hn, fun x => by have := ha x; omega⟩
theorem Bt.bits {w : World} {v : Value} {l : List Nat} (h : Bt w v l) : Nt.Bits l := by obtain ⟨_, _, _, h, _⟩ := h; exact h
theorem Bt.take {w : World} {a : Option Addr} {n c : Nat} {l : List Nat} (h : Bt w (.slice a n c) l) (k : Nat) (hk : k ≤ n) : Bt w (.slice a k c) (l.take k) := by
  obtain ⟨a', c2, e, hf, ha, hc, h⟩ := h
  obtain ⟨rfl, rfl, rfl⟩ := Value.slice.inj e
  have el : (l.take k).length = k := by rw [List.length_take]; omega
  refine ⟨a, c, by rw [el], Nt.bits_take hf k, ha, by rw [el]; omega, ?_⟩
  rcases h with h | ⟨b, off, rfl, h⟩
  · left; rw [h, List.take_nil]
  · refine Or.inr ⟨b, off, rfl, fun j hj => ?_⟩
    rw [el] at hj
    rw [h j (by omega), List.getD_eq_getElem?_getD, List.getD_eq_getElem?_getD, List.getElem?_take_of_lt hj]

set_option maxHeartbeats 400000 in
theorem rat_any (v : Value) (l : List Nat) (j : Nat) (w : World) (h : Bt w v l) : Calls Tryd.prog 52 #[v, .int .i64 j] w fun e w' => e = .returned (.int .i64 (l.getD j 0 : Nat)) ∧ w = w' := by
  obtain ⟨a, c, rfl, hf, -, -, h⟩ := h
  obtain ⟨n, hn⟩ : ∃ n, n = l.length := ⟨_, rfl⟩
  rw [← hn] at h ⊢
  have X := Nt.bit_at hf j
  obtain ⟨x, hx⟩ : ∃ x, x = l.getD j 0 := ⟨_, rfl⟩
  by_cases hlt : j < n
  · rcases h with h0 | ⟨b, off, rfl, hc⟩
    · exfalso; rw [hn, h0] at hlt; simp at hlt
    have hck := hc j hlt
    rw [← hx] at hck X ⊢
    clear hx hc hn hf
    go_enter Tryd.func52, Tryd.ntmps52
    go_wp2
    go_ret
    exact ⟨rfl, rfl⟩
  · have e : x = 0 := by rw [hx, List.getD_eq_getElem?_getD, List.getElem?_eq_none (by omega)]; rfl
    have E : Hid (x = 0) := e
    rw [← hx]
    clear hx hn hf h X e
    go_enter Tryd.func52, Tryd.ntmps52
    go_wp2
    go_ret
    exact ⟨by rw [E.out]; rfl, rfl⟩
theorem btrim_step {l : List Nat} {k : Nat} (h : l.getD k 0 = 0) (e : Nt.bv (l.take (k + 1)) = Nt.bv l) : Nt.bv (l.take k) = Nt.bv l := by
  have := Pos.val_take_zero (b := 2) h
  rw [← e]; exact this.symm
set_option maxHeartbeats 800000 in
theorem rtrim_any (v : Value) (l : List Nat) (w : World) (h : Bt w v l) (hl : l.length ≤ 1000000000) : Calls Tryd.prog 71 #[v] w fun e w' => ∃ a n c, v = .slice a l.length c ∧ e = .returned (.slice a n c) ∧ n ≤ l.length ∧ l.take n = Nt.bd (Nt.bv l) ∧ Qt w w' := by
  obtain ⟨a, c, rfl, hf, -, hcap, h⟩ := h
  obtain ⟨n, hn⟩ : ∃ n, n = l.length := ⟨_, rfl⟩
  rw [← hn] at h hcap hl ⊢
  have HN := Lib.hid hn
  have HF := Lib.hid hf
  have H := Lib.hid h
  clear h hn hf
  go_enter Tryd.func71, Tryd.ntmps71
  go_wp2
  go_loopw [0] (fun s wr => ∃ k : Nat, k ≤ n ∧ s = .slice a k c ∧ Hid (Nt.bv (l.take k) = Nt.bv l) ∧ Qt w wr) (fun s _ => (match s with | .slice _ k _ => k | _ => 0) + 1)
  case atStart => exact ⟨n, Nat.le_refl _, rfl, (show _ = _ by rw [List.take_of_length_le (Nat.le_of_eq HN.out.symm)]), Qt.refl w⟩
  case round =>
    obtain ⟨k, hk, rfl, HV, hq⟩ := hrel
    have HQ := Lib.hid hq
    by_cases k0 : k = 0
    · subst k0
      go_wp2
      go_ret
      exact ⟨_, _, _, rfl, rfl, Nat.zero_le _, Pos.take_dig (Nat.le_refl 2) HF.out HV.out (Or.inl rfl), HQ.out⟩
    · obtain ⟨m, rfl⟩ : ∃ m, k = m + 1 := ⟨k - 1, by omega⟩
      rcases H.out with h0 | ⟨b, off, rfl, hc⟩
      · exfalso; have := HN.out; rw [h0] at this; simp at this; omega
      have hck := hq.cell (hc m (by omega))
      obtain ⟨x, hx⟩ : ∃ x, x = l.getD m 0 := ⟨_, rfl⟩
      rw [← hx] at hck
      have HX := Lib.hid hx
      clear hx hc hq
      by_cases hx0 : x = 0
      · subst hx0
        have S : Hid (Nt.bv (l.take m) = Nt.bv l) := btrim_step HX.out.symm HV.out
        go_wp2
        go_roundw
        case rel => exact ⟨m, by omega, rfl, S, HQ.out⟩
        case measure => simp
      · go_wp2
        go_ret
        exact ⟨_, _, _, rfl, rfl, by omega, Pos.take_dig (Nat.le_refl 2) HF.out HV.out (Or.inr ⟨by have := HN.out; omega, by show l.getD m 0 ≠ 0; rw [← HX.out]; exact hx0⟩), HQ.out⟩
/-- The same, as a slice that reads as the bits of the value. -/
theorem rtrim_bt (v : Value) (l : List Nat) (w : World) (h : Bt w v l) (hl : l.length ≤ 1000000000) : Calls Tryd.prog 71 #[v] w fun e w' => ∃ a n c, e = .returned (.slice a n c) ∧ Bt w' (.slice a n c) (Nt.bd (Nt.bv l)) ∧ Below w.heap.size w w' :=
  (rtrim_any v l w h hl).mono fun e w' ⟨a, n, c, hv, he, hn, ht, hq⟩ => ⟨a, n, c, he, by
    subst hv
    rw [← ht]
    exact (h.below hq.bl).take n hn, hq.bl⟩
end Go.Proofs.YtlmigbfpdbkkjaaDoor
