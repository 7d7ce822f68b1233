/- The reference's mul. -/
import Derived.Test.YtlmigbfpdbkkjaaDoorBd
namespace Go.Proofs.YtlmigbfpdbkkjaaDoor
open Go.RowKit

namespace Nt
theorem bv_lt {l : List Nat} (h : Bits l) : bv l < 2 ^ l.length := Pos.val_lt h
theorem bd_len (n k : Nat) : (bd n).length ≤ k ↔ n < 2 ^ k := Pos.dig_len (Nat.le_refl 2) n k
theorem bd_zero : bd 0 = [] := rfl
theorem mul_len {l m : List Nat} (hl : Bits l) (hm : Bits m) : (bd (bv l * bv m)).length ≤ l.length + m.length := by
  rw [bd_len, Nat.pow_add]
  have p1 := bv_lt hl
  have p2 := bv_lt hm
  generalize 2 ^ l.length = p at *
  generalize 2 ^ m.length = q at *
  generalize bv l = x at *
  generalize bv m = y at *
  exact Nat.lt_of_le_of_lt (Nat.mul_le_mul_right y (Nat.le_of_lt p1)) (Nat.mul_lt_mul_of_pos_left p2 (by omega))
theorem mul_take {l m : List Nat} (t : Nat) (x : Nat) (hx : x = l.getD t 0) : bv (l.take (t + 1)) * bv m = bv (l.take t) * bv m + 2 ^ t * (x * bv m) := by
  unfold bv
  rw [Pos.val_take, Nat.add_mul, Nat.mul_assoc, hx]
end Nt

set_option maxRecDepth 100000 in
set_option maxHeartbeats 1600000 in
theorem rmul_any (v u : Value) (l m : List Nat) (w : World) (h : Bt w v l) (h' : Bt w u m) (hl : l.length + m.length ≤ 100000) :
    Calls Tryd.prog 54 #[v, u] w fun e w' => ∃ a n c, e = .returned (.slice a n c) ∧ Bt w' (.slice a n c) (Nt.bd (Nt.bv l * Nt.bv m)) ∧ Below w.heap.size w w' := by
  have U := Lib.hid (fun w' (b : Below w.heap.size w w') => h'.below b)
  have BL := Lib.hid h.bits
  have BM := Lib.hid h'.bits
  obtain ⟨a, c, rfl, -, -, hcap, h⟩ := h
  obtain ⟨n, hn⟩ : ∃ n, n = l.length := ⟨_, rfl⟩
  rw [← hn] at h hcap hl ⊢
  have HN := Lib.hid hn
  have H := Lib.hid h
  have MB : Hid (n + m.length ≤ 100000) := hl
  have nb : n ≤ 100000 := by omega
  clear h hn h' hl
  go_enter Tryd.func54, Tryd.ntmps54
  go_wp2
  go_loopw [5, 6] (fun out i wr => ∃ (t : Nat) (a : Option Addr) (k c : Nat), t ≤ n ∧ i = .int .i64 t ∧ out = .slice a k c ∧ Hid (Bt wr (.slice a k c) (Nt.bd (Nt.bv (l.take t) * Nt.bv m))) ∧ Hid (Below w.heap.size w wr)) (fun _ i _ => n + 1 - (intOf i).toNat)
  case atStart => exact ⟨0, none, 0, 0, Nat.zero_le _, rfl, rfl, (show Bt _ _ _ by rw [show Nt.bv (l.take 0) = 0 from rfl, Nat.zero_mul]; exact Bt.nil w), (show Below _ _ _ from Below.refl _ _)⟩
  case round =>
    obtain ⟨t, ao, ko, co, ht, rfl, rfl, OB, B⟩ := hrel
    by_cases hlt : t < n
    · rcases H.out with h0 | ⟨b, off, rfl, hc⟩
      · exfalso; have := HN.out; rw [h0] at this; simp at this; omega
      have hck := (B.out.cell (World.block_lt_of_cell? _ _ (hc t (by have := HN.out; omega)))).trans (hc t (by have := HN.out; omega))
      have X := Nt.bit_at BL.out t
      obtain ⟨x, hx⟩ : ∃ x, x = l.getD t 0 := ⟨_, rfl⟩
      rw [← hx] at hck X
      have ST := Nt.mul_take (m := m) t x hx
      clear hx hc
      by_cases hx1 : x = 1
      · subst hx1
        rw [Nat.one_mul] at ST
        have lo : (Nt.bd (Nt.bv (l.take t) * Nt.bv m)).length ≤ 100000 := by
          have := Nt.mul_len (Nt.bits_take BL.out t) BM.out
          rw [List.length_take] at this
          have := MB.out
          omega
        have AD := Lib.hid (radd_any _ _ _ _ t wr OB.out (U.out wr B.out) lo (by have := MB.out; omega) (by omega))
        rw [Nt.bv_bd, ← ST] at AD
        clear lo ST
        go_wp2_with (go_at_call 53; (with_reducible refine AD.out.mono ?_); rintro e w1 ⟨a1, n1, c1, rfl, t1, b1⟩; have T1 := Lib.hid t1; have B1 := Lib.hid (B.out.trans (b1.mono B.out.size)); clear t1 b1)
        go_roundw
        case rel => exact ⟨t + 1, a1, n1, c1, by omega, by go_num, rfl, T1, B1⟩
        case measure => simp [intOf]; omega
      · obtain rfl : x = 0 := by omega
        rw [Nat.zero_mul, Nat.mul_zero, Nat.add_zero] at ST
        have T1 : Hid (Bt wr (.slice ao ko co) (Nt.bd (Nt.bv (l.take (t + 1)) * Nt.bv m))) := by show Bt _ _ _; rw [ST]; exact OB.out
        clear ST
        go_wp2
        go_roundw
        case rel => exact ⟨t + 1, ao, ko, co, by omega, by go_num, rfl, T1, B⟩
        case measure => simp [intOf]; omega
    · obtain rfl : t = n := by omega
      have T1 : Hid (Bt wr (.slice ao ko co) (Nt.bd (Nt.bv l * Nt.bv m))) := by
        have := OB.out
        rw [HN.out, List.take_length] at this
        exact this
      go_wp2
      go_ret
      exact ⟨_, _, _, rfl, T1.out, B.out⟩
end Go.Proofs.YtlmigbfpdbkkjaaDoor
