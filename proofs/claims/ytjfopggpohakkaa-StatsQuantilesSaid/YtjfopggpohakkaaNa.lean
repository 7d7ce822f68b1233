/- Contracts of nat's at, trimmed, number, and the adder. -/
import Derived.Test.YtjfopggpohakkaaMw
namespace Go.Proofs.Ytjfopggpohakkaa
open Go.RowKit

theorem u64_in (n : Nat) (h : n < 18446744073709551616) : IntKind.u64.wrap (n : Int) = (n : Int) := by
  rw [show IntKind.u64.wrap (n : Int) = (n : Int) % 18446744073709551616 from rfl, Int.emod_eq_of_lt (Int.natCast_nonneg _) (by omega)]
theorem u32_of (n : Nat) : IntKind.u32.wrap (n : Int) = ((n % Nt.B : Nat) : Int) := by
  rw [show IntKind.u32.wrap (n : Int) = (n : Int) % 4294967296 from rfl]; rfl
theorem BB : Nt.B * Nt.B = 18446744073709551616 := by decide
theorem B_is : Nt.B = 4294967296 := rfl

set_option maxHeartbeats 400000 in
theorem at_any (v : Value) (l : List Nat) (j : Nat) (w : World) (h : Lm w v l) : Calls Try.prog 83 #[v, .int .i64 j] w fun e w' => e = .returned (.int .u64 (l.getD j 0 : Nat)) ∧ w = w' := by
  have L0 := Lib.hid h
  obtain ⟨a, c, rfl, hf, -, -, h⟩ := h
  obtain ⟨n, hn⟩ : ∃ n, n = l.length := ⟨_, rfl⟩
  rw [← hn] at h ⊢
  have HN := Lib.hid hn
  have X := Nt.getD_lt hf j
  obtain ⟨x, hx⟩ : ∃ x, x = l.getD j 0 := ⟨_, rfl⟩
  have HX := Lib.hid hx
  by_cases hlt : j < n
  · rcases h with h0 | ⟨b, off, rfl, hc⟩
    · exfalso; rw [hn, h0] at hlt; simp at hlt
    have hck := hc j hlt
    rw [← hx] at hck X ⊢
    rw [B_is] at X
    clear hx hc hn hf
    go_enter Try.func83, Try.ntmps83
    go_wp2
    go_ret
    exact ⟨rfl, rfl⟩
  · have e : x = 0 := by rw [hx, List.getD_eq_getElem?_getD, List.getElem?_eq_none (by omega)]; rfl
    have E : Hid (x = 0) := e
    rw [← hx]
    clear hx hn hf h X e
    go_enter Try.func83, Try.ntmps83
    go_wp2
    go_ret
    exact ⟨by rw [E.out]; rfl, rfl⟩
/-- The adder's function. -/
abbrev fAdd (p : Nat) : Value := .func (.func 95) #[] #[.pointer (some ⟨p, 0, none⟩)]
/-- What the adder keeps. -/
def Kp (w : World) (p c : Nat) : Prop := c < Nt.B ∧ w.cell? ⟨p, 0, none⟩ = some (.int .u32 (c : Nat)) ∧ w.frozen? ⟨p, 0, none⟩ = false
set_option maxHeartbeats 400000 in
theorem adder_any (c : Nat) (w : World) (hc : c < Nt.B) : Calls Try.prog 82 #[.int .u32 (c : Nat)] w fun e w' => e = .returned (fAdd w.heap.size) ∧ Kp w' w.heap.size c ∧ Below w.heap.size w w' := by
  have H := Lib.hid hc
  clear hc
  go_enter Try.func82, Try.ntmps82
  go_wp2
  go_ret
  refine ⟨rfl, ⟨H.out, ?_, ?_⟩, (Below.refl _ w).alloc (Nat.le_refl _) _⟩
  · exact cell_at w _ _ 0 _ _ rfl rfl
  · unfold World.frozen?
    rw [heap_alloc_new]
    rfl
set_option maxHeartbeats 400000 in
theorem add1_any (p c n z q : Nat) (w : World) (h : Kp w p c) (hn : n + c < Nt.B * Nt.B) (hz : z = (n + c) % Nt.B) (hq : q = (n + c) / Nt.B) : Calls Try.prog 95 #[.int .u64 (n : Nat), .pointer (some ⟨p, 0, none⟩)] w fun e w' => e = .returned (.int .u32 (z : Nat)) ∧ Kp w' p q ∧ Sv p w w' := by
  subst hz hq
  obtain ⟨hb, hc, hf⟩ := h
  obtain ⟨s, hs⟩ : ∃ s, s = n + c := ⟨_, rfl⟩
  have W1 : IntKind.u64.wrap ((c : Nat) : Int) = (c : Int) := u64_in c (by rw [B_is] at hb; omega)
  have W2 : IntKind.u64.wrap ((n : Int) + (c : Int)) = (s : Int) := by
    rw [hs, ← u64_in (n + c) (by rw [BB] at hn; exact hn), Int.natCast_add]
  have W3 : IntKind.u64.wrap ((s : Int) / 4294967296) = ((s / Nt.B : Nat) : Int) := by
    have := u64_in (s / Nt.B) (Nat.lt_of_le_of_lt (Nat.div_le_self _ _) (by rw [hs]; rw [BB] at hn; exact hn))
    rw [← this, Int.natCast_ediv]; rfl
  have W4 : IntKind.u32.wrap ((s / Nt.B : Nat) : Int) = ((s / Nt.B : Nat) : Int) := by
    rw [u32_of, Nat.mod_eq_of_lt]
    exact Nat.div_lt_of_lt_mul (by rw [hs]; exact hn)
  rw [← hs] at hn ⊢
  have W5 : (s : Int) % 4294967296 = ((s % Nt.B : Nat) : Int) := by rw [Int.natCast_emod]; rfl
  have W6 : (s : Int) / 4294967296 % 4294967296 = ((s / Nt.B : Nat) : Int) := by rw [← W4, u32_of, Int.natCast_emod, Int.natCast_ediv]; rfl
  have HB := Lib.hid (Nat.div_lt_of_lt_mul hn)
  have HW := Lib.hid W5
  have HV := Lib.hid W6
  clear hs hn hb W4 W5 W6
  go_enter Try.func95, Try.ntmps95
  go_wp2
  go_ret
  refine ⟨ret_int HW.out, ⟨HB.out, ?_, ?_⟩, Sv.set w ⟨p, 0, none⟩ _⟩
  · rw [HV.out]; exact World.cell?_setCell_same _ _ _ hc
  · rw [World.frozen?_setCell]; exact hf
theorem add0_any (p c : Nat) (w : World) (h : Kp w p c) : Calls Try.prog 95 #[.int .u64 0, .pointer (some ⟨p, 0, none⟩)] w fun e w' => e = .returned (.int .u32 (c : Nat)) ∧ Kp w' p 0 ∧ Sv p w w' := by
  have hc := h.1
  have hB : Nt.B ≤ Nt.B * Nt.B := by decide
  exact add1_any p c 0 c 0 w h (by omega) (by rw [Nat.zero_add, Nat.mod_eq_of_lt hc]) (by rw [Nat.zero_add, Nat.div_eq_of_lt hc])
/-- A round of what trimmed strikes out. -/
theorem trim_step {l : List Nat} {k : Nat} (h : l.getD k 0 = 0) (e : Nt.val (l.take (k + 1)) = Nt.val l) : Nt.val (l.take k) = Nt.val l := by
  have := Pos.val_take_zero (b := Nt.B) h
  rw [← e]; exact this.symm
set_option maxHeartbeats 800000 in
theorem trimmed_any (v : Value) (l : List Nat) (w : World) (h : Lm w v l) (hl : l.length ≤ 1000000000) : Calls Try.prog 65 #[v] w fun e w' => ∃ a n c, v = .slice a l.length c ∧ e = .returned (.slice a n c) ∧ n ≤ l.length ∧ l.take n = Nt.dig (Nt.val l) ∧ Qt w w' := by
  have L0 := Lib.hid h
  obtain ⟨a, c, rfl, hf, -, hcap, h⟩ := h
  obtain ⟨n, hn⟩ : ∃ n, n = l.length := ⟨_, rfl⟩
  rw [← hn] at h hcap hl ⊢
  have HN := Lib.hid hn
  have HF := Lib.hid hf
  have H := Lib.hid h
  clear h hn hf
  go_enter Try.func65, Try.ntmps65
  go_wp2
  go_loopw [0] (fun s wr => ∃ k : Nat, k ≤ n ∧ s = .slice a k c ∧ Hid (Nt.val (l.take k) = Nt.val l) ∧ Qt w wr) (fun s _ => (match s with | .slice _ k _ => k | _ => 0) + 1)
  case atStart => exact ⟨n, Nat.le_refl _, rfl, (show _ = _ by rw [List.take_of_length_le (Nat.le_of_eq HN.out.symm)]), Qt.refl w⟩
  case round =>
    obtain ⟨k, hk, rfl, HV, hq⟩ := hrel
    have HQ := Lib.hid hq
    by_cases k0 : k = 0
    · subst k0
      go_wp2
      go_ret
      exact ⟨_, _, _, rfl, rfl, Nat.zero_le _, Pos.take_dig Nt.two_B HF.out HV.out (Or.inl rfl), HQ.out⟩
    · obtain ⟨m, rfl⟩ : ∃ m, k = m + 1 := ⟨k - 1, by omega⟩
      rcases H.out with h0 | ⟨b, off, rfl, hc⟩
      · exfalso; have := HN.out; rw [h0] at this; simp at this; omega
      have hck := hq.cell (hc m (by omega))
      obtain ⟨x, hx⟩ : ∃ x, x = l.getD m 0 := ⟨_, rfl⟩
      rw [← hx] at hck
      have HX := Lib.hid hx
      clear hx hc hq
      by_cases hx0 : x = 0
      · subst hx0
        have S : Hid (Nt.val (l.take m) = Nt.val l) := trim_step HX.out.symm HV.out
        go_wp2
        go_roundw
        case rel => exact ⟨m, by omega, rfl, S, HQ.out⟩
        case measure => simp
      · go_wp2
        go_ret
        exact ⟨_, _, _, rfl, rfl, by omega, Pos.take_dig Nt.two_B HF.out HV.out (Or.inr ⟨by have := HN.out; omega, by show l.getD m 0 ≠ 0; rw [← HX.out]; exact hx0⟩), HQ.out⟩
end Go.Proofs.Ytjfopggpohakkaa
