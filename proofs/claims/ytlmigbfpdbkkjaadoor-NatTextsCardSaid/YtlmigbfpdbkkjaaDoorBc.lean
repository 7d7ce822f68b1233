/- The reference's bits. -/
import Derived.Test.YtlmigbfpdbkkjaaDoorBb
namespace Go.Proofs.YtlmigbfpdbkkjaaDoor
open Go.RowKit

set_option maxRecDepth 100000 in
set_option maxHeartbeats 1600000 in
theorem rbits_any (v : Value) (l : List Nat) (w : World) (h : Lm w v l) (hl : l.length ≤ 1000) : Calls Tryd.prog 50 #[v] w fun e w' => ∃ a n c, e = .returned (.slice a n c) ∧ Bt w' (.slice a n c) (Nt.bd (Nt.val l)) ∧ Below w.heap.size w w' := by
  obtain ⟨a, c, rfl, hf, -, hcap, h⟩ := h
  obtain ⟨n, hn⟩ : ∃ n, n = l.length := ⟨_, rfl⟩
  rw [← hn] at h hcap hl ⊢
  have HN := Lib.hid hn
  have HF := Lib.hid hf
  have H := Lib.hid h
  clear h hn hf
  go_enter Tryd.func50, Tryd.ntmps50
  go_wp2
  go_loopw [3, 4] (fun out i wr => ∃ (t : Nat) (L : List Nat), t ≤ n ∧ i = .int .i64 t ∧ Hid (L.length = 32 * t) ∧ Hid (Nt.bv L = Nt.val (l.take t)) ∧ Ob w wr out L) (fun _ i _ => n + 1 - (intOf i).toNat)
  case atStart => exact ⟨0, [], Nat.zero_le _, rfl, (show _ = _ from rfl), (show _ = _ from rfl), Ob.nil w⟩
  case round =>
    obtain ⟨t, L, ht, rfl, LL, LV, O⟩ := hrel
    by_cases hlt : t < n
    · rcases H.out with h0 | ⟨b, off, rfl, hc⟩
      · exfalso; have := HN.out; rw [h0] at this; simp at this; omega
      have hck := (O.bl.cell (World.block_lt_of_cell? _ _ (hc t (by have := HN.out; omega)))).trans (hc t (by have := HN.out; omega))
      have X := Nt.getD_lt HF.out t
      obtain ⟨x, hx⟩ : ∃ x, x = l.getD t 0 := ⟨_, rfl⟩
      rw [← hx] at hck X
      rw [B_is] at X
      have TV : Hid (Nt.bv L + 2 ^ L.length * x = Nt.val (l.take (t + 1))) := by
        show _ = _
        rw [LV.out, LL.out, Nt.pow_limb, hx]
        exact (Pos.val_take Nt.B l t).symm
      have XP : Hid (x < 2 ^ (32 - 0)) := X
      clear hx hc
      go_wp2
      go_loopw [3, 5, 6] (fun out z k wq => ∃ (j y : Nat) (M : List Nat), j ≤ 32 ∧ k = .int .i64 j ∧ z = .int .u32 y ∧ y < 4294967296 ∧ Hid (y < 2 ^ (32 - j)) ∧ Hid (M.length = 32 * t + j) ∧ Hid (Nt.bv M + 2 ^ M.length * y = Nt.val (l.take (t + 1))) ∧ Ob w wq out M) (fun _ _ k _ => 33 - (intOf k).toNat)
      case atStart => exact ⟨0, x, L, Nat.zero_le _, rfl, rfl, X, XP, LL, TV, O⟩
      case round =>
        obtain ⟨j, y, M, hj, rfl, rfl, Y, YP, ML, MV, O'⟩ := hrel
        by_cases hjl : j < 32
        · obtain ⟨d, hd⟩ : ∃ d, d = y % 2 := ⟨_, rfl⟩
          obtain ⟨q, hq⟩ : ∃ q, q = y / 2 := ⟨_, rfl⟩
          have e1 : (y : Int) % 2 = (d : Int) := by omega
          have e2 : (y : Int) / 2 = (q : Int) := by omega
          have d2 : d < 2 := by omega
          have q2 : q < 4294967296 := by omega
          have MV' : Hid (Nt.bv (M ++ [d]) + 2 ^ (M ++ [d]).length * q = Nt.val (l.take (t + 1))) := by rw [hq]; exact Nt.bits_round hd MV.out
          have QP : Hid (q < 2 ^ (32 - (j + 1))) := by
            show q < _
            have p := YP.out
            rw [show 32 - j = (32 - (j + 1)) + 1 by omega, Nat.pow_succ] at p
            omega
          have ML' : Hid ((M ++ [d]).length = 32 * t + (j + 1)) := by show _ = _; rw [List.length_append, ML.out]; rfl
          have MB : Hid (M.length ≤ 1000000) := by show M.length ≤ _; rw [ML.out]; omega
          clear hd hq
          go_wp2_with (at_builtin; refine wp_push rfl _ _ rfl _ M rfl (O'.alloc _) d d2 _ _ rfl (laid_at _ _ _ _ rfl) MB.out ?_; intro v' w' O2)
          go_roundw
          case rel => exact ⟨j + 1, q, M ++ [d], by omega, by go_num, rfl, q2, QP, ML', MV', O2⟩
          case measure => simp [intOf]; omega
        · obtain rfl : j = 32 := by omega
          have y0 : y = 0 := by have := YP.out; simp at this; exact this
          have MV' : Hid (Nt.bv M = Nt.val (l.take (t + 1))) := by show _ = _; rw [← MV.out, y0, Nat.mul_zero, Nat.add_zero]
          have ML' : Hid (M.length = 32 * (t + 1)) := by show _ = _; rw [ML.out]; omega
          clear y0
          go_wp2
          go_roundw
          case rel => exact ⟨t + 1, M, by omega, by go_num, ML', MV', O'⟩
          case measure => simp [intOf]; omega
    · obtain rfl : t = n := by omega
      have LB : L.length ≤ 1000000000 := by rw [LL.out]; omega
      have TV : Hid (Nt.bv L = Nt.val l) := by show _ = _; rw [LV.out, HN.out, List.take_length]
      go_wp2_with (go_at_call 71; (with_reducible refine (rtrim_bt _ L _ O.bt LB).mono ?_); rintro e w1 ⟨a1, n1, c1, rfl, t1, b1⟩)
      go_ret
      exact ⟨_, _, _, rfl, by rw [← TV.out]; exact t1, O.bl.trans (b1.mono O.bl.size)⟩
end Go.Proofs.YtlmigbfpdbkkjaaDoor
