/- The reference's sub. -/
import Derived.Test.YtlmigbfpdbkkjaaDoorBf
import Derived.Deep.RegionWith
namespace Go.Proofs.YtlmigbfpdbkkjaaDoor
open Go.RowKit

namespace Nt
theorem sub_bit {M : List Nat} {V W p q o s i : Nat} (h : bv M + W = V + 2 ^ i * o) (hi : M.length = i) (hs : s + q + o = 2 + p) (hs' : s < 4) : bv (M ++ [s % 2]) + (W + 2 ^ i * q) = (V + 2 ^ i * p) + 2 ^ (i + 1) * (1 - s / 2) := by
  have e : bv (M ++ [s % 2]) = bv M + 2 ^ M.length * (s % 2) := Pos.val_snoc 2 _ _
  rw [e, hi, Nat.pow_succ, Nat.mul_assoc]
  have e3 : s % 2 + q + o = p + 2 * (1 - s / 2) + 0 := by omega
  have e4 := congrArg (fun z => 2 ^ i * z) e3
  simp only [Nat.mul_add, Nat.add_zero] at e4
  omega
theorem sub_done {M : List Nat} {x y o : Nat} {n : Nat} (hb : Bits M) (h : bv M + y = x + 2 ^ n * o) (hn : M.length = n) (hy : y ≤ x) : bv M = x - y := by
  have := bv_lt hb
  rw [hn] at this
  have o0 : o = 0 := by
    rcases Nat.eq_zero_or_pos o with h' | h'
    · exact h'
    · exfalso
      have := Nat.mul_le_mul_left (2 ^ n) h'
      omega
  subst o0
  omega
end Nt

/-- The slice's block is not below B. -/
def Fr (B : Nat) (a : Option Addr) : Prop := ∀ ad, a = some ad → B ≤ ad.block
/-- trim, and where the slice lies. -/
theorem rtrim_b2 (v : Value) (l : List Nat) (w : World) (h : Bt w v l) (hl : l.length ≤ 1000000000) : Calls Tryd.prog 71 #[v] w fun e w' => ∃ a n c, e = .returned (.slice a n c) ∧ Bt w' (.slice a n c) (Nt.bd (Nt.bv l)) ∧ Below w.heap.size w w' ∧ v = .slice a l.length c :=
  (rtrim_any v l w h hl).mono fun e w' ⟨a, n, c, hv, he, hn, ht, hq⟩ => ⟨a, n, c, he, by
    subst hv
    rw [← ht]
    exact (h.below hq.bl).take n hn, hq.bl, hv⟩
theorem Ob.fr {w0 w : World} {a : Option Addr} {n c : Nat} {l : List Nat} (h : Ob w0 w (.slice a n c) l) : Fr w0.heap.size a := by
  intro ad e
  subst e
  exact (h.own.lt ad.block rfl).1

set_option maxRecDepth 100000 in
set_option maxHeartbeats 1600000 in
theorem rsub_any (v u : Value) (x y : Nat) (w : World) (h : Bt w v (Nt.bd x)) (h' : Bt w u (Nt.bd y)) (hl : (Nt.bd x).length ≤ 100000) (hxy : y ≤ x) :
    Calls Tryd.prog 73 #[v, u] w fun e w' => ∃ a n c, e = .returned (.slice a n c) ∧ Bt w' (.slice a n c) (Nt.bd (x - y)) ∧ Below w.heap.size w w' ∧ Fr w.heap.size a := by
  have A' := Lib.hid (fun w' (b : Below w.heap.size w w') (j : Nat) => rat_any u (Nt.bd y) j w' (h'.below b))
  obtain ⟨a, c, rfl, -, -, hcap, h⟩ := h
  have BL := Lib.hid (Nt.bits_bd x)
  have BM := Lib.hid (Nt.bits_bd y)
  have EX := Lib.hid (Nt.bv_bd x)
  have EY : Hid (Nt.bv ((Nt.bd y).take (Nt.bd x).length) = y) := by
    show _ = _
    have : (Nt.bd y).length ≤ (Nt.bd x).length := by
      rw [Nt.bd_len]
      exact Nat.lt_of_le_of_lt hxy ((Nt.bd_len x _).1 (Nat.le_refl _))
    rw [List.take_of_length_le this, Nt.bv_bd]
  obtain ⟨l, el⟩ : ∃ l, l = Nt.bd x := ⟨_, rfl⟩
  obtain ⟨m, em⟩ : ∃ m, m = Nt.bd y := ⟨_, rfl⟩
  rw [← el] at h hcap hl BL EX EY ⊢
  rw [← em] at A' BM EY
  clear el em h'
  obtain ⟨n, hn⟩ : ∃ n, n = l.length := ⟨_, rfl⟩
  rw [← hn] at h hcap hl EY ⊢
  have HN := Lib.hid hn
  have H := Lib.hid h
  have XY := Lib.hid hxy
  clear h hn hxy
  go_enter Tryd.func73, Tryd.ntmps73
  go_wp2
  go_loopw [5, 6, 7] (fun out k i wr => ∃ (t o : Nat) (M : List Nat), t ≤ n ∧ i = .int .i64 t ∧ k = .int .i64 o ∧ o < 2 ∧ Hid (M.length = t) ∧ Hid (Nt.bv M + Nt.bv (m.take t) = Nt.bv (l.take t) + 2 ^ t * o) ∧ Ob w wr out M) (fun _ _ i _ => n + 1 - (intOf i).toNat)
  case atStart => exact ⟨0, 0, [], Nat.zero_le _, rfl, rfl, Nat.succ_pos 1, (show _ = _ from rfl), (show _ = _ by simp [Nt.bv, Pos.val_nil]), Ob.nil w⟩
  case round =>
    obtain ⟨t, o, M, ht, rfl, rfl, O1, ML, MV, O⟩ := hrel
    by_cases hlt : t < n
    · rcases H.out with h0 | ⟨b, off, rfl, hc⟩
      · exfalso; have := HN.out; rw [h0] at this; simp at this; omega
      have hck := (O.bl.cell (World.block_lt_of_cell? _ _ (hc t (by have := HN.out; omega)))).trans (hc t (by have := HN.out; omega))
      have X := Nt.bit_at BL.out t
      have Y := Nt.bit_at BM.out t
      obtain ⟨p, hp⟩ : ∃ p, p = l.getD t 0 := ⟨_, rfl⟩
      obtain ⟨q, hq⟩ : ∃ p, p = m.getD t 0 := ⟨_, rfl⟩
      have AQ := Lib.hid (fun w' (b : Below wr.heap.size wr w') => A'.out w' (O.bl.trans (b.mono O.bl.size)) t)
      rw [← hp] at hck X
      rw [← hq] at AQ Y
      obtain ⟨s, hs⟩ : ∃ s, s = 2 + p - q - o := ⟨_, rfl⟩
      obtain ⟨d, hd⟩ : ∃ d, d = s % 2 := ⟨_, rfl⟩
      obtain ⟨r, hr⟩ : ∃ r, r = 1 - s / 2 := ⟨_, rfl⟩
      have e0 : (2 : Int) + (p : Int) - (q : Int) - (o : Int) = (s : Int) := by omega
      have e1 : (s : Int) % 2 = (d : Int) := by omega
      have e2 : (1 : Int) - (s : Int) / 2 = (r : Int) := by omega
      have d2 : d < 2 := by omega
      have r2 : r < 2 := by omega
      have s4 : s < 4 := by omega
      have MV' : Hid (Nt.bv (M ++ [d]) + Nt.bv (m.take (t + 1)) = Nt.bv (l.take (t + 1)) + 2 ^ (t + 1) * r) := by
        show _ = _
        have e5 : Nt.bv (m.take (t + 1)) = Nt.bv (m.take t) + 2 ^ t * q := by rw [hq]; exact Pos.val_take 2 m t
        have e6 : Nt.bv (l.take (t + 1)) = Nt.bv (l.take t) + 2 ^ t * p := by rw [hp]; exact Pos.val_take 2 l t
        rw [e5, e6, hd, hr]
        exact Nt.sub_bit MV.out ML.out (by omega) s4
      have ML' : Hid ((M ++ [d]).length = t + 1) := by show _ = _; rw [List.length_append, ML.out]; rfl
      have MB : Hid (M.length ≤ 1000000) := by show M.length ≤ _; rw [ML.out]; omega
      clear hp hq hs hd hr hc
      go_wp2
      go_region_with (go_at_call 52; (with_reducible refine (AQ.out _ (Below.drew (Below.refl _ _))).mono ?_); rintro e w1 ⟨rfl, rfl⟩)
      all_goals (go_wp2_with (at_builtin; refine wp_push rfl _ _ rfl _ M rfl ((O.quiet (Below.drew (Below.refl _ _))).alloc _) d d2 _ _ rfl (laid_at _ _ _ _ rfl) MB.out ?_; intro v' w' O2); go_roundw; (case rel => exact ⟨t + 1, r, M ++ [d], by omega, by go_num, (by first | rfl | rw [e2]), r2, ML', MV', O2⟩); (case measure => (simp [intOf]; omega)))
    · obtain rfl : t = n := by omega
      have LB : M.length ≤ 1000000000 := by rw [ML.out]; omega
      have TV : Hid (Nt.bv M = x - y) := by
        show _ = _
        have := MV.out
        rw [EY.out, HN.out, List.take_length, EX.out] at this
        exact Nt.sub_done O.bits this (by rw [ML.out, HN.out]) XY.out
      go_wp2_with (go_at_call 71; (with_reducible refine (rtrim_b2 _ M _ O.bt LB).mono ?_); rintro e w1 ⟨a1, n1, c1, rfl, t1, b1, hv⟩; have HV := Lib.hid hv; clear hv)
      go_ret
      exact ⟨_, _, _, rfl, by rw [← TV.out]; exact t1, O.bl.trans (b1.mono O.bl.size), (show Ob w wr (.slice a1 M.length c1) M from HV.out ▸ O).fr⟩
end Go.Proofs.YtlmigbfpdbkkjaaDoor
