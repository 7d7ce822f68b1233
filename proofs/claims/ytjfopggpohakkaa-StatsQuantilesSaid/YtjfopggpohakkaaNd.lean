/- Contracts of put and scale. -/
import Derived.Test.YtjfopggpohakkaaNb
namespace Go.Proofs.Ytjfopggpohakkaa
open Go.RowKit

theorem Kp.sv {g p c : Nat} {w w' : World} (h : Kp w p c) (k : Sv g w w') (hp : p ≠ g) : Kp w' p c := by
  obtain ⟨h1, h2, h3⟩ := h
  have hl : p < w.heap.size := World.block_lt_of_cell? w _ h2
  exact ⟨h1, k.cell hp h2, by rw [k.frozen hp hl]; exact h3⟩
theorem Kp.lt {p c : Nat} {w : World} (h : Kp w p c) : p < w.heap.size := World.block_lt_of_cell? w _ h.2.1
theorem adder0_any (p : Nat) (w : World) (hp : p = w.heap.size) : Calls Try.prog 82 #[.int .u32 0] w fun e w' => e = .returned (fAdd p) ∧ Kp w' p 0 ∧ Below p w w' := by
  subst hp; exact adder_any 0 w Nt.B_pos
/-- What put's loop has done. -/
structure PutI (g off p t : Nat) (L m : List Nat) (w0 wr : World) (k cy : Nat) (d : List Nat) : Prop where
  len : d.length = k
  fit : Nt.Fit d
  eq : Nt.val d + Nt.B ^ k * cy = Nt.val (Nt.part L off k) + t * Nt.val (m.take k)
  keep : Kp wr p cy
  row : Rw wr g (Go.splice L off d)
  sv : Sv g w0 wr
theorem PutI.next {g off p t : Nat} {L m : List Nat} {w0 wr w3 : World} {k cy z q x y s : Nat} {d : List Nat} (h : PutI g off p t L m w0 wr k cy d) (hk : off + k < L.length)
    (hx : x = L.getD (off + k) 0) (hy : y = m.getD k 0) (hs : s = y * t + x + cy) (hz : z = s % Nt.B) (hq : q = s / Nt.B) (hp : p ≠ g) (hw : w0.heap.size ≤ p)
    (k3 : Kp w3 p q) (s3 : Sv p wr w3) : PutI g off p t L m w0 (w3.setCell ⟨g, off + k, none⟩ (.int .u32 (z : Nat))) (k + 1) q (d ++ [z]) := by
  have zB : z < Nt.B := by rw [hz]; exact Nat.mod_lt _ Nt.B_pos
  have r3 : Rw w3 g (Go.splice L off d) := s3.rw (fun e => hp e.symm) h.row
  have e1 := Nt.splice_next (L := L) (c := d) (o := off) (y := z) (by rw [h.len]; exact hk)
  rw [h.len] at e1
  have r4 := r3.put (off + k) z zB
  rw [e1] at r4
  have sw : Sv g w3 (w3.setCell ⟨g, off + k, none⟩ (.int .u32 (z : Nat))) := Sv.set w3 ⟨g, off + k, none⟩ _
  refine ⟨by rw [List.length_append, h.len]; rfl, Nt.fit_app h.fit (Nt.fit_one zB), ?_, k3.sv sw hp, r4, (h.sv.fresh s3 hw).trans sw⟩
  have v1 : Nt.val (d ++ [z]) = Nt.val d + Nt.B ^ k * z := by
    have := Pos.val_snoc Nt.B z d
    rw [h.len] at this; exact this
  have v2 : Nt.val (m.take (k + 1)) = Nt.val (m.take k) + Nt.B ^ k * y := by rw [hy]; exact Pos.val_take Nt.B m k
  rw [v1, v2, Nt.part_next, ← hx, Nat.pow_succ, hz, hq]
  exact Nt.put_round h.eq hs
theorem PutI.limb {g off p t : Nat} {L m : List Nat} {w0 wr : World} {k cy : Nat} {d : List Nat} (h : PutI g off p t L m w0 wr k cy d) (hk : off + k < L.length) :
    wr.cell? ⟨g, off + k, none⟩ = some (.int .u32 (L.getD (off + k) 0 : Nat)) := by
  have := h.row.cell (j := off + k) (by rw [length_splice _ _ _ (by have := h.len; omega)]; exact hk)
  rw [Nt.getD_splice_ge (by have := h.len; omega) (by omega)] at this
  exact this
/-- What put leaves. -/
def PutO (g off n t : Nat) (L m : List Nat) (w w' : World) (r : List Nat) (k : Nat) : Prop :=
  k < Nt.B ∧ r.length = n ∧ Nt.Fit r ∧ Nt.val r + Nt.B ^ n * k = Nt.val (Nt.part L off n) + t * Nt.val (m.take n) ∧ Rw w' g (Go.splice L off r) ∧ Sv g w w'
set_option maxHeartbeats 1600000 in
theorem put_any (g off n c t : Nat) (L m : List Nat) (v : Value) (w : World) (hr : Rw w g L) (ho : off + n ≤ L.length) (hn : n ≤ 1000000) (hc : n ≤ c) (hm : Lx g w v m) (ht : t < Nt.B) :
    Calls Try.prog 61 #[.slice (some ⟨g, off, none⟩) n c, v, .int .u32 (t : Nat)] w fun e w' => ∃ r k, e = .returned (.int .u32 (k : Nat)) ∧ PutO g off n t L m w w' r k := by
  obtain ⟨p, hp⟩ : ∃ p, p = w.heap.size := ⟨_, rfl⟩
  have A := Lib.hid (adder0_any p w hp)
  have GL := Lib.hid hr.lt
  have HR := Lib.hid hr
  have HO := Lib.hid ho
  have HM := Lib.hid hm
  have HT := Lib.hid ht
  have HP := Lib.hid hp
  have TB : Hid (t < 4294967296) := ht
  have W0 : IntKind.u64.wrap (t : Int) = (t : Int) := u64_in t (by have := TB.out; omega)
  clear hr ho hm ht hp
  go_enter Try.func61, Try.ntmps61
  go_wp2_with (go_at_call 82; with_reducible refine A.out.mono ?_; rintro e w1 ⟨rfl, k1, b1⟩)
  have I0 : PutI g off p t L m w w1 0 0 [] := ⟨rfl, Nt.fit_nil, by simp [Nt.part, Nt.val_nil], k1, by rw [Nt.splice_nil]; exact HR.out.below b1 (by have := GL.out; have := HP.out; omega), Sv.of_below (by rw [← HP.out]; exact b1)⟩
  have J0 := Lib.hid I0
  clear I0 k1 b1
  have PG : Hid (p ≠ g) := by have := GL.out; have := HP.out; show p ≠ g; omega
  go_loopw [13] (fun i wr => ∃ (k cy : Nat) (d : List Nat), k ≤ n ∧ i = .int .i64 k ∧ Hid (PutI g off p t L m w wr k cy d)) (fun i _ => n + 1 - (intOf i).toNat)
  case atStart => exact ⟨0, 0, [], Nat.zero_le _, rfl, J0⟩
  case round =>
    obtain ⟨k, cy, d, hk, rfl, J⟩ := hrel
    by_cases hlt : k < n
    · have HK : Hid (off + k < L.length) := by have := HO.out; show off + k < L.length; omega
      have C1 := J.out.limb HK.out
      have LM := Lib.hid (HM.out.sv J.out.sv).lm
      have AT := Lib.hid (at_any v m k wr LM.out)
      have X0 := Nt.getD_lt HR.out.fit (off + k)
      have Y0 := Nt.getD_lt LM.out.fit k
      obtain ⟨x, hx⟩ : ∃ x, x = L.getD (off + k) 0 := ⟨_, rfl⟩
      obtain ⟨y, hy⟩ : ∃ y, y = m.getD k 0 := ⟨_, rfl⟩
      rw [← hx] at C1 X0
      rw [← hy] at AT Y0
      obtain ⟨b1, b2⟩ := Nt.put_lt HT.out J.out.keep.1 X0 Y0
      obtain ⟨P, hP⟩ : ∃ P, P = y * t := ⟨_, rfl⟩
      obtain ⟨N, hN⟩ : ∃ N, N = P + x := ⟨_, rfl⟩
      rw [← hP, ← hN] at b1 b2
      have b1' := b1
      rw [BB] at b1'
      have W1 : IntKind.u64.wrap ((y : Int) * (t : Int)) = (P : Int) := by rw [← Int.natCast_mul, ← hP]; exact u64_in P (by omega)
      have W2 : IntKind.u64.wrap ((P : Int) + (x : Int)) = (N : Int) := by rw [← Int.natCast_add, ← hN]; exact u64_in N (by omega)
      have W3 : IntKind.u64.wrap (x : Int) = (x : Int) := u64_in x (by omega)
      obtain ⟨z, hz⟩ : ∃ z, z = (N + cy) % Nt.B := ⟨_, rfl⟩
      obtain ⟨q, hq⟩ : ∃ q, q = (N + cy) / Nt.B := ⟨_, rfl⟩
      have AD := Lib.hid (add1_any p cy N z q wr J.out.keep b1 hz hq)
      have NX := fun w3 => J.out.next (w3 := w3) HK.out hx hy (s := N + cy) (by rw [hN, hP]) hz hq PG.out (by have := HP.out; omega)
      have NX' := Lib.hid NX
      have RW3 := Lib.hid (fun w3 (s3 : Sv p wr w3) => s3.rw (fun e => PG.out e.symm) J.out.row)
      have C3 : Hid (∀ w3, Sv p wr w3 → w3.cell? ⟨g, off + k, none⟩ = some (.int .u32 (x : Nat)) ∧ w3.frozen? ⟨g, off + k, none⟩ = false) :=
        fun w3 s3 => ⟨s3.cell (fun e => PG.out e.symm) C1, (RW3.out w3 s3).free _⟩
      clear NX hx hy hN hP hz hq b1 b1' b2 X0 Y0
      go_wp2_with (first
        | (go_at_call 83; with_reducible refine AT.out.mono ?_; rintro e w2 ⟨rfl, rfl⟩)
        | (go_at_call 95; with_reducible refine AD.out.mono ?_; rintro e w3 ⟨rfl, k3, s3⟩; have K3 := Lib.hid k3; have S3 := Lib.hid s3; obtain ⟨c3, f3⟩ := C3.out w3 s3; clear k3 s3))
      go_roundw
      case rel => exact ⟨k + 1, q, d ++ [z], by omega, by go_num, NX'.out w3 K3.out S3.out⟩
      case measure => simp [intOf]; omega
    · have AD := Lib.hid (add0_any p cy wr J.out.keep)
      have e : k = n := by omega
      subst e
      go_wp2_with (go_at_call 95; with_reducible refine AD.out.mono ?_; rintro e w3 ⟨rfl, k3, s3⟩)
      go_ret
      exact ⟨d, cy, rfl, J.out.keep.1, J.out.len, J.out.fit, J.out.eq, s3.rw (fun e => PG.out e.symm) J.out.row, J.out.sv.fresh s3 (by have := HP.out; omega)⟩
end Go.Proofs.Ytjfopggpohakkaa
