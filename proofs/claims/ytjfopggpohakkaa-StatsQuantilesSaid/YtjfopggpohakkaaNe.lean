/- Contracts of scale and take. -/
import Derived.Test.YtjfopggpohakkaaNd
namespace Go.Proofs.Ytjfopggpohakkaa
open Go.RowKit

/-- What scale's loop has done. -/
structure ScI (g off p f u : Nat) (L : List Nat) (w0 wr : World) (k cy : Nat) (d : List Nat) : Prop where
  len : d.length = k
  fit : Nt.Fit d
  eq : Nt.val d + Nt.B ^ k * cy = u + f * Nt.val (Nt.part L off k)
  keep : Kp wr p cy
  row : Rw wr g (Go.splice L off d)
  sv : Sv g w0 wr
theorem val_snoc {d : List Nat} {k z : Nat} (h : d.length = k) : Nt.val (d ++ [z]) = Nt.val d + Nt.B ^ k * z := by
  subst h; exact Pos.val_snoc Nt.B z d
theorem row_next {g p off k z : Nat} {L d : List Nat} {wr w3 : World} (row : Rw wr g (Go.splice L off d)) (len : d.length = k) (hk : off + k < L.length) (zB : z < Nt.B) (hp : p ≠ g) (s3 : Sv p wr w3) :
    Rw (w3.setCell ⟨g, off + k, none⟩ (.int .u32 (z : Nat))) g (Go.splice L off (d ++ [z])) := by
  have r3 : Rw w3 g (Go.splice L off d) := s3.rw (fun e => hp e.symm) row
  have e1 := Nt.splice_next (L := L) (c := d) (o := off) (y := z) (by rw [len]; exact hk)
  rw [len] at e1
  have r4 := r3.put (off + k) z zB
  rw [e1] at r4
  exact r4
theorem row_limb {g off k : Nat} {L d : List Nat} {wr : World} (row : Rw wr g (Go.splice L off d)) (len : d.length = k) (hk : off + k < L.length) :
    wr.cell? ⟨g, off + k, none⟩ = some (.int .u32 (L.getD (off + k) 0 : Nat)) := by
  have := row.cell (j := off + k) (by rw [length_splice _ _ _ (by omega)]; exact hk)
  rw [Nt.getD_splice_ge (by omega) (by omega)] at this
  exact this
theorem ScI.next {g off p f u : Nat} {L : List Nat} {w0 wr w3 : World} {k cy z q x s : Nat} {d : List Nat} (h : ScI g off p f u L w0 wr k cy d) (hk : off + k < L.length)
    (hx : x = L.getD (off + k) 0) (hs : s = x * f + cy) (hz : z = s % Nt.B) (hq : q = s / Nt.B) (hp : p ≠ g) (hw : w0.heap.size ≤ p)
    (k3 : Kp w3 p q) (s3 : Sv p wr w3) : ScI g off p f u L w0 (w3.setCell ⟨g, off + k, none⟩ (.int .u32 (z : Nat))) (k + 1) q (d ++ [z]) := by
  have zB : z < Nt.B := by rw [hz]; exact Nat.mod_lt _ Nt.B_pos
  have sw : Sv g w3 (w3.setCell ⟨g, off + k, none⟩ (.int .u32 (z : Nat))) := Sv.set w3 ⟨g, off + k, none⟩ _
  refine ⟨by rw [List.length_append, h.len]; rfl, Nt.fit_app h.fit (Nt.fit_one zB), ?_, k3.sv sw hp, row_next h.row h.len hk zB hp s3, (h.sv.fresh s3 hw).trans sw⟩
  rw [val_snoc h.len, Nt.part_next, ← hx, Nat.pow_succ, hz, hq]
  exact Nt.scale_round h.eq hs
/-- What scale leaves. -/
def ScO (g off n f u : Nat) (L : List Nat) (w w' : World) (r : List Nat) (k : Nat) : Prop :=
  k < Nt.B ∧ r.length = n ∧ Nt.Fit r ∧ Nt.val r + Nt.B ^ n * k = u + f * Nt.val (Nt.part L off n) ∧ Rw w' g (Go.splice L off r) ∧ Sv g w w'
theorem adderN_any (p u : Nat) (w : World) (hp : p = w.heap.size) (hu : u < Nt.B) : Calls Try.prog 82 #[.int .u32 (u : Nat)] w fun e w' => e = .returned (fAdd p) ∧ Kp w' p u ∧ Below p w w' := by
  subst hp; exact adder_any u w hu
set_option maxHeartbeats 1600000 in
theorem scale_any (g off n c f u : Nat) (L : List Nat) (w : World) (hr : Rw w g L) (ho : off + n ≤ L.length) (hn : n ≤ 1000000) (hc : n ≤ c) (ht : f < Nt.B) (hu : u < Nt.B) :
    Calls Try.prog 111 #[.slice (some ⟨g, off, none⟩) n c, .int .u32 (f : Nat), .int .u32 (u : Nat)] w fun e w' => ∃ r k, e = .returned (.int .u32 (k : Nat)) ∧ ScO g off n f u L w w' r k := by
  obtain ⟨p, hp⟩ : ∃ p, p = w.heap.size := ⟨_, rfl⟩
  have A := Lib.hid (adderN_any p u w hp hu)
  have GL := Lib.hid hr.lt
  have HR := Lib.hid hr
  have HO := Lib.hid ho
  have HT := Lib.hid ht
  have HP := Lib.hid hp
  have TB : Hid (f < 4294967296) := ht
  have W0 : IntKind.u64.wrap (f : Int) = (f : Int) := u64_in f (by have := TB.out; omega)
  clear hr ho ht hp hu
  go_enter Try.func111, Try.ntmps111
  go_wp2_with (go_at_call 82; with_reducible refine A.out.mono ?_; rintro e w1 ⟨rfl, k1, b1⟩)
  have I0 : ScI g off p f u L w w1 0 u [] := ⟨rfl, Nt.fit_nil, by simp [Nt.part, Nt.val_nil], k1, by rw [Nt.splice_nil]; exact HR.out.below b1 (by have := GL.out; have := HP.out; omega), Sv.of_below (by rw [← HP.out]; exact b1)⟩
  have J0 := Lib.hid I0
  clear I0 k1 b1
  have PG : Hid (p ≠ g) := by have := GL.out; have := HP.out; show p ≠ g; omega
  go_loopw [14] (fun i wr => ∃ (k cy : Nat) (d : List Nat), k ≤ n ∧ i = .int .i64 k ∧ Hid (ScI g off p f u L w wr k cy d)) (fun i _ => n + 1 - (intOf i).toNat)
  case atStart => exact ⟨0, u, [], Nat.zero_le _, rfl, J0⟩
  case round =>
    obtain ⟨k, cy, d, hk, rfl, J⟩ := hrel
    by_cases hlt : k < n
    · have HK : Hid (off + k < L.length) := by have := HO.out; show off + k < L.length; omega
      have C1 := row_limb J.out.row J.out.len HK.out
      have X0 := Nt.getD_lt HR.out.fit (off + k)
      obtain ⟨x, hx⟩ : ∃ x, x = L.getD (off + k) 0 := ⟨_, rfl⟩
      rw [← hx] at C1 X0
      obtain ⟨b1, b2⟩ := Nt.put_lt (x := 0) HT.out J.out.keep.1 Nt.B_pos X0
      obtain ⟨P, hP⟩ : ∃ P, P = x * f := ⟨_, rfl⟩
      rw [← hP, Nat.add_zero] at b1 b2
      have b1' := b1
      rw [BB] at b1'
      have W1 : IntKind.u64.wrap ((x : Int) * (f : Int)) = (P : Int) := by rw [← Int.natCast_mul, ← hP]; exact u64_in P (by omega)
      have W3 : IntKind.u64.wrap (x : Int) = (x : Int) := u64_in x (by rw [B_is] at X0; omega)
      obtain ⟨z, hz⟩ : ∃ z, z = (P + cy) % Nt.B := ⟨_, rfl⟩
      obtain ⟨q, hq⟩ : ∃ q, q = (P + cy) / Nt.B := ⟨_, rfl⟩
      have AD := Lib.hid (add1_any p cy P z q wr J.out.keep b1 hz hq)
      have NX := Lib.hid (fun w3 => J.out.next (w3 := w3) HK.out hx (s := P + cy) (by rw [hP]) hz hq PG.out (by have := HP.out; omega))
      have RW3 := Lib.hid (fun w3 (s3 : Sv p wr w3) => s3.rw (fun e => PG.out e.symm) J.out.row)
      have C3 : Hid (∀ w3, Sv p wr w3 → w3.cell? ⟨g, off + k, none⟩ = some (.int .u32 (x : Nat)) ∧ w3.frozen? ⟨g, off + k, none⟩ = false) :=
        fun w3 s3 => ⟨s3.cell (fun e => PG.out e.symm) C1, (RW3.out w3 s3).free _⟩
      clear hx hP hz hq b1 b1' b2 X0
      go_wp2_with (go_at_call 95; with_reducible refine AD.out.mono ?_; rintro e w3 ⟨rfl, k3, s3⟩; have K3 := Lib.hid k3; have S3 := Lib.hid s3; obtain ⟨c3, f3⟩ := C3.out w3 s3; clear k3 s3)
      go_roundw
      case rel => exact ⟨k + 1, q, d ++ [z], by omega, by go_num, NX.out w3 K3.out S3.out⟩
      case measure => simp [intOf]; omega
    · have AD := Lib.hid (add0_any p cy wr J.out.keep)
      have e : k = n := by omega
      subst e
      go_wp2_with (go_at_call 95; with_reducible refine AD.out.mono ?_; rintro e w3 ⟨rfl, k3, s3⟩)
      go_ret
      exact ⟨d, cy, rfl, J.out.keep.1, J.out.len, J.out.fit, J.out.eq, s3.rw (fun e => PG.out e.symm) J.out.row, J.out.sv.fresh s3 (by have := HP.out; omega)⟩
set_option maxHeartbeats 800000 in
theorem scale_none (a : Option Addr) (c f u : Nat) (w : World) (hu : u < Nt.B) :
    Calls Try.prog 111 #[.slice a 0 c, .int .u32 (f : Nat), .int .u32 (u : Nat)] w fun e w' => e = .returned (.int .u32 (u : Nat)) ∧ Below w.heap.size w w' := by
  obtain ⟨p, hp⟩ : ∃ p, p = w.heap.size := ⟨_, rfl⟩
  have A := Lib.hid (adderN_any p u w hp hu)
  have HP := Lib.hid hp
  clear hp hu
  go_enter Try.func111, Try.ntmps111
  go_wp2_with (go_at_call 82; with_reducible refine A.out.mono ?_; rintro e w1 ⟨rfl, k1, b1⟩)
  have AD := Lib.hid (add0_any p u w1 k1)
  have HB := Lib.hid b1
  clear b1 k1
  go_loopw [14] (fun i wr => i = .int .i64 0 ∧ wr = w1) (fun _ _ => 1)
  case atStart => exact ⟨rfl, rfl⟩
  case round =>
    obtain ⟨rfl, rfl⟩ := hrel
    go_wp2_with (go_at_call 95; with_reducible refine AD.out.mono ?_; rintro e w3 ⟨rfl, k3, s3⟩)
    go_ret
    exact ⟨rfl, by rw [← HP.out]; exact Sv.below HB.out s3 (Nat.le_refl _) (by have := HB.out.size; have := HP.out; omega)⟩
/-- What take's loop has done. -/
structure TkI (g off p t : Nat) (L m : List Nat) (w0 wr : World) (k cy lk : Nat) (d : List Nat) : Prop where
  len : d.length = k
  fit : Nt.Fit d
  eq : Nt.val d + t * Nt.val (m.take k) = Nt.val (Nt.part L off k) + Nt.B ^ k * (cy + lk)
  low : cy + 1 < Nt.B
  bit : lk ≤ 1
  keep : Kp wr p cy
  row : Rw wr g (Go.splice L off d)
  sv : Sv g w0 wr
theorem TkI.next {g off p t : Nat} {L m : List Nat} {w0 wr w3 : World} {k cy lk z q x y s nw b : Nat} {d : List Nat} (h : TkI g off p t L m w0 wr k cy lk d) (hk : off + k < L.length) (ht : t < Nt.B) (yB : y < Nt.B) (xB : x < Nt.B)
    (hx : x = L.getD (off + k) 0) (hy : y = m.getD k 0) (hs : s = y * t + cy) (hz : z = s % Nt.B) (hq : q = s / Nt.B) (hn : nw = (x + Nt.B - z - lk) % Nt.B) (hb : b = if x < z + lk then 1 else 0) (hp : p ≠ g) (hw : w0.heap.size ≤ p)
    (k3 : Kp w3 p q) (s3 : Sv p wr w3) : TkI g off p t L m w0 (w3.setCell ⟨g, off + k, none⟩ (.int .u32 (nw : Nat))) (k + 1) q b (d ++ [nw]) := by
  have zB : z < Nt.B := by rw [hz]; exact Nat.mod_lt _ Nt.B_pos
  obtain ⟨e1, e2⟩ := Nt.sub_limb xB zB h.bit
  rw [← hn, ← hb] at e1
  rw [← hn] at e2
  have sw : Sv g w3 (w3.setCell ⟨g, off + k, none⟩ (.int .u32 (nw : Nat))) := Sv.set w3 ⟨g, off + k, none⟩ _
  refine ⟨by rw [List.length_append, h.len]; rfl, Nt.fit_app h.fit (Nt.fit_one e2), ?_, ?_, ?_, k3.sv sw hp, row_next h.row h.len hk e2 hp s3, (h.sv.fresh s3 hw).trans sw⟩
  · have v2 : Nt.val (m.take (k + 1)) = Nt.val (m.take k) + Nt.B ^ k * y := by rw [hy]; exact Pos.val_take Nt.B m k
    rw [val_snoc h.len, v2, Nt.part_next, ← hx, Nat.pow_succ, hq]
    exact Nt.take_round h.eq hs (by rw [← hz]; exact e1)
  · rw [hq, hs]; exact (Nt.take_lt ht h.low yB).2
  · rw [hb]; by_cases c : x < z + lk <;> simp [c]
/-- What take leaves. -/
def TkO (g off n t : Nat) (L m : List Nat) (w w' : World) (r : List Nat) (k : Nat) : Prop :=
  k < Nt.B ∧ r.length = n ∧ Nt.Fit r ∧ Nt.val r + t * Nt.val (m.take n) = Nt.val (Nt.part L off n) + Nt.B ^ n * k ∧ Rw w' g (Go.splice L off r) ∧ Sv g w w'
set_option maxHeartbeats 1600000 in
theorem take_any (g off n c t : Nat) (L m : List Nat) (v : Value) (w : World) (hr : Rw w g L) (ho : off + n ≤ L.length) (hn : n ≤ 1000000) (hc : n ≤ c) (hm : Lx g w v m) (ht : t < Nt.B) :
    Calls Try.prog 119 #[.slice (some ⟨g, off, none⟩) n c, v, .int .u32 (t : Nat)] w fun e w' => ∃ r k, e = .returned (.int .u32 (k : Nat)) ∧ TkO g off n t L m w w' r k := by
  obtain ⟨p, hp⟩ : ∃ p, p = w.heap.size := ⟨_, rfl⟩
  have A := Lib.hid (adder0_any p w hp)
  have GL := Lib.hid hr.lt
  have HR := Lib.hid hr
  have HO := Lib.hid ho
  have HM := Lib.hid hm
  have HT := Lib.hid ht
  have HP := Lib.hid hp
  have TB : Hid (t < 4294967296) := ht
  have W0 : IntKind.u64.wrap (t : Int) = (t : Int) := u64_in t (by have := TB.out; omega)
  clear hr ho hm ht hp
  go_enter Try.func119, Try.ntmps119
  go_wp2_with (go_at_call 82; with_reducible refine A.out.mono ?_; rintro e w1 ⟨rfl, k1, b1⟩)
  have I0 : TkI g off p t L m w w1 0 0 0 [] := ⟨rfl, Nt.fit_nil, by simp [Nt.part, Nt.val_nil], by decide, by decide, k1, by rw [Nt.splice_nil]; exact HR.out.below b1 (by have := GL.out; have := HP.out; omega), Sv.of_below (by rw [← HP.out]; exact b1)⟩
  have J0 := Lib.hid I0
  clear I0 k1 b1
  have PG : Hid (p ≠ g) := by have := GL.out; have := HP.out; show p ≠ g; omega
  go_loopw [8, 14] (fun s i wr => ∃ (k cy lk : Nat) (d : List Nat), k ≤ n ∧ i = .int .i64 k ∧ s = .int .u32 (lk : Nat) ∧ Hid (TkI g off p t L m w wr k cy lk d)) (fun _ i _ => n + 1 - (intOf i).toNat)
  case atStart => exact ⟨0, 0, 0, [], Nat.zero_le _, rfl, rfl, J0⟩
  case round =>
    obtain ⟨k, cy, lk, d, hk, rfl, rfl, J⟩ := hrel
    by_cases hlt : k < n
    · have HK : Hid (off + k < L.length) := by have := HO.out; show off + k < L.length; omega
      have C1 := row_limb J.out.row J.out.len HK.out
      have LM := Lib.hid (HM.out.sv J.out.sv).lm
      have AT := Lib.hid (at_any v m k wr LM.out)
      have X0 := Nt.getD_lt HR.out.fit (off + k)
      have Y0 := Nt.getD_lt LM.out.fit k
      obtain ⟨x, hx⟩ : ∃ x, x = L.getD (off + k) 0 := ⟨_, rfl⟩
      obtain ⟨y, hy⟩ : ∃ y, y = m.getD k 0 := ⟨_, rfl⟩
      rw [← hx] at C1 X0
      rw [← hy] at AT Y0
      obtain ⟨b1, b2⟩ := Nt.take_lt HT.out J.out.low Y0
      obtain ⟨P, hP⟩ : ∃ P, P = y * t := ⟨_, rfl⟩
      rw [← hP] at b1 b2
      have b1' := b1
      rw [BB] at b1'
      have W1 : IntKind.u64.wrap ((y : Int) * (t : Int)) = (P : Int) := by rw [← Int.natCast_mul, ← hP]; exact u64_in P (by omega)
      obtain ⟨z, hz⟩ : ∃ z, z = (P + cy) % Nt.B := ⟨_, rfl⟩
      obtain ⟨q, hq⟩ : ∃ q, q = (P + cy) / Nt.B := ⟨_, rfl⟩
      obtain ⟨nw, hnw⟩ : ∃ nw, nw = (x + Nt.B - z - lk) % Nt.B := ⟨_, rfl⟩
      obtain ⟨b, hb⟩ : ∃ b, b = if x < z + lk then 1 else 0 := ⟨_, rfl⟩
      have AD := Lib.hid (add1_any p cy P z q wr J.out.keep b1 hz hq)
      have zB : z < Nt.B := by rw [hz]; exact Nat.mod_lt _ Nt.B_pos
      have SB := Lib.hid (fun w4 => sub32_any x z lk w4 X0 zB J.out.bit)
      rw [← hnw, ← hb] at SB
      have NX := Lib.hid (fun w3 => J.out.next (w3 := w3) HK.out HT.out Y0 X0 hx hy (s := P + cy) (by rw [hP]) hz hq hnw hb PG.out (by have := HP.out; omega))
      have RW3 := Lib.hid (fun w3 (s3 : Sv p wr w3) => s3.rw (fun e => PG.out e.symm) J.out.row)
      have C3 : Hid (∀ w3, Sv p wr w3 → w3.cell? ⟨g, off + k, none⟩ = some (.int .u32 (x : Nat)) ∧ w3.frozen? ⟨g, off + k, none⟩ = false) :=
        fun w3 s3 => ⟨s3.cell (fun e => PG.out e.symm) C1, (RW3.out w3 s3).free _⟩
      clear hx hy hP hz hq b1 b1' b2 X0 Y0 hnw hb zB
      go_wp2_with (first
        | (go_at_call 83; with_reducible refine AT.out.mono ?_; rintro e w2 ⟨rfl, rfl⟩)
        | (go_at_call 95; with_reducible refine AD.out.mono ?_; rintro e w3 ⟨rfl, k3, s3⟩; have K3 := Lib.hid k3; have S3 := Lib.hid s3; obtain ⟨c3, f3⟩ := C3.out w3 s3; clear k3 s3)
        | (go_at_call 122; with_reducible refine (SB.out _).mono ?_; rintro e w4 ⟨rfl, rfl⟩))
      go_roundw
      case rel => exact ⟨k + 1, q, b, d ++ [nw], by omega, by go_num, rfl, NX.out w3 K3.out S3.out⟩
      case measure => simp [intOf]; omega
    · have e : k = n := by omega
      subst e
      have LB := J.out.bit
      have CB := J.out.low
      obtain ⟨z, hz⟩ : ∃ z, z = (lk + cy) % Nt.B := ⟨_, rfl⟩
      obtain ⟨q, hq⟩ : ∃ q, q = (lk + cy) / Nt.B := ⟨_, rfl⟩
      have AD := Lib.hid (add1_any p cy lk z q wr J.out.keep (by rw [BB]; rw [B_is] at CB; omega) hz hq)
      have ez : Hid (z = cy + lk) := by show _ = _; rw [hz, Nat.mod_eq_of_lt (by omega)]; omega
      have W9 : IntKind.u64.wrap (lk : Int) = (lk : Int) := u64_in lk (by omega)
      have DO : Hid (Nt.val d + t * Nt.val (m.take k) = Nt.val (Nt.part L off k) + Nt.B ^ k * z) := by show _ = _; rw [ez.out]; exact J.out.eq
      have ZB : Hid (z < Nt.B) := by have := ez.out; show z < Nt.B; omega
      clear hz hq LB CB
      go_wp2_with (go_at_call 95; with_reducible refine AD.out.mono ?_; rintro e w3 ⟨rfl, k3, s3⟩)
      go_ret
      exact ⟨d, z, rfl, ZB.out, J.out.len, J.out.fit, DO.out, s3.rw (fun e => PG.out e.symm) J.out.row, J.out.sv.fresh s3 (by have := HP.out; omega)⟩
end Go.Proofs.Ytjfopggpohakkaa
