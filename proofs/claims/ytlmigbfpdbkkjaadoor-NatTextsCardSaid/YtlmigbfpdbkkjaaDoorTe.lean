/- Contract of Read. -/
import Derived.Test.YtlmigbfpdbkkjaaDoorTd
namespace Go.Proofs.YtlmigbfpdbkkjaaDoor
open Go.RowKit

def ssize : Value → Nat
  | .string b => b.size
  | _ => 0
/-- The state of Read's loop. -/
structure RdI (w wr : World) (l p r : List UInt8) (a : Option Addr) (k c : Nat) : Prop where
  eq : l = p ++ r
  div : p = [] ∨ r.length % 9 = 0
  row : Rl w.heap.size wr a k c (Nt.dig (Nt.dvl 0 p))
  bel : Below w.heap.size w wr
/-- A group that is parsed. -/
theorem group_any (pre : List UInt8) (w : World) (h : pre.all Nt.isD = true) (h0 : pre ≠ []) (hl : pre.length ≤ 9) : Calls Tryd.prog 47 #[.string ⟨pre.toArray⟩, .int .i64 10, .int .i64 32] w fun e w' => e = .returned (.tuple #[.int .u64 (Nt.dvl 0 pre : Nat), .nilIface]) ∧ Below w.heap.size w w' := by
  have hd : (⟨pre.toArray⟩ : ByteArray).data.toList = pre := by simp
  have hv : Nt.dvl 0 pre ≤ 4294967295 := by
    have h1 := Nt.dvl_lt h
    have h2 := Nat.pow_le_pow_right (show 0 < 10 by decide) hl
    omega
  have hp : Lib.parseUintB 32 (⟨pre.toArray⟩ : ByteArray).data.toList = .ok (Nt.dvl 0 pre) := by
    rw [hd]
    unfold Lib.parseUintB
    rw [if_neg h0]
    exact Nt.parse_ok _ (by decide) pre 0 h hv
  refine (Tryd.strconv_ParseUint_10_at32_ok ⟨pre.toArray⟩ (by show pre.toArray.size ≤ _; rw [List.size_toArray]; omega) _ hp w).mono ?_
  rintro e w' ⟨rfl, rfl | rfl⟩
  · exact ⟨rfl, Below.refl _ _⟩
  · exact ⟨rfl, Lib.bytesWorld_below _ _ _⟩
theorem dig_short {n L : Nat} (h : n < 10 ^ L) : (Nt.dig n).length ≤ L :=
  (Pos.dig_len Nt.two_B n L).2 (Nat.lt_of_lt_of_le h (Nat.pow_le_pow_left (by decide) L))
/-- A limb that is appended. -/
theorem limb_src (w2 : World) (y : Nat) : ∀ j u, (cv [y])[j]? = some u → (w2.alloc (.cells #[.int .u32 (y : Nat)] 48)).cell? ((⟨w2.heap.size, 0, none⟩ : Addr).add j) = some u := by
  intro j u hj
  obtain ⟨hlt, rfl⟩ := cv_at hj
  have : j = 0 := by simp at hlt; exact hlt
  subst this
  exact cell_at w2 _ _ 0 _ _ rfl rfl
set_option maxRecDepth 100000 in
set_option maxHeartbeats 3200000 in
theorem read_yes3 (l : List UInt8) (w : World) (hl : l.length ≤ 9865) (htx : Nt.isTx l = true) :
    Calls Tryd.prog 26 #[.string ⟨l.toArray⟩] w fun e w' => ∃ a n c, e = .returned (.tuple #[.slice a n c, .int .i64 (Nt.numR (Nt.dvl 0 l)).2]) ∧ Lm w' (.slice a n c) (Nt.numR (Nt.dvl 0 l)).1 ∧ Below w.heap.size w w' := by
  have T : Hid (Calls Tryd.prog 46 #[.string ⟨l.toArray⟩] w fun e w' => e = .returned (.bool true) ∧ Hid (RdI w w' l [] l none 0 0)) := by
    show Calls _ _ _ _ _
    refine (isText_any l (by omega) w).mono ?_
    rintro e w' ⟨rfl, b⟩
    rw [htx]
    exact ⟨rfl, (RdI.mk (p := []) (r := l) rfl (Or.inl rfl) ⟨rfl, Nt.fit_nil, Or.inl ⟨rfl, rfl, rfl⟩⟩ b)⟩
  have AD := Lib.hid (Nt.tx_dig htx)
  have HL := Lib.hid hl
  clear htx
  go_enter Tryd.func26, Tryd.ntmps26
  go_wp2_with (go_at_call 46; with_reducible refine T.out.mono ?_; rintro e w2 ⟨rfl, J0⟩)
  go_loopw [0, 4] (fun sv lv wr => ∃ (p r : List UInt8) (a : Option Addr) (k c : Nat), k ≤ 9865 ∧ r.length ≤ 9865 ∧ sv = .string ⟨r.toArray⟩ ∧ lv = .slice a k c ∧ Hid (RdI w wr l p r a k c)) (fun sv _ _ => ssize sv + 1)
  case atStart => exact ⟨[], l, none, 0, 0, by decide, hl, rfl, rfl, J0⟩
  case round =>
    clear J0 T
    obtain ⟨p, r, a, k, c, hk, hr, rfl, rfl, J⟩ := hrel
    cases r with
    | nil =>
      have JE := J.out.eq
      rw [List.append_nil] at JE
      have NB : Hid (∀ x, Nt.dvl 0 l = x → Calls Tryd.prog 39 #[.slice a k c] wr fun e w' => ∃ a n c, e = .returned (.tuple #[.slice a n c, .int .i64 (Nt.numR x).2]) ∧ Lm w' (.slice a n c) (Nt.numR x).1 ∧ Qt wr w') := by
        intro x hx
        refine number3_any _ _ x wr J.out.row.lm (by rw [← J.out.row.1]; omega) ?_
        rw [Nt.val_dig, ← JE]; exact hx
      clear JE
      go_wp2_with (go_at_call 39; with_reducible refine (NB.out _ rfl).mono ?_; rintro e w5 ⟨a5, n5, c5, rfl, l5, q5⟩; have L5 := Lib.hid l5; have Q5 := Lib.hid q5; clear l5 q5)
      go_ret2
      exact ⟨_, _, _, rfl, L5.out, J.out.bel.trans (Q5.out.bl.mono J.out.bel.size)⟩
    | cons x t =>
      obtain ⟨m, hm⟩ : ∃ m, m = t.length := ⟨_, rfl⟩
      have ht : m ≤ 9864 := by simp only [List.length_cons] at hr; omega
      obtain ⟨q, hq⟩ : ∃ q, q = m % 9 := ⟨_, rfl⟩
      have E0 : t.length = m := hm.symm
      have E1 : (m : Int) % 9 = (q : Int) := by omega
      have q8 : q ≤ 8 := by omega
      have qm : q ≤ m := by omega
      obtain ⟨pre, hpre⟩ : ∃ pre, pre = (x :: t).take (q + 1) := ⟨_, rfl⟩
      obtain ⟨suf, hsuf⟩ : ∃ suf, suf = (x :: t).drop (q + 1) := ⟨_, rfl⟩
      have X1 : (⟨(x :: t).toArray⟩ : ByteArray).extract 0 (q + 1) = ⟨pre.toArray⟩ := by
        rw [hpre, ← Lib.mk_data ((⟨(x :: t).toArray⟩ : ByteArray).extract 0 (q + 1)), Lib.extract_data]
        simp
      have X2 : (⟨(x :: t).toArray⟩ : ByteArray).extract (q + 1) (m + 1) = ⟨suf.toArray⟩ := by
        rw [hsuf, ← Lib.mk_data ((⟨(x :: t).toArray⟩ : ByteArray).extract (q + 1) (m + 1)), Lib.extract_data, show (⟨(x :: t).toArray⟩ : ByteArray).data.toList = x :: t by simp, List.take_of_length_le (by rw [List.length_drop, List.length_cons]; omega)]
      have xt : x :: t = pre ++ suf := by rw [hpre, hsuf, List.take_append_drop]
      have le : l = (p ++ pre) ++ suf := by rw [J.out.eq, xt, List.append_assoc]
      have pl : pre.length = q + 1 := by rw [hpre, List.length_take, List.length_cons]; omega
      have sl : suf.length = m - q := by rw [hsuf, List.length_drop, List.length_cons]; omega
      have allp : pre.all Nt.isD = true := by
        have := AD.out
        rw [le, List.all_append, List.all_append, Bool.and_eq_true, Bool.and_eq_true] at this
        exact this.1.2
      have allpp : (p ++ pre).all Nt.isD = true := by
        have := AD.out
        rw [le, List.all_append, Bool.and_eq_true] at this
        exact this.1
      have p0 : pre ≠ [] := fun e => by rw [e] at pl; simp at pl
      obtain ⟨u, hu⟩ : ∃ u, u = Nt.dvl 0 pre := ⟨_, rfl⟩
      have uB : u < 1000000000 := by
        have h1 := Nt.dvl_lt allp
        have h2 := Nat.pow_le_pow_right (show 0 < 10 by decide) (show pre.length ≤ 9 by omega)
        rw [← hu] at h1
        have h3 : 10 ^ 9 = 1000000000 := by decide
        omega
      have DV : Nt.dvl 0 (p ++ pre) = u + 1000000000 * Nt.dvl 0 p := by
        rw [Nt.dvl_app, Nt.dvl_add, ← hu, pl]
        rcases J.out.div with rfl | hd
        · rw [Nt.dvl_nil]; omega
        · have : q = 8 := by rw [List.length_cons] at hd; omega
          subst this
          have h3 : 10 ^ (8 + 1) = 1000000000 := by decide
          rw [h3]; omega
      have DS := dig_short (Nt.dvl_lt allpp)
      have PL : (p ++ pre).length ≤ 9865 := by
        have := HL.out
        rw [le, List.length_append] at this; omega
      have PU : Hid (Calls Tryd.prog 47 #[.string ⟨pre.toArray⟩, .int .i64 10, .int .i64 32] wr fun e w' => e = .returned (.tuple #[.int .u64 (u : Nat), .nilIface]) ∧ Hid (Rl w.heap.size w' a k c (Nt.dig (Nt.dvl 0 p)) ∧ Below w.heap.size w w')) := by
        show Calls _ _ _ _ _
        rw [hu]
        refine (group_any pre wr allp p0 (by omega)).mono ?_
        rintro e w' ⟨rfl, b⟩
        exact ⟨rfl, (⟨J.out.row.quiet b, J.out.bel.trans (b.mono J.out.bel.size)⟩ : _ ∧ _)⟩
      have SC : Hid (∀ w3, Rl w.heap.size w3 a k c (Nt.dig (Nt.dvl 0 p)) → Below w.heap.size w w3 → Calls Tryd.prog 34 #[.slice a k c, .int .u32 1000000000, .int .u32 (u : Nat)] w3 fun e w' => ∃ r cy, e = .returned (.int .u32 (cy : Nat)) ∧ cy < Nt.B ∧ Hid (Nt.val (r ++ [cy]) = Nt.dvl 0 (p ++ pre)) ∧ Hid (Rl w.heap.size w' a k c r) ∧ Hid (Below w.heap.size w w')) := by
        intro w3 h3 b3
        refine (scale_rl w.heap.size w w3 a k c 1000000000 u _ rfl b3 h3 (by omega) (by decide) (by rw [B_is]; omega)).mono ?_
        rintro e w' ⟨r, cy, rfl, cB, re, rr, rb⟩
        refine ⟨r, cy, rfl, cB, ?_, rr, rb⟩
        show Nt.val (r ++ [cy]) = _
        rw [val_snoc rr.1.symm, re, Nt.val_dig, DV]
      have TRI : Hid (∀ (w4 w5 : World) (v5 : Value) (r : List Nat) (cy : Nat), cy < Nt.B → Rl w.heap.size w4 a k c r → Nt.val (r ++ [cy]) = Nt.dvl 0 (p ++ pre) → w5.ownsRow w.heap.size 48 1 v5 (k + 1) (cv r ++ cv [cy]) → Below w.heap.size w w5 → Calls Tryd.prog 37 #[v5] w5 fun e w' => ∃ a6 k6 c6, e = .returned (.slice a6 k6 c6) ∧ k6 ≤ 9865 ∧ Hid (RdI w w' l (p ++ pre) suf a6 k6 c6)) := by
        intro w4 w5 v5 r cy cB hrl hv ho hb5
        have hkr := hrl.1
        have hfr := hrl.2.1
        rw [← cv_app] at ho
        obtain ⟨a5, c5, rfl, hR⟩ := own_rl (lc := r ++ [cy]) (by rw [List.length_append, hkr]; rfl) (Nt.fit_app hfr (Nt.fit_one cB)) ho
        refine (trimmed_any _ _ w5 hR.lm (by rw [← hR.1]; omega)).mono ?_
        rintro e w' ⟨a7, k7, c7, e1, rfl, hk7, ht7, hq7⟩
        obtain ⟨rfl, -, rfl⟩ := Value.slice.inj e1
        have hT := (hR.take k7 (by rw [hR.1]; exact hk7)).quiet hq7.bl
        rw [ht7, hv] at hT
        refine ⟨_, _, _, rfl, by have := hT.1; omega, RdI.mk le (Or.inr ?_) hT (hb5.trans (hq7.bl.mono hb5.size))⟩
        rw [sl]; omega
      have AB : Hid (∀ (w4 w5 : World) (r : List Nat) (o : Obj), Rl w.heap.size w4 a k c r → Below w.heap.size w w4 → (w4.alloc o).grownBy w5 (Value.slice a k c).ownBlock → Below w.heap.size w w5) := by
        intro w4 w5 r o h b g
        have b' := b.alloc b.size o
        exact b'.grown g b'.size (fun j hj => (h.own.lt j hj).1)
      have ZB : Hid (∀ (w4 : World) (o : Obj), Below w.heap.size w w4 → w.heap.size ≤ (w4.alloc o).heap.size) := fun w4 o b => (b.alloc b.size o).size
      have OK4 : Hid (∀ (w4 : World) (r : List Nat) (o : Obj), Rl w.heap.size w4 a k c r → (w4.alloc o).ownsRow w.heap.size 48 1 (.slice a k c) k (cv r)) := fun w4 r o h => own_keep h.own ((Below.refl _ _).alloc (Nat.le_refl _) o)
      have LS := Lib.hid limb_src
      obtain ⟨i0, hi, hz0, hz1, hz2⟩ := info_parts info_limb
      have ML : k + 1 ≤ maxLen := by unfold maxLen; omega
      have BY : (k + 1) * 4 ≤ 140737488355328 := by omega
      have SUF : suf.length ≤ 9865 := by omega
      have SLT : Hid (suf.length < m + 1) := by show suf.length < m + 1; omega
      clear hm hq hpre hsuf hr xt le pl sl allp allpp p0 hu DV DS PL
      go_wp2_with (first
        | (go_at_call 47; with_reducible refine PU.out.mono ?_; rintro e w3 ⟨rfl, J3⟩)
        | (go_at_call 34; with_reducible refine (SC.out w3 J3.out.1 J3.out.2).mono ?_; rintro e w4 ⟨r, cy, rfl, cB, V4, R4, B4⟩)
        | (at_builtin; refine wpList_append_own _ rfl _ _ 22 rfl w.heap.size 48 i0 (.int .u32 0) 1 4 Tryd.underlying22 hi hz0 hz1 hz2 rfl (by decide) _ k (cv r) rfl (OK4.out w4 r _ R4.out) ⟨w4.heap.size, 0, none⟩ 1 1 (cv [cy]) rfl rfl (LS.out w4 cy) (cv_one [cy]) ML BY (ZB.out w4 _ B4.out) ?_; intro v5 w5 hown hgrow _; have B5 := Lib.hid (AB.out w4 w5 r _ R4.out B4.out hgrow); have O5 := Lib.hid hown; clear hown hgrow)
        | (go_at_call 37; with_reducible refine (TRI.out w4 w5 v5 r cy cB R4.out V4.out O5.out B5.out).mono ?_; rintro e w6 ⟨a6, k6, c6, rfl, hk6, J6⟩))
      go_roundw
      case rel => exact ⟨p ++ pre, suf, a6, k6, c6, hk6, SUF, rfl, rfl, J6⟩
      case measure =>
        show suf.toArray.size + 1 < (x :: t).toArray.size + 1
        rw [List.size_toArray, List.size_toArray, List.length_cons, E0]
        have := SLT.out
        omega
end Go.Proofs.YtlmigbfpdbkkjaaDoor
