/- Contract of Sub. -/
import Derived.Test.YtlmigbfpdbkkjaaDoorNi
namespace Go.Proofs.YtlmigbfpdbkkjaaDoor
open Go.RowKit

/-- What Clone gives: nothing, or a row of its own. -/
def Cl (B : Nat) (w : World) (a : Option Addr) (n c : Nat) (l : List Nat) : Prop := n = l.length ∧ n ≤ c ∧ (a = none → c = 0) ∧ (n = 0 ∨ ∃ g, a = some ⟨g, 0, none⟩ ∧ B ≤ g ∧ Rw w g l)
theorem Cl.lm {B : Nat} {w : World} {a : Option Addr} {n c : Nat} {l : List Nat} (h : Cl B w a n c l) : Lm w (.slice a n c) l := by
  obtain ⟨rfl, hc, ha, h⟩ := h
  rcases h with h0 | ⟨g, rfl, _, hr⟩
  · have e : l = [] := List.eq_nil_of_length_eq_zero h0
    subst e
    exact ⟨a, c, rfl, Nt.fit_nil, ha, hc, Or.inl rfl⟩
  · exact hr.lm hc
theorem clone2_any (v : Value) (l : List Nat) (w : World) (h : Lm w v l) (hl : l.length ≤ 1000000) :
    Calls Tryd.prog 32 #[v] w fun e w' => ∃ a c, e = .returned (.slice a l.length c) ∧ Cl w.heap.size w' a l.length c l ∧ Below w.heap.size w w' := by
  refine (clone_any v l w h hl).mono ?_
  rintro e w' ⟨v', rfl, ho, hb⟩
  have hf := h.fit
  by_cases h0 : l.length = 0
  · rcases ho.2 with ⟨rfl, _⟩ | ⟨g, cap, cur, rfl, _, _, hcap, _⟩
    · rw [h0]; exact ⟨none, 0, rfl, ⟨h0.symm, Nat.le_refl _, fun _ => rfl, Or.inl rfl⟩, hb⟩
    · rw [h0]; exact ⟨_, cap, rfl, ⟨h0.symm, Nat.zero_le _, (fun e => by cases e), Or.inl rfl⟩, hb⟩
  · obtain ⟨g, c, rfl, hB, hc, hr⟩ := own_rw rfl hf (by omega) ho
    exact ⟨_, c, rfl, ⟨rfl, hc, (fun e => by cases e), Or.inr ⟨g, rfl, hB, hr⟩⟩, hb⟩
theorem take1_any (g n c : Nat) (L m : List Nat) (v : Value) (w : World) (hr : Rw w g L) (ho : n ≤ L.length) (hn : n ≤ 1000000) (hc : n ≤ c) (hm : Lx g w v m) :
    Calls Tryd.prog 41 #[.slice (some ⟨g, 0, none⟩) n c, v, .int .u32 1] w fun e w' => ∃ r k, e = .returned (.int .u32 (k : Nat)) ∧ TkO g 0 n 1 L m w w' r k :=
  take_any g 0 n c 1 L m v w hr (by omega) hn hc hm (by decide)
theorem splice_whole {S r : List Nat} (h : r.length = S.length) : Go.splice S 0 r = r := by
  unfold Go.splice; rw [List.take_zero, List.nil_append, Nat.zero_add, h, List.drop_of_length_le (Nat.le_refl _), List.append_nil]
/-- What is left when one number is taken from another one. -/
theorem take_cl (B : Nat) (a : Option Addr) (n c : Nat) (l m : List Nat) (u : Value) (w0 w : World) (hb : Below B w0 w) (h : Cl B w a n c l) (hl : Nt.Fit l) (hm : Nt.Fit m) (hn : n ≤ 1000000) (hu : Lm w0 u m) (hB : B = w0.heap.size) (hlen : m.length ≤ n) (hv : Nt.val m ≤ Nt.val l) :
    Calls Tryd.prog 41 #[.slice a n c, u, .int .u32 1] w fun e w' => ∃ r k, e = .returned (.int .u32 k) ∧ r.length = n ∧ Nt.val r = Nt.val l - Nt.val m ∧ Lm w' (.slice a n c) r ∧ Below B w0 w' := by
  obtain ⟨hn', hc, ha, h⟩ := h
  rcases h with h0 | ⟨g, rfl, hg, hr⟩
  · subst h0
    have e : l = [] := List.eq_nil_of_length_eq_zero hn'.symm
    have e' : m = [] := List.eq_nil_of_length_eq_zero (by omega)
    subst e e'
    refine (take_none a c 1 u w).mono ?_
    rintro e w' ⟨rfl, b⟩
    exact ⟨[], 0, rfl, rfl, rfl, ⟨a, c, rfl, Nt.fit_nil, ha, hc, Or.inl rfl⟩, hb.trans (b.mono (by rw [hB]; exact hb.size))⟩
  · have hx : Lx g w u m := (hu.lx (by omega)).sv (Sv.of_below (hB ▸ hb))
    refine (take1_any g n c l m u w hr (by omega) hn hc hx).mono ?_
    rintro e w' ⟨r, k, rfl, _, rl, rf, re, rr, rs⟩
    rw [splice_whole (by omega)] at rr
    have L4 := rr.lm (c := c) (by omega)
    rw [rl] at L4
    refine ⟨r, _, rfl, rl, ?_, L4, Sv.below hb rs hg (by rw [hB]; exact hb.size)⟩
    rw [show Nt.part l 0 n = l by rw [hn']; exact Nt.part_all l, List.take_of_length_le hlen, Nat.one_mul] at re
    have b1 := Nt.val_lt rf
    have b2 := Nt.val_lt hl
    rw [rl] at b1
    rw [← hn'] at b2
    have k0 : k = 0 := by
      refine Nat.eq_zero_of_not_pos fun hk => ?_
      have := Nat.mul_le_mul_left (Nt.B ^ n) (show 1 ≤ k from hk)
      omega
    subst k0
    omega
theorem sub_numR {l m : List Nat} (hl : Nt.Fit l) (h : Nt.rg l = true) (h' : Nt.rg m = true) (hv : Nt.val m ≤ Nt.val l) : Nt.subR l m = Nt.numR (Nt.val l - Nt.val m) := by
  have := Nt.val_top hl h
  unfold Nt.subR Nt.numR; rw [if_pos ⟨h, h', hv⟩, if_pos (by omega)]
theorem sub_no {l m : List Nat} (h : ¬ (Nt.rg l = true ∧ Nt.rg m = true ∧ Nt.val m ≤ Nt.val l)) : Nt.subR l m = ([], 2) := by
  unfold Nt.subR; rw [if_neg h]
theorem len_of_le {l m : List Nat} (hl : Nt.Fit l) (hm : Nt.Fit m) (h : Nt.rg l = true) (h' : Nt.rg m = true) (hv : Nt.val m ≤ Nt.val l) : m.length ≤ l.length := by
  refine Nat.le_of_not_lt fun c => ?_
  have := Pos.lt_of_len Nt.two_B (Nt.ok_of hl h) (Nt.ok_of hm h') c
  have e1 : Nt.val l = Pos.val Nt.B l := rfl
  have e2 : Nt.val m = Pos.val Nt.B m := rfl
  omega
theorem cmp_vals (l m : List Nat) : (Nt.cmpE l m = 2 ∧ Nt.cmpV l m = 0 ∧ ¬ (Nt.rg l = true ∧ Nt.rg m = true)) ∨ (Nt.cmpE l m = 0 ∧ Nt.cmpV l m = Nt.ord (Nt.val l) (Nt.val m) ∧ Nt.rg l = true ∧ Nt.rg m = true) := by
  unfold Nt.cmpE Nt.cmpV
  by_cases c : Nt.rg l = true ∧ Nt.rg m = true
  · rw [if_pos c, if_pos c]; exact Or.inr ⟨rfl, rfl, c⟩
  · rw [if_neg c, if_neg c]; exact Or.inl ⟨rfl, rfl, c⟩
theorem ord_pos {x y : Nat} (h : y ≤ x) : 0 ≤ Nt.ord x y := by
  unfold Nt.ord; rw [if_neg (by omega)]; by_cases c : y < x <;> simp [c]
theorem ord_neg {x y : Nat} (h : x < y) : Nt.ord x y = -1 := by unfold Nt.ord; rw [if_pos h]
set_option maxRecDepth 100000 in
set_option maxHeartbeats 1600000 in
theorem sub3_any (v u : Value) (l m : List Nat) (w : World) (h : Lm w v l) (h' : Lm w u m) :
    Calls Tryd.prog 21 #[v, u] w fun e w' => ∃ a n c, e = .returned (.tuple #[.slice a n c, .int .i64 (Nt.subR l m).2]) ∧ Lm w' (.slice a n c) (Nt.subR l m).1 ∧ Below w.heap.size w w' := by
  have K := Lib.hid (cmp3_any v u l m w h h')
  have LV := Lib.hid h
  have LU := Lib.hid h'
  have hf := h.fit
  have hf' := h'.fit
  clear h h'
  rcases cmp_vals l m with ⟨e1, e2, e3⟩ | ⟨e1, e2, e3, e4⟩
  · have E := Lib.hid (sub_no (l := l) (m := m) (fun x => e3 ⟨x.1, x.2.1⟩))
    rw [e1, e2] at K
    clear e1 e2 e3 hf hf'
    go_enter Tryd.func21, Tryd.ntmps21
    go_wp2_with (go_at_call 23; with_reducible refine K.out.mono ?_; rintro e w2 ⟨rfl, q2⟩; have Q2 := Lib.hid q2; clear q2)
    go_ret2
    rw [E.out]
    exact ⟨_, _, _, rfl, Lm.nil _, Q2.out.bl⟩
  · by_cases hv : Nt.val m ≤ Nt.val l
    · have E := Lib.hid (sub_numR hf e3 e4 hv)
      have o := ord_pos hv
      have len := len_of_le hf hf' e3 e4 hv
      have nl : l.length ≤ 1024 := ((Nt.rg_iff l).1 e3).1
      obtain ⟨s, hs⟩ : ∃ s, s = Nt.ord (Nt.val l) (Nt.val m) := ⟨_, rfl⟩
      rw [← hs] at o e2
      rw [e1, e2] at K
      obtain ⟨n, hn⟩ : ∃ n, n = l.length := ⟨_, rfl⟩
      rw [← hn] at nl len
      have CL : Hid (∀ w2, Qt w w2 → Calls Tryd.prog 32 #[v] w2 fun e w' => ∃ a c, e = .returned (.slice a n c) ∧ Cl w.heap.size w' a n c l ∧ Below w.heap.size w w') := by
        intro w2 q2
        refine (clone2_any v l w2 (LV.out.below q2.bl) (by omega)).mono ?_
        rintro e w' ⟨a, c, rfl, hcl, hb⟩
        have hs2 : w2.heap.size = w.heap.size := by obtain ⟨q, rfl⟩ := q2; rfl
        rw [hs2] at hcl hb
        rw [← hn] at hcl ⊢
        exact ⟨a, c, rfl, hcl, q2.bl.trans hb⟩
      have TK : Hid (∀ w3 a c, Below w.heap.size w w3 → Cl w.heap.size w3 a n c l → Calls Tryd.prog 41 #[.slice a n c, u, .int .u32 1] w3 fun e w' => ∃ r k, e = .returned (.int .u32 k) ∧ r.length = n ∧ Nt.val r = Nt.val l - Nt.val m ∧ Lm w' (.slice a n c) r ∧ Below w.heap.size w w') :=
        fun w3 a c hb hcl => take_cl w.heap.size a n c l m u w w3 hb hcl hf hf' (by omega) LU.out rfl len hv
      have NB : Hid (∀ w4 a c r, r.length = n → Nt.val r = Nt.val l - Nt.val m → Lm w4 (.slice a n c) r → Calls Tryd.prog 39 #[.slice a n c] w4 fun e w' => ∃ a n c, e = .returned (.tuple #[.slice a n c, .int .i64 (Nt.numR (Nt.val l - Nt.val m)).2]) ∧ Lm w' (.slice a n c) (Nt.numR (Nt.val l - Nt.val m)).1 ∧ Qt w4 w') :=
        fun w4 a c r hr hv hl => number3_any _ r _ w4 hl (by omega) hv
      clear e1 e2 e3 e4 hs hn hv hf hf' len nl
      go_enter Tryd.func21, Tryd.ntmps21
      go_wp2_with (first
        | (go_at_call 23; with_reducible refine K.out.mono ?_; rintro e w2 ⟨rfl, q2⟩; have Q2 := Lib.hid q2; clear q2)
        | (go_at_call 32; with_reducible refine (CL.out w2 Q2.out).mono ?_; rintro e w3 ⟨a, c, rfl, cl3, b3⟩; have CL3 := Lib.hid cl3; have B3 := Lib.hid b3; clear cl3 b3)
        | (go_at_call 41; with_reducible refine (TK.out w3 a c B3.out CL3.out).mono ?_; rintro e w4 ⟨r, k, rfl, rl, rv, rm, b4⟩; have RL := Lib.hid rl; have RV := Lib.hid rv; have RM := Lib.hid rm; have B4 := Lib.hid b4; clear rl rv rm b4)
        | (go_at_call 39; with_reducible refine (NB.out w4 a c r RL.out RV.out RM.out).mono ?_; rintro e w5 ⟨a5, n5, c5, rfl, l5, q5⟩; have L5 := Lib.hid l5; have Q5 := Lib.hid q5; clear l5 q5))
      go_ret2
      rw [E.out]
      exact ⟨_, _, _, rfl, L5.out, B4.out.trans (Q5.out.bl.mono B4.out.size)⟩
    · have E := Lib.hid (sub_no (l := l) (m := m) (fun x => hv x.2.2))
      rw [ord_neg (by omega)] at e2
      rw [e1, e2] at K
      clear e1 e2 e3 e4 hv hf hf'
      go_enter Tryd.func21, Tryd.ntmps21
      go_wp2_with (go_at_call 23; with_reducible refine K.out.mono ?_; rintro e w2 ⟨rfl, q2⟩; have Q2 := Lib.hid q2; clear q2)
      go_ret2
      rw [E.out]
      exact ⟨_, _, _, rfl, Lm.nil _, Q2.out.bl⟩
end Go.Proofs.YtlmigbfpdbkkjaaDoor
