/- Contract of Sub. -/
import Derived.Test.YtjfopggpohakkaaNi
namespace Go.Proofs.Ytjfopggpohakkaa
open Go.RowKit

/-- What Clone gives: nothing, or a row of its own. -/
def Cl (B : Nat) (w : World) (a : Option Addr) (n c : Nat) (l : List Nat) : Prop := n = l.length ∧ n ≤ c ∧ (a = none → c = 0) ∧ (n = 0 ∨ ∃ g, a = some ⟨g, 0, none⟩ ∧ B ≤ g ∧ Rw w g l)
theorem Cl.lm {B : Nat} {w : World} {a : Option Addr} {n c : Nat} {l : List Nat} (h : Cl B w a n c l) : Lm w (.slice a n c) l := by
  obtain ⟨rfl, hc, ha, h⟩ := h
  rcases h with h0 | ⟨g, rfl, _, hr⟩
  · have e : l = [] := List.eq_nil_of_length_eq_zero h0
    subst e
    exact ⟨a, c, rfl, Nt.fit_nil, ha, hc, Or.inl rfl⟩
  · exact hr.lm hc
theorem clone2_any (v : Value) (l : List Nat) (w : World) (h : Lm w v l) (hl : l.length ≤ 1000000) :
    Calls Try.prog 109 #[v] w fun e w' => ∃ a c, e = .returned (.slice a l.length c) ∧ Cl w.heap.size w' a l.length c l ∧ Below w.heap.size w w' := by
  refine (clone_any v l w h hl).mono ?_
  rintro e w' ⟨v', rfl, ho, hb⟩
  have hf := h.fit
  by_cases h0 : l.length = 0
  · rcases ho.2 with ⟨rfl, _⟩ | ⟨g, cap, cur, rfl, _, _, hcap, _⟩
    · rw [h0]; exact ⟨none, 0, rfl, ⟨h0.symm, Nat.le_refl _, fun _ => rfl, Or.inl rfl⟩, hb⟩
    · rw [h0]; exact ⟨_, cap, rfl, ⟨h0.symm, Nat.zero_le _, (fun e => by cases e), Or.inl rfl⟩, hb⟩
  · obtain ⟨g, c, rfl, hB, hc, hr⟩ := own_rw rfl hf (by omega) ho
    exact ⟨_, c, rfl, ⟨rfl, hc, (fun e => by cases e), Or.inr ⟨g, rfl, hB, hr⟩⟩, hb⟩
theorem take1_any (g n c : Nat) (L m : List Nat) (v : Value) (w : World) (hr : Rw w g L) (ho : n ≤ L.length) (hn : n ≤ 1000000) (hc : n ≤ c) (hm : Lx g w v m) :
    Calls Try.prog 119 #[.slice (some ⟨g, 0, none⟩) n c, v, .int .u32 1] w fun e w' => ∃ r k, e = .returned (.int .u32 (k : Nat)) ∧ TkO g 0 n 1 L m w w' r k :=
  take_any g 0 n c 1 L m v w hr (by omega) hn hc hm (by decide)
theorem splice_whole {S r : List Nat} (h : r.length = S.length) : Go.splice S 0 r = r := by
  unfold Go.splice; rw [List.take_zero, List.nil_append, Nat.zero_add, h, List.drop_of_length_le (Nat.le_refl _), List.append_nil]
/-- What is left when one number is taken from another one. -/
theorem take_cl (B : Nat) (a : Option Addr) (n c : Nat) (l m : List Nat) (u : Value) (w0 w : World) (hb : Below B w0 w) (h : Cl B w a n c l) (hl : Nt.Fit l) (hm : Nt.Fit m) (hn : n ≤ 1000000) (hu : Lm w0 u m) (hB : B = w0.heap.size) (hlen : m.length ≤ n) (hv : Nt.val m ≤ Nt.val l) :
    Calls Try.prog 119 #[.slice a n c, u, .int .u32 1] w fun e w' => ∃ r k, e = .returned (.int .u32 k) ∧ r.length = n ∧ Nt.val r = Nt.val l - Nt.val m ∧ Lm w' (.slice a n c) r ∧ Below B w0 w' := by
  obtain ⟨hn', hc, ha, h⟩ := h
  rcases h with h0 | ⟨g, rfl, hg, hr⟩
  · subst h0
    have e : l = [] := List.eq_nil_of_length_eq_zero hn'.symm
    have e' : m = [] := List.eq_nil_of_length_eq_zero (by omega)
    subst e e'
    refine (take_none a c 1 u w).mono ?_
    rintro e w' ⟨rfl, b⟩
    exact ⟨[], 0, rfl, rfl, rfl, ⟨a, c, rfl, Nt.fit_nil, ha, hc, Or.inl rfl⟩, hb.trans (b.mono (by rw [hB]; exact hb.size))⟩
  · have hx : Lx g w u m := (hu.lx (by omega)).sv (Sv.of_below (hB ▸ hb))
    refine (take1_any g n c l m u w hr (by omega) hn hc hx).mono ?_
    rintro e w' ⟨r, k, rfl, _, rl, rf, re, rr, rs⟩
    rw [splice_whole (by omega)] at rr
    have L4 := rr.lm (c := c) (by omega)
    rw [rl] at L4
    refine ⟨r, _, rfl, rl, ?_, L4, Sv.below hb rs hg (by rw [hB]; exact hb.size)⟩
    rw [show Nt.part l 0 n = l by rw [hn']; exact Nt.part_all l, List.take_of_length_le hlen, Nat.one_mul] at re
    have b1 := Nt.val_lt rf
    have b2 := Nt.val_lt hl
    rw [rl] at b1
    rw [← hn'] at b2
    have k0 : k = 0 := by
      refine Nat.eq_zero_of_not_pos fun hk => ?_
      have := Nat.mul_le_mul_left (Nt.B ^ n) (show 1 ≤ k from hk)
      omega
    subst k0
    omega
theorem sub_numR {l m : List Nat} (hl : Nt.Fit l) (h : Nt.rg l = true) (h' : Nt.rg m = true) (hv : Nt.val m ≤ Nt.val l) : Nt.subR l m = Nt.numR (Nt.val l - Nt.val m) := by
  have := Nt.val_top hl h
  unfold Nt.subR Nt.numR; rw [if_pos ⟨h, h', hv⟩, if_pos (by omega)]
theorem sub_no {l m : List Nat} (h : ¬ (Nt.rg l = true ∧ Nt.rg m = true ∧ Nt.val m ≤ Nt.val l)) : Nt.subR l m = ([], 2) := by
  unfold Nt.subR; rw [if_neg h]
theorem len_of_le {l m : List Nat} (hl : Nt.Fit l) (hm : Nt.Fit m) (h : Nt.rg l = true) (h' : Nt.rg m = true) (hv : Nt.val m ≤ Nt.val l) : m.length ≤ l.length := by
  refine Nat.le_of_not_lt fun c => ?_
  have := Pos.lt_of_len Nt.two_B (Nt.ok_of hl h) (Nt.ok_of hm h') c
  have e1 : Nt.val l = Pos.val Nt.B l := rfl
  have e2 : Nt.val m = Pos.val Nt.B m := rfl
  omega
theorem cmp_vals (l m : List Nat) : (Nt.cmpE l m = 2 ∧ Nt.cmpV l m = 0 ∧ ¬ (Nt.rg l = true ∧ Nt.rg m = true)) ∨ (Nt.cmpE l m = 0 ∧ Nt.cmpV l m = Nt.ord (Nt.val l) (Nt.val m) ∧ Nt.rg l = true ∧ Nt.rg m = true) := by
  unfold Nt.cmpE Nt.cmpV
  by_cases c : Nt.rg l = true ∧ Nt.rg m = true
  · rw [if_pos c, if_pos c]; exact Or.inr ⟨rfl, rfl, c⟩
  · rw [if_neg c, if_neg c]; exact Or.inl ⟨rfl, rfl, c⟩
theorem ord_pos {x y : Nat} (h : y ≤ x) : 0 ≤ Nt.ord x y := by
  unfold Nt.ord; rw [if_neg (by omega)]; by_cases c : y < x <;> simp [c]
theorem ord_neg {x y : Nat} (h : x < y) : Nt.ord x y = -1 := by unfold Nt.ord; rw [if_pos h]
end Go.Proofs.Ytjfopggpohakkaa
