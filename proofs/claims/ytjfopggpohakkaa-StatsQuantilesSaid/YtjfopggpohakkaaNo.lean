/- The steps of DivMod, over worlds. -/
import Derived.Test.YtjfopggpohakkaaNn
namespace Go.Proofs.Ytjfopggpohakkaa
open Go.RowKit

theorem own_keep {w w' : World} {B : Nat} {e : TypeId} {s n : Nat} {v : Value} {xs : List Value} (h : w.ownsRow B e s v n xs) (hb : Below w.heap.size w w') : w'.ownsRow B e s v n xs := by
  refine ⟨h.1, ?_⟩
  rcases h.2 with h' | ⟨g, cap, cur, hv, hB, hg, r1, r2, r3, r4⟩
  · exact Or.inl h'
  · exact Or.inr ⟨g, cap, cur, hv, hB, (hb.block g (Array.getElem?_eq_some_iff.1 hg).1).trans hg, r1, r2, r3, r4⟩
/-- Two rows of the call's own. -/
structure Dv2 (w wr : World) (g g2 : Nat) (R D : List Nat) : Prop where
  r1 : Rw wr g R
  r2 : Rw wr g2 D
  ne : g2 ≠ g
  b1 : w.heap.size ≤ g
  b2 : w.heap.size ≤ g2
  bel : Below w.heap.size w wr
theorem Dv2.on1 {w wr w' : World} {g g2 : Nat} {R R' D : List Nat} (h : Dv2 w wr g g2 R D) (r : Rw w' g R') (s : Sv g wr w') : Dv2 w w' g g2 R' D :=
  ⟨r, s.rw h.ne h.r2, h.ne, h.b1, h.b2, Sv.below h.bel s h.b1 h.bel.size⟩
theorem Dv2.on2 {w wr w' : World} {g g2 : Nat} {R D D' : List Nat} (h : Dv2 w wr g g2 R D) (r : Rw w' g2 D') (s : Sv g2 wr w') : Dv2 w w' g g2 R D' :=
  ⟨s.rw (fun e => h.ne e.symm) h.r1, r, h.ne, h.b1, h.b2, Sv.below h.bel s h.b2 h.bel.size⟩
theorem Dv2.quiet {w wr w' : World} {g g2 : Nat} {R D : List Nat} (h : Dv2 w wr g g2 R D) (hb : Below wr.heap.size wr w') : Dv2 w w' g g2 R D :=
  ⟨h.r1.quiet hb, h.r2.quiet hb, h.ne, h.b1, h.b2, h.bel.trans (hb.mono h.bel.size)⟩
/-- A third one. -/
structure Dv3 (w wr : World) (g g2 g3 : Nat) (R D Q : List Nat) : Prop where
  two : Dv2 w wr g g2 R D
  r3 : Rw wr g3 Q
  n1 : g3 ≠ g
  n2 : g3 ≠ g2
  b3 : w.heap.size ≤ g3
theorem Dv3.on1 {w wr w' : World} {g g2 g3 : Nat} {R R' D Q : List Nat} (h : Dv3 w wr g g2 g3 R D Q) (r : Rw w' g R') (s : Sv g wr w') : Dv3 w w' g g2 g3 R' D Q :=
  ⟨h.two.on1 r s, s.rw h.n1 h.r3, h.n1, h.n2, h.b3⟩
theorem Dv3.on3 {w wr w' : World} {g g2 g3 : Nat} {R D Q Q' : List Nat} (h : Dv3 w wr g g2 g3 R D Q) (r : Rw w' g3 Q') (s : Sv g3 wr w') : Dv3 w w' g g2 g3 R D Q' :=
  ⟨⟨s.rw (fun e => h.n1 e.symm) h.two.r1, s.rw (fun e => h.n2 e.symm) h.two.r2, h.two.ne, h.two.b1, h.two.b2, Sv.below h.two.bel s h.b3 h.two.bel.size⟩, r, h.n1, h.n2, h.b3⟩
theorem Dv3.quiet {w wr w' : World} {g g2 g3 : Nat} {R D Q : List Nat} (h : Dv3 w wr g g2 g3 R D Q) (hb : Below wr.heap.size wr w') : Dv3 w w' g g2 g3 R D Q :=
  ⟨h.two.quiet hb, h.r3.quiet hb, h.n1, h.n2, h.b3⟩
/-- What is multiplied fits. -/
theorem fit_mul {b n x r k t : Nat} (hx : x * t < b ^ n) (h : r + b ^ n * k = 0 + t * x) : r = t * x := by
  rw [Nat.mul_comm] at hx
  have k0 : k = 0 := by
    refine Nat.eq_zero_of_not_pos fun c => ?_
    have := Nat.mul_le_mul_left (b ^ n) (show 1 ≤ k from c)
    omega
  subst k0; omega
theorem scale1_any (g n c t : Nat) (L : List Nat) (w : World) (hr : Rw w g L) (ho : n = L.length) (hn : n ≤ 1000000) (hc : n ≤ c) (ht : t < Nt.B) (hx : Nt.val L * t < Nt.B ^ n) :
    Calls Try.prog 111 #[.slice (some ⟨g, 0, none⟩) n c, .int .u32 (t : Nat), .int .u32 0] w fun e w' => ∃ r k, e = .returned (.int .u32 k) ∧ r.length = n ∧ Nt.Fit r ∧ Nt.val r = t * Nt.val L ∧ Rw w' g r ∧ Sv g w w' := by
  refine (scale_any g 0 n c t 0 L w hr (by omega) hn hc ht (by decide)).mono ?_
  rintro e w' ⟨r, k, rfl, _, rl, rf, re, rr, rs⟩
  rw [splice_whole (by omega)] at rr
  rw [show Nt.part L 0 n = L by rw [ho]; exact Nt.part_all L] at re
  exact ⟨r, _, rfl, rl, rf, fit_mul hx re, rr, rs⟩
/-- The state of the long division: the digits from k on are found. -/
structure DvI (w wr : World) (g g2 g3 : Nat) (l m D : List Nat) (t N n k : Nat) (R Q : List Nat) : Prop where
  mem : Dv3 w wr g g2 g3 R D Q
  lr : R.length = N + 1
  lq : Q.length + n = N + 1
  eq : Nt.val l * t = Nt.val R + Nt.val D * Nt.val Q
  lt : Nt.val (R.drop k) < Nt.val D
  zero : ∀ j, j < k → Q.getD j 0 = 0
theorem DvI.next {w wr w4 : World} {g g2 g3 : Nat} {l m D : List Nat} {t N n i q : Nat} {R Q d : List Nat} (h : DvI w wr g g2 g3 l m D t N (n + 1) (i + 1) R Q) (hi : i + 1 ≤ Q.length)
    (hD : Nt.val D < Nt.B ^ (n + 1)) (qB : q < Nt.B) (ld : d.length = n + 1 + 1) (he : Nt.val d + q * Nt.val D = Nt.val (Nt.part R i (n + 1 + 1))) (hd : Nt.val d < Nt.val D) (rr : Rw w4 g (Go.splice R i d)) (rs : Sv g wr w4) :
    DvI w (w4.setCell ⟨g3, i, none⟩ (.int .u32 (q : Nat))) g g2 g3 l m D t N (n + 1) i (Go.splice R i d) (Q.set i q) := by
  have lr := h.lr
  have lq := h.lq
  obtain ⟨z, -, -⟩ := Nt.div_before h.mem.two.r1.fit (i := i) (n := n + 1) (by omega) hD h.lt
  obtain ⟨b1, b2⟩ := Nt.div_behind (R := R) (c := d) (q := q) (i := i) (n := n + 1) (by omega) ld z he hd
  have v := Nt.val_set (l := Q) (i := i) (q := q) (by omega) (h.zero i (by omega))
  have m4 := h.mem.on1 rr rs
  refine ⟨m4.on3 (m4.r3.put i q qB) (Sv.set w4 ⟨g3, i, none⟩ _), by rw [length_splice _ _ _ (by omega)]; exact lr, by rw [List.length_set]; exact lq, ?_, b1, ?_⟩
  · rw [v, Nat.mul_add, h.eq, b2, Nat.mul_left_comm (Nt.val D), Nat.mul_comm (Nt.val D) q]; omega
  · intro j hj
    rw [List.getD_eq_getElem?_getD, List.getElem?_set_ne (by omega), ← List.getD_eq_getElem?_getD]
    exact h.zero j (by omega)
end Go.Proofs.Ytjfopggpohakkaa
