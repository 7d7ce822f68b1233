/- NatDivides: its walk, from the contracts of layer 3's functions. -/
import Derived.Test.YtlmigbfpdbkkjaaDoorLn
namespace Go.Proofs.YtlmigbfpdbkkjaaDoor
open Go.RowKit

/-- A world behind the first one, in which the contracts hold. -/
structure Wd (G : World → Prop) (w0 w : World) : Prop where
  g : G w
  bl : Below w0.heap.size w0 w
theorem Wd.step {G : World → Prop} (C : NatC G) {w0 w w' : World} (h : Wd G w0 w) (b : Below w.heap.size w w') : Wd G w0 w' := ⟨C.below h.g b, h.bl.trans (b.mono h.bl.size)⟩
set_option maxRecDepth 100000 in
set_option maxHeartbeats 1600000 in
theorem divides_any {G : World → Prop} (C : NatC G) (v u : Value) (l m : List Nat) (w : World) (g : G w) (h : Lm w v l) (h' : Lm w u m) (hl : l.length ≤ 9223372036854775807) (hl' : m.length ≤ 9223372036854775807) :
    Calls Tryd.prog 4 #[v, u] w fun e w' => e = .returned (.bool true) ∧ Below w.heap.size w w' := by
  have NA : ∀ w', Below w.heap.size w w' → Calls Tryd.prog 14 #[v, .int .i64 1024] w' fun e w'' => ∃ a n c, e = .returned (.slice a n c) ∧ Lm w'' (.slice a n c) (Nt.num l 1024) ∧ Below w'.heap.size w' w'' := fun w' b => number_any v l 1024 w' (h.below b) (Nat.le_refl _) hl
  have NB : ∀ w', Below w.heap.size w w' → Calls Tryd.prog 14 #[u, .int .i64 1024] w' fun e w'' => ∃ a n c, e = .returned (.slice a n c) ∧ Lm w'' (.slice a n c) (Nt.num m 1024) ∧ Below w'.heap.size w' w'' := fun w' b => number_any u m 1024 w' (h'.below b) (Nat.le_refl _) hl'
  obtain ⟨ra, fa, ka⟩ := Nt.num_ok h.fit 1024 (Nat.le_refl _)
  obtain ⟨rb, fb, kb⟩ := Nt.num_ok h'.fit 1024 (Nat.le_refl _)
  obtain ⟨A, hA⟩ : ∃ A, A = Nt.num l 1024 := ⟨_, rfl⟩
  obtain ⟨B, hB⟩ : ∃ B, B = Nt.num m 1024 := ⟨_, rfl⟩
  rw [← hA] at NA ra fa ka
  rw [← hB] at NB rb fb kb
  have W0 : Wd G w w := ⟨g, Below.refl _ _⟩
  have NA := Lib.hid NA
  have NB := Lib.hid NB
  clear hA hB h h' hl hl' g
  by_cases z : B = []
  · subst z
    obtain ⟨q1, q2, q3⟩ := Nt.div_no (l := A) (m := []) (fun x => x.2.2 rfl)
    have DV := Lib.hid (fun v u w (g : G w) (h : Lm w v A) (h' : Lm w u []) => C.divmod v u A [] w g h h')
    rw [q1, q2, q3] at DV
    clear q1 q2 q3
    go_enter Tryd.func4, Tryd.ntmps4
    go_wp2_with (first | (go_at_call 12; (with_reducible refine (C.awake w W0.g).mono ?_); rintro e w0 ⟨rfl, b0⟩; have W1 := W0.step C b0)  | (go_at_call 14; (with_reducible refine (NA.out _ W1.bl).mono ?_); rintro e w1 ⟨a1, n1, c1, rfl, l1, b1⟩; have W2 := W1.step C b1)  | (go_at_call 14; (with_reducible refine (NB.out _ W2.bl).mono ?_); rintro e w2 ⟨a2, n2, c2, rfl, l2, b2⟩; have W3 := W2.step C b2; have l1' := l1.below b2; obtain ⟨_, e2, _⟩ := l2.cap; have e2' : n2 = 0 := e2; clear e2; subst e2')  | (go_at_call 15; (with_reducible refine (DV.out _ _ _ W3.g l1' l2).mono ?_); rintro e w3 ⟨a3, n3, c3, a4, n4, c4, rfl, l3, l4, b3⟩; have W4 := W3.step C b3; obtain ⟨_, e3, _⟩ := l3.cap; obtain ⟨_, e4, _⟩ := l4.cap; have e3' : n3 = 0 := e3; have e4' : n4 = 0 := e4; clear e3 e4; subst e3' e4'))
    go_ret
    exact ⟨rfl, W4.bl⟩
  · obtain ⟨rq, rr, e0, em, ea, eq, lt⟩ := Nt.divides fa fb ra rb z
    have DV := Lib.hid (fun v u w (g : G w) (h : Lm w v A) (h' : Lm w u B) => C.divmod v u A B w g h h')
    have ML := Lib.hid (fun v u w (g : G w) (h : Lm w v (Nt.quoR A B)) (h' : Lm w u B) => C.mul v u (Nt.quoR A B) B w g h h')
    have AD := Lib.hid (fun v u w (g : G w) (h : Lm w v (Nt.mulR (Nt.quoR A B) B).1) (h' : Lm w u (Nt.remR A B)) => C.add v u _ (Nt.remR A B) w g h h')
    have RQ := Lib.hid (fun v w (g : G w) (h : Lm w v (Nt.quoR A B)) => C.right v _ w g h)
    have RR := Lib.hid (fun v w (g : G w) (h : Lm w v (Nt.remR A B)) => C.right v _ w g h)
    have LS := Lib.hid (fun v u w (g : G w) (h : Lm w v (Nt.remR A B)) (h' : Lm w u B) => less_any C v u _ B w g h h' rr rb)
    have SM := Lib.hid (fun v u w (h : Lm w v A) (h' : Lm w u A) => same3_any v u A A w h h' (by omega))
    rw [e0] at DV
    rw [em] at ML
    rw [ea, eq] at AD
    rw [rq] at RQ
    rw [rr] at RR
    rw [decide_eq_true lt] at LS
    rw [decide_eq_true (rfl : A = A)] at SM
    have BP : 0 < B.length := List.length_pos_iff.2 z
    have BL : B.length ≤ 1024 := kb
    obtain ⟨N, hN⟩ : ∃ N, N = B.length := ⟨_, rfl⟩
    rw [← hN] at BP BL
    have HN := Lib.hid hN
    clear hN e0 em ea eq lt ka kb
    go_enter Tryd.func4, Tryd.ntmps4
    go_wp2_with (first | (go_at_call 12; (with_reducible refine (C.awake w W0.g).mono ?_); rintro e w0 ⟨rfl, b0⟩; have W1 := W0.step C b0)  | (go_at_call 14; (with_reducible refine (NA.out _ W1.bl).mono ?_); rintro e w1 ⟨a1, n1, c1, rfl, l1, b1⟩; have W2 := W1.step C b1)  | (go_at_call 14; (with_reducible refine (NB.out _ W2.bl).mono ?_); rintro e w2 ⟨a2, n2, c2, rfl, l2, b2⟩; have W3 := W2.step C b2; have l1' := l1.below b2; obtain ⟨_, e2, _⟩ := l2.cap; have e2' : n2 = N := (by rw [HN.out]; exact e2); clear e2; subst e2')  | (go_at_call 15; (with_reducible refine (DV.out _ _ _ W3.g l1' l2).mono ?_); rintro e w3 ⟨a3, n3, c3, a4, n4, c4, rfl, l3, l4, b3⟩; have W4 := W3.step C b3; have k1 := l1'.below b3; have k2 := l2.below b3)  | (go_at_call 16; (with_reducible refine (ML.out _ _ _ W4.g l3 k2).mono ?_); rintro e w4 ⟨a5, n5, c5, rfl, l5, b4⟩; have W5 := W4.step C b4; have k4 := l4.below b4)  | (go_at_call 17; (with_reducible refine (AD.out _ _ _ W5.g l5 k4).mono ?_); rintro e w5 ⟨a6, n6, c6, rfl, l6, b5⟩; have W6 := W5.step C b5; have bb := b4.trans (b5.mono b4.size); have q1 := k1.below bb; have q2 := k2.below bb; have q3 := l3.below bb; have q4 := l4.below bb)  | (go_at_call 18; (with_reducible refine (RQ.out _ _ W6.g q3).mono ?_); rintro e w6 ⟨rfl, b6⟩; have W7 := W6.step C b6; have r1 := q1.below b6; have r2 := q2.below b6; have r4 := q4.below b6; have r6 := l6.below b6)  | (go_at_call 18; (with_reducible refine (RR.out _ _ W7.g r4).mono ?_); rintro e w7 ⟨rfl, b7⟩; have W8 := W7.step C b7; have s1 := r1.below b7; have s2 := r2.below b7; have s4 := r4.below b7; have s6 := r6.below b7)  | (go_at_call 19; (with_reducible refine (LS.out _ _ _ W8.g s4 s2).mono ?_); rintro e w8 ⟨rfl, b8⟩; have W9 := W8.step C b8; have t1 := s1.below b8; have t6 := s6.below b8)  | (go_at_call 20; (with_reducible refine (SM.out _ _ _ t6 t1).mono ?_); rintro e w9 ⟨rfl, b9⟩))
    go_ret
    exact ⟨rfl, (W9.step C b9.bl).bl⟩
end Go.Proofs.YtlmigbfpdbkkjaaDoor
