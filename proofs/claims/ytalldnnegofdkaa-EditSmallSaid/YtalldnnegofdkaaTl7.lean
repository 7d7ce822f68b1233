/- 'tells': the program and the reference side by side. -/
import Derived.Test.YtalldnnegofdkaaTl6
import Derived.Test.YtalldnnegofdkaaEv
namespace Go.Proofs.Ytalldnnegofdkaa
open Go.RowKit Go.Shelf

set_option maxRecDepth 100000 in
set_option maxHeartbeats 1600000 in
theorem rpath_no (c : Ed.Cs) (xs ys : Ed.Bs) (E : Int) (h : Ed.ckv c xs ys = E) (h0 : E ≠ 0) (w : World) : Calls Try.prog 30 #[sb xs, sb ys, cv c] w fun e w' => e = .returned (.tuple #[.slice none 0 0, .int .i64 0, .int .i64 E]) ∧ Below w.heap.size w w' := by
  have CK := rmay_any c xs ys
  rw [h] at CK
  have CH := Lib.hid CK
  have e0 : (E == 0) = false := beq_eq_false_iff_ne.2 h0
  have e1 : (E != 0) = true := by rw [bne, e0]; rfl
  clear CK h h0
  go_enter Try.func30, Try.ntmps30
  go_wp2_with (go_at_call 45; (with_reducible refine (CH.out _).mono ?_); rintro e w1 ⟨rfl, b1⟩)
  go_ret3
  exact ⟨rfl, ((Below.refl _ _).alloc (Nat.le_refl _) _).trans (b1.mono (by simp))⟩
/-- Both costs in their boxes. -/
structure Kt (w : World) (B : Nat) (c : Ed.Cs) (W : World) : Prop where
  x : Bxc W w.heap.size c
  y : Cbx W B c
  b : Below w.heap.size w W
theorem Kt.below {w W W' : World} {B : Nat} {c : Ed.Cs} (h : Kt w B c W) (k : Below W.heap.size W W') : Kt w B c W' := ⟨h.x.below k, h.y.quiet k, h.b.trans (k.mono h.b.size)⟩
theorem Kt.cells {w W : World} {B : Nat} {c : Ed.Cs} (h : Kt w B c W) : (W.cell? ⟨w.heap.size, 0, none⟩ = some (.int .i64 c.ins) ∧ W.cell? ⟨w.heap.size, 1, none⟩ = some (.int .i64 c.del) ∧ W.cell? ⟨w.heap.size, 2, none⟩ = some (.int .i64 c.chg) ∧ W.cell? ⟨w.heap.size, 3, none⟩ = some (.int .i64 c.swp)) ∧ (W.cell? ⟨B, 0, none⟩ = some (.int .i64 c.ins) ∧ W.cell? ⟨B, 1, none⟩ = some (.int .i64 c.del) ∧ W.cell? ⟨B, 2, none⟩ = some (.int .i64 c.chg) ∧ W.cell? ⟨B, 3, none⟩ = some (.int .i64 c.swp)) := ⟨⟨h.x.x0, h.x.x1, h.x.x2, h.x.x3⟩, h.y.cells⟩
theorem Kt.start {w w1 : World} {c : Ed.Cs} (b : Below (w.alloc (.cells #[.int .i64 c.ins, .int .i64 c.del, .int .i64 c.chg, .int .i64 c.swp] 23)).heap.size (w.alloc (.cells #[.int .i64 c.ins, .int .i64 c.del, .int .i64 c.chg, .int .i64 c.swp] 23)) w1) : Kt w w1.heap.size c (w1.alloc (.cells #[.int .i64 c.ins, .int .i64 c.del, .int .i64 c.chg, .int .i64 c.swp] 58)) :=
  have k : Below w1.heap.size w1 (w1.alloc (.cells #[.int .i64 c.ins, .int .i64 c.del, .int .i64 c.chg, .int .i64 c.swp] 58)) := (Below.refl _ _).alloc (Nat.le_refl _) _
  have b0 : Below w.heap.size w (w.alloc (.cells #[.int .i64 c.ins, .int .i64 c.del, .int .i64 c.chg, .int .i64 c.swp] 23)) := (Below.refl _ _).alloc (Nat.le_refl _) _
  have b1 : Below w.heap.size w w1 := b0.trans (b.mono b0.size)
  ⟨((Bxc.made w c).below b).below k, heap_alloc_new _ _, b1.trans (k.mono b1.size)⟩
set_option maxRecDepth 100000 in
set_option maxHeartbeats 3200000 in
theorem tells_go (a b : ByteArray) (c : Ed.Cs) (most N E IN : Int) (R IS : Bool) (L : List Ed.Op) (hE : 0 ≤ E ∧ E ≤ 70) (hL : L.length ≤ 1000)
    (hd : ∀ W, Calls Try.prog 16 #[.string a, .string b, cv c] W fun e w' => e = .returned (.tuple #[.int .i64 N, .int .i64 E]) ∧ Below W.heap.size W w')
    (hd' : ∀ W, Calls Try.prog 28 #[.string a, .string b, cv c] W fun e w' => e = .returned (.tuple #[.int .i64 N, .int .i64 E]) ∧ Below W.heap.size W w')
    (hr : ∀ W, Calls Try.prog 18 #[cv c] W fun e w' => e = .returned (.bool R) ∧ Below W.heap.size W w')
    (hr' : ∀ W, Calls Try.prog 29 #[cv c] W fun e w' => e = .returned (.bool R) ∧ Below W.heap.size W w')
    (hw : ∀ W, Calls Try.prog 24 #[.string a, .string b, cv c, .int .i64 most] W fun e w' => e = .returned (.tuple #[.int .i64 IN, .bool IS, .int .i64 E]) ∧ Below W.heap.size W w')
    (hp : ∀ W, Calls Try.prog 21 #[.string a, .string b, cv c] W fun e w' => ∃ v, e = .returned (.tuple #[v, .int .i64 N, .int .i64 E]) ∧ Opl w' v L ∧ Below W.heap.size W w')
    (hp' : ∀ W, Calls Try.prog 30 #[.string a, .string b, cv c] W fun e w' => ∃ v, e = .returned (.tuple #[v, .int .i64 N, .int .i64 E]) ∧ Opl w' v L ∧ Below W.heap.size W w')
    (hc : (E = 0 ∧ N ≤ most ∧ IN = N ∧ IS = true) ∨ (E ≠ 0 ∧ IN = 0 ∧ IS = false) ∨ (E = 0 ∧ most < N ∧ IN = 0 ∧ IS = false)) (w : World) :
    Calls Try.prog 12 #[.string a, .string b, cv c, .int .i64 most] w fun e w' => e = .returned (.bool true) ∧ Below w.heap.size w w' := by
  have CS := Lib.hid (costs_any c)
  have D1 := Lib.hid hd
  have D2 := Lib.hid hd'
  have R1 := Lib.hid hr
  have R2 := Lib.hid hr'
  have W1 := Lib.hid hw
  have hq : ∀ W, Calls Try.prog 21 #[.string a, .string b, cv c] W fun e w' => ∃ p cp, e = .returned (.tuple #[.slice p L.length cp, .int .i64 N, .int .i64 E]) ∧ Opl w' (.slice p L.length cp) L ∧ Below W.heap.size W w' := fun W => (hp W).mono fun e w' ⟨v, he, ho, hb⟩ => by
    obtain ⟨p, cp, rfl, h⟩ := ho
    exact ⟨p, cp, he, ⟨p, cp, rfl, h⟩, hb⟩
  have hq' : ∀ W, Calls Try.prog 30 #[.string a, .string b, cv c] W fun e w' => ∃ p cp, e = .returned (.tuple #[.slice p L.length cp, .int .i64 N, .int .i64 E]) ∧ Opl w' (.slice p L.length cp) L ∧ Below W.heap.size W w' := fun W => (hp' W).mono fun e w' ⟨v, he, ho, hb⟩ => by
    obtain ⟨p, cp, rfl, h⟩ := ho
    exact ⟨p, cp, he, ⟨p, cp, rfl, h⟩, hb⟩
  have qe : IntKind.i64.wrap E = E := IntWalk.i64_in _ (by omega)
  clear hd hd' hr hr' hw hE
  obtain ⟨n, hn⟩ : ∃ n, n = L.length := ⟨_, rfl⟩
  rw [← hn] at hL hq hq'
  have P1 := Lib.hid hq
  have P2 := Lib.hid hq'
  have HN := Lib.hid hn
  clear hn hq hq' hp hp'
  go_enter Try.func12, Try.ntmps12
  go_wp2_with (first
    | (go_at_call 27; (with_reducible refine (CS.out _).mono ?_); rintro e w1 ⟨rfl, b1⟩; have K := Lib.hid (Kt.start b1); obtain ⟨⟨x0, x1, x2, x3⟩, y0, y1, y2, y3⟩ := K.out.cells; clear b1)
    | (go_at_call 16; (with_reducible refine (D1.out _).mono ?_); rintro e w2 ⟨rfl, b1⟩; have K := Lib.hid (K.out.below b1); clear x0 x1 x2 x3 y0 y1 y2 y3; obtain ⟨⟨x0, x1, x2, x3⟩, y0, y1, y2, y3⟩ := K.out.cells; clear b1)
    | (go_at_call 28; (with_reducible refine (D2.out _).mono ?_); rintro e w3 ⟨rfl, b1⟩; have K := Lib.hid (K.out.below b1); clear x0 x1 x2 x3 y0 y1 y2 y3; obtain ⟨⟨x0, x1, x2, x3⟩, y0, y1, y2, y3⟩ := K.out.cells; clear b1))
  have K := Lib.hid (K.out.below (Below.refl _ _).drew)
  clear x0 x1 x2 x3 y0 y1 y2 y3
  obtain ⟨⟨x0, x1, x2, x3⟩, y0, y1, y2, y3⟩ := K.out.cells
  go_cut [49] (fun s wx => s = .bool false ∧ Hid (Kt w w1.heap.size c wx))
  case first =>
    go_region_held3 (fun w' => (w'.cell? ⟨w.heap.size, 0, none⟩ = some (.int .i64 c.ins) ∧ w'.cell? ⟨w.heap.size, 1, none⟩ = some (.int .i64 c.del) ∧ w'.cell? ⟨w.heap.size, 2, none⟩ = some (.int .i64 c.chg) ∧ w'.cell? ⟨w.heap.size, 3, none⟩ = some (.int .i64 c.swp)) ∧ (w'.cell? ⟨w1.heap.size, 0, none⟩ = some (.int .i64 c.ins) ∧ w'.cell? ⟨w1.heap.size, 1, none⟩ = some (.int .i64 c.del) ∧ w'.cell? ⟨w1.heap.size, 2, none⟩ = some (.int .i64 c.chg) ∧ w'.cell? ⟨w1.heap.size, 3, none⟩ = some (.int .i64 c.swp))) (first | (refine ⟨⟨?_, ?_, ?_, ?_⟩, ?_, ?_, ?_, ?_⟩ <;> assumption) | skip)
      (first
        | (go_at_call 18; (with_reducible refine (R1.out _).mono ?_); rintro e w4 ⟨rfl, b1⟩; have K := Lib.hid (K.out.below b1); clear x0 x1 x2 x3 y0 y1 y2 y3; obtain ⟨⟨x0, x1, x2, x3⟩, y0, y1, y2, y3⟩ := K.out.cells; clear b1)
        | (go_at_call 29; (with_reducible refine (R2.out _).mono ?_); rintro e w5 ⟨rfl, b1⟩; have K := Lib.hid (K.out.below b1); clear x0 x1 x2 x3 y0 y1 y2 y3; obtain ⟨⟨x0, x1, x2, x3⟩, y0, y1, y2, y3⟩ := K.out.cells; clear b1))
    all_goals go_wp2
    all_goals go_meet
    all_goals case rel => exact ⟨rfl, K.out⟩
  case rest =>
    obtain ⟨rfl, K⟩ := hcut
    clear x0 x1 x2 x3 y0 y1 y2 y3
    obtain ⟨⟨x0, x1, x2, x3⟩, y0, y1, y2, y3⟩ := K.out.cells
    go_upto_region 7 with ((go_at_call 24; (with_reducible refine (W1.out _).mono ?_); rintro e w6 ⟨rfl, b1⟩; have K := Lib.hid (K.out.below b1); clear x0 x1 x2 x3 y0 y1 y2 y3; obtain ⟨⟨x0, x1, x2, x3⟩, y0, y1, y2, y3⟩ := K.out.cells; clear b1))
    go_cut [99] (fun s wx => s = .bool false ∧ wx = w6)
    case first =>
      rcases hc with ⟨rfl, h1, rfl, rfl⟩ | ⟨h0, rfl, rfl⟩ | ⟨rfl, h1, rfl, rfl⟩
      · go_wp2
        go_meet
        case rel => exact ⟨rfl, rfl⟩
      · have e0 : (E == 0) = false := beq_eq_false_iff_ne.2 h0
        have e1 : (E != 0) = true := by rw [bne, e0]; rfl
        go_wp2
        go_meet
        case rel => exact ⟨rfl, rfl⟩
      · have h2 : ¬ N ≤ most := by omega
        go_wp2
        go_meet
        case rel => exact ⟨rfl, rfl⟩
    case rest =>
      obtain ⟨rfl, rfl⟩ := hcut
      clear hc
      go_wp2_with (first
        | (go_at_call 21; (with_reducible refine (P1.out _).mono ?_); rintro e w7 ⟨p1, c1, rfl, o1, b1⟩; have O1 := Lib.hid o1; clear o1; have K := Lib.hid (K.out.below b1); clear x0 x1 x2 x3 y0 y1 y2 y3; obtain ⟨⟨x0, x1, x2, x3⟩, y0, y1, y2, y3⟩ := K.out.cells; clear b1)
        | (go_at_call 30; (with_reducible refine (P2.out _).mono ?_); rintro e w8 ⟨p2, c2, rfl, o2, b1⟩; have O1 := Lib.hid (O1.out.below b1); have O2 := Lib.hid o2; clear o2; have K := Lib.hid (K.out.below b1); clear x0 x1 x2 x3 y0 y1 y2 y3; obtain ⟨⟨x0, x1, x2, x3⟩, y0, y1, y2, y3⟩ := K.out.cells; clear b1))
      have BW := Lib.hid K.out.b
      clear K x0 x1 x2 x3 y0 y1 y2 y3 P1 P2 D1 D2 R1 R2 W1 CS
      go_loopw [18] (fun s wr => ∃ k : Nat, k ≤ n ∧ s = .int .i64 k ∧ Hid (Below w8.heap.size w8 wr)) (fun s _ => n - (intOf s).toNat)
      case atStart => exact ⟨0, Nat.zero_le _, rfl, Below.refl _ _⟩
      case round =>
        obtain ⟨k, hk, rfl, B⟩ := hrel
        by_cases hlt : k < n
        · have kl : k < L.length := by rw [← HN.out]; exact hlt
          obtain ⟨a1, cp1, ea1, g1⟩ := O1.out.below B.out
          obtain ⟨a2, cp2, ea2, g2⟩ := O2.out.below B.out
          obtain ⟨r1, s1, ec1, g1⟩ := g1.resolve_left (by intro e; rw [e] at kl; simp at kl)
          obtain ⟨r2, s2, ec2, g2⟩ := g2.resolve_left (by intro e; rw [e] at kl; simp at kl)
          injection ea1 with ea1
          injection ea2 with ea2
          obtain rfl : p1 = some ⟨r1, s1, none⟩ := ea1.trans ec1
          obtain rfl : p2 = some ⟨r2, s2, none⟩ := ea2.trans ec2
          obtain ⟨x0, x1⟩ := g1 k kl
          obtain ⟨y0, y1⟩ := g2 k kl
          obtain ⟨p, hp⟩ : ∃ p, p = L[k] := ⟨_, rfl⟩
          rw [← hp] at x0 x1 y0 y1
          clear hp g1 g2 ea1 ea2 ec1 ec2
          go_wp2
          go_quiet (fail)
          go_wp2
          go_roundw
          case rel => exact ⟨k + 1, by omega, by go_num, below_drewN B.out _⟩
          case measure => simp [intOf]; omega
        · obtain rfl : k = n := by omega
          go_wp2
          go_ret
          exact ⟨rfl, BW.out.trans (B.out.mono BW.out.size)⟩
theorem tells_any (xs ys : Ed.Bs) (c : Ed.Cs) (most : Int) (w : World) : Calls Try.prog 12 #[sb xs, sb ys, cv c, .int .i64 most] w fun e w' => e = .returned (.bool true) ∧ Below w.heap.size w w' := by
  by_cases h0 : Ed.ckv c xs ys = 0
  · obtain ⟨hc, hx, hy⟩ := Ed.ckv_zero h0
    have hl : (Ed.path c xs ys).length ≤ 1000 := by
      have h2 : (Ed.path c xs ys).length ≤ xs.length + ys.length := Ed.path_len c (xs.length + ys.length) xs ys
      omega
    have p1 : ∀ W, Calls Try.prog 21 #[sb xs, sb ys, cv c] W fun e w' => ∃ v, e = .returned (.tuple #[v, .int .i64 (Ed.ds c xs ys), .int .i64 0]) ∧ Opl w' v (Ed.path c xs ys) ∧ Below W.heap.size W w' := fun W => (path_ok c hc xs ys hx hy W).mono fun e w' ⟨v, he, ho⟩ => ⟨v, he, ho.opl, ho.bl⟩
    have p2 : ∀ W, Calls Try.prog 30 #[sb xs, sb ys, cv c] W fun e w' => ∃ v, e = .returned (.tuple #[v, .int .i64 (Ed.ds c xs ys), .int .i64 0]) ∧ Opl w' v (Ed.path c xs ys) ∧ Below W.heap.size W w' := fun W => (rpath_ok c hc xs ys hx hy W).mono fun e w' ⟨v, he, ho⟩ => ⟨v, he, ho.opl, ho.bl⟩
    have W := within_ok c hc xs ys hx hy most
    by_cases hm : Ed.ds c xs ys ≤ most
    · rw [if_pos hm, decide_eq_true hm] at W
      exact tells_go _ _ c most _ 0 _ _ true (Ed.path c xs ys) (by omega) hl (distance_ok c hc xs ys hx hy) (rdistance_ok c hc xs ys hx hy) (right_any c) (rright_any c) W p1 p2 (Or.inl ⟨rfl, hm, rfl, rfl⟩) w
    · rw [if_neg hm, decide_eq_false hm] at W
      exact tells_go _ _ c most _ 0 _ _ false (Ed.path c xs ys) (by omega) hl (distance_ok c hc xs ys hx hy) (rdistance_ok c hc xs ys hx hy) (right_any c) (rright_any c) W p1 p2 (Or.inr (Or.inr ⟨rfl, by omega, rfl, rfl⟩)) w
  · have hb : 0 ≤ Ed.ckv c xs ys ∧ Ed.ckv c xs ys ≤ 70 := by
      unfold Ed.ckv
      split
      · split <;> omega
      · omega
    have p1 : ∀ W, Calls Try.prog 21 #[sb xs, sb ys, cv c] W fun e w' => ∃ v, e = .returned (.tuple #[v, .int .i64 0, .int .i64 (Ed.ckv c xs ys)]) ∧ Opl w' v [] ∧ Below W.heap.size W w' := fun W => (path_no c xs ys _ rfl h0 W).mono fun e w' ⟨he, hb⟩ => ⟨_, he, Opl.nil _ _ _, hb⟩
    have p2 : ∀ W, Calls Try.prog 30 #[sb xs, sb ys, cv c] W fun e w' => ∃ v, e = .returned (.tuple #[v, .int .i64 0, .int .i64 (Ed.ckv c xs ys)]) ∧ Opl w' v [] ∧ Below W.heap.size W w' := fun W => (rpath_no c xs ys _ rfl h0 W).mono fun e w' ⟨he, hb⟩ => ⟨_, he, Opl.nil _ _ _, hb⟩
    exact tells_go _ _ c most 0 _ 0 _ false [] hb (by simp) (distance_no c xs ys _ rfl h0) (rdistance_no c xs ys _ rfl h0) (right_any c) (rright_any c) (within_no c xs ys _ rfl h0 most) p1 p2 (Or.inr (Or.inl ⟨h0, rfl, rfl⟩)) w
end Go.Proofs.Ytalldnnegofdkaa
