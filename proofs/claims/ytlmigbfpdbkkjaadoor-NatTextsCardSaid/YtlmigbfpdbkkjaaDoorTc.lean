/- 'awake' answers true; the contracts as one fact. -/
import Derived.Test.YtlmigbfpdbkkjaaDoorTb
import Derived.Test.YtlmigbfpdbkkjaaDoorLn
namespace Go.Proofs.YtlmigbfpdbkkjaaDoor
open Go.RowKit

/-- A literal that equals a slice. -/
theorem same_lit (l : List Nat) (cs : Array Value) (n : Nat) (hn : n = l.length) (hf : Nt.Fit l) (hcs : ∀ j, j < n → cs[j]? = some (.int .u32 (l.getD j 0 : Nat))) (hl : n ≤ 1000) (v : Value) (w : World) (h : Lm w v l) :
    Calls Tryd.prog 20 #[v, .slice (some ⟨w.heap.size, 0, none⟩) n n] (w.alloc (.cells cs 48)) fun e w' => e = .returned (.bool true) ∧ Below w.heap.size w w' := by
  subst hn
  have hb : Below w.heap.size w (w.alloc (.cells cs 48)) := (Below.refl _ w).alloc (Nat.le_refl _) _
  have L2 : Lm (w.alloc (.cells cs 48)) (.slice (some ⟨w.heap.size, 0, none⟩) l.length l.length) l := by
    refine ⟨_, l.length, rfl, hf, (fun e => by cases e), Nat.le_refl _, Or.inr ⟨w.heap.size, 0, rfl, fun j hj => ?_⟩⟩
    rw [Nat.zero_add]
    exact cell_at w _ _ j _ _ rfl (hcs j hj)
  refine (same3_any v _ l l _ (h.below hb) L2 (by omega)).mono ?_
  rintro e w' ⟨rfl, q⟩
  refine ⟨by rw [decide_eq_true rfl], hb.trans (q.bl.mono hb.size)⟩
theorem right_50 (w : World) : Calls Tryd.prog 18 #[.slice (some ⟨w.heap.size, 0, none⟩) 2 2] (w.alloc (.cells #[.int .u32 5, .int .u32 0] 48)) fun e w' => e = .returned (.bool false) ∧ Below w.heap.size w w' := by
  have hb : Below w.heap.size w (w.alloc (.cells #[.int .u32 5, .int .u32 0] 48)) := (Below.refl _ w).alloc (Nat.le_refl _) _
  have L2 : Lm (w.alloc (.cells #[.int .u32 5, .int .u32 0] 48)) (.slice (some ⟨w.heap.size, 0, none⟩) 2 2) [5, 0] := by
    refine ⟨_, 2, rfl, Nt.fit_cons (by decide) (Nt.fit_one (by decide)), (fun e => by cases e), Nat.le_refl _, Or.inr ⟨w.heap.size, 0, rfl, fun j hj => ?_⟩⟩
    rw [Nat.zero_add]
    have : j = 0 ∨ j = 1 := by simp at hj; omega
    rcases this with rfl | rfl
    · exact cell_at w _ _ 0 _ _ rfl rfl
    · exact cell_at w _ _ 1 _ _ rfl rfl
  refine (right_b3 _ [5, 0] false _ L2 (by decide)).mono ?_
  rintro e w' ⟨rfl, rfl⟩
  exact ⟨rfl, hb⟩
theorem dig_lit (l : List Nat) (n : Nat) (hf : Nt.Fit l) (hr : Nt.rg l = true) (e : Nt.val l = n) : Nt.dig n = l := by subst e; exact Nt.dig_of hf hr
theorem of_lit (n : Int) (k : Nat) (l : List Nat) (hk : n = (k : Nat)) (hb : k < 18446744073709551616) (h : Nt.dig k = l) (w : World) : Calls Tryd.prog 22 #[.int .u64 n] w fun e w' => ∃ a k c, e = .returned (.slice a k c) ∧ Lm w' (.slice a k c) l ∧ Below w.heap.size w w' := by
  have := of3_any n w (by omega) (by omega)
  rw [show n.toNat = k by omega, h] at this; exact this
theorem mul_lit (l m r : List Nat) (h : Nt.mulR l m = (r, 0)) (v u : Value) (w : World) (hl : Lm w v l) (hm : Lm w u m) : Calls Tryd.prog 16 #[v, u] w fun e w' => ∃ a n c, e = .returned (.tuple #[.slice a n c, .int .i64 0]) ∧ Lm w' (.slice a n c) r ∧ Below w.heap.size w w' := by
  have := mul3_any v u l m w hl hm; rw [h] at this; exact this
theorem sub_lit (l m : List Nat) (h : Nt.subR l m = ([], 2)) (v u : Value) (w : World) (hl : Lm w v l) (hm : Lm w u m) : Calls Tryd.prog 21 #[v, u] w fun e w' => ∃ a n c, e = .returned (.tuple #[.slice a n c, .int .i64 2]) ∧ Lm w' (.slice a n c) [] ∧ Below w.heap.size w w' := by
  have := sub3_any v u l m w hl hm; rw [h] at this; exact this
theorem div_lit (l m q r : List Nat) (h1 : Nt.quoR l m = q) (h2 : Nt.remR l m = r) (h3 : Nt.divE l m = 0) (v u : Value) (w : World) (hl : Lm w v l) (hm : Lm w u m) : Calls Tryd.prog 15 #[v, u] w fun e w' => ∃ a n c a' n' c', e = .returned (.tuple #[.slice a n c, .slice a' n' c', .int .i64 0]) ∧ Lm w' (.slice a n c) q ∧ Lm w' (.slice a' n' c') r ∧ Below w.heap.size w w' := by
  refine (div3_any v u l m w hl hm).mono ?_
  rintro e w' ⟨a, n, c, a', n', c', rfl, l1, l2, b⟩
  rw [h1] at l1
  rw [h2] at l2
  rw [h3]
  exact ⟨a, n, c, a', n', c', rfl, l1, l2, b⟩
theorem text_lit (l : List Nat) (t : Array UInt8) (h : Nt.rg l = true) (ht : (Nt.txt (Nt.val l)).toArray = t) (v : Value) (w : World) (hl : Lm w v l) : Calls Tryd.prog 25 #[v] w fun e w' => e = .returned (.tuple #[.string ⟨t⟩, .int .i64 0]) ∧ Below w.heap.size w w' := by
  have := text3_any v l w hl
  rw [show Nt.txtR l = (Nt.txt (Nt.val l), 0) by unfold Nt.txtR; rw [h]; rfl, ht] at this
  exact this
theorem pow_lit (l r : List Nat) (n : Int) (hn : n < 9223372036854775808) (h : Nt.powR l n = (r, 0)) (v : Value) (w : World) (hl : Lm w v l) : Calls Tryd.prog 27 #[v, .int .i64 n] w fun e w' => ∃ a n2 c, e = .returned (.tuple #[.slice a n2 c, .int .i64 0]) ∧ Lm w' (.slice a n2 c) r ∧ Below w.heap.size w w' := by
  have := pow3_any v l n w hl hn; rw [h] at this; exact this
theorem small_top {n : Nat} (h : n < 79228162514264337593543950336) : n < Nt.top := by
  obtain ⟨k, hk⟩ : ∃ k, k = 1024 := ⟨_, rfl⟩
  rw [Nt.top_pow hk]
  refine Nat.lt_of_lt_of_le h ?_
  exact Nat.le_trans (show 79228162514264337593543950336 ≤ Nt.B ^ 3 by decide) (Nat.pow_le_pow_right Nt.B_pos (by omega))
theorem fit2 {x y : Nat} (hx : x < Nt.B) (hy : y < Nt.B) : Nt.Fit [x, y] := Nt.fit_cons hx (Nt.fit_one hy)
theorem d_a : Nt.dig 4294967296 = [0, 1] := dig_lit _ _ (fit2 (by decide) (by decide)) (by decide) (by decide)
theorem d_b : Nt.dig 18446744073709551616 = [0, 0, 1] := dig_lit _ _ (Nt.fit_cons (by decide) (fit2 (by decide) (by decide))) (by decide) (by decide)
theorem d_10 : Nt.dig 10 = [10] := dig_lit _ _ (Nt.fit_one (by decide)) (by decide) (by decide)
theorem d_1 : Nt.dig 1 = [1] := dig_lit _ _ (Nt.fit_one (by decide)) (by decide) (by decide)
theorem d_2 : Nt.dig 2 = [2] := dig_lit _ _ (Nt.fit_one (by decide)) (by decide) (by decide)
theorem d_6 : Nt.dig 6 = [6] := dig_lit _ _ (Nt.fit_one (by decide)) (by decide) (by decide)
theorem v_b : Nt.val [0, 0, 1] = 18446744073709551616 := by decide
theorem v_10 : Nt.val [10] = 10 := by decide
theorem m_aa : Nt.mulR [0, 1] [0, 1] = ([0, 0, 1], 0) := by
  have e : Nt.val [0, 1] * Nt.val [0, 1] = 18446744073709551616 := by decide
  have := Nt.mul_ok (l := [0, 1]) (m := [0, 1]) (by decide) (by decide) (by rw [e]; exact small_top (by decide))
  rw [this, e, d_b]
theorem q_b : Nt.quoR [0, 0, 1] [10] = Nt.dig 1844674407370955161 ∧ Nt.remR [0, 0, 1] [10] = [6] ∧ Nt.divE [0, 0, 1] [10] = 0 := by
  obtain ⟨e1, e2, e3⟩ := Nt.div_ok (l := [0, 0, 1]) (m := [10]) (by decide) (by decide) (by decide)
  rw [v_b, v_10] at e1 e2
  refine ⟨e1, ?_, e3⟩
  rw [e2, ← d_6]
theorem s_12 : Nt.subR [1] [2] = ([], 2) := by
  unfold Nt.subR
  rw [if_neg (by decide)]
theorem p_20 : Nt.powR [10] 20 = (Nt.dig 100000000000000000000, 0) := by
  unfold Nt.powR Nt.numR
  rw [if_pos (by decide), v_10, show (20 : Int).toNat = 20 by decide, show (10 : Nat) ^ 20 = 100000000000000000000 by decide, if_pos (small_top (by decide))]
theorem p_00 : Nt.powR [] 0 = ([1], 0) := by
  unfold Nt.powR Nt.numR
  rw [if_pos (by decide), Nt.val_nil, show (0 : Int).toNat = 0 by decide, Nat.pow_zero, if_pos (small_top (by decide)), d_1]
theorem lit_01 : ∀ j, j < 2 → (#[.int .u32 0, .int .u32 1] : Array Value)[j]? = some (.int .u32 (([0, 1] : List Nat).getD j 0 : Nat)) := by
  intro j hj
  have : j = 0 ∨ j = 1 := by omega
  rcases this with rfl | rfl <;> rfl
theorem lit_001 : ∀ j, j < 3 → (#[.int .u32 0, .int .u32 0, .int .u32 1] : Array Value)[j]? = some (.int .u32 (([0, 0, 1] : List Nat).getD j 0 : Nat)) := by
  intro j hj
  have : j = 0 ∨ j = 1 ∨ j = 2 := by omega
  rcases this with rfl | rfl | rfl <;> rfl
theorem lit_6 : ∀ j, j < 1 → (#[.int .u32 6] : Array Value)[j]? = some (.int .u32 (([6] : List Nat).getD j 0 : Nat)) := by
  intro j hj
  have : j = 0 := by omega
  subst this; rfl
theorem lit_1 : ∀ j, j < 1 → (#[.int .u32 1] : Array Value)[j]? = some (.int .u32 (([1] : List Nat).getD j 0 : Nat)) := by
  intro j hj
  have : j = 0 := by omega
  subst this; rfl
set_option maxRecDepth 100000 in
set_option maxHeartbeats 6400000 in
theorem awake3_any (w : World) : Calls Tryd.prog 12 #[] w fun e w' => e = .returned (.bool true) ∧ Below w.heap.size w w' := by
  have FA := Lib.hid (of_lit 4294967296 4294967296 _ rfl (by decide) d_a)
  have F10 := Lib.hid (of_lit 10 10 _ rfl (by decide) d_10)
  have F1 := Lib.hid (of_lit 1 1 _ rfl (by decide) d_1)
  have F2 := Lib.hid (of_lit 2 2 _ rfl (by decide) d_2)
  have FM := Lib.hid (mul_lit _ _ _ m_aa)
  have FT := Lib.hid (text_lit [0, 0, 1] #[49, 56, 52, 52, 54, 55, 52, 52, 48, 55, 51, 55, 48, 57, 53, 53, 49, 54, 49, 54] (by decide) (by rw [v_b]; decide +kernel))
  have FD := Lib.hid (div_lit _ _ _ _ q_b.1 q_b.2.1 q_b.2.2)
  have FT2 := Lib.hid (text_lit (Nt.dig 1844674407370955161) #[49, 56, 52, 52, 54, 55, 52, 52, 48, 55, 51, 55, 48, 57, 53, 53, 49, 54, 49] (Nt.rg_yes (small_top (by decide))) (by rw [Nt.val_dig]; decide +kernel))
  have FS := Lib.hid (sub_lit _ _ s_12)
  have FP := Lib.hid (pow_lit _ _ 20 (by decide) p_20)
  have FT3 := Lib.hid (text_lit (Nt.dig 100000000000000000000) #[49, 48, 48, 48, 48, 48, 48, 48, 48, 48, 48, 48, 48, 48, 48, 48, 48, 48, 48, 48, 48] (Nt.rg_yes (small_top (by decide))) (by rw [Nt.val_dig]; decide +kernel))
  have FP0 := Lib.hid (fun w => pow_lit _ _ 0 (by decide) p_00 (.slice none 0 0) w (Lm.nil w))
  have SA := Lib.hid (fun v w h => same_lit [0, 1] #[.int .u32 0, .int .u32 1] 2 rfl (fit2 (by decide) (by decide)) lit_01 (by decide) v w h)
  have SB := Lib.hid (fun v w h => same_lit [0, 0, 1] #[.int .u32 0, .int .u32 0, .int .u32 1] 3 rfl (Nt.fit_cons (by decide) (fit2 (by decide) (by decide))) lit_001 (by decide) v w h)
  have S6 := Lib.hid (fun v w h => same_lit [6] #[.int .u32 6] 1 rfl (Nt.fit_one (by decide)) lit_6 (by decide) v w h)
  have S1 := Lib.hid (fun v w h => same_lit [1] #[.int .u32 1] 1 rfl (Nt.fit_one (by decide)) lit_1 (by decide) v w h)
  have RD := Lib.hid read_007
  have RG := Lib.hid right_50
  have B0 : Below w.heap.size w w := Below.refl _ _
  go_enter Tryd.func12, Tryd.ntmps12
  go_wp2_with (first
    | (go_at_call 22; with_reducible refine (FA.out w).mono ?_; rintro e w1 ⟨aa, na, ca, rfl, La1, b1⟩; have B1 := B0.trans (b1.mono B0.size))
    | (go_at_call 16; with_reducible refine (FM.out _ _ w1 La1 La1).mono ?_; rintro e w2 ⟨ab, nb, cb, rfl, Lb2, b2⟩; have B2 := B1.trans (b2.mono B1.size); have La2 := La1.below b2)
    | (go_at_call 25; with_reducible refine (FT.out _ w2 Lb2).mono ?_; rintro e w3 ⟨rfl, b3⟩; have B3 := B2.trans (b3.mono B2.size); have La3 := La2.below b3; have Lb3 := Lb2.below b3)
    | (go_at_call 22; with_reducible refine (F10.out w3).mono ?_; rintro e w4 ⟨at4, nt4, ct4, rfl, Lt4, b4⟩; have B4 := B3.trans (b4.mono B3.size); have La4 := La3.below b4; have Lb4 := Lb3.below b4)
    | (go_at_call 15; with_reducible refine (FD.out _ _ w4 Lb4 Lt4).mono ?_; rintro e w5 ⟨aq, nq, cq, ar, nr, cr, rfl, Lq5, Lr5, b5⟩; have B5 := B4.trans (b5.mono B4.size); have La5 := La4.below b5; have Lb5 := Lb4.below b5)
    | (go_at_call 25; with_reducible refine (FT2.out _ w5 Lq5).mono ?_; rintro e w6 ⟨rfl, b6⟩; have B6 := B5.trans (b6.mono B5.size); have La6 := La5.below b6; have Lb6 := Lb5.below b6; have Lr6 := Lr5.below b6)
    | (go_at_call 22; with_reducible refine (F1.out w6).mono ?_; rintro e w7 ⟨ao7, no7, co7, rfl, Lo7, b7⟩; have B7 := B6.trans (b7.mono B6.size); have La7 := La6.below b7; have Lb7 := Lb6.below b7; have Lr7 := Lr6.below b7)
    | (go_at_call 22; with_reducible refine (F2.out w7).mono ?_; rintro e w8 ⟨ap8, np8, cp8, rfl, Lp8, b8⟩; have B8 := B7.trans (b8.mono B7.size); have La8 := La7.below b8; have Lb8 := Lb7.below b8; have Lr8 := Lr7.below b8; have Lo8 := Lo7.below b8)
    | (go_at_call 21; with_reducible refine (FS.out _ _ w8 Lo8 Lp8).mono ?_; rintro e w9 ⟨as9, ns9, cs9, rfl, _, b9⟩; have B9 := B8.trans (b9.mono B8.size); have La9 := La8.below b9; have Lb9 := Lb8.below b9; have Lr9 := Lr8.below b9)
    | (go_at_call 20; with_reducible refine (SA.out _ w9 La9).mono ?_; rintro e w10 ⟨rfl, b10⟩; have B10 := B9.trans (b10.mono B9.size); have Lb10 := Lb9.below b10; have Lr10 := Lr9.below b10)
    | (go_at_call 20; with_reducible refine (SB.out _ w10 Lb10).mono ?_; rintro e w11 ⟨rfl, b11⟩; have B11 := B10.trans (b11.mono B10.size); have Lr11 := Lr10.below b11)
    | (go_at_call 20; with_reducible refine (S6.out _ w11 Lr11).mono ?_; rintro e w12 ⟨rfl, b12⟩; have B12 := B11.trans (b12.mono B11.size))
    | (go_at_call 22; with_reducible refine (F10.out w12).mono ?_; rintro e w13 ⟨a13, n13, c13, rfl, Lt13, b13⟩; have B13 := B12.trans (b13.mono B12.size))
    | (go_at_call 27; with_reducible refine (FP.out _ w13 Lt13).mono ?_; rintro e w14 ⟨a14, n14, c14, rfl, Lp14, b14⟩; have B14 := B13.trans (b14.mono B13.size))
    | (go_at_call 25; with_reducible refine (FT3.out _ w14 Lp14).mono ?_; rintro e w15 ⟨rfl, b15⟩; have B15 := B14.trans (b15.mono B14.size))
    | (go_at_call 27; with_reducible refine (FP0.out w15).mono ?_; rintro e w16 ⟨a16, n16, c16, rfl, Lo16, b16⟩; have B16 := B15.trans (b16.mono B15.size))
    | (go_at_call 26; with_reducible refine (RD.out w16).mono ?_; rintro e w17 ⟨rfl, b17⟩; have B17 := B16.trans (b17.mono B16.size); have Lo17 := Lo16.below b17)
    | (go_at_call 20; with_reducible refine (S1.out _ w17 Lo17).mono ?_; rintro e w18 ⟨rfl, b18⟩; have B18 := B17.trans (b18.mono B17.size))
    | (go_at_call 18; with_reducible refine (RG.out w18).mono ?_; rintro e w19 ⟨rfl, b19⟩; have B19 := B18.trans (b19.mono B18.size)))
  go_ret
  exact ⟨rfl, B19⟩
/-- The contracts hold in every world. -/
theorem natc : NatC fun _ => True where
  below := fun _ _ => trivial
  awake := fun w _ => awake3_any w
  right := fun v l w _ h => (right3_any v l w h).mono fun _ _ ⟨h1, h2⟩ => ⟨h1, h2 ▸ Below.refl _ _⟩
  of := fun n w h0 h1 _ => of3_any n w h0 h1
  uint := fun v l w _ h => (uint3_any v l w h).mono fun _ _ ⟨h1, h2⟩ => ⟨h1, h2 ▸ Below.refl _ _⟩
  cmp := fun v u l m w _ h h' => (cmp3_any v u l m w h h').mono fun _ _ ⟨h1, h2⟩ => ⟨h1, h2.bl⟩
  add := fun v u l m w _ h h' => add3_any v u l m w h h'
  sub := fun v u l m w _ h h' => sub3_any v u l m w h h'
  mul := fun v u l m w _ h h' => mul3_any v u l m w h h'
  divmod := fun v u l m w _ h h' => div3_any v u l m w h h'
end Go.Proofs.YtlmigbfpdbkkjaaDoor
