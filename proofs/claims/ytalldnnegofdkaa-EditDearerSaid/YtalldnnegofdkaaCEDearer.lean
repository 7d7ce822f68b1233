/- EditDearer's walk: a greater cost. -/
import Derived.Test.YtalldnnegofdkaaCELeast
namespace Go.Proofs.Ytalldnnegofdkaa
open Go.RowKit Go.Shelf

/-- No cost of the one is greater than that of the other. -/
def Ed.Cle (c d : Ed.Cs) : Prop := c.ins ≤ d.ins ∧ c.del ≤ d.del ∧ c.chg ≤ d.chg ∧ c.swp ≤ d.swp
theorem Ed.cost_mono {c d : Ed.Cs} (h : Ed.Cle c d) : ∀ l : List Ed.Op, Ed.cost c l ≤ Ed.cost d l
  | [] => Int.le_refl 0
  | o :: l => by
    have ih := Ed.cost_mono h l
    obtain ⟨h1, h2, h3, h4⟩ := h
    have : Ed.co c o.k ≤ Ed.co d o.k := by unfold Ed.co; split <;> omega
    show Ed.co c o.k + Ed.cost c l ≤ Ed.co d o.k + Ed.cost d l
    omega
theorem Ed.ds_mono {c d : Ed.Cs} (h : Ed.Cle c d) (hd : Ed.Rc d) {x y : Ed.Bs} (hx : x.length ≤ 60) (hy : y.length ≤ 60) : Ed.ds c x y ≤ Ed.ds d x y := by
  obtain ⟨h1, h2, _⟩ := Ed.ds_path hd hx hy
  have h3 := Ed.least (c := c) h1
  have h4 := Ed.cost_mono h (Ed.path d x y)
  omega
set_option maxRecDepth 100000 in
set_option maxHeartbeats 6400000 in
theorem dearer_no (a b : Ed.Bs) (c : Ed.Cs) (kd mo : Int) (_k0 : 0 ≤ kd) (_k1 : kd ≤ 255) (_m0 : 0 ≤ mo) (_m1 : mo ≤ 255) (w : World) (h : 60 < a.length ∨ 60 < b.length) :
    Calls Try.prog 9 #[sb a, sb b, cv c, .int .u8 kd, .int .u8 mo] w fun e w' => e = .returned (.bool true) ∧ Below w.heap.size w w' := by
  have AW := Lib.hid awake_any
  have B0 := Lib.hid (show Below w.heap.size w (w.alloc (.cells #[.int .i64 c.ins, .int .i64 c.del, .int .i64 c.chg, .int .i64 c.swp] 23)) from (Below.refl _ _).alloc (Nat.le_refl _) _)
  have K0 := Lib.hid (Bxc.made w c)
  have SA := Ed.size_is a
  have SB := Ed.size_is b
  obtain ⟨A, hA⟩ : ∃ A : ByteArray, A = ⟨a.toArray⟩ := ⟨_, rfl⟩
  obtain ⟨B, hB⟩ : ∃ A : ByteArray, A = ⟨b.toArray⟩ := ⟨_, rfl⟩
  have e3 : sb a = .string A := by rw [hA]
  have e4 : sb b = .string B := by rw [hB]
  rw [← SA, ← SB, ← hA, ← hB] at h
  rw [e3, e4]
  clear hA hB SA SB e3 e4
  by_cases h1 : 60 < A.size
  · clear h
    go_enter Try.func9, Try.ntmps9
    go_wp2_with (go_at_call 11; (with_reducible refine (AW.out _).mono ?_); rintro e w1 ⟨rfl, b1⟩; have K1 := Lib.hid (K0.out.below b1); have B1 := Lib.hid (B0.out.trans (b1.mono B0.out.size)); obtain ⟨x0, x1, x2, x3⟩ := K1.out; clear b1)
    go_ret
    exact ⟨rfl, B1.out⟩
  · have h2 : 60 < B.size := by omega
    clear h
    go_enter Try.func9, Try.ntmps9
    go_wp2_with (go_at_call 11; (with_reducible refine (AW.out _).mono ?_); rintro e w1 ⟨rfl, b1⟩; have K1 := Lib.hid (K0.out.below b1); have B1 := Lib.hid (B0.out.trans (b1.mono B0.out.size)); obtain ⟨x0, x1, x2, x3⟩ := K1.out; clear b1)
    go_ret
    exact ⟨rfl, B1.out⟩
set_option maxRecDepth 100000 in
set_option maxHeartbeats 6400000 in
theorem dearer_bad (a b : Ed.Bs) (c : Ed.Cs) (kd mo : Int) (_k0 : 0 ≤ kd) (_k1 : kd ≤ 255) (_m0 : 0 ≤ mo) (_m1 : mo ≤ 255) (w : World) (ha : a.length ≤ 60) (hb : b.length ≤ 60) (hc : ¬ Ed.Rc c) :
    Calls Try.prog 9 #[sb a, sb b, cv c, .int .u8 kd, .int .u8 mo] w fun e w' => e = .returned (.bool true) ∧ Below w.heap.size w w' := by
  have AW := Lib.hid awake_any
  have B0 := Lib.hid (show Below w.heap.size w (w.alloc (.cells #[.int .i64 c.ins, .int .i64 c.del, .int .i64 c.chg, .int .i64 c.swp] 23)) from (Below.refl _ _).alloc (Nat.le_refl _) _)
  have K0 := Lib.hid (Bxc.made w c)
  have SA := Ed.size_is a
  have SB := Ed.size_is b
  obtain ⟨A, hA⟩ : ∃ A : ByteArray, A = ⟨a.toArray⟩ := ⟨_, rfl⟩
  obtain ⟨B, hB⟩ : ∃ A : ByteArray, A = ⟨b.toArray⟩ := ⟨_, rfl⟩
  have e3 : sb a = .string A := by rw [hA]
  have e4 : sb b = .string B := by rw [hB]
  have RA := right_any c
  rw [rcb_no hc] at RA
  have RH := Lib.hid RA
  rw [← SA, ← hA] at ha
  rw [← SB, ← hB] at hb
  rw [e3, e4]
  clear hA hB SA SB e3 e4 RA hc
  go_enter Try.func9, Try.ntmps9
  go_wp2_with (first
    | (go_at_call 11; (with_reducible refine (AW.out _).mono ?_); rintro e w1 ⟨rfl, b1⟩; have K1 := Lib.hid (K0.out.below b1); have B1 := Lib.hid (B0.out.trans (b1.mono B0.out.size)); obtain ⟨x0, x1, x2, x3⟩ := K1.out; clear b1)
    | (go_at_call 18; (with_reducible refine (RH.out _).mono ?_); rintro e w1 ⟨rfl, b1⟩; have K1 := Lib.hid (K1.out.below b1); have B1 := Lib.hid (B1.out.trans (b1.mono B1.out.size)); clear x0 x1 x2 x3; obtain ⟨x0, x1, x2, x3⟩ := K1.out; clear b1))
  go_ret
  exact ⟨rfl, B1.out⟩
set_option maxRecDepth 100000 in
set_option maxHeartbeats 6400000 in
theorem dearer_0 (a b : Ed.Bs) (c : Ed.Cs) (kd mo : Int) (_k0 : 0 ≤ kd) (_k1 : kd ≤ 255) (_m0 : 0 ≤ mo) (_m1 : mo ≤ 255) (w : World) (ha : a.length ≤ 60) (hb : b.length ≤ 60) (hc : Ed.Rc c) (hr : kd.tmod 4 = 0) :
    Calls Try.prog 9 #[sb a, sb b, cv c, .int .u8 kd, .int .u8 mo] w fun e w' => e = .returned (.bool true) ∧ Below w.heap.size w w' := by
  have AW := Lib.hid awake_any
  have B0 := Lib.hid (show Below w.heap.size w (w.alloc (.cells #[.int .i64 c.ins, .int .i64 c.del, .int .i64 c.chg, .int .i64 c.swp] 23)) from (Below.refl _ _).alloc (Nat.le_refl _) _)
  have K0 := Lib.hid (Bxc.made w c)
  have SA := Ed.size_is a
  have SB := Ed.size_is b
  obtain ⟨A, hA⟩ : ∃ A : ByteArray, A = ⟨a.toArray⟩ := ⟨_, rfl⟩
  obtain ⟨B, hB⟩ : ∃ A : ByteArray, A = ⟨b.toArray⟩ := ⟨_, rfl⟩
  have e3 : sb a = .string A := by rw [hA]
  have e4 : sb b = .string B := by rw [hB]
  obtain ⟨X, hXe⟩ : ∃ X : Int, X = min 1000 (c.chg + mo) := ⟨_, rfl⟩
  have hX : c.chg ≤ X ∧ X ≤ 1000 := by
    obtain ⟨⟨_, _⟩, ⟨_, _⟩, ⟨_, _⟩, ⟨_, _⟩⟩ := hc
    omega
  have hmn : min 1000 (c.chg + mo) = X := hXe.symm
  have hd : Ed.Rc (⟨c.ins, c.del, X, c.swp⟩ : Ed.Cs) := by
    obtain ⟨⟨_, _⟩, ⟨_, _⟩, ⟨_, _⟩, ⟨_, _⟩⟩ := hc
    refine ⟨⟨?_, ?_⟩, ⟨?_, ?_⟩, ⟨?_, ?_⟩, ⟨?_, ?_⟩⟩ <;> simp only <;> omega
  have hle : Ed.Cle c (⟨c.ins, c.del, X, c.swp⟩ : Ed.Cs) := by
    refine ⟨?_, ?_, ?_, ?_⟩ <;> simp only <;> omega
  have RA := right_any c
  rw [rcb_yes hc] at RA
  have RH := Lib.hid RA
  have P1 := path_ok c hc a b ha hb
  obtain ⟨pt, pc, pl⟩ := Ed.ds_path hc ha hb
  have CP := fun W v h => cost_ok (Ed.path c a b) v (⟨c.ins, c.del, X, c.swp⟩ : Ed.Cs) hd W pl (kind_le (Ed.tn_kok pt)) h
  rw [Ed.csV_tn pt] at CP
  have D1 := distance_ok (⟨c.ins, c.del, X, c.swp⟩ : Ed.Cs) hd a b ha hb
  have WA := within_ok c hc a b ha hb (Ed.ds c a b)
  have WB := within_ok c hc a b ha hb (Ed.ds c a b - 1)
  have g1 := Ed.ds_mono hle hd ha hb
  have g2 := Ed.least (c := (⟨c.ins, c.del, X, c.swp⟩ : Ed.Cs)) pt
  have g3 := Ed.ds_bd hc a b ha hb
  obtain ⟨n, hn⟩ : ∃ n, n = Ed.ds c a b := ⟨_, rfl⟩
  obtain ⟨m, hm⟩ : ∃ m, m = Ed.ds (⟨c.ins, c.del, X, c.swp⟩ : Ed.Cs) a b := ⟨_, rfl⟩
  obtain ⟨L, hL⟩ : ∃ L, L = Ed.path c a b := ⟨_, rfl⟩
  rw [← hn] at P1 WA WB g1 g3
  rw [← hm] at D1 g1 g2
  rw [← hL] at P1 CP g2
  obtain ⟨pr, hpr⟩ : ∃ x, x = Ed.cost (⟨c.ins, c.del, X, c.swp⟩ : Ed.Cs) L := ⟨_, rfl⟩
  rw [← hpr] at CP g2
  rw [if_pos (Int.le_refl _), decide_eq_true (Int.le_refl _)] at WA
  have nn : ¬ n ≤ n - 1 := by omega
  rw [if_neg nn, decide_eq_false nn] at WB
  have zA : A.size ≤ 60 := by rw [hA, SA]; exact ha
  have zB : B.size ≤ 60 := by rw [hB, SB]; exact hb
  rw [e3, e4] at P1 D1 WA WB
  have PH := Lib.hid P1
  have DH : Hid (∀ w, Calls Try.prog 16 #[.string A, .string B, .agg #[.int .i64 (⟨c.ins, c.del, X, c.swp⟩ : Ed.Cs).ins, .int .i64 (⟨c.ins, c.del, X, c.swp⟩ : Ed.Cs).del, .int .i64 (⟨c.ins, c.del, X, c.swp⟩ : Ed.Cs).chg, .int .i64 (⟨c.ins, c.del, X, c.swp⟩ : Ed.Cs).swp]] w fun e w' => e = .returned (.tuple #[.int .i64 m, .int .i64 0]) ∧ Below w.heap.size w w') := D1
  have CPP : Hid (∀ W v, Opl W v L → Calls Try.prog 20 #[v, .agg #[.int .i64 (⟨c.ins, c.del, X, c.swp⟩ : Ed.Cs).ins, .int .i64 (⟨c.ins, c.del, X, c.swp⟩ : Ed.Cs).del, .int .i64 (⟨c.ins, c.del, X, c.swp⟩ : Ed.Cs).chg, .int .i64 (⟨c.ins, c.del, X, c.swp⟩ : Ed.Cs).swp]] W fun e w' => e = .returned (.tuple #[.int .i64 pr, .int .i64 0]) ∧ Below W.heap.size W w') := CP
  have W1 := Lib.hid WA
  have W2 := Lib.hid WB
  rw [e3, e4]
  have q9 : IntKind.i64.wrap (n - 1) = n - 1 := IntWalk.i64_in _ (by omega)
  have h5 : c.chg ≤ 1000 := by omega
  have h6 : 1 ≤ c.chg := by obtain ⟨⟨_, _⟩, ⟨_, _⟩, ⟨_, _⟩, ⟨_, _⟩⟩ := hc; assumption
  have q8 : IntKind.i64.wrap (c.chg + mo) = c.chg + mo := IntWalk.i64_in _ (by omega)
  clear hA hB SA SB e3 e4 RA P1 pt pc pl CP D1 WA WB hn hm hL hpr hc ha hb hle hX nn hd hXe
  go_enter Try.func9, Try.ntmps9
  go_wp2_with (first
      | (go_at_call 11; (with_reducible refine (AW.out _).mono ?_); rintro e w1 ⟨rfl, b1⟩; have K1 := Lib.hid (K0.out.below b1); have B1 := Lib.hid (B0.out.trans (b1.mono B0.out.size)); obtain ⟨x0, x1, x2, x3⟩ := K1.out; clear b1)
      | (go_at_call 18; (with_reducible refine (RH.out _).mono ?_); rintro e w1 ⟨rfl, b1⟩; have K1 := Lib.hid (K1.out.below b1); have B1 := Lib.hid (B1.out.trans (b1.mono B1.out.size)); clear x0 x1 x2 x3; obtain ⟨x0, x1, x2, x3⟩ := K1.out; have z0 := fun o => cell_in o x0; have z1 := fun o => cell_in o x1; have z2 := fun o => cell_in o x2; have z3 := fun o => cell_in o x3; clear b1)
      | (go_at_call 21; (with_reducible refine (PH.out _).mono ?_); rintro e w4 ⟨v, rfl, o1⟩; have KD := Lib.hid ((Bxc.made w1 (⟨c.ins, c.del, X, c.swp⟩ : Ed.Cs)).below o1.bl); have K1 := Lib.hid ((K1.out.below ((Below.refl _ _).alloc (Nat.le_refl _) _)).below o1.bl); have B1 := Lib.hid ((B1.out.alloc B1.out.size _).trans (o1.bl.mono (B1.out.alloc B1.out.size _).size)); have QO := Lib.hid o1.opl; clear x0 x1 x2 x3 z0 z1 z2 z3; obtain ⟨x0, x1, x2, x3⟩ := K1.out; obtain ⟨y0, y1, y2, y3⟩ := KD.out; clear o1)
      | (go_at_call 20; (with_reducible refine (CPP.out _ _ QO.out).mono ?_); rintro e w1 ⟨rfl, b1⟩; have K1 := Lib.hid (K1.out.below b1); have KD := Lib.hid (KD.out.below b1); have B1 := Lib.hid (B1.out.trans (b1.mono B1.out.size)); clear x0 x1 x2 x3 y0 y1 y2 y3; obtain ⟨x0, x1, x2, x3⟩ := K1.out; obtain ⟨y0, y1, y2, y3⟩ := KD.out; clear b1)
      | (go_at_call 16; (with_reducible refine (DH.out _).mono ?_); rintro e w1 ⟨rfl, b1⟩; have K1 := Lib.hid (K1.out.below b1); have KD := Lib.hid (KD.out.below b1); have B1 := Lib.hid (B1.out.trans (b1.mono B1.out.size)); clear x0 x1 x2 x3 y0 y1 y2 y3; obtain ⟨x0, x1, x2, x3⟩ := K1.out; obtain ⟨y0, y1, y2, y3⟩ := KD.out; clear b1)
      | (go_at_call 24; (with_reducible refine (W1.out _).mono ?_); rintro e w1 ⟨rfl, b1⟩; have K1 := Lib.hid (K1.out.below b1); have KD := Lib.hid (KD.out.below b1); have B1 := Lib.hid (B1.out.trans (b1.mono B1.out.size)); clear x0 x1 x2 x3 y0 y1 y2 y3; obtain ⟨x0, x1, x2, x3⟩ := K1.out; obtain ⟨y0, y1, y2, y3⟩ := KD.out; clear b1)
      | (go_at_call 24; (with_reducible refine (W2.out _).mono ?_); rintro e w1 ⟨rfl, b1⟩; have K1 := Lib.hid (K1.out.below b1); have KD := Lib.hid (KD.out.below b1); have B1 := Lib.hid (B1.out.trans (b1.mono B1.out.size)); clear x0 x1 x2 x3 y0 y1 y2 y3; obtain ⟨x0, x1, x2, x3⟩ := K1.out; obtain ⟨y0, y1, y2, y3⟩ := KD.out; clear b1))
  go_ret
  exact ⟨rfl, B1.out⟩
set_option maxRecDepth 100000 in
set_option maxHeartbeats 6400000 in
theorem dearer_1 (a b : Ed.Bs) (c : Ed.Cs) (kd mo : Int) (_k0 : 0 ≤ kd) (_k1 : kd ≤ 255) (_m0 : 0 ≤ mo) (_m1 : mo ≤ 255) (w : World) (ha : a.length ≤ 60) (hb : b.length ≤ 60) (hc : Ed.Rc c) (hr : kd.tmod 4 = 1) :
    Calls Try.prog 9 #[sb a, sb b, cv c, .int .u8 kd, .int .u8 mo] w fun e w' => e = .returned (.bool true) ∧ Below w.heap.size w w' := by
  have AW := Lib.hid awake_any
  have B0 := Lib.hid (show Below w.heap.size w (w.alloc (.cells #[.int .i64 c.ins, .int .i64 c.del, .int .i64 c.chg, .int .i64 c.swp] 23)) from (Below.refl _ _).alloc (Nat.le_refl _) _)
  have K0 := Lib.hid (Bxc.made w c)
  have SA := Ed.size_is a
  have SB := Ed.size_is b
  obtain ⟨A, hA⟩ : ∃ A : ByteArray, A = ⟨a.toArray⟩ := ⟨_, rfl⟩
  obtain ⟨B, hB⟩ : ∃ A : ByteArray, A = ⟨b.toArray⟩ := ⟨_, rfl⟩
  have e3 : sb a = .string A := by rw [hA]
  have e4 : sb b = .string B := by rw [hB]
  obtain ⟨X, hXe⟩ : ∃ X : Int, X = min 1000 (c.swp + mo) := ⟨_, rfl⟩
  have hX : c.swp ≤ X ∧ X ≤ 1000 := by
    obtain ⟨⟨_, _⟩, ⟨_, _⟩, ⟨_, _⟩, ⟨_, _⟩⟩ := hc
    omega
  have hmn : min 1000 (c.swp + mo) = X := hXe.symm
  have hd : Ed.Rc (⟨c.ins, c.del, c.chg, X⟩ : Ed.Cs) := by
    obtain ⟨⟨_, _⟩, ⟨_, _⟩, ⟨_, _⟩, ⟨_, _⟩⟩ := hc
    refine ⟨⟨?_, ?_⟩, ⟨?_, ?_⟩, ⟨?_, ?_⟩, ⟨?_, ?_⟩⟩ <;> simp only <;> omega
  have hle : Ed.Cle c (⟨c.ins, c.del, c.chg, X⟩ : Ed.Cs) := by
    refine ⟨?_, ?_, ?_, ?_⟩ <;> simp only <;> omega
  have RA := right_any c
  rw [rcb_yes hc] at RA
  have RH := Lib.hid RA
  have P1 := path_ok c hc a b ha hb
  obtain ⟨pt, pc, pl⟩ := Ed.ds_path hc ha hb
  have CP := fun W v h => cost_ok (Ed.path c a b) v (⟨c.ins, c.del, c.chg, X⟩ : Ed.Cs) hd W pl (kind_le (Ed.tn_kok pt)) h
  rw [Ed.csV_tn pt] at CP
  have D1 := distance_ok (⟨c.ins, c.del, c.chg, X⟩ : Ed.Cs) hd a b ha hb
  have WA := within_ok c hc a b ha hb (Ed.ds c a b)
  have WB := within_ok c hc a b ha hb (Ed.ds c a b - 1)
  have g1 := Ed.ds_mono hle hd ha hb
  have g2 := Ed.least (c := (⟨c.ins, c.del, c.chg, X⟩ : Ed.Cs)) pt
  have g3 := Ed.ds_bd hc a b ha hb
  obtain ⟨n, hn⟩ : ∃ n, n = Ed.ds c a b := ⟨_, rfl⟩
  obtain ⟨m, hm⟩ : ∃ m, m = Ed.ds (⟨c.ins, c.del, c.chg, X⟩ : Ed.Cs) a b := ⟨_, rfl⟩
  obtain ⟨L, hL⟩ : ∃ L, L = Ed.path c a b := ⟨_, rfl⟩
  rw [← hn] at P1 WA WB g1 g3
  rw [← hm] at D1 g1 g2
  rw [← hL] at P1 CP g2
  obtain ⟨pr, hpr⟩ : ∃ x, x = Ed.cost (⟨c.ins, c.del, c.chg, X⟩ : Ed.Cs) L := ⟨_, rfl⟩
  rw [← hpr] at CP g2
  rw [if_pos (Int.le_refl _), decide_eq_true (Int.le_refl _)] at WA
  have nn : ¬ n ≤ n - 1 := by omega
  rw [if_neg nn, decide_eq_false nn] at WB
  have zA : A.size ≤ 60 := by rw [hA, SA]; exact ha
  have zB : B.size ≤ 60 := by rw [hB, SB]; exact hb
  rw [e3, e4] at P1 D1 WA WB
  have PH := Lib.hid P1
  have DH : Hid (∀ w, Calls Try.prog 16 #[.string A, .string B, .agg #[.int .i64 (⟨c.ins, c.del, c.chg, X⟩ : Ed.Cs).ins, .int .i64 (⟨c.ins, c.del, c.chg, X⟩ : Ed.Cs).del, .int .i64 (⟨c.ins, c.del, c.chg, X⟩ : Ed.Cs).chg, .int .i64 (⟨c.ins, c.del, c.chg, X⟩ : Ed.Cs).swp]] w fun e w' => e = .returned (.tuple #[.int .i64 m, .int .i64 0]) ∧ Below w.heap.size w w') := D1
  have CPP : Hid (∀ W v, Opl W v L → Calls Try.prog 20 #[v, .agg #[.int .i64 (⟨c.ins, c.del, c.chg, X⟩ : Ed.Cs).ins, .int .i64 (⟨c.ins, c.del, c.chg, X⟩ : Ed.Cs).del, .int .i64 (⟨c.ins, c.del, c.chg, X⟩ : Ed.Cs).chg, .int .i64 (⟨c.ins, c.del, c.chg, X⟩ : Ed.Cs).swp]] W fun e w' => e = .returned (.tuple #[.int .i64 pr, .int .i64 0]) ∧ Below W.heap.size W w') := CP
  have W1 := Lib.hid WA
  have W2 := Lib.hid WB
  rw [e3, e4]
  have q9 : IntKind.i64.wrap (n - 1) = n - 1 := IntWalk.i64_in _ (by omega)
  have h5 : c.swp ≤ 1000 := by omega
  have h6 : 1 ≤ c.swp := by obtain ⟨⟨_, _⟩, ⟨_, _⟩, ⟨_, _⟩, ⟨_, _⟩⟩ := hc; assumption
  have q8 : IntKind.i64.wrap (c.swp + mo) = c.swp + mo := IntWalk.i64_in _ (by omega)
  clear hA hB SA SB e3 e4 RA P1 pt pc pl CP D1 WA WB hn hm hL hpr hc ha hb hle hX nn hd hXe
  go_enter Try.func9, Try.ntmps9
  go_wp2_with (first
      | (go_at_call 11; (with_reducible refine (AW.out _).mono ?_); rintro e w1 ⟨rfl, b1⟩; have K1 := Lib.hid (K0.out.below b1); have B1 := Lib.hid (B0.out.trans (b1.mono B0.out.size)); obtain ⟨x0, x1, x2, x3⟩ := K1.out; clear b1)
      | (go_at_call 18; (with_reducible refine (RH.out _).mono ?_); rintro e w1 ⟨rfl, b1⟩; have K1 := Lib.hid (K1.out.below b1); have B1 := Lib.hid (B1.out.trans (b1.mono B1.out.size)); clear x0 x1 x2 x3; obtain ⟨x0, x1, x2, x3⟩ := K1.out; have z0 := fun o => cell_in o x0; have z1 := fun o => cell_in o x1; have z2 := fun o => cell_in o x2; have z3 := fun o => cell_in o x3; clear b1)
      | (go_at_call 21; (with_reducible refine (PH.out _).mono ?_); rintro e w4 ⟨v, rfl, o1⟩; have KD := Lib.hid ((Bxc.made w1 (⟨c.ins, c.del, c.chg, X⟩ : Ed.Cs)).below o1.bl); have K1 := Lib.hid ((K1.out.below ((Below.refl _ _).alloc (Nat.le_refl _) _)).below o1.bl); have B1 := Lib.hid ((B1.out.alloc B1.out.size _).trans (o1.bl.mono (B1.out.alloc B1.out.size _).size)); have QO := Lib.hid o1.opl; clear x0 x1 x2 x3 z0 z1 z2 z3; obtain ⟨x0, x1, x2, x3⟩ := K1.out; obtain ⟨y0, y1, y2, y3⟩ := KD.out; clear o1)
      | (go_at_call 20; (with_reducible refine (CPP.out _ _ QO.out).mono ?_); rintro e w1 ⟨rfl, b1⟩; have K1 := Lib.hid (K1.out.below b1); have KD := Lib.hid (KD.out.below b1); have B1 := Lib.hid (B1.out.trans (b1.mono B1.out.size)); clear x0 x1 x2 x3 y0 y1 y2 y3; obtain ⟨x0, x1, x2, x3⟩ := K1.out; obtain ⟨y0, y1, y2, y3⟩ := KD.out; clear b1)
      | (go_at_call 16; (with_reducible refine (DH.out _).mono ?_); rintro e w1 ⟨rfl, b1⟩; have K1 := Lib.hid (K1.out.below b1); have KD := Lib.hid (KD.out.below b1); have B1 := Lib.hid (B1.out.trans (b1.mono B1.out.size)); clear x0 x1 x2 x3 y0 y1 y2 y3; obtain ⟨x0, x1, x2, x3⟩ := K1.out; obtain ⟨y0, y1, y2, y3⟩ := KD.out; clear b1)
      | (go_at_call 24; (with_reducible refine (W1.out _).mono ?_); rintro e w1 ⟨rfl, b1⟩; have K1 := Lib.hid (K1.out.below b1); have KD := Lib.hid (KD.out.below b1); have B1 := Lib.hid (B1.out.trans (b1.mono B1.out.size)); clear x0 x1 x2 x3 y0 y1 y2 y3; obtain ⟨x0, x1, x2, x3⟩ := K1.out; obtain ⟨y0, y1, y2, y3⟩ := KD.out; clear b1)
      | (go_at_call 24; (with_reducible refine (W2.out _).mono ?_); rintro e w1 ⟨rfl, b1⟩; have K1 := Lib.hid (K1.out.below b1); have KD := Lib.hid (KD.out.below b1); have B1 := Lib.hid (B1.out.trans (b1.mono B1.out.size)); clear x0 x1 x2 x3 y0 y1 y2 y3; obtain ⟨x0, x1, x2, x3⟩ := K1.out; obtain ⟨y0, y1, y2, y3⟩ := KD.out; clear b1))
  go_ret
  exact ⟨rfl, B1.out⟩
set_option maxRecDepth 100000 in
set_option maxHeartbeats 6400000 in
theorem dearer_2 (a b : Ed.Bs) (c : Ed.Cs) (kd mo : Int) (_k0 : 0 ≤ kd) (_k1 : kd ≤ 255) (_m0 : 0 ≤ mo) (_m1 : mo ≤ 255) (w : World) (ha : a.length ≤ 60) (hb : b.length ≤ 60) (hc : Ed.Rc c) (hr : kd.tmod 4 = 2) :
    Calls Try.prog 9 #[sb a, sb b, cv c, .int .u8 kd, .int .u8 mo] w fun e w' => e = .returned (.bool true) ∧ Below w.heap.size w w' := by
  have AW := Lib.hid awake_any
  have B0 := Lib.hid (show Below w.heap.size w (w.alloc (.cells #[.int .i64 c.ins, .int .i64 c.del, .int .i64 c.chg, .int .i64 c.swp] 23)) from (Below.refl _ _).alloc (Nat.le_refl _) _)
  have K0 := Lib.hid (Bxc.made w c)
  have SA := Ed.size_is a
  have SB := Ed.size_is b
  obtain ⟨A, hA⟩ : ∃ A : ByteArray, A = ⟨a.toArray⟩ := ⟨_, rfl⟩
  obtain ⟨B, hB⟩ : ∃ A : ByteArray, A = ⟨b.toArray⟩ := ⟨_, rfl⟩
  have e3 : sb a = .string A := by rw [hA]
  have e4 : sb b = .string B := by rw [hB]
  obtain ⟨X, hXe⟩ : ∃ X : Int, X = min 1000 (c.del + mo) := ⟨_, rfl⟩
  have hX : c.del ≤ X ∧ X ≤ 1000 := by
    obtain ⟨⟨_, _⟩, ⟨_, _⟩, ⟨_, _⟩, ⟨_, _⟩⟩ := hc
    omega
  have hmn : min 1000 (c.del + mo) = X := hXe.symm
  have hd : Ed.Rc (⟨c.ins, X, c.chg, c.swp⟩ : Ed.Cs) := by
    obtain ⟨⟨_, _⟩, ⟨_, _⟩, ⟨_, _⟩, ⟨_, _⟩⟩ := hc
    refine ⟨⟨?_, ?_⟩, ⟨?_, ?_⟩, ⟨?_, ?_⟩, ⟨?_, ?_⟩⟩ <;> simp only <;> omega
  have hle : Ed.Cle c (⟨c.ins, X, c.chg, c.swp⟩ : Ed.Cs) := by
    refine ⟨?_, ?_, ?_, ?_⟩ <;> simp only <;> omega
  have RA := right_any c
  rw [rcb_yes hc] at RA
  have RH := Lib.hid RA
  have P1 := path_ok c hc a b ha hb
  obtain ⟨pt, pc, pl⟩ := Ed.ds_path hc ha hb
  have CP := fun W v h => cost_ok (Ed.path c a b) v (⟨c.ins, X, c.chg, c.swp⟩ : Ed.Cs) hd W pl (kind_le (Ed.tn_kok pt)) h
  rw [Ed.csV_tn pt] at CP
  have D1 := distance_ok (⟨c.ins, X, c.chg, c.swp⟩ : Ed.Cs) hd a b ha hb
  have WA := within_ok c hc a b ha hb (Ed.ds c a b)
  have WB := within_ok c hc a b ha hb (Ed.ds c a b - 1)
  have g1 := Ed.ds_mono hle hd ha hb
  have g2 := Ed.least (c := (⟨c.ins, X, c.chg, c.swp⟩ : Ed.Cs)) pt
  have g3 := Ed.ds_bd hc a b ha hb
  obtain ⟨n, hn⟩ : ∃ n, n = Ed.ds c a b := ⟨_, rfl⟩
  obtain ⟨m, hm⟩ : ∃ m, m = Ed.ds (⟨c.ins, X, c.chg, c.swp⟩ : Ed.Cs) a b := ⟨_, rfl⟩
  obtain ⟨L, hL⟩ : ∃ L, L = Ed.path c a b := ⟨_, rfl⟩
  rw [← hn] at P1 WA WB g1 g3
  rw [← hm] at D1 g1 g2
  rw [← hL] at P1 CP g2
  obtain ⟨pr, hpr⟩ : ∃ x, x = Ed.cost (⟨c.ins, X, c.chg, c.swp⟩ : Ed.Cs) L := ⟨_, rfl⟩
  rw [← hpr] at CP g2
  rw [if_pos (Int.le_refl _), decide_eq_true (Int.le_refl _)] at WA
  have nn : ¬ n ≤ n - 1 := by omega
  rw [if_neg nn, decide_eq_false nn] at WB
  have zA : A.size ≤ 60 := by rw [hA, SA]; exact ha
  have zB : B.size ≤ 60 := by rw [hB, SB]; exact hb
  rw [e3, e4] at P1 D1 WA WB
  have PH := Lib.hid P1
  have DH : Hid (∀ w, Calls Try.prog 16 #[.string A, .string B, .agg #[.int .i64 (⟨c.ins, X, c.chg, c.swp⟩ : Ed.Cs).ins, .int .i64 (⟨c.ins, X, c.chg, c.swp⟩ : Ed.Cs).del, .int .i64 (⟨c.ins, X, c.chg, c.swp⟩ : Ed.Cs).chg, .int .i64 (⟨c.ins, X, c.chg, c.swp⟩ : Ed.Cs).swp]] w fun e w' => e = .returned (.tuple #[.int .i64 m, .int .i64 0]) ∧ Below w.heap.size w w') := D1
  have CPP : Hid (∀ W v, Opl W v L → Calls Try.prog 20 #[v, .agg #[.int .i64 (⟨c.ins, X, c.chg, c.swp⟩ : Ed.Cs).ins, .int .i64 (⟨c.ins, X, c.chg, c.swp⟩ : Ed.Cs).del, .int .i64 (⟨c.ins, X, c.chg, c.swp⟩ : Ed.Cs).chg, .int .i64 (⟨c.ins, X, c.chg, c.swp⟩ : Ed.Cs).swp]] W fun e w' => e = .returned (.tuple #[.int .i64 pr, .int .i64 0]) ∧ Below W.heap.size W w') := CP
  have W1 := Lib.hid WA
  have W2 := Lib.hid WB
  rw [e3, e4]
  have q9 : IntKind.i64.wrap (n - 1) = n - 1 := IntWalk.i64_in _ (by omega)
  have h5 : c.del ≤ 1000 := by omega
  have h6 : 1 ≤ c.del := by obtain ⟨⟨_, _⟩, ⟨_, _⟩, ⟨_, _⟩, ⟨_, _⟩⟩ := hc; assumption
  have q8 : IntKind.i64.wrap (c.del + mo) = c.del + mo := IntWalk.i64_in _ (by omega)
  clear hA hB SA SB e3 e4 RA P1 pt pc pl CP D1 WA WB hn hm hL hpr hc ha hb hle hX nn hd hXe
  go_enter Try.func9, Try.ntmps9
  go_wp2_with (first
      | (go_at_call 11; (with_reducible refine (AW.out _).mono ?_); rintro e w1 ⟨rfl, b1⟩; have K1 := Lib.hid (K0.out.below b1); have B1 := Lib.hid (B0.out.trans (b1.mono B0.out.size)); obtain ⟨x0, x1, x2, x3⟩ := K1.out; clear b1)
      | (go_at_call 18; (with_reducible refine (RH.out _).mono ?_); rintro e w1 ⟨rfl, b1⟩; have K1 := Lib.hid (K1.out.below b1); have B1 := Lib.hid (B1.out.trans (b1.mono B1.out.size)); clear x0 x1 x2 x3; obtain ⟨x0, x1, x2, x3⟩ := K1.out; have z0 := fun o => cell_in o x0; have z1 := fun o => cell_in o x1; have z2 := fun o => cell_in o x2; have z3 := fun o => cell_in o x3; clear b1)
      | (go_at_call 21; (with_reducible refine (PH.out _).mono ?_); rintro e w4 ⟨v, rfl, o1⟩; have KD := Lib.hid ((Bxc.made w1 (⟨c.ins, X, c.chg, c.swp⟩ : Ed.Cs)).below o1.bl); have K1 := Lib.hid ((K1.out.below ((Below.refl _ _).alloc (Nat.le_refl _) _)).below o1.bl); have B1 := Lib.hid ((B1.out.alloc B1.out.size _).trans (o1.bl.mono (B1.out.alloc B1.out.size _).size)); have QO := Lib.hid o1.opl; clear x0 x1 x2 x3 z0 z1 z2 z3; obtain ⟨x0, x1, x2, x3⟩ := K1.out; obtain ⟨y0, y1, y2, y3⟩ := KD.out; clear o1)
      | (go_at_call 20; (with_reducible refine (CPP.out _ _ QO.out).mono ?_); rintro e w1 ⟨rfl, b1⟩; have K1 := Lib.hid (K1.out.below b1); have KD := Lib.hid (KD.out.below b1); have B1 := Lib.hid (B1.out.trans (b1.mono B1.out.size)); clear x0 x1 x2 x3 y0 y1 y2 y3; obtain ⟨x0, x1, x2, x3⟩ := K1.out; obtain ⟨y0, y1, y2, y3⟩ := KD.out; clear b1)
      | (go_at_call 16; (with_reducible refine (DH.out _).mono ?_); rintro e w1 ⟨rfl, b1⟩; have K1 := Lib.hid (K1.out.below b1); have KD := Lib.hid (KD.out.below b1); have B1 := Lib.hid (B1.out.trans (b1.mono B1.out.size)); clear x0 x1 x2 x3 y0 y1 y2 y3; obtain ⟨x0, x1, x2, x3⟩ := K1.out; obtain ⟨y0, y1, y2, y3⟩ := KD.out; clear b1)
      | (go_at_call 24; (with_reducible refine (W1.out _).mono ?_); rintro e w1 ⟨rfl, b1⟩; have K1 := Lib.hid (K1.out.below b1); have KD := Lib.hid (KD.out.below b1); have B1 := Lib.hid (B1.out.trans (b1.mono B1.out.size)); clear x0 x1 x2 x3 y0 y1 y2 y3; obtain ⟨x0, x1, x2, x3⟩ := K1.out; obtain ⟨y0, y1, y2, y3⟩ := KD.out; clear b1)
      | (go_at_call 24; (with_reducible refine (W2.out _).mono ?_); rintro e w1 ⟨rfl, b1⟩; have K1 := Lib.hid (K1.out.below b1); have KD := Lib.hid (KD.out.below b1); have B1 := Lib.hid (B1.out.trans (b1.mono B1.out.size)); clear x0 x1 x2 x3 y0 y1 y2 y3; obtain ⟨x0, x1, x2, x3⟩ := K1.out; obtain ⟨y0, y1, y2, y3⟩ := KD.out; clear b1))
  go_ret
  exact ⟨rfl, B1.out⟩
set_option maxRecDepth 100000 in
set_option maxHeartbeats 6400000 in
theorem dearer_3 (a b : Ed.Bs) (c : Ed.Cs) (kd mo : Int) (_k0 : 0 ≤ kd) (_k1 : kd ≤ 255) (_m0 : 0 ≤ mo) (_m1 : mo ≤ 255) (w : World) (ha : a.length ≤ 60) (hb : b.length ≤ 60) (hc : Ed.Rc c) (hr : kd.tmod 4 = 3) :
    Calls Try.prog 9 #[sb a, sb b, cv c, .int .u8 kd, .int .u8 mo] w fun e w' => e = .returned (.bool true) ∧ Below w.heap.size w w' := by
  have AW := Lib.hid awake_any
  have B0 := Lib.hid (show Below w.heap.size w (w.alloc (.cells #[.int .i64 c.ins, .int .i64 c.del, .int .i64 c.chg, .int .i64 c.swp] 23)) from (Below.refl _ _).alloc (Nat.le_refl _) _)
  have K0 := Lib.hid (Bxc.made w c)
  have SA := Ed.size_is a
  have SB := Ed.size_is b
  obtain ⟨A, hA⟩ : ∃ A : ByteArray, A = ⟨a.toArray⟩ := ⟨_, rfl⟩
  obtain ⟨B, hB⟩ : ∃ A : ByteArray, A = ⟨b.toArray⟩ := ⟨_, rfl⟩
  have e3 : sb a = .string A := by rw [hA]
  have e4 : sb b = .string B := by rw [hB]
  obtain ⟨X, hXe⟩ : ∃ X : Int, X = min 1000 (c.ins + mo) := ⟨_, rfl⟩
  have hX : c.ins ≤ X ∧ X ≤ 1000 := by
    obtain ⟨⟨_, _⟩, ⟨_, _⟩, ⟨_, _⟩, ⟨_, _⟩⟩ := hc
    omega
  have hmn : min 1000 (c.ins + mo) = X := hXe.symm
  have hd : Ed.Rc (⟨X, c.del, c.chg, c.swp⟩ : Ed.Cs) := by
    obtain ⟨⟨_, _⟩, ⟨_, _⟩, ⟨_, _⟩, ⟨_, _⟩⟩ := hc
    refine ⟨⟨?_, ?_⟩, ⟨?_, ?_⟩, ⟨?_, ?_⟩, ⟨?_, ?_⟩⟩ <;> simp only <;> omega
  have hle : Ed.Cle c (⟨X, c.del, c.chg, c.swp⟩ : Ed.Cs) := by
    refine ⟨?_, ?_, ?_, ?_⟩ <;> simp only <;> omega
  have RA := right_any c
  rw [rcb_yes hc] at RA
  have RH := Lib.hid RA
  have P1 := path_ok c hc a b ha hb
  obtain ⟨pt, pc, pl⟩ := Ed.ds_path hc ha hb
  have CP := fun W v h => cost_ok (Ed.path c a b) v (⟨X, c.del, c.chg, c.swp⟩ : Ed.Cs) hd W pl (kind_le (Ed.tn_kok pt)) h
  rw [Ed.csV_tn pt] at CP
  have D1 := distance_ok (⟨X, c.del, c.chg, c.swp⟩ : Ed.Cs) hd a b ha hb
  have WA := within_ok c hc a b ha hb (Ed.ds c a b)
  have WB := within_ok c hc a b ha hb (Ed.ds c a b - 1)
  have g1 := Ed.ds_mono hle hd ha hb
  have g2 := Ed.least (c := (⟨X, c.del, c.chg, c.swp⟩ : Ed.Cs)) pt
  have g3 := Ed.ds_bd hc a b ha hb
  obtain ⟨n, hn⟩ : ∃ n, n = Ed.ds c a b := ⟨_, rfl⟩
  obtain ⟨m, hm⟩ : ∃ m, m = Ed.ds (⟨X, c.del, c.chg, c.swp⟩ : Ed.Cs) a b := ⟨_, rfl⟩
  obtain ⟨L, hL⟩ : ∃ L, L = Ed.path c a b := ⟨_, rfl⟩
  rw [← hn] at P1 WA WB g1 g3
  rw [← hm] at D1 g1 g2
  rw [← hL] at P1 CP g2
  obtain ⟨pr, hpr⟩ : ∃ x, x = Ed.cost (⟨X, c.del, c.chg, c.swp⟩ : Ed.Cs) L := ⟨_, rfl⟩
  rw [← hpr] at CP g2
  rw [if_pos (Int.le_refl _), decide_eq_true (Int.le_refl _)] at WA
  have nn : ¬ n ≤ n - 1 := by omega
  rw [if_neg nn, decide_eq_false nn] at WB
  have zA : A.size ≤ 60 := by rw [hA, SA]; exact ha
  have zB : B.size ≤ 60 := by rw [hB, SB]; exact hb
  rw [e3, e4] at P1 D1 WA WB
  have PH := Lib.hid P1
  have DH : Hid (∀ w, Calls Try.prog 16 #[.string A, .string B, .agg #[.int .i64 (⟨X, c.del, c.chg, c.swp⟩ : Ed.Cs).ins, .int .i64 (⟨X, c.del, c.chg, c.swp⟩ : Ed.Cs).del, .int .i64 (⟨X, c.del, c.chg, c.swp⟩ : Ed.Cs).chg, .int .i64 (⟨X, c.del, c.chg, c.swp⟩ : Ed.Cs).swp]] w fun e w' => e = .returned (.tuple #[.int .i64 m, .int .i64 0]) ∧ Below w.heap.size w w') := D1
  have CPP : Hid (∀ W v, Opl W v L → Calls Try.prog 20 #[v, .agg #[.int .i64 (⟨X, c.del, c.chg, c.swp⟩ : Ed.Cs).ins, .int .i64 (⟨X, c.del, c.chg, c.swp⟩ : Ed.Cs).del, .int .i64 (⟨X, c.del, c.chg, c.swp⟩ : Ed.Cs).chg, .int .i64 (⟨X, c.del, c.chg, c.swp⟩ : Ed.Cs).swp]] W fun e w' => e = .returned (.tuple #[.int .i64 pr, .int .i64 0]) ∧ Below W.heap.size W w') := CP
  have W1 := Lib.hid WA
  have W2 := Lib.hid WB
  rw [e3, e4]
  have q9 : IntKind.i64.wrap (n - 1) = n - 1 := IntWalk.i64_in _ (by omega)
  have h5 : c.ins ≤ 1000 := by omega
  have h6 : 1 ≤ c.ins := by obtain ⟨⟨_, _⟩, ⟨_, _⟩, ⟨_, _⟩, ⟨_, _⟩⟩ := hc; assumption
  have q8 : IntKind.i64.wrap (c.ins + mo) = c.ins + mo := IntWalk.i64_in _ (by omega)
  clear hA hB SA SB e3 e4 RA P1 pt pc pl CP D1 WA WB hn hm hL hpr hc ha hb hle hX nn hd hXe
  go_enter Try.func9, Try.ntmps9
  go_wp2_with (first
      | (go_at_call 11; (with_reducible refine (AW.out _).mono ?_); rintro e w1 ⟨rfl, b1⟩; have K1 := Lib.hid (K0.out.below b1); have B1 := Lib.hid (B0.out.trans (b1.mono B0.out.size)); obtain ⟨x0, x1, x2, x3⟩ := K1.out; clear b1)
      | (go_at_call 18; (with_reducible refine (RH.out _).mono ?_); rintro e w1 ⟨rfl, b1⟩; have K1 := Lib.hid (K1.out.below b1); have B1 := Lib.hid (B1.out.trans (b1.mono B1.out.size)); clear x0 x1 x2 x3; obtain ⟨x0, x1, x2, x3⟩ := K1.out; have z0 := fun o => cell_in o x0; have z1 := fun o => cell_in o x1; have z2 := fun o => cell_in o x2; have z3 := fun o => cell_in o x3; clear b1)
      | (go_at_call 21; (with_reducible refine (PH.out _).mono ?_); rintro e w4 ⟨v, rfl, o1⟩; have KD := Lib.hid ((Bxc.made w1 (⟨X, c.del, c.chg, c.swp⟩ : Ed.Cs)).below o1.bl); have K1 := Lib.hid ((K1.out.below ((Below.refl _ _).alloc (Nat.le_refl _) _)).below o1.bl); have B1 := Lib.hid ((B1.out.alloc B1.out.size _).trans (o1.bl.mono (B1.out.alloc B1.out.size _).size)); have QO := Lib.hid o1.opl; clear x0 x1 x2 x3 z0 z1 z2 z3; obtain ⟨x0, x1, x2, x3⟩ := K1.out; obtain ⟨y0, y1, y2, y3⟩ := KD.out; clear o1)
      | (go_at_call 20; (with_reducible refine (CPP.out _ _ QO.out).mono ?_); rintro e w1 ⟨rfl, b1⟩; have K1 := Lib.hid (K1.out.below b1); have KD := Lib.hid (KD.out.below b1); have B1 := Lib.hid (B1.out.trans (b1.mono B1.out.size)); clear x0 x1 x2 x3 y0 y1 y2 y3; obtain ⟨x0, x1, x2, x3⟩ := K1.out; obtain ⟨y0, y1, y2, y3⟩ := KD.out; clear b1)
      | (go_at_call 16; (with_reducible refine (DH.out _).mono ?_); rintro e w1 ⟨rfl, b1⟩; have K1 := Lib.hid (K1.out.below b1); have KD := Lib.hid (KD.out.below b1); have B1 := Lib.hid (B1.out.trans (b1.mono B1.out.size)); clear x0 x1 x2 x3 y0 y1 y2 y3; obtain ⟨x0, x1, x2, x3⟩ := K1.out; obtain ⟨y0, y1, y2, y3⟩ := KD.out; clear b1)
      | (go_at_call 24; (with_reducible refine (W1.out _).mono ?_); rintro e w1 ⟨rfl, b1⟩; have K1 := Lib.hid (K1.out.below b1); have KD := Lib.hid (KD.out.below b1); have B1 := Lib.hid (B1.out.trans (b1.mono B1.out.size)); clear x0 x1 x2 x3 y0 y1 y2 y3; obtain ⟨x0, x1, x2, x3⟩ := K1.out; obtain ⟨y0, y1, y2, y3⟩ := KD.out; clear b1)
      | (go_at_call 24; (with_reducible refine (W2.out _).mono ?_); rintro e w1 ⟨rfl, b1⟩; have K1 := Lib.hid (K1.out.below b1); have KD := Lib.hid (KD.out.below b1); have B1 := Lib.hid (B1.out.trans (b1.mono B1.out.size)); clear x0 x1 x2 x3 y0 y1 y2 y3; obtain ⟨x0, x1, x2, x3⟩ := K1.out; obtain ⟨y0, y1, y2, y3⟩ := KD.out; clear b1))
  go_ret
  exact ⟨rfl, B1.out⟩
theorem walk_editDearer (w : World) (a : ByteArray) (_ha : a.size ≤ maxLen) (b : ByteArray) (_hb : b.size ≤ maxLen) (c : Ed.Cs) (kd : Int) (k0 : 0 ≤ kd) (k1 : kd ≤ 255) (mo : Int) (m0 : 0 ≤ mo) (m1 : mo ≤ 255) :
    Calls Try.prog 9 #[.string a, .string b, cv c, .int .u8 kd, .int .u8 mo] w fun e w' => e = .returned (.bool true) ∧ Below w.heap.size w w' := by
  show Calls Try.prog 9 #[sb a.data.toList, sb b.data.toList, cv c, .int .u8 kd, .int .u8 mo] w _
  by_cases h : a.data.toList.length ≤ 60 ∧ b.data.toList.length ≤ 60
  · by_cases hc : Ed.Rc c
    · have h4 : kd.tmod 4 = 0 ∨ kd.tmod 4 = 1 ∨ kd.tmod 4 = 2 ∨ kd.tmod 4 = 3 := by
        rw [Int.tmod_eq_emod_of_nonneg k0]; omega
      rcases h4 with h4 | h4 | h4 | h4
      · exact dearer_0 _ _ c kd mo k0 k1 m0 m1 w h.1 h.2 hc h4
      · exact dearer_1 _ _ c kd mo k0 k1 m0 m1 w h.1 h.2 hc h4
      · exact dearer_2 _ _ c kd mo k0 k1 m0 m1 w h.1 h.2 hc h4
      · exact dearer_3 _ _ c kd mo k0 k1 m0 m1 w h.1 h.2 hc h4
    · exact dearer_bad _ _ c kd mo k0 k1 m0 m1 w h.1 h.2 hc
  · exact dearer_no _ _ c kd mo k0 k1 m0 m1 w (by omega)
end Go.Proofs.Ytalldnnegofdkaa
