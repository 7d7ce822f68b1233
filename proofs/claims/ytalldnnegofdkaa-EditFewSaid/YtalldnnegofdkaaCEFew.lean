/- EditFew's walk: what a path has. -/
import Derived.Test.YtalldnnegofdkaaCELeast
namespace Go.Proofs.Ytalldnnegofdkaa
open Go.RowKit Go.Shelf

namespace Ed
/-- How many steps of a kind. -/
def cnt (j : Nat) : List Op → Int
  | [] => 0
  | o :: l => (if o.k = j then 1 else 0) + cnt j l
theorem cnt_bd (j : Nat) : ∀ l : List Op, 0 ≤ cnt j l ∧ cnt j l ≤ l.length
  | [] => ⟨Int.le_refl 0, Int.le_refl 0⟩
  | o :: l => by
    have ih := cnt_bd j l
    simp only [cnt, List.length_cons]
    split <;> omega
theorem cnt_snoc (j : Nat) (o : Op) : ∀ l : List Op, cnt j (l ++ [o]) = cnt j l + (if o.k = j then 1 else 0)
  | [] => by simp [cnt]
  | p :: l => by
    have ih := cnt_snoc j o l
    simp only [List.cons_append, cnt, ih]
    omega
theorem tn_cnt {l : List Op} {x y : Bs} (h : Tn l x y) : cnt 1 l + cnt 2 l + 2 * cnt 3 l + cnt 4 l = x.length ∧ cnt 1 l + cnt 2 l + 2 * cnt 3 l + cnt 5 l = y.length := by
  induction h with
  | nil => exact ⟨rfl, rfl⟩
  | cons k x y l hf _ ih =>
    obtain ⟨h1, h2⟩ := ft_len hf
    rw [List.length_drop, List.length_drop] at ih
    have e : (opO k y).k = k := rfl
    simp only [cnt, e]
    rcases kind5 (ft_kind hf) with rfl | rfl | rfl | rfl | rfl
    all_goals
      simp only [tk, wr] at h1 h2 ih
      simp
      omega
theorem cost_cnt (c : Cs) : ∀ l : List Op, kok l → cost c l = cnt 2 l * c.chg + cnt 3 l * c.swp + cnt 4 l * c.del + cnt 5 l * c.ins
  | [], _ => by simp [cost, cnt]
  | o :: l, h => by
    have ih := cost_cnt c l (fun p hp => h p (List.mem_cons_of_mem _ hp))
    have hk := h o List.mem_cons_self
    simp only [cost, cnt]
    obtain ⟨k, b⟩ := o
    rcases kind5 hk with h | h | h | h | h
    all_goals
      simp only at h
      subst h
      simp [co, Int.add_mul]
      omega
/-- A Byte stands only where one is written. -/
theorem tn_byte {l : List Op} {x y : Bs} (h : Tn l x y) : ∀ o ∈ l, o.b = 0 ∨ o.k = 2 ∨ o.k = 5 := by
  induction h with
  | nil => intro o ho; simp at ho
  | cons k x y l _ _ ih =>
    intro o ho
    rcases List.mem_cons.1 ho with rfl | ho
    · show (if k = 2 ∨ k = 5 then y.headD 0 else 0) = 0 ∨ k = 2 ∨ k = 5
      by_cases e : k = 2 ∨ k = 5
      · exact Or.inr e
      · rw [if_neg e]; exact Or.inl rfl
    · exact ih o ho
theorem rc1 : Rc ⟨1, 1, 1, 1⟩ := by unfold Rc; simp
theorem ones_low {x y : Bs} (hx : x.length ≤ 60) (hy : y.length ≤ 60) : (x.length : Int) - y.length ≤ ds ⟨1, 1, 1, 1⟩ x y ∧ (y.length : Int) - x.length ≤ ds ⟨1, 1, 1, 1⟩ x y := by
  obtain ⟨h1, h2, _⟩ := ds_path rc1 hx hy
  obtain ⟨h3, h4⟩ := tn_cnt h1
  have h5 := cost_cnt ⟨1, 1, 1, 1⟩ _ (tn_kok h1)
  have := cnt_bd 2 (path ⟨1, 1, 1, 1⟩ x y)
  have := cnt_bd 3 (path ⟨1, 1, 1, 1⟩ x y)
  have := cnt_bd 4 (path ⟨1, 1, 1, 1⟩ x y)
  have := cnt_bd 5 (path ⟨1, 1, 1, 1⟩ x y)
  simp only [Int.mul_one] at h5
  omega
theorem ones_up : ∀ (x y : Bs), ds ⟨1, 1, 1, 1⟩ x y ≤ max (x.length : Int) y.length
  | [], y => by have := ds_up ⟨1, 1, 1, 1⟩ [] y; simp at this ⊢; omega
  | a :: x, [] => by have := ds_up ⟨1, 1, 1, 1⟩ (a :: x) []; simp at this ⊢; omega
  | a :: x, b :: y => by
    have ih := ones_up x y
    have h : ds ⟨1, 1, 1, 1⟩ (a :: x) (b :: y) ≤ 1 + ds ⟨1, 1, 1, 1⟩ x y := by
      by_cases e : a = b
      · have := ds_le (c := ⟨1, 1, 1, 1⟩) (k := 1) (by simp [ft, e] : ft 1 (a :: x) (b :: y) = true)
        have e2 : co ⟨1, 1, 1, 1⟩ 1 + ds ⟨1, 1, 1, 1⟩ ((a :: x).drop (tk 1)) ((b :: y).drop (wr 1)) = 0 + ds ⟨1, 1, 1, 1⟩ x y := rfl
        omega
      · have := ds_le (c := ⟨1, 1, 1, 1⟩) (k := 2) (by simp [ft, e] : ft 2 (a :: x) (b :: y) = true)
        have e2 : co ⟨1, 1, 1, 1⟩ 2 + ds ⟨1, 1, 1, 1⟩ ((a :: x).drop (tk 2)) ((b :: y).drop (wr 2)) = 1 + ds ⟨1, 1, 1, 1⟩ x y := rfl
        omega
    simp only [List.length_cons]
    omega
end Ed
theorem prod_bd {n x : Int} (h0 : 0 ≤ n) (h1 : n ≤ 120) (h2 : 1 ≤ x) (h3 : x ≤ 1000) : 0 ≤ n * x ∧ n * x ≤ 120000 := by
  refine ⟨Int.mul_nonneg h0 (by omega), ?_⟩
  have := Int.mul_le_mul (a := n) (b := x) (c := 120) (d := 1000) h1 h3 (by omega) (by omega)
  omega
theorem many_start (w : World) (t : TypeId) : Ir (w.alloc (.cells #[.int .i64 0, .int .i64 0, .int .i64 0, .int .i64 0, .int .i64 0, .int .i64 0] t)) w.heap.size 5 (fun _ => 0) := by
  refine ⟨#[.int .i64 0, .int .i64 0, .int .i64 0, .int .i64 0, .int .i64 0, .int .i64 0], t, ?_, rfl, fun j hj => ?_⟩
  · show (w.heap.push _)[w.heap.size]? = _
    exact Array.getElem?_push_size
  · obtain rfl | rfl | rfl | rfl | rfl | rfl : j = 0 ∨ j = 1 ∨ j = 2 ∨ j = 3 ∨ j = 4 ∨ j = 5 := by omega
    all_goals rfl
set_option maxRecDepth 100000 in
set_option maxHeartbeats 6400000 in
theorem few_no (a b : Ed.Bs) (c : Ed.Cs) (w : World) (h : 60 < a.length ∨ 60 < b.length) :
    Calls Try.prog 10 #[sb a, sb b, cv c] w fun e w' => e = .returned (.bool true) ∧ Below w.heap.size w w' := by
  have AW := Lib.hid awake_any
  have B0 := Lib.hid (show Below w.heap.size w (w.alloc (.cells #[.int .i64 c.ins, .int .i64 c.del, .int .i64 c.chg, .int .i64 c.swp] 23)) from (Below.refl _ _).alloc (Nat.le_refl _) _)
  have K0 := Lib.hid (Bxc.made w c)
  have SA := Ed.size_is a
  have SB := Ed.size_is b
  obtain ⟨A, hA⟩ : ∃ A : ByteArray, A = ⟨a.toArray⟩ := ⟨_, rfl⟩
  obtain ⟨B, hB⟩ : ∃ A : ByteArray, A = ⟨b.toArray⟩ := ⟨_, rfl⟩
  have e3 : sb a = .string A := by rw [hA]
  have e4 : sb b = .string B := by rw [hB]
  rw [← SA, ← SB, ← hA, ← hB] at h
  rw [e3, e4]
  clear hA hB SA SB e3 e4
  by_cases h1 : 60 < A.size
  · clear h
    go_enter Try.func10, Try.ntmps10
    go_wp2_with (go_at_call 11; (with_reducible refine (AW.out _).mono ?_); rintro e w1 ⟨rfl, b1⟩; have K1 := Lib.hid (K0.out.below b1); have B1 := Lib.hid (B0.out.trans (b1.mono B0.out.size)); obtain ⟨x0, x1, x2, x3⟩ := K1.out; clear b1)
    go_ret
    exact ⟨rfl, B1.out⟩
  · have h2 : 60 < B.size := by omega
    clear h
    go_enter Try.func10, Try.ntmps10
    go_wp2_with (go_at_call 11; (with_reducible refine (AW.out _).mono ?_); rintro e w1 ⟨rfl, b1⟩; have K1 := Lib.hid (K0.out.below b1); have B1 := Lib.hid (B0.out.trans (b1.mono B0.out.size)); obtain ⟨x0, x1, x2, x3⟩ := K1.out; clear b1)
    go_ret
    exact ⟨rfl, B1.out⟩
set_option maxRecDepth 100000 in
set_option maxHeartbeats 6400000 in
theorem few_bad (a b : Ed.Bs) (c : Ed.Cs) (w : World) (ha : a.length ≤ 60) (hb : b.length ≤ 60) (hc : ¬ Ed.Rc c) :
    Calls Try.prog 10 #[sb a, sb b, cv c] w fun e w' => e = .returned (.bool true) ∧ Below w.heap.size w w' := by
  have AW := Lib.hid awake_any
  have B0 := Lib.hid (show Below w.heap.size w (w.alloc (.cells #[.int .i64 c.ins, .int .i64 c.del, .int .i64 c.chg, .int .i64 c.swp] 23)) from (Below.refl _ _).alloc (Nat.le_refl _) _)
  have K0 := Lib.hid (Bxc.made w c)
  have SA := Ed.size_is a
  have SB := Ed.size_is b
  obtain ⟨A, hA⟩ : ∃ A : ByteArray, A = ⟨a.toArray⟩ := ⟨_, rfl⟩
  obtain ⟨B, hB⟩ : ∃ A : ByteArray, A = ⟨b.toArray⟩ := ⟨_, rfl⟩
  have e3 : sb a = .string A := by rw [hA]
  have e4 : sb b = .string B := by rw [hB]
  have RA := right_any c
  rw [rcb_no hc] at RA
  have RH := Lib.hid RA
  rw [← SA, ← hA] at ha
  rw [← SB, ← hB] at hb
  rw [e3, e4]
  clear hA hB SA SB e3 e4 RA hc
  go_enter Try.func10, Try.ntmps10
  go_wp2_with (first
    | (go_at_call 11; (with_reducible refine (AW.out _).mono ?_); rintro e w1 ⟨rfl, b1⟩; have K1 := Lib.hid (K0.out.below b1); have B1 := Lib.hid (B0.out.trans (b1.mono B0.out.size)); obtain ⟨x0, x1, x2, x3⟩ := K1.out; clear b1)
    | (go_at_call 18; (with_reducible refine (RH.out _).mono ?_); rintro e w1 ⟨rfl, b1⟩; have K1 := Lib.hid (K1.out.below b1); have B1 := Lib.hid (B1.out.trans (b1.mono B1.out.size)); clear x0 x1 x2 x3; obtain ⟨x0, x1, x2, x3⟩ := K1.out; clear b1))
  go_ret
  exact ⟨rfl, B1.out⟩
set_option maxRecDepth 100000 in
set_option maxHeartbeats 6400000 in
theorem few_ok (a b : Ed.Bs) (c : Ed.Cs) (w : World) (ha : a.length ≤ 60) (hb : b.length ≤ 60) (hc : Ed.Rc c) :
    Calls Try.prog 10 #[sb a, sb b, cv c] w fun e w' => e = .returned (.bool true) ∧ Below w.heap.size w w' := by
  have AW := Lib.hid awake_any
  have B0 := Lib.hid (show Below w.heap.size w (w.alloc (.cells #[.int .i64 c.ins, .int .i64 c.del, .int .i64 c.chg, .int .i64 c.swp] 23)) from (Below.refl _ _).alloc (Nat.le_refl _) _)
  have K0 := Lib.hid (Bxc.made w c)
  have SA := Ed.size_is a
  have SB := Ed.size_is b
  obtain ⟨A, hA⟩ : ∃ A : ByteArray, A = ⟨a.toArray⟩ := ⟨_, rfl⟩
  obtain ⟨B, hB⟩ : ∃ A : ByteArray, A = ⟨b.toArray⟩ := ⟨_, rfl⟩
  have e3 : sb a = .string A := by rw [hA]
  have e4 : sb b = .string B := by rw [hB]
  have RA := right_any c
  rw [rcb_yes hc] at RA
  have RH := Lib.hid RA
  have P1 := path_ok c hc a b ha hb
  obtain ⟨pt, pc, pl⟩ := Ed.ds_path hc ha hb
  obtain ⟨s1, s2⟩ := Ed.tn_cnt pt
  have cc := Ed.cost_cnt c _ (Ed.tn_kok pt)
  rw [pc] at cc
  have kk := Ed.tn_kok pt
  have kb := Ed.tn_byte pt
  have D1 := distance_ok ⟨1, 1, 1, 1⟩ Ed.rc1 a b ha hb
  have u1 := Ed.ones_low ha hb
  have u2 := Ed.ones_up a b
  have u3 := Ed.ds_bd Ed.rc1 a b ha hb
  obtain ⟨n, hn⟩ : ∃ n, n = Ed.ds c a b := ⟨_, rfl⟩
  obtain ⟨m, hm⟩ : ∃ m, m = Ed.ds ⟨1, 1, 1, 1⟩ a b := ⟨_, rfl⟩
  obtain ⟨L, hL⟩ : ∃ L, L = Ed.path c a b := ⟨_, rfl⟩
  rw [← hn] at P1 cc
  rw [← hm] at D1 u1 u2 u3
  rw [← hL] at P1 pl s1 s2 cc kk kb
  have zA : A.size ≤ 60 := by rw [hA, SA]; exact ha
  have zB : B.size ≤ 60 := by rw [hB, SB]; exact hb
  rw [← SA, ← hA] at s1 u1 u2
  rw [← SB, ← hB] at s2 u1 u2
  rw [e3, e4] at P1 D1
  have PH := Lib.hid P1
  have DH := Lib.hid D1
  rw [e3, e4]
  have S1 := Lib.hid s1
  have S2 := Lib.hid s2
  have CC := Lib.hid cc
  have KK := Lib.hid kk
  have KB := Lib.hid kb
  have CR := Lib.hid hc
  obtain ⟨N, hN⟩ : ∃ N, N = L.length := ⟨_, rfl⟩
  have HN := Lib.hid hN
  have nb : N ≤ 120 := by rw [hN]; exact pl
  have O1 := Lib.hid ones_any
  clear hA hB SA SB e3 e4 RA P1 pt pc pl D1 hn hm hL ha hb hc s1 s2 cc kk kb hN
  go_enter Try.func10, Try.ntmps10
  go_wp2_with (first
    | (go_at_call 11; (with_reducible refine (AW.out _).mono ?_); rintro e w1 ⟨rfl, b1⟩; have K1 := Lib.hid (K0.out.below b1); have B1 := Lib.hid (B0.out.trans (b1.mono B0.out.size)); obtain ⟨x0, x1, x2, x3⟩ := K1.out; clear b1)
    | (go_at_call 18; (with_reducible refine (RH.out _).mono ?_); rintro e w1 ⟨rfl, b1⟩; have K1 := Lib.hid (K1.out.below b1); have B1 := Lib.hid (B1.out.trans (b1.mono B1.out.size)); clear x0 x1 x2 x3; obtain ⟨x0, x1, x2, x3⟩ := K1.out; clear b1)
    | (go_at_call 21; (with_reducible refine (PH.out _).mono ?_)))
  rintro e w4 ⟨v, rfl, o1⟩
  obtain ⟨pa, pc, hv, hcells⟩ := o1.opl
  rw [← HN.out] at hv
  subst hv
  have K1 := Lib.hid (K1.out.below o1.bl)
  have B1 := Lib.hid (B1.out.trans (o1.bl.mono B1.out.size))
  have QO := Lib.hid hcells
  clear x0 x1 x2 x3 o1 hcells
  go_wp2
  go_loopw [11] (fun s wr => ∃ k : Nat, s = .int .i64 k ∧ k ≤ N ∧ Hid (Ir wr w4.heap.size 5 (fun j => Ed.cnt j (L.take k))) ∧ Hid (Sv w4.heap.size (w4.alloc (.cells #[.int .i64 0, .int .i64 0, .int .i64 0, .int .i64 0, .int .i64 0, .int .i64 0] 54)) wr)) (fun s _ => N - (intOf s).toNat)
  case atStart => exact ⟨0, rfl, Nat.zero_le _, many_start w4 _, Sv.refl _ _⟩
  case round =>
    obtain ⟨k, rfl, hk, R, SV⟩ := hrel
    by_cases hlt : k < N
    · have kl : k < L.length := by rw [← HN.out]; exact hlt
      obtain ⟨b, off, rfl, g1⟩ := QO.out.resolve_left (by intro e; rw [e] at kl; simp at kl)
      obtain ⟨x0, x1⟩ := g1 k kl
      have x0 := SV.out.cell (by have := World.block_lt_of_cell? _ _ x0; simp at this; simp; omega) (((Below.refl w4.heap.size w4).alloc (Nat.le_refl _) _).cell (World.block_lt_of_cell? _ _ x0) |>.trans x0)
      have x1 := SV.out.cell (by have := World.block_lt_of_cell? _ _ x1; simp at this; simp; omega) (((Below.refl w4.heap.size w4).alloc (Nat.le_refl _) _).cell (World.block_lt_of_cell? _ _ x1) |>.trans x1)
      have kq := KK.out _ (List.getElem_mem kl)
      have yq := KB.out _ (List.getElem_mem kl)
      have TK : L.take (k + 1) = L.take k ++ [L[k]] := List.take_succ_eq_append_getElem kl
      obtain ⟨o, ho⟩ : ∃ o, o = L[k] := ⟨_, rfl⟩
      rw [← ho] at x0 x1 kq yq TK
      have T2 := Lib.hid TK
      have cb := Ed.cnt_bd o.k (L.take k)
      rw [List.length_take] at cb
      obtain ⟨q, hq⟩ : ∃ q, q = o.k := ⟨_, rfl⟩
      have rc := R.out.cell (j := q) (by omega)
      have rf := R.out.free q
      rw [← hq] at x0 kq yq cb
      have cb2 : 0 ≤ Ed.cnt q (L.take k) ∧ Ed.cnt q (L.take k) ≤ 120 := by omega
      have NX : Hid (Ir (wr.setCell ⟨w4.heap.size, q, none⟩ (.int .i64 (Ed.cnt q (L.take k) + 1))) w4.heap.size 5 (fun j => Ed.cnt j (L.take (k + 1)))) := by
        refine (R.out.put q _).congr fun j _ => ?_
        show (if j = q then Ed.cnt q (L.take k) + 1 else Ed.cnt j (L.take k)) = Ed.cnt j (L.take (k + 1))
        rw [TK, Ed.cnt_snoc, ← hq]
        by_cases e : j = q
        · subst e; rw [if_pos rfl, if_pos rfl]
        · rw [if_neg e, if_neg (fun h => e h.symm), Int.add_zero]
      obtain ⟨z, hz⟩ : ∃ z, z = Ed.cnt q (L.take k) := ⟨_, rfl⟩
      rw [← hz] at rc NX cb2
      have YQ : ((o.b.toNat : Nat) : Int) = 0 ∨ (((o.b.toNat : Nat) : Int) ≠ 0 ∧ (q = 2 ∨ q = 5)) := by
        rcases yq with h | h
        · left; rw [h]; rfl
        · by_cases e : ((o.b.toNat : Nat) : Int) = 0
          · exact Or.inl e
          · exact Or.inr ⟨e, h⟩
      obtain ⟨y, hy⟩ : ∃ y : Int, y = ((o.b.toNat : Nat) : Int) := ⟨_, rfl⟩
      rw [← hy] at x1 YQ
      clear hy hz yq cb hq ho TK T2 g1
      rcases YQ with rfl | ⟨hy, rfl | rfl⟩
      all_goals
        go_wp2
        go_roundw
        case rel => exact ⟨k + 1, by go_num, by omega, NX.out, SV.out.trans (Sv.set _ _ _ _)⟩
        case measure => simp [intOf]; omega
    · obtain rfl : k = N := by omega
      have tk : L.take k = L := by rw [HN.out]; exact List.take_length
      have R := R.out
      rw [tk] at R
      have BW := ((Below.refl w4.heap.size w4).alloc (Nat.le_refl _) (.cells #[.int .i64 0, .int .i64 0, .int .i64 0, .int .i64 0, .int .i64 0, .int .i64 0] 54)).trans (SV.out.below (Nat.le_refl _) (by simp))
      have K2 := K1.out.below BW
      have B2 := Lib.hid (B1.out.trans (BW.mono B1.out.size))
      obtain ⟨x0, x1, x2, x3⟩ := K2
      have n1 := R.cell (j := 1) (by omega)
      have n2 := R.cell (j := 2) (by omega)
      have n3 := R.cell (j := 3) (by omega)
      have n4 := R.cell (j := 4) (by omega)
      have n5 := R.cell (j := 5) (by omega)
      have S1 := S1.out
      have S2 := S2.out
      have CC := CC.out
      have lb := HN.out
      have c1 := Ed.cnt_bd 1 L
      have c2 := Ed.cnt_bd 2 L
      have c3 := Ed.cnt_bd 3 L
      have c4 := Ed.cnt_bd 4 L
      have c5 := Ed.cnt_bd 5 L
      obtain ⟨N1, h1⟩ : ∃ x, x = Ed.cnt 1 L := ⟨_, rfl⟩
      obtain ⟨N2, h2⟩ : ∃ x, x = Ed.cnt 2 L := ⟨_, rfl⟩
      obtain ⟨N3, h3⟩ : ∃ x, x = Ed.cnt 3 L := ⟨_, rfl⟩
      obtain ⟨N4, h4⟩ : ∃ x, x = Ed.cnt 4 L := ⟨_, rfl⟩
      obtain ⟨N5, h5⟩ : ∃ x, x = Ed.cnt 5 L := ⟨_, rfl⟩
      rw [← h1] at n1 S1 S2 c1
      rw [← h2] at n2 S1 S2 CC c2
      rw [← h3] at n3 S1 S2 CC c3
      rw [← h4] at n4 S1 CC c4
      rw [← h5] at n5 S2 CC c5
      have HC := CR.out
      unfold Ed.Rc at HC
      have p2 := prod_bd (n := N2) (x := c.chg) (by omega) (by omega) (by omega) (by omega)
      have p3 := prod_bd (n := N3) (x := c.swp) (by omega) (by omega) (by omega) (by omega)
      have p4 := prod_bd (n := N4) (x := c.del) (by omega) (by omega) (by omega) (by omega)
      have p5 := prod_bd (n := N5) (x := c.ins) (by omega) (by omega) (by omega) (by omega)
      obtain ⟨lo, hlo⟩ : ∃ x, x = min (A.size : Int) B.size := ⟨_, rfl⟩
      obtain ⟨hi, hhi⟩ : ∃ x, x = max (A.size : Int) B.size := ⟨_, rfl⟩
      have q1 : (N1 + N2 + 2 * N3 + N4 == (A.size : Int)) = true := by rw [S1]; exact beq_self_eq_true _
      have q2 : (N1 + N2 + 2 * N3 + N5 == (B.size : Int)) = true := by rw [S2]; exact beq_self_eq_true _
      have q3 : (N2 * c.chg + N3 * c.swp + N4 * c.del + N5 * c.ins == n) = true := by rw [CC]; exact beq_self_eq_true _
      have q4 : hi - lo ≤ m := by omega
      have q5 : m ≤ hi := by omega
      clear h1 h2 h3 h4 h5 R BW K1 SV tk
      go_wp2_with (first
        | (go_at_call 14; (with_reducible refine (O1.out _).mono ?_); rintro e w5 ⟨rfl, b5⟩; have n1 := below_cell b5 n1; have n2 := below_cell b5 n2; have n3 := below_cell b5 n3; have n4 := below_cell b5 n4; have n5 := below_cell b5 n5; have B2 := Lib.hid (B2.out.trans (b5.mono B2.out.size)); clear x0 x1 x2 x3 b5)
        | (go_at_call 16; (with_reducible refine (DH.out _).mono ?_); rintro e w6 ⟨rfl, b5⟩; have n1 := below_cell b5 n1; have n2 := below_cell b5 n2; have n3 := below_cell b5 n3; have n4 := below_cell b5 n4; have n5 := below_cell b5 n5; have B2 := Lib.hid (B2.out.trans (b5.mono B2.out.size)); clear b5))
      go_ret
      exact ⟨rfl, B2.out⟩
theorem walk_editFew (w : World) (a : ByteArray) (_ha : a.size ≤ maxLen) (b : ByteArray) (_hb : b.size ≤ maxLen) (c : Ed.Cs) :
    Calls Try.prog 10 #[.string a, .string b, cv c] w fun e w' => e = .returned (.bool true) ∧ Below w.heap.size w w' := by
  show Calls Try.prog 10 #[sb a.data.toList, sb b.data.toList, cv c] w _
  by_cases h : a.data.toList.length ≤ 60 ∧ b.data.toList.length ≤ 60
  · by_cases hc : Ed.Rc c
    · exact few_ok _ _ c w h.1 h.2 hc
    · exact few_bad _ _ c w h.1 h.2 hc
  · exact few_no _ _ c w (by omega)
end Go.Proofs.Ytalldnnegofdkaa
