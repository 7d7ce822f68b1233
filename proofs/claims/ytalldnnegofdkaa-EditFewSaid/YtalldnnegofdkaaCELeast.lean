/- EditLeast's walk: no script costs less than the distance, and the path is the first of those that cost as much. -/
import Derived.Test.YtalldnnegofdkaaCEMirror
import Derived.Test.YtalldnnegofdkaaEq
namespace Go.Proofs.Ytalldnnegofdkaa
open Go.RowKit Go.Shelf

theorem Ed.tn_kok {l : List Ed.Op} {x y : Ed.Bs} (h : Ed.Tn l x y) : Ed.kok l := by
  induction h with
  | nil => intro o ho; simp at ho
  | cons k x y l hf _ ih =>
    intro o ho
    rcases List.mem_cons.1 ho with rfl | ho
    · exact Ed.ft_kind hf
    · exact ih o ho
theorem Ed.csV_tn {c : Ed.Cs} {l : List Ed.Op} {x y : Ed.Bs} (h : Ed.Tn l x y) : Ed.csV c l = (Ed.cost c l, 0) := by
  unfold Ed.csV
  rw [if_pos (Ed.tn_kok h)]
theorem Ed.apV_tn {l : List Ed.Op} {x y : Ed.Bs} (h : Ed.Tn l x y) : Ed.apV l x = (y, 0) := by
  unfold Ed.apV
  rw [Ed.tn_ap h]
theorem Ed.apV_cases (l : List Ed.Op) (x : Ed.Bs) : Ed.apV l x = ([], 60) ∨ ∃ y, Ed.apV l x = (y, 0) ∧ Ed.Tn l x y := by
  unfold Ed.apV
  cases h : Ed.ap l x with
  | none => exact Or.inl rfl
  | some y => exact Or.inr ⟨y, rfl, Ed.ap_tn h⟩
theorem kind_le {l : List Ed.Op} (h : Ed.kok l) : ∀ o ∈ l, o.k ≤ 255 := fun o ho => by have := h o ho; omega
set_option maxRecDepth 100000 in
set_option maxHeartbeats 6400000 in
theorem least_s (s : Ed.Bs) (l : List Ed.Op) (a0 : Option Addr) (cp : Nat) (c : Ed.Cs) (w : World) (h : 60 < s.length) :
    Calls Try.prog 6 #[sb s, .slice a0 l.length cp, cv c] w fun e w' => e = .returned (.bool true) ∧ Below w.heap.size w w' := by
  have AW := Lib.hid awake_any
  have B0 := Lib.hid (show Below w.heap.size w (w.alloc (.cells #[.int .i64 c.ins, .int .i64 c.del, .int .i64 c.chg, .int .i64 c.swp] 23)) from (Below.refl _ _).alloc (Nat.le_refl _) _)
  have K0 := Lib.hid (Bxc.made w c)
  have SA := Ed.size_is s
  obtain ⟨A, hA⟩ : ∃ A : ByteArray, A = ⟨s.toArray⟩ := ⟨_, rfl⟩
  obtain ⟨n, hn⟩ : ∃ n, n = l.length := ⟨_, rfl⟩
  have e3 : sb s = .string A := by rw [hA]
  rw [← SA, ← hA] at h
  rw [e3, ← hn]
  clear hA hn SA e3
  go_enter Try.func6, Try.ntmps6
  go_wp2_with (go_at_call 11; (with_reducible refine (AW.out _).mono ?_); rintro e w1 ⟨rfl, b1⟩; have K1 := Lib.hid (K0.out.below b1); have B1 := Lib.hid (B0.out.trans (b1.mono B0.out.size)); obtain ⟨x0, x1, x2, x3⟩ := K1.out; clear b1)
  go_ret
  exact ⟨rfl, B1.out⟩
set_option maxRecDepth 100000 in
set_option maxHeartbeats 6400000 in
theorem least_l (s : Ed.Bs) (l : List Ed.Op) (a0 : Option Addr) (cp : Nat) (c : Ed.Cs) (w : World) (hs : s.length ≤ 60) (h : 120 < l.length) :
    Calls Try.prog 6 #[sb s, .slice a0 l.length cp, cv c] w fun e w' => e = .returned (.bool true) ∧ Below w.heap.size w w' := by
  have AW := Lib.hid awake_any
  have B0 := Lib.hid (show Below w.heap.size w (w.alloc (.cells #[.int .i64 c.ins, .int .i64 c.del, .int .i64 c.chg, .int .i64 c.swp] 23)) from (Below.refl _ _).alloc (Nat.le_refl _) _)
  have K0 := Lib.hid (Bxc.made w c)
  have SA := Ed.size_is s
  obtain ⟨A, hA⟩ : ∃ A : ByteArray, A = ⟨s.toArray⟩ := ⟨_, rfl⟩
  obtain ⟨n, hn⟩ : ∃ n, n = l.length := ⟨_, rfl⟩
  have e3 : sb s = .string A := by rw [hA]
  rw [← SA, ← hA] at hs
  rw [← hn] at h
  rw [e3, ← hn]
  clear hA hn SA e3
  go_enter Try.func6, Try.ntmps6
  go_wp2_with (go_at_call 11; (with_reducible refine (AW.out _).mono ?_); rintro e w1 ⟨rfl, b1⟩; have K1 := Lib.hid (K0.out.below b1); have B1 := Lib.hid (B0.out.trans (b1.mono B0.out.size)); obtain ⟨x0, x1, x2, x3⟩ := K1.out; clear b1)
  go_ret
  exact ⟨rfl, B1.out⟩
set_option maxRecDepth 100000 in
set_option maxHeartbeats 6400000 in
theorem least_c (s : Ed.Bs) (l : List Ed.Op) (a0 : Option Addr) (cp : Nat) (c : Ed.Cs) (w : World) (hs : s.length ≤ 60) (hl : l.length ≤ 120) (hc : ¬ Ed.Rc c) :
    Calls Try.prog 6 #[sb s, .slice a0 l.length cp, cv c] w fun e w' => e = .returned (.bool true) ∧ Below w.heap.size w w' := by
  have AW := Lib.hid awake_any
  have B0 := Lib.hid (show Below w.heap.size w (w.alloc (.cells #[.int .i64 c.ins, .int .i64 c.del, .int .i64 c.chg, .int .i64 c.swp] 23)) from (Below.refl _ _).alloc (Nat.le_refl _) _)
  have K0 := Lib.hid (Bxc.made w c)
  have SA := Ed.size_is s
  obtain ⟨A, hA⟩ : ∃ A : ByteArray, A = ⟨s.toArray⟩ := ⟨_, rfl⟩
  obtain ⟨n, hn⟩ : ∃ n, n = l.length := ⟨_, rfl⟩
  have e3 : sb s = .string A := by rw [hA]
  rw [← SA, ← hA] at hs
  rw [← hn] at hl
  have RA := right_any c
  rw [rcb_no hc] at RA
  have RH := Lib.hid RA
  rw [e3, ← hn]
  clear hA hn SA e3 RA hc
  go_enter Try.func6, Try.ntmps6
  go_wp2_with (first
    | (go_at_call 11; (with_reducible refine (AW.out _).mono ?_); rintro e w1 ⟨rfl, b1⟩; have K1 := Lib.hid (K0.out.below b1); have B1 := Lib.hid (B0.out.trans (b1.mono B0.out.size)); obtain ⟨x0, x1, x2, x3⟩ := K1.out; clear b1)
    | (go_at_call 18; (with_reducible refine (RH.out _).mono ?_); rintro e w1 ⟨rfl, b1⟩; have K1 := Lib.hid (K1.out.below b1); have B1 := Lib.hid (B1.out.trans (b1.mono B1.out.size)); clear x0 x1 x2 x3; obtain ⟨x0, x1, x2, x3⟩ := K1.out; clear b1))
  go_ret
  exact ⟨rfl, B1.out⟩
set_option maxRecDepth 100000 in
set_option maxHeartbeats 6400000 in
theorem least_e (s : Ed.Bs) (l : List Ed.Op) (a0 : Option Addr) (cp : Nat) (c : Ed.Cs) (w : World) (hs : s.length ≤ 60) (hl : l.length ≤ 120) (hc : Ed.Rc c) (hk : ∀ o ∈ l, o.k ≤ 255) (ho : Opl w (.slice a0 l.length cp) l) (he : Ed.apV l s = ([], 60)) :
    Calls Try.prog 6 #[sb s, .slice a0 l.length cp, cv c] w fun e w' => e = .returned (.bool true) ∧ Below w.heap.size w w' := by
  have AW := Lib.hid awake_any
  have B0 := Lib.hid (show Below w.heap.size w (w.alloc (.cells #[.int .i64 c.ins, .int .i64 c.del, .int .i64 c.chg, .int .i64 c.swp] 23)) from (Below.refl _ _).alloc (Nat.le_refl _) _)
  have K0 := Lib.hid (Bxc.made w c)
  have SA := Ed.size_is s
  obtain ⟨A, hA⟩ : ∃ A : ByteArray, A = ⟨s.toArray⟩ := ⟨_, rfl⟩
  obtain ⟨n, hn⟩ : ∃ n, n = l.length := ⟨_, rfl⟩
  have e3 : sb s = .string A := by rw [hA]
  have RA := right_any c
  rw [rcb_yes hc] at RA
  have RH := Lib.hid RA
  have zs : A.size ≤ 60 := by rw [hA, SA]; exact hs
  have AP := fun W h => apply_ok s l (.slice a0 l.length cp) W hs hl hk h
  have HO := Lib.hid ho
  rw [he, e3] at AP
  rw [← hn] at AP HO hl
  have APH := Lib.hid AP
  rw [e3, ← hn]
  clear hA hn SA e3 RA hc AP he ho hs hk
  go_enter Try.func6, Try.ntmps6
  go_wp2_with (first
    | (go_at_call 11; (with_reducible refine (AW.out _).mono ?_); rintro e w1 ⟨rfl, b1⟩; have K1 := Lib.hid (K0.out.below b1); have B1 := Lib.hid (B0.out.trans (b1.mono B0.out.size)); obtain ⟨x0, x1, x2, x3⟩ := K1.out; clear b1)
    | (go_at_call 18; (with_reducible refine (RH.out _).mono ?_); rintro e w1 ⟨rfl, b1⟩; have K1 := Lib.hid (K1.out.below b1); have B1 := Lib.hid (B1.out.trans (b1.mono B1.out.size)); clear x0 x1 x2 x3; obtain ⟨x0, x1, x2, x3⟩ := K1.out; clear b1)
    | (go_at_call 19; (with_reducible refine (APH.out _ (HO.out.below B1.out)).mono ?_); rintro e w1 ⟨rfl, b1⟩; have K1 := Lib.hid (K1.out.below b1); have B1 := Lib.hid (B1.out.trans (b1.mono B1.out.size)); clear x0 x1 x2 x3; obtain ⟨x0, x1, x2, x3⟩ := K1.out; clear b1))
  go_ret
  exact ⟨rfl, B1.out⟩
set_option maxRecDepth 100000 in
set_option maxHeartbeats 6400000 in
theorem least_t (s : Ed.Bs) (l : List Ed.Op) (a0 : Option Addr) (cp : Nat) (c : Ed.Cs) (w : World) (y : Ed.Bs) (hs : s.length ≤ 60) (hl : l.length ≤ 120) (hc : Ed.Rc c) (hk : ∀ o ∈ l, o.k ≤ 255) (ho : Opl w (.slice a0 l.length cp) l) (he : Ed.apV l s = (y, 0)) (hy : 60 < y.length) :
    Calls Try.prog 6 #[sb s, .slice a0 l.length cp, cv c] w fun e w' => e = .returned (.bool true) ∧ Below w.heap.size w w' := by
  have AW := Lib.hid awake_any
  have B0 := Lib.hid (show Below w.heap.size w (w.alloc (.cells #[.int .i64 c.ins, .int .i64 c.del, .int .i64 c.chg, .int .i64 c.swp] 23)) from (Below.refl _ _).alloc (Nat.le_refl _) _)
  have K0 := Lib.hid (Bxc.made w c)
  have SA := Ed.size_is s
  obtain ⟨A, hA⟩ : ∃ A : ByteArray, A = ⟨s.toArray⟩ := ⟨_, rfl⟩
  obtain ⟨n, hn⟩ : ∃ n, n = l.length := ⟨_, rfl⟩
  have e3 : sb s = .string A := by rw [hA]
  have RA := right_any c
  rw [rcb_yes hc] at RA
  have RH := Lib.hid RA
  have zs : A.size ≤ 60 := by rw [hA, SA]; exact hs
  have AP := fun W h => apply_ok s l (.slice a0 l.length cp) W hs hl hk h
  have HO := Lib.hid ho
  rw [he, e3] at AP
  have SY := Ed.size_is y
  obtain ⟨Y, hY⟩ : ∃ A : ByteArray, A = ⟨y.toArray⟩ := ⟨_, rfl⟩
  have e5 : sb y = .string Y := by rw [hY]
  have zy : 60 < Y.size := by rw [hY, SY]; exact hy
  have AP : ∀ W, Opl W (.slice a0 l.length cp) l → Calls Try.prog 19 #[.string A, .slice a0 l.length cp] W fun e w' => e = .returned (.tuple #[sb y, .int .i64 0]) ∧ Below W.heap.size W w' := AP
  rw [e5] at AP
  rw [← hn] at AP HO hl
  have APH := Lib.hid AP
  rw [e3, ← hn]
  clear hA hn SA e3 RA hc AP he ho hs hk SY hY e5 hy
  go_enter Try.func6, Try.ntmps6
  go_wp2_with (first
    | (go_at_call 11; (with_reducible refine (AW.out _).mono ?_); rintro e w1 ⟨rfl, b1⟩; have K1 := Lib.hid (K0.out.below b1); have B1 := Lib.hid (B0.out.trans (b1.mono B0.out.size)); obtain ⟨x0, x1, x2, x3⟩ := K1.out; clear b1)
    | (go_at_call 18; (with_reducible refine (RH.out _).mono ?_); rintro e w1 ⟨rfl, b1⟩; have K1 := Lib.hid (K1.out.below b1); have B1 := Lib.hid (B1.out.trans (b1.mono B1.out.size)); clear x0 x1 x2 x3; obtain ⟨x0, x1, x2, x3⟩ := K1.out; clear b1)
    | (go_at_call 19; (with_reducible refine (APH.out _ (HO.out.below B1.out)).mono ?_); rintro e w1 ⟨rfl, b1⟩; have K1 := Lib.hid (K1.out.below b1); have B1 := Lib.hid (B1.out.trans (b1.mono B1.out.size)); clear x0 x1 x2 x3; obtain ⟨x0, x1, x2, x3⟩ := K1.out; clear b1))
  go_ret
  exact ⟨rfl, B1.out⟩
set_option maxRecDepth 100000 in
set_option maxHeartbeats 6400000 in
theorem least_ok (s : Ed.Bs) (l : List Ed.Op) (a0 : Option Addr) (cp : Nat) (c : Ed.Cs) (w : World) (y : Ed.Bs) (hs : s.length ≤ 60) (hl : l.length ≤ 120) (hc : Ed.Rc c) (hk : ∀ o ∈ l, o.k ≤ 255) (ho : Opl w (.slice a0 l.length cp) l) (he : Ed.apV l s = (y, 0)) (hy : y.length ≤ 60) (ht : Ed.Tn l s y) :
    Calls Try.prog 6 #[sb s, .slice a0 l.length cp, cv c] w fun e w' => e = .returned (.bool true) ∧ Below w.heap.size w w' := by
  have AW := Lib.hid awake_any
  have B0 := Lib.hid (show Below w.heap.size w (w.alloc (.cells #[.int .i64 c.ins, .int .i64 c.del, .int .i64 c.chg, .int .i64 c.swp] 23)) from (Below.refl _ _).alloc (Nat.le_refl _) _)
  have K0 := Lib.hid (Bxc.made w c)
  have SA := Ed.size_is s
  obtain ⟨A, hA⟩ : ∃ A : ByteArray, A = ⟨s.toArray⟩ := ⟨_, rfl⟩
  obtain ⟨n, hn⟩ : ∃ n, n = l.length := ⟨_, rfl⟩
  have e3 : sb s = .string A := by rw [hA]
  have RA := right_any c
  rw [rcb_yes hc] at RA
  have RH := Lib.hid RA
  have zs : A.size ≤ 60 := by rw [hA, SA]; exact hs
  have AP := fun W h => apply_ok s l (.slice a0 l.length cp) W hs hl hk h
  have CL := fun W h => cost_ok l (.slice a0 l.length cp) c hc W hl hk h
  rw [Ed.csV_tn ht] at CL
  have D1 := distance_ok c hc s y hs hy
  have P1 := path_ok c hc s y hs hy
  obtain ⟨pt, pc, pl⟩ := Ed.ds_path hc hs hy
  have AP2 := fun W v h => apply_ok s (Ed.path c s y) v W hs pl (kind_le (Ed.tn_kok pt)) h
  have CP2 := fun W v h => cost_ok (Ed.path c s y) v c hc W pl (kind_le (Ed.tn_kok pt)) h
  rw [Ed.csV_tn pt, pc] at CP2
  rw [Ed.apV_tn pt] at AP2
  have BR := fun W v h1 h2 => before_any v (.slice a0 l.length cp) (Ed.path c s y) l W h1 h2 (by omega) (by omega)
  have hm := Ed.least (c := c) ht
  have hf := Ed.path_first (c := c) ht (s.length + y.length)
  obtain ⟨d, hd⟩ : ∃ d, d = Ed.ds c s y := ⟨_, rfl⟩
  obtain ⟨m, hmm⟩ : ∃ m, m = Ed.cost c l := ⟨_, rfl⟩
  obtain ⟨L, hL⟩ : ∃ L, L = Ed.path c s y := ⟨_, rfl⟩
  have hf2 : m = d → Ed.bef L l = true := by rw [hmm, hd, hL]; exact hf
  rw [← hd] at D1 P1 CP2 hm
  rw [← hmm] at CL hm
  rw [← hL] at P1 AP2 CP2 BR
  have SY := Ed.size_is y
  obtain ⟨Y, hY⟩ : ∃ A : ByteArray, A = ⟨y.toArray⟩ := ⟨_, rfl⟩
  have e5 : sb y = .string Y := by rw [hY]
  have zy : ¬ 60 < Y.size := by rw [hY, SY]; omega
  rw [he, e3] at AP
  rw [e3] at AP2
  have AP : ∀ W, Opl W (.slice a0 l.length cp) l → Calls Try.prog 19 #[.string A, .slice a0 l.length cp] W fun e w' => e = .returned (.tuple #[sb y, .int .i64 0]) ∧ Below W.heap.size W w' := AP
  have AP2 : ∀ W v, Opl W v L → Calls Try.prog 19 #[.string A, v] W fun e w' => e = .returned (.tuple #[sb y, .int .i64 0]) ∧ Below W.heap.size W w' := AP2
  have CL : ∀ W, Opl W (.slice a0 l.length cp) l → Calls Try.prog 20 #[.slice a0 l.length cp, cv c] W fun e w' => e = .returned (.tuple #[.int .i64 m, .int .i64 0]) ∧ Below W.heap.size W w' := CL
  have CP2 : ∀ W v, Opl W v L → Calls Try.prog 20 #[v, cv c] W fun e w' => e = .returned (.tuple #[.int .i64 d, .int .i64 0]) ∧ Below W.heap.size W w' := CP2
  rw [e5] at AP AP2
  rw [e3, e5] at D1 P1
  have HO := Lib.hid ho
  rw [← hn] at AP CL HO hl BR
  have APH := Lib.hid AP
  have CLH := Lib.hid CL
  have DH := Lib.hid D1
  have PH := Lib.hid P1
  have APP := Lib.hid AP2
  have CPP := Lib.hid CP2
  have BB := Lib.hid BR
  have BFH := Lib.hid hf2
  rw [e3, ← hn]
  clear hA hn SA e3 RA hc AP he ho hs hk SY hY e5 hy CL D1 P1 pt pc pl AP2 CP2 BR hf hf2 hd hmm hL ht
  by_cases hd : d < m
  · go_enter Try.func6, Try.ntmps6
    go_wp2_with (first
      | (go_at_call 11; (with_reducible refine (AW.out _).mono ?_); rintro e w1 ⟨rfl, b1⟩; have K1 := Lib.hid (K0.out.below b1); have B1 := Lib.hid (B0.out.trans (b1.mono B0.out.size)); obtain ⟨x0, x1, x2, x3⟩ := K1.out; clear b1)
      | (go_at_call 18; (with_reducible refine (RH.out _).mono ?_); rintro e w1 ⟨rfl, b1⟩; have K1 := Lib.hid (K1.out.below b1); have B1 := Lib.hid (B1.out.trans (b1.mono B1.out.size)); clear x0 x1 x2 x3; obtain ⟨x0, x1, x2, x3⟩ := K1.out; clear b1)
      | (go_at_call 19; (with_reducible refine (APH.out _ (HO.out.below B1.out)).mono ?_); rintro e w1 ⟨rfl, b1⟩; have K1 := Lib.hid (K1.out.below b1); have B1 := Lib.hid (B1.out.trans (b1.mono B1.out.size)); clear x0 x1 x2 x3; obtain ⟨x0, x1, x2, x3⟩ := K1.out; clear b1)
      | (go_at_call 20; (with_reducible refine (CLH.out _ (HO.out.below B1.out)).mono ?_); rintro e w1 ⟨rfl, b1⟩; have K1 := Lib.hid (K1.out.below b1); have B1 := Lib.hid (B1.out.trans (b1.mono B1.out.size)); clear x0 x1 x2 x3; obtain ⟨x0, x1, x2, x3⟩ := K1.out; clear b1)
      | (go_at_call 16; (with_reducible refine (DH.out _).mono ?_); rintro e w1 ⟨rfl, b1⟩; have K1 := Lib.hid (K1.out.below b1); have B1 := Lib.hid (B1.out.trans (b1.mono B1.out.size)); clear x0 x1 x2 x3; obtain ⟨x0, x1, x2, x3⟩ := K1.out; clear b1)
      | (go_at_call 21; (with_reducible refine (PH.out _).mono ?_); rintro e w1 ⟨v, rfl, o1⟩; obtain ⟨pa, pc, rfl, -⟩ := o1.opl; have QO := Lib.hid o1.opl; have b1 := o1.bl; clear o1; have K1 := Lib.hid (K1.out.below b1); have B1 := Lib.hid (B1.out.trans (b1.mono B1.out.size)); clear x0 x1 x2 x3; obtain ⟨x0, x1, x2, x3⟩ := K1.out; clear b1)
      | (go_at_call 19; (with_reducible refine (APP.out _ _ QO.out).mono ?_); rintro e w1 ⟨rfl, b1⟩; have QO := Lib.hid (QO.out.below b1); have K1 := Lib.hid (K1.out.below b1); have B1 := Lib.hid (B1.out.trans (b1.mono B1.out.size)); clear x0 x1 x2 x3; obtain ⟨x0, x1, x2, x3⟩ := K1.out; clear b1)
      | (go_at_call 20; (with_reducible refine (CPP.out _ _ QO.out).mono ?_); rintro e w1 ⟨rfl, b1⟩; have QO := Lib.hid (QO.out.below b1); have K1 := Lib.hid (K1.out.below b1); have B1 := Lib.hid (B1.out.trans (b1.mono B1.out.size)); clear x0 x1 x2 x3; obtain ⟨x0, x1, x2, x3⟩ := K1.out; clear b1)
      | (go_at_call 22; (with_reducible refine (BB.out _ _ QO.out (HO.out.below B1.out)).mono ?_); rw [BH.out]; rintro e w1 ⟨rfl, b1⟩; have K1 := Lib.hid (K1.out.below b1); have B1 := Lib.hid (B1.out.trans (b1.mono B1.out.size)); clear x0 x1 x2 x3; obtain ⟨x0, x1, x2, x3⟩ := K1.out; clear b1))
    go_ret
    exact ⟨rfl, B1.out⟩
  · obtain rfl : m = d := by omega
    have BF := BFH.out rfl
    have BH := Lib.hid BF
    clear BF BFH
    go_enter Try.func6, Try.ntmps6
    go_wp2_with (first
      | (go_at_call 11; (with_reducible refine (AW.out _).mono ?_); rintro e w1 ⟨rfl, b1⟩; have K1 := Lib.hid (K0.out.below b1); have B1 := Lib.hid (B0.out.trans (b1.mono B0.out.size)); obtain ⟨x0, x1, x2, x3⟩ := K1.out; clear b1)
      | (go_at_call 18; (with_reducible refine (RH.out _).mono ?_); rintro e w1 ⟨rfl, b1⟩; have K1 := Lib.hid (K1.out.below b1); have B1 := Lib.hid (B1.out.trans (b1.mono B1.out.size)); clear x0 x1 x2 x3; obtain ⟨x0, x1, x2, x3⟩ := K1.out; clear b1)
      | (go_at_call 19; (with_reducible refine (APH.out _ (HO.out.below B1.out)).mono ?_); rintro e w1 ⟨rfl, b1⟩; have K1 := Lib.hid (K1.out.below b1); have B1 := Lib.hid (B1.out.trans (b1.mono B1.out.size)); clear x0 x1 x2 x3; obtain ⟨x0, x1, x2, x3⟩ := K1.out; clear b1)
      | (go_at_call 20; (with_reducible refine (CLH.out _ (HO.out.below B1.out)).mono ?_); rintro e w1 ⟨rfl, b1⟩; have K1 := Lib.hid (K1.out.below b1); have B1 := Lib.hid (B1.out.trans (b1.mono B1.out.size)); clear x0 x1 x2 x3; obtain ⟨x0, x1, x2, x3⟩ := K1.out; clear b1)
      | (go_at_call 16; (with_reducible refine (DH.out _).mono ?_); rintro e w1 ⟨rfl, b1⟩; have K1 := Lib.hid (K1.out.below b1); have B1 := Lib.hid (B1.out.trans (b1.mono B1.out.size)); clear x0 x1 x2 x3; obtain ⟨x0, x1, x2, x3⟩ := K1.out; clear b1)
      | (go_at_call 21; (with_reducible refine (PH.out _).mono ?_); rintro e w1 ⟨v, rfl, o1⟩; obtain ⟨pa, pc, rfl, -⟩ := o1.opl; have QO := Lib.hid o1.opl; have b1 := o1.bl; clear o1; have K1 := Lib.hid (K1.out.below b1); have B1 := Lib.hid (B1.out.trans (b1.mono B1.out.size)); clear x0 x1 x2 x3; obtain ⟨x0, x1, x2, x3⟩ := K1.out; clear b1)
      | (go_at_call 19; (with_reducible refine (APP.out _ _ QO.out).mono ?_); rintro e w1 ⟨rfl, b1⟩; have QO := Lib.hid (QO.out.below b1); have K1 := Lib.hid (K1.out.below b1); have B1 := Lib.hid (B1.out.trans (b1.mono B1.out.size)); clear x0 x1 x2 x3; obtain ⟨x0, x1, x2, x3⟩ := K1.out; clear b1)
      | (go_at_call 20; (with_reducible refine (CPP.out _ _ QO.out).mono ?_); rintro e w1 ⟨rfl, b1⟩; have QO := Lib.hid (QO.out.below b1); have K1 := Lib.hid (K1.out.below b1); have B1 := Lib.hid (B1.out.trans (b1.mono B1.out.size)); clear x0 x1 x2 x3; obtain ⟨x0, x1, x2, x3⟩ := K1.out; clear b1)
      | (go_at_call 22; (with_reducible refine (BB.out _ _ QO.out (HO.out.below B1.out)).mono ?_); rw [BH.out]; rintro e w1 ⟨rfl, b1⟩; have K1 := Lib.hid (K1.out.below b1); have B1 := Lib.hid (B1.out.trans (b1.mono B1.out.size)); clear x0 x1 x2 x3; obtain ⟨x0, x1, x2, x3⟩ := K1.out; clear b1))
    go_ret
    exact ⟨rfl, B1.out⟩
theorem walk_editLeast (w : World) (a : ByteArray) (_ha : a.size ≤ maxLen) (v : Value) (l : List Ed.Op) (ho : Opl w v l) (hk : ∀ o ∈ l, o.k ≤ 255) (c : Ed.Cs) :
    Calls Try.prog 6 #[.string a, v, cv c] w fun e w' => e = .returned (.bool true) ∧ Below w.heap.size w w' := by
  have ho2 := ho
  obtain ⟨a0, cp, rfl, -⟩ := ho2
  show Calls Try.prog 6 #[sb a.data.toList, .slice a0 l.length cp, cv c] w _
  by_cases hs : a.data.toList.length ≤ 60
  · by_cases hl : l.length ≤ 120
    · by_cases hc : Ed.Rc c
      · rcases Ed.apV_cases l a.data.toList with he | ⟨y, he, ht⟩
        · exact least_e _ l a0 cp c w hs hl hc hk ho he
        · by_cases hy : y.length ≤ 60
          · exact least_ok _ l a0 cp c w y hs hl hc hk ho he hy ht
          · exact least_t _ l a0 cp c w y hs hl hc hk ho he (by omega)
      · exact least_c _ l a0 cp c w hs hl hc
    · exact least_l _ l a0 cp c w hs (by omega)
  · exact least_s _ l a0 cp c w (by omega)
end Go.Proofs.Ytalldnnegofdkaa
