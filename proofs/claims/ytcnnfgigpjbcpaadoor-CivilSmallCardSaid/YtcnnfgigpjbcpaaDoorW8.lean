/- Contract of civil's day that is so many working days ahead. -/
import Derived.Test.YtcnnfgigpjbcpaaDoorW7
namespace Go.Proofs.YtcnnfgigpjbcpaaDoor
open Go.RowKit
open Go.Sort (grow)

/-- Whether more than n working days are over behind the day that is i days ahead. -/
def pA (zs : List Int) (d n : Int) (i : Nat) : Bool := decide (n < Hol.wb zs (d + i + 1) - Hol.wb zs d)
set_option maxRecDepth 100000 in
set_option maxHeartbeats 1600000 in
theorem aclosure (i : Nat) (pW pD pS pN : Addr) (d n : Int) (zs : List Int) (w : World) (hW : ∃ q, w.cell? pW = some (.func (.func 78) #[] #[.pointer (some q)]) ∧ Wf w q zs)
    (hD : w.cell? pD = some (.int .i64 d)) (hS : w.cell? pS = some (.int .i64 (Hol.wb zs d))) (hN : w.cell? pN = some (.int .i64 n)) (hr : Hol.right zs = true) (h0 : 0 ≤ d) (h1 : d + i ≤ 730484) :
    Calls Tryd.prog 67 #[.int .i64 i, .pointer (some pW), .pointer (some pD), .pointer (some pS), .pointer (some pN)] w fun e w' => e = .returned (.bool (pA zs d n i)) ∧ Qt w w' := by
  obtain ⟨q, hq, hf⟩ := hW
  have HF := Lib.hid (fun m => Wf.below hf (below_drewN (Below.refl w.heap.size w) m))
  have HR := Lib.hid hr
  have b1 := wb_bd hr d h0 (by omega)
  have b2 := wb_bd hr (d + i + 1) (by omega) (by omega)
  clear hr hf
  go_enter Tryd.func67, Tryd.ntmps67
  go_wp2_with fail
  go_quiet ((go_at_call 78; exact quiet_sym (worked_any _ _ zs _ (HF.out _) HR.out (by omega) (by omega))))
  go_wp2
  go_ret
  exact ⟨rfl, ⟨_, rfl⟩⟩
theorem pA_mono {zs : List Int} (hr : Hol.right zs = true) (d n : Int) (a b : Nat) (h : a ≤ b) (ha : pA zs d n a = true) : pA zs d n b = true := by
  have := of_decide_eq_true ha
  have m := Hol.wb_mono zs (Hol.inc_pw zs _ ((Hol.right_iff zs).1 hr).2) (d + a + 1) (d + b + 1) (by omega)
  exact decide_eq_true (by omega)
theorem ret2i {a b c d : Int} (h : a = b) (h' : c = d) : Ending.returned (.tuple #[.int .i64 a, .int .i64 c]) = .returned (.tuple #[.int .i64 b, .int .i64 d]) := by rw [h, h']
theorem grow_nil (w : World) : grow w #[] = w := by show ({ w with heap := w.heap ++ #[] } : World) = w; simp
theorem sortSearch (m k : Nat) (x : Int) (hx : x = m) (pW pD pS pN : Addr) (d n : Int) (zs : List Int) (w : World) (hW : ∃ q, w.cell? pW = some (.func (.func 78) #[] #[.pointer (some q)]) ∧ Wf w q zs)
    (hD : w.cell? pD = some (.int .i64 d)) (hS : w.cell? pS = some (.int .i64 (Hol.wb zs d))) (hN : w.cell? pN = some (.int .i64 n)) (hr : Hol.right zs = true) (h0 : 0 ≤ d) (h1 : d + m ≤ 730485) (hk : k = Hol.ahead zs d n m) :
    Calls Tryd.prog 66 #[.int .i64 x, .func (.func 67) #[] #[.pointer (some pW), .pointer (some pD), .pointer (some pS), .pointer (some pN)]] w fun e w' => e = .returned (.int .i64 k) ∧ Below w.heap.size w w' := by
  subst hx hk
  refine (Any.sort_Search Tryd.search 67 #[.pointer (some pW), .pointer (some pD), .pointer (some pS), .pointer (some pN)] m (pA zs d n) w (enters_of Tryd.func67 (by kernel_rfl) rfl) (by omega) (fun k os i hi => ?_) (fun a b h _ ha => pA_mono hr d n a b h ha)).mono ?_
  · have hb := below_grown_sl w.heap.size w k os (Nat.le_refl _)
    obtain ⟨q, hq, hf⟩ := hW
    have cell : ∀ {p : Addr} {v : Value}, w.cell? p = some v → (grow (w.drewN k) os).cell? p = some v := fun h => (hb.cell (World.block_lt_of_cell? _ _ h)).trans h
    refine (aclosure i pW pD pS pN d n zs _ ⟨q, cell hq, hf.below hb⟩ (cell hD) (cell hS) (cell hN) hr h0 (by omega)).mono fun e w' ⟨he, r, hw⟩ => ⟨he, r, #[], by rw [hw, grow_nil]⟩
  · rintro e w' ⟨rfl, q, os, rfl⟩
    exact ⟨rfl, below_grown_sl _ _ _ _ (Nat.le_refl _)⟩
set_option maxHeartbeats 800000 in
theorem ahead_arg (d n : Int) (v : Value) (zs : List Int) (w : World) (h : Sl w v zs) (hr : Hol.right zs = false ∨ n < 0) :
    Calls Tryd.prog 36 #[.int .i64 d, .int .i64 n, v] w fun e w' => e = .returned (.tuple #[.int .i64 0, .int .i64 2]) ∧ Below w.heap.size w w' := by
  have R := Lib.hid (fun W hb => right_any v zs W (h.below hb))
  clear h
  have hb : Below w.heap.size w ((w.alloc (.cells #[.int .i64 d] 3)).alloc (.cells #[.int .i64 n] 3)) := by go_grown
  have HB := Lib.hid hb
  clear hb
  cases hc : Hol.right zs
  · have R' : Hid (Calls Tryd.prog 40 #[v] ((w.alloc (.cells #[.int .i64 d] 3)).alloc (.cells #[.int .i64 n] 3)) fun e w' => e = .returned (.bool false) ∧ _ = w') := hc ▸ R.out _ HB.out
    clear hr hc R
    go_enter Tryd.func36, Tryd.ntmps36
    go_wp2_with (go_at_call 40; refine R'.out.mono ?_; rintro e w' ⟨rfl, rfl⟩)
    go_ret2
    exact ⟨rfl, HB.out⟩
  · rw [hc] at hr
    have hn : n < 0 := hr.resolve_left (by simp)
    have R' : Hid (Calls Tryd.prog 40 #[v] ((w.alloc (.cells #[.int .i64 d] 3)).alloc (.cells #[.int .i64 n] 3)) fun e w' => e = .returned (.bool true) ∧ _ = w') := hc ▸ R.out _ HB.out
    clear hr hc R
    go_enter Tryd.func36, Tryd.ntmps36
    go_wp2_with (go_at_call 40; refine R'.out.mono ?_; rintro e w' ⟨rfl, rfl⟩)
    go_ret2
    exact ⟨rfl, HB.out⟩
set_option maxHeartbeats 800000 in
theorem ahead_bad (d n : Int) (v : Value) (zs : List Int) (w : World) (h : Sl w v zs) (hr : Hol.right zs = true) (hn : 0 ≤ n) (hd : d < 0 ∨ 730484 < d) :
    Calls Tryd.prog 36 #[.int .i64 d, .int .i64 n, v] w fun e w' => e = .returned (.tuple #[.int .i64 0, .int .i64 (err d 730484)]) ∧ Below w.heap.size w w' := by
  have hb : Below w.heap.size w ((w.alloc (.cells #[.int .i64 d] 3)).alloc (.cells #[.int .i64 n] 3)) := by go_grown
  have HB := Lib.hid hb
  have R' : Hid (Calls Tryd.prog 40 #[v] ((w.alloc (.cells #[.int .i64 d] 3)).alloc (.cells #[.int .i64 n] 3)) fun e w' => e = .returned (.bool true) ∧ _ = w') := hr ▸ right_any v zs _ (h.below hb)
  clear hb h hr
  rcases err_bad hd with c | c
  all_goals
    rw [c]
    have c' := Lib.hid c
    clear c hd
    go_enter Tryd.func36, Tryd.ntmps36
    go_wp2_with (first | (go_at_call 40; refine R'.out.mono ?_; rintro e w' ⟨rfl, rfl⟩) | (go_at_call 60; refine (checkDay_bad _ _ _ c'.out).mono ?_; rintro e w' ⟨rfl, rfl⟩))
    go_ret2
    exact ⟨rfl, HB.out⟩
set_option maxRecDepth 100000 in
set_option maxHeartbeats 1600000 in
theorem ahead_ok (d n : Int) (v : Value) (zs : List Int) (w0 w : World) (S : St w0 w) (h : Sl w v zs) (hr : Hol.right zs = true) (hn : 0 ≤ n) (h0 : 0 ≤ d) (h1 : d ≤ 730484) (m : Nat) (hm : d + m = 730485) :
    Calls Tryd.prog 36 #[.int .i64 d, .int .i64 n, v] w fun e w' => e = .returned (.tuple #[.int .i64 (if Hol.ahead zs d n m = m then 0 else d + Hol.ahead zs d n m), .int .i64 (if Hol.ahead zs d n m = m then 3 else 0)]) ∧ St w0 w' := by
  have hb : Below w.heap.size w ((w.alloc (.cells #[.int .i64 d] 3)).alloc (.cells #[.int .i64 n] 3)) := by go_grown
  have HB := Lib.hid hb
  have R' : Hid (Calls Tryd.prog 40 #[v] ((w.alloc (.cells #[.int .i64 d] 3)).alloc (.cells #[.int .i64 n] 3)) fun e w' => e = .returned (.bool true) ∧ _ = w') := hr ▸ right_any v zs _ (h.below hb)
  have W := Lib.hid (wbefore_any v zs w0 _ (S.step hb) (h.below hb))
  have HR := Lib.hid hr
  have c1 : ((w.alloc (.cells #[.int .i64 d] 3)).alloc (.cells #[.int .i64 n] 3)).cell? ⟨w.heap.size, 0, none⟩ = some (.int .i64 d) := cell_alloc_sl _ (cell_new_sl w _ _)
  have c2 : ((w.alloc (.cells #[.int .i64 d] 3)).alloc (.cells #[.int .i64 n] 3)).cell? ⟨w.heap.size + 1, 0, none⟩ = some (.int .i64 n) := cell_new2 w _ _ _
  have C1 := Lib.hid c1
  have C2 := Lib.hid c2
  have sp := (Hol.ahead_spec zs d n m (Hol.inc_pw zs _ ((Hol.right_iff zs).1 hr).2) hn).1
  obtain ⟨k, hk⟩ : ∃ k, k = Hol.ahead zs d n m := ⟨_, rfl⟩
  rw [← hk] at sp ⊢
  have HK := Lib.hid hk
  have b1 := wb_bd hr d h0 (by omega)
  clear hb h hr c1 c2 hk
  by_cases c : k < m
  all_goals
    go_enter Tryd.func36, Tryd.ntmps36
    go_wp2_with (first | (go_at_call 40; refine R'.out.mono ?_; rintro e w' ⟨rfl, rfl⟩) | (go_at_call 60; refine (checkDay_ok _ _ (by omega) (by omega)).mono ?_; rintro e w' ⟨rfl, rfl⟩) | (go_at_call 63; fail))
    refine W.out.mono ?_
    rintro e w1 ⟨p, rfl, hf, S1, hb⟩
    have c1 := (hb.cell (p := ⟨w.heap.size, 0, none⟩) (by simp only [World.size_alloc]; omega)).trans C1.out
    have c2 := (hb.cell (p := ⟨w.heap.size + 1, 0, none⟩) (by simp only [World.size_alloc]; omega)).trans C2.out
    have hz : w.heap.size + 1 < w1.heap.size := by have := hb.size; simp only [World.size_alloc] at this; omega
    have HF := Lib.hid hf
    have d1 := fun o => cell_alloc_sl (W := w1) o c1
    have d2 := fun o o' => cell_alloc_sl o' (cell_alloc_sl (W := w1) o c1)
    have e1 := fun o => cell_alloc_sl (W := w1) o c2
    have e2 := fun o o' => cell_alloc_sl o' (cell_alloc_sl (W := w1) o c2)
    have E2 := Lib.hid e2
    have D2 := Lib.hid d2
    have P2 := Lib.hid (fun o v t => cell_new2 w1 o v t)
    have P1 := Lib.hid (fun (o : Obj) (v : Value) (t : TypeId) => cell_alloc_sl o (cell_new_sl w1 v t))
    clear hf hb
    go_wp2_with (go_at_call 78; refine (worked_any _ _ zs _ (HF.out.below (by go_grown)) HR.out (by omega) (by omega)).mono ?_; rintro e w' ⟨rfl, rfl⟩)
    have hb2 : Below w1.heap.size w1 ((w1.alloc (.cells #[.func (.func 78) #[] #[.pointer (some p)]] 48)).alloc (.cells #[.int .i64 (Hol.wb zs d)] 3)) := by go_grown
    have S2 := Lib.hid (S1.step hb2)
    have c3 := Lib.hid (fun w3 (hb3 : Below ((w1.alloc (.cells #[.func (.func 78) #[] #[.pointer (some p)]] 48)).alloc (.cells #[.int .i64 (Hol.wb zs d)] 3)).heap.size ((w1.alloc (.cells #[.func (.func 78) #[] #[.pointer (some p)]] 48)).alloc (.cells #[.int .i64 (Hol.wb zs d)] 3)) w3) => (hb3.cell (p := ⟨w.heap.size, 0, none⟩) (by simp only [World.size_alloc]; omega)).trans (D2.out _ _))
    have HB2 := Lib.hid hb2
    clear hb2
    refine (sortSearch m k _ (by omega) _ _ _ _ d n zs _ ⟨_, P1.out _ _ _, HF.out.below HB2.out⟩ (D2.out _ _) (P2.out _ _ _) (E2.out _ _) HR.out (by omega) (by omega) HK.out).mono ?_
    rintro e w3 ⟨rfl, hb3⟩
    have c4 := c3.out w3 hb3
    have S3 := Lib.hid (S2.out.step hb3)
    clear hb3
    go_wp2_with fail
    go_ret2
    refine ⟨ret2i ?_ ?_, S3.out⟩
    all_goals first | rfl | exact (if_neg (show ¬ k = m by omega)).symm | exact (if_pos (show k = m by omega)).symm
end Go.Proofs.YtcnnfgigpjbcpaaDoor
