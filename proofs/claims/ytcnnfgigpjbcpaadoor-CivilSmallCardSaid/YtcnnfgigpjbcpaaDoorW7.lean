/- Contracts of civil's working days: between two days, and ahead. -/
import Derived.Test.YtcnnfgigpjbcpaaDoorW6
import Derived.Laws.EntriesVeiled
namespace Go.Proofs.YtcnnfgigpjbcpaaDoor
open Go.RowKit

/-- The function that counts working days: where it lies, and what it counts with. -/
def Wf (w : World) (p : Addr) (zs : List Int) : Prop := ∃ q, w.cell? p = some (.func (.func 77) #[] #[.pointer (some q)]) ∧ Wc w q zs
theorem Wf.below {w w' : World} {p : Addr} {zs : List Int} (h : Wf w p zs) (hb : Below w.heap.size w w') : Wf w' p zs := by
  obtain ⟨q, hc, hs⟩ := h
  exact ⟨q, (hb.cell (World.block_lt_of_cell? _ _ hc)).trans hc, hs.below hb⟩
theorem cell_new2 (w : World) (o : Obj) (v : Value) (t : TypeId) : ((w.alloc o).alloc (.cells #[v] t)).cell? ⟨w.heap.size + 1, 0, none⟩ = some v := by
  have := cell_new_sl (w.alloc o) v t
  rwa [World.size_alloc] at this
theorem lost_le2 {zs : List Int} (hr : Hol.right zs = true) (d : Int) : (Hol.lost zs d : Int) ≤ 1000 := by
  have := Hol.lost_le zs d
  have := ((Hol.right_iff zs).1 hr).1
  omega
set_option maxHeartbeats 800000 in
theorem worked_any (d : Int) (p : Addr) (zs : List Int) (w : World) (h : Wf w p zs) (hr : Hol.right zs = true) (h0 : 0 ≤ d) (h1 : d ≤ 730485) :
    Calls Tryd.prog 78 #[.int .i64 d, .pointer (some p)] w fun e w' => e = .returned (.int .i64 (Hol.wb zs d)) ∧ w = w' := by
  obtain ⟨q, hq, hc⟩ := h
  have C := Lib.hid (lost_any d q zs w hc hr)
  have hl := lost_le2 hr d
  have hl0 : (0 : Int) ≤ Hol.lost zs d := by omega
  obtain ⟨x, hx⟩ : ∃ x : Int, x = (Hol.lost zs d : Int) := ⟨_, rfl⟩
  rw [← hx] at C hl hl0
  have HX := Lib.hid hx
  clear hx hc hr
  go_enter Tryd.func78, Tryd.ntmps78
  go_wp2_with (go_at_call 77; refine C.out.mono ?_; rintro e w' ⟨rfl, rfl⟩)
  go_ret
  exact ⟨ret_int (by show _ = d / 7 * 5 + min (d % 7) 5 - _; rw [HX.out]), rfl⟩
set_option maxHeartbeats 800000 in
theorem wbefore_any (v : Value) (zs : List Int) (w0 w : World) (S : St w0 w) (h : Sl w v zs) :
    Calls Tryd.prog 63 #[v] w fun e w' => ∃ p, e = .returned (.func (.func 78) #[] #[.pointer (some p)]) ∧ Wf w' p zs ∧ St w0 w' ∧ Below w.heap.size w w' := by
  obtain ⟨a, c, rfl, h⟩ := h
  obtain ⟨n, hn⟩ : ∃ n, n = zs.length := ⟨_, rfl⟩
  rw [← hn]
  have H : Hid (∀ W, Below w.heap.size w W → Sl W (.slice a n c) zs) := by
    intro W hb; rw [hn]; exact Sl.below ⟨a, c, rfl, h⟩ hb
  clear hn h
  go_enter Tryd.func63, Tryd.ntmps63
  go_wp2
  go_ret
  have hb : Below w.heap.size w ((w.alloc (.cells #[.slice a n c] 34)).alloc (.cells #[.func (.func 77) #[] #[.pointer (some ⟨w.heap.size, 0, none⟩)]] 48)) := by go_grown
  exact ⟨_, rfl, ⟨_, cell_new2 w _ _ _, ⟨_, cell_alloc_sl _ (cell_new_sl w _ _), H.out _ hb⟩⟩, S.step hb, hb⟩
set_option maxHeartbeats 800000 in
theorem works_list (d : Int) (v : Value) (zs : List Int) (w : World) (h : Sl w v zs) (hr : Hol.right zs = false) :
    Calls Tryd.prog 35 #[.int .i64 d, v] w fun e w' => e = .returned (.tuple #[.bool false, .int .i64 2]) ∧ w = w' := by
  have R := Lib.hid (hr ▸ right_any v zs w h)
  clear hr h
  go_enter Tryd.func35, Tryd.ntmps35
  go_wp2_with (go_at_call 40; refine R.out.mono ?_; rintro e w' ⟨rfl, rfl⟩)
  go_ret2
  exact ⟨rfl, rfl⟩
set_option maxHeartbeats 800000 in
theorem works_bad (d : Int) (v : Value) (zs : List Int) (w : World) (h : Sl w v zs) (hr : Hol.right zs = true) (hd : d < 0 ∨ 730484 < d) :
    Calls Tryd.prog 35 #[.int .i64 d, v] w fun e w' => e = .returned (.tuple #[.bool false, .int .i64 (err d 730484)]) ∧ w = w' := by
  have R := Lib.hid (hr ▸ right_any v zs w h)
  clear hr h
  rcases err_bad hd with c | c
  all_goals
    rw [c]
    have c' := Lib.hid c
    clear c hd
    go_enter Tryd.func35, Tryd.ntmps35
    go_wp2_with (first | (go_at_call 40; refine R.out.mono ?_; rintro e w' ⟨rfl, rfl⟩) | (go_at_call 60; refine (checkDay_bad _ _ _ c'.out).mono ?_; rintro e w' ⟨rfl, rfl⟩))
    go_ret2
    exact ⟨rfl, rfl⟩
theorem search_any (d : Int) (v : Value) (zs : List Int) (w : World) (h : Sl w v zs) (hr : Hol.right zs = true) :
    ∃ i : Int, Calls Tryd.prog 64 #[v, .int .i64 d] w fun e w' => e = .returned (.tuple #[.int .i64 i, .bool (zs.contains d)]) ∧ Qt w w' := by
  obtain ⟨a, c, rfl, h⟩ := h
  have hr' := (Hol.right_iff zs).1 hr
  by_cases e : zs = []
  · subst e
    exact ⟨0, (Tryd.slices_BinarySearch_int_empty a c d w).mono fun e w' ⟨he, hw⟩ => ⟨he, by rw [hw]; exact Qt.refl _⟩⟩
  · rcases h with h | ⟨b, off, rfl, hc⟩
    · exact absurd h e
    · have ht : zs.take zs.length = zs := List.take_length
      exact ⟨_, (Tryd.slices_BinarySearch_int b off zs.length c zs d w (Nat.le_refl _) (by omega) hc (by rw [ht]; exact (Hol.inc_pw zs _ hr'.2).imp (fun h => Int.le_of_lt h))).mono fun e w' ⟨he, hw⟩ => ⟨by rw [ht] at he; exact he, hw⟩⟩
set_option maxHeartbeats 800000 in
theorem works_ok (d : Int) (v : Value) (zs : List Int) (w : World) (h : Sl w v zs) (hr : Hol.right zs = true) (h0 : 0 ≤ d) (h1 : d ≤ 730484) :
    Calls Tryd.prog 35 #[.int .i64 d, v] w fun e w' => e = .returned (.tuple #[.bool (Hol.works zs d), .int .i64 0]) ∧ Qt w w' := by
  have R := Lib.hid (hr ▸ right_any v zs w h)
  obtain ⟨i, B⟩ := search_any d v zs w h hr
  clear hr h
  cases hc : zs.contains d
  · rw [hc] at B
    have B' := Lib.hid B
    have C := Lib.hid hc
    clear B hc
    cases hk : Hol.wk d
    all_goals
      have K := Lib.hid hk
      clear hk
      have I := Lib.hid (fun W => K.out ▸ inWeek_any d W h0)
      go_enter Tryd.func35, Tryd.ntmps35
      go_wp2_with (first | (go_at_call 40; refine R.out.mono ?_; rintro e w' ⟨rfl, rfl⟩) | (go_at_call 60; refine (checkDay_ok _ _ (by omega) (by omega)).mono ?_; rintro e w' ⟨rfl, rfl⟩) | (go_at_call 64; refine B'.out.mono ?_; rintro e w1 ⟨rfl, hq⟩; have HQ := Lib.hid hq; clear hq) | (go_at_call 65; refine (I.out _).mono ?_; rintro e w' ⟨rfl, rfl⟩))
      go_ret2
      refine ⟨?_, HQ.out⟩
      unfold Hol.works
      rw [K.out, C.out]
      rfl
  · rw [hc] at B
    have B' := Lib.hid B
    have C := Lib.hid hc
    clear B hc
    cases hk : Hol.wk d
    all_goals
      have K := Lib.hid hk
      clear hk
      have I := Lib.hid (fun W => K.out ▸ inWeek_any d W h0)
      go_enter Tryd.func35, Tryd.ntmps35
      go_wp2_with (first | (go_at_call 40; refine R.out.mono ?_; rintro e w' ⟨rfl, rfl⟩) | (go_at_call 60; refine (checkDay_ok _ _ (by omega) (by omega)).mono ?_; rintro e w' ⟨rfl, rfl⟩) | (go_at_call 64; refine B'.out.mono ?_; rintro e w1 ⟨rfl, hq⟩; have HQ := Lib.hid hq; clear hq) | (go_at_call 65; refine (I.out _).mono ?_; rintro e w' ⟨rfl, rfl⟩))
      go_ret2
      refine ⟨?_, HQ.out⟩
      unfold Hol.works
      rw [K.out, C.out]
      rfl
set_option maxHeartbeats 1600000 in
theorem between_arg (a b : Int) (v : Value) (zs : List Int) (w : World) (h : Sl w v zs) (hr : Hol.right zs = false ∨ a < 0 ∨ b < a) :
    Calls Tryd.prog 34 #[.int .i64 a, .int .i64 b, v] w fun e w' => e = .returned (.tuple #[.int .i64 0, .int .i64 2]) ∧ w = w' := by
  cases hc : Hol.right zs
  · have R := Lib.hid (hc ▸ right_any v zs w h)
    clear hr hc h
    go_enter Tryd.func34, Tryd.ntmps34
    go_wp2_with (go_at_call 40; refine R.out.mono ?_; rintro e w' ⟨rfl, rfl⟩)
    go_ret2
    exact ⟨rfl, rfl⟩
  · have R := Lib.hid (hc ▸ right_any v zs w h)
    rw [hc] at hr
    have hr' : a < 0 ∨ 0 ≤ a ∧ b < a := by rcases hr with h | h | h; · cases h
                                           · exact Or.inl h
                                           · omega
    clear hr hc h
    rcases hr' with c | ⟨c, c'⟩
    all_goals
      go_enter Tryd.func34, Tryd.ntmps34
      go_wp2_with (go_at_call 40; refine R.out.mono ?_; rintro e w' ⟨rfl, rfl⟩)
      go_ret2
      exact ⟨rfl, rfl⟩
set_option maxHeartbeats 800000 in
theorem between_long (a b : Int) (v : Value) (zs : List Int) (w : World) (h : Sl w v zs) (hr : Hol.right zs = true) (h0 : 0 ≤ a) (h1 : a ≤ b) (h2 : 730484 < b) :
    Calls Tryd.prog 34 #[.int .i64 a, .int .i64 b, v] w fun e w' => e = .returned (.tuple #[.int .i64 0, .int .i64 3]) ∧ w = w' := by
  have R := Lib.hid (hr ▸ right_any v zs w h)
  clear hr h
  go_enter Tryd.func34, Tryd.ntmps34
  go_wp2_with (go_at_call 40; refine R.out.mono ?_; rintro e w' ⟨rfl, rfl⟩)
  go_ret2
  exact ⟨rfl, rfl⟩
theorem wb_bd {zs : List Int} (hr : Hol.right zs = true) (d : Int) (h0 : 0 ≤ d) (h1 : d ≤ 730485) : 0 ≤ Hol.wb zs d ∧ Hol.wb zs d ≤ 730485 := by
  have p := (Hol.right_iff zs).1 hr
  have a := Hol.wb_mono zs (Hol.inc_pw zs _ p.2) 0 d h0
  have b := Hol.wb_dist zs (Hol.inc_pw zs _ p.2) 0 d h0
  rw [Hol.wb_0 zs p.2] at a b
  omega
set_option maxHeartbeats 800000 in
theorem between_ok (a b : Int) (v : Value) (zs : List Int) (w0 w : World) (S : St w0 w) (h : Sl w v zs) (hr : Hol.right zs = true) (h0 : 0 ≤ a) (h1 : a ≤ b) (h2 : b ≤ 730484) :
    Calls Tryd.prog 34 #[.int .i64 a, .int .i64 b, v] w fun e w' => e = .returned (.tuple #[.int .i64 (Hol.wb zs b - Hol.wb zs a), .int .i64 0]) ∧ St w0 w' := by
  have R := Lib.hid (hr ▸ right_any v zs w h)
  have W := Lib.hid (wbefore_any v zs w0 w S h)
  have HR := Lib.hid hr
  have b1 := wb_bd hr a h0 (by omega)
  have b2 := wb_bd hr b (by omega) (by omega)
  clear hr h
  go_enter Tryd.func34, Tryd.ntmps34
  go_wp2_with (first | (go_at_call 40; refine R.out.mono ?_; rintro e w' ⟨rfl, rfl⟩) | (go_at_call 63; refine W.out.mono ?_; rintro e w1 ⟨p, rfl, hf, S1, hb⟩; have HF := Lib.hid hf; clear hf) | (go_at_call 78; refine (worked_any _ _ zs _ HF.out HR.out (by omega) (by omega)).mono ?_; rintro e w' ⟨rfl, rfl⟩))
  go_ret2
  exact ⟨rfl, by assumption⟩
end Go.Proofs.YtcnnfgigpjbcpaaDoor
