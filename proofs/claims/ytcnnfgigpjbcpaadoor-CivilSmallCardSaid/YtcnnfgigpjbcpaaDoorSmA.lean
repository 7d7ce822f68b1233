/- The lists of CivilSmall. -/
import Derived.Test.YtcnnfgigpjbcpaaDoorCWorks
import Derived.Test.YtcnnfgigpjbcpaaDoorCAhead
import Derived.Laws.OwnMore
namespace Go.Proofs.YtcnnfgigpjbcpaaDoor
open Go.RowKit

/-- The holidays of the lists that are made: each third day. -/
def thr (n : Nat) : List Int := (List.range n).map fun (i : Nat) => 3 * (i : Int)
theorem thr_len (n : Nat) : (thr n).length = n := by simp [thr]
theorem thr_succ (n : Nat) : thr (n + 1) = thr n ++ [3 * (n : Int)] := by simp [thr, List.range_succ]
theorem thr_mem {n : Nat} {x : Int} (h : x ∈ thr n) : x % 3 = 0 := by
  simp only [thr, List.mem_map, List.mem_range] at h
  obtain ⟨i, _, rfl⟩ := h
  omega
theorem thr_last (n : Nat) : (thr n).getLastD (-1) < 3 * n := by
  cases n with
  | zero => simp [thr]
  | succ k => rw [thr_succ]; simp; omega
theorem thr_inc : ∀ n : Nat, n ≤ 1000 → Hol.inc (-1) (thr n) = true
  | 0, _ => rfl
  | n + 1, h => by
    rw [thr_succ, Hol.inc_snoc]
    exact ⟨thr_inc n (by omega), thr_last n, by omega⟩
theorem thr_right (n : Nat) (h : n ≤ 1000) : Hol.right (thr n) = true := (Hol.right_iff _).2 ⟨by rw [thr_len]; exact h, thr_inc n h⟩
theorem thr_ahead (n : Nat) (h : n ≤ 1000) : Hol.ahead (thr n) 0 0 730485 < 730485 := by
  have hp := Hol.inc_pw _ _ (thr_inc n h)
  cases n with
  | zero => rw [Hol.ahead_eq (thr 0) 0 0 730485 0 hp (by omega) (by omega) (by decide) (by simp)]; omega
  | succ k =>
    have w1 : Hol.works (thr (k + 1)) (0 + 1) = true := by
      unfold Hol.works
      rw [Bool.and_eq_true]
      refine ⟨by decide, ?_⟩
      rw [Bool.not_eq_true', List.contains_eq_mem, decide_eq_false_iff_not]
      intro hm
      have := thr_mem hm
      omega
    have w0 : Hol.works (thr (k + 1)) 0 = false := by
      unfold Hol.works
      have : (0 : Int) ∈ thr (k + 1) := by simp only [thr, List.mem_map, List.mem_range]; exact ⟨0, by omega, by omega⟩
      rw [List.contains_eq_mem, decide_eq_true this]; simp
    have s := Hol.wb_succ (thr (k + 1)) 0 hp
    rw [w0] at s
    rw [Hol.ahead_eq (thr (k + 1)) 0 0 730485 1 hp (by omega) (by omega) (by simpa using w1) (by simp only [Int.zero_add] at s ⊢; simp at s ⊢; omega)]
    omega
/-- A list that is being filled. -/
def fil (n i : Nat) : List Int := thr i ++ List.replicate (n - i) 0
theorem fil_0 (n : Nat) : (madeCells (Value.int .i64 0).cells (n * 1)).toList = (fil n 0).map (Value.int .i64) := by
  simp [fil, thr, madeCells, Value.cells, Nat.mod_one, List.map_const']
theorem fil_n (n : Nat) : fil n n = thr n := by simp [fil]
theorem fil_len (n i : Nat) (h : i ≤ n) : (fil n i).length = n := by simp [fil, thr_len]; omega
theorem fil_set (n i : Nat) (h : i < n) : ((fil n i).map (Value.int .i64)).set i (.int .i64 (3 * (i : Int))) = (fil n (i + 1)).map (Value.int .i64) := by
  obtain ⟨m, hm⟩ : ∃ m, n - i = m + 1 := ⟨n - i - 1, by omega⟩
  have e : n - (i + 1) = m := by omega
  rw [fil, fil, hm, e, thr_succ, List.replicate_succ, List.map_append, List.map_append, List.map_append, List.set_append_right _ _ (by simp [thr_len])]
  simp [thr_len]
theorem cell_at (w : World) (cs : Array Value) (t : TypeId) (j : Nat) (v : Value) (b : Nat) (hb : b = w.heap.size) (h : cs[j]? = some v) : (w.alloc (.cells cs t)).cell? ⟨b, j, none⟩ = some v := by
  subst hb
  rw [World.cell?_alloc_at _ _ _ _ (by simp)]
  simpa using h
set_option maxHeartbeats 1600000 in
theorem six (wo : World) : ∀ k, k < 6 → ∃ (b n : Nat) (zs : List Int), (((((((wo.alloc (.cells #[.int .i64 0, .int .i64 0] 3)).alloc (.cells #[.int .i64 5, .int .i64 4] 3)).alloc (.cells #[.int .i64 (-1)] 3)).alloc (.cells #[.int .i64 730485] 3)).alloc (.cells #[.int .i64 730484] 3)).alloc (.cells #[.int .i64 0, .int .i64 730484] 3)).alloc (.cells #[.slice (some ⟨wo.heap.size, 0, none⟩) 2 2, .slice (some ⟨wo.heap.size + 1, 0, none⟩) 2 2, .slice (some ⟨wo.heap.size + 1 + 1, 0, none⟩) 1 1, .slice (some ⟨wo.heap.size + 1 + 1 + 1, 0, none⟩) 1 1, .slice (some ⟨wo.heap.size + 1 + 1 + 1 + 1, 0, none⟩) 1 1, .slice (some ⟨wo.heap.size + 1 + 1 + 1 + 1 + 1, 0, none⟩) 2 2] 34)).cell? ⟨wo.heap.size + 1 + 1 + 1 + 1 + 1 + 1, k, none⟩ = some (.slice (some ⟨b, 0, none⟩) n n) ∧ n = zs.length ∧ ∀ j, j < zs.length → (((((((wo.alloc (.cells #[.int .i64 0, .int .i64 0] 3)).alloc (.cells #[.int .i64 5, .int .i64 4] 3)).alloc (.cells #[.int .i64 (-1)] 3)).alloc (.cells #[.int .i64 730485] 3)).alloc (.cells #[.int .i64 730484] 3)).alloc (.cells #[.int .i64 0, .int .i64 730484] 3)).alloc (.cells #[.slice (some ⟨wo.heap.size, 0, none⟩) 2 2, .slice (some ⟨wo.heap.size + 1, 0, none⟩) 2 2, .slice (some ⟨wo.heap.size + 1 + 1, 0, none⟩) 1 1, .slice (some ⟨wo.heap.size + 1 + 1 + 1, 0, none⟩) 1 1, .slice (some ⟨wo.heap.size + 1 + 1 + 1 + 1, 0, none⟩) 1 1, .slice (some ⟨wo.heap.size + 1 + 1 + 1 + 1 + 1, 0, none⟩) 2 2] 34)).cell? ⟨b, 0 + j, none⟩ = some (.int .i64 (zs.getD j 0)) := by
  intro k hk
  match k, hk with
  | 0, _ => exact ⟨wo.heap.size, 2, [0, 0], by (repeat' (first | (refine cell_at _ _ _ _ _ _ ?_ rfl; simp; done) | refine cell_alloc_sl _ ?_)), rfl, fun j hj => by match j, hj with | 0, _ => (repeat' (first | (refine cell_at _ _ _ _ _ _ ?_ rfl; simp; done) | refine cell_alloc_sl _ ?_)) | 1, _ => (repeat' (first | (refine cell_at _ _ _ _ _ _ ?_ rfl; simp; done) | refine cell_alloc_sl _ ?_))⟩
  | 1, _ => exact ⟨wo.heap.size + 1, 2, [5, 4], by (repeat' (first | (refine cell_at _ _ _ _ _ _ ?_ rfl; simp; done) | refine cell_alloc_sl _ ?_)), rfl, fun j hj => by match j, hj with | 0, _ => (repeat' (first | (refine cell_at _ _ _ _ _ _ ?_ rfl; simp; done) | refine cell_alloc_sl _ ?_)) | 1, _ => (repeat' (first | (refine cell_at _ _ _ _ _ _ ?_ rfl; simp; done) | refine cell_alloc_sl _ ?_))⟩
  | 2, _ => exact ⟨wo.heap.size + 1 + 1, 1, [-1], by (repeat' (first | (refine cell_at _ _ _ _ _ _ ?_ rfl; simp; done) | refine cell_alloc_sl _ ?_)), rfl, fun j hj => by match j, hj with | 0, _ => (repeat' (first | (refine cell_at _ _ _ _ _ _ ?_ rfl; simp; done) | refine cell_alloc_sl _ ?_))⟩
  | 3, _ => exact ⟨wo.heap.size + 1 + 1 + 1, 1, [730485], by (repeat' (first | (refine cell_at _ _ _ _ _ _ ?_ rfl; simp; done) | refine cell_alloc_sl _ ?_)), rfl, fun j hj => by match j, hj with | 0, _ => (repeat' (first | (refine cell_at _ _ _ _ _ _ ?_ rfl; simp; done) | refine cell_alloc_sl _ ?_))⟩
  | 4, _ => exact ⟨wo.heap.size + 1 + 1 + 1 + 1, 1, [730484], by (repeat' (first | (refine cell_at _ _ _ _ _ _ ?_ rfl; simp; done) | refine cell_alloc_sl _ ?_)), rfl, fun j hj => by match j, hj with | 0, _ => (repeat' (first | (refine cell_at _ _ _ _ _ _ ?_ rfl; simp; done) | refine cell_alloc_sl _ ?_))⟩
  | 5, _ => exact ⟨wo.heap.size + 1 + 1 + 1 + 1 + 1, 2, [0, 730484], by (repeat' (first | (refine cell_at _ _ _ _ _ _ ?_ rfl; simp; done) | refine cell_alloc_sl _ ?_)), rfl, fun j hj => by match j, hj with | 0, _ => (repeat' (first | (refine cell_at _ _ _ _ _ _ ?_ rfl; simp; done) | refine cell_alloc_sl _ ?_)) | 1, _ => (repeat' (first | (refine cell_at _ _ _ _ _ _ ?_ rfl; simp; done) | refine cell_alloc_sl _ ?_))⟩
set_option maxRecDepth 100000 in
set_option maxHeartbeats 3200000 in
theorem lists_true (w0 w : World) (S : St w0 w) : Calls Tryd.prog 25 #[] w fun e w' => e = .returned (.bool true) ∧ St w0 w' := by
  go_enter Tryd.func25, Tryd.ntmps25
  go_wp2
  have S1 : St w (w.alloc (.cells #[.int .i64 0, .int .i64 1, .int .i64 1000, .int .i64 1001] 3)) := (St.refl S.gl).step (by go_grown)
  have C : ∀ k, k < 4 → ∃ x : Nat, x ≤ 1001 ∧ (w.alloc (.cells #[.int .i64 0, .int .i64 1, .int .i64 1000, .int .i64 1001] 3)).cell? ⟨w.heap.size, k, none⟩ = some (.int .i64 x) := by
    intro k hk
    match k, hk with
    | 0, _ => exact ⟨0, by omega, by simp⟩
    | 1, _ => exact ⟨1, by omega, by simp⟩
    | 2, _ => exact ⟨1000, by omega, by simp⟩
    | 3, _ => exact ⟨1001, by omega, by simp⟩
  generalize w.alloc (.cells #[.int .i64 0, .int .i64 1, .int .i64 1000, .int .i64 1001] 3) = w1 at *
  have HC := Lib.hid C
  clear C
  go_loopw [14] (fun i wr => ∃ k : Nat, k ≤ 4 ∧ i = .int .i64 k ∧ St w1 wr) (fun i _ => 5 - (intOf i).toNat)
  case atStart => exact ⟨0, by omega, rfl, St.refl S1.gl⟩
  case round =>
    obtain ⟨k, hk, rfl, SR⟩ := hrel
    obtain ⟨wo, rfl⟩ : ∃ x, x = wr := ⟨_, rfl⟩
    by_cases hlt : k < 4
    · obtain ⟨n, hn, hcn⟩ := HC.out k hlt
      have hcr := (SR.bl.cell (World.block_lt_of_cell? _ _ hcn)).trans hcn
      clear hcn
      obtain ⟨i0, hi, hz0, hz1, hz2⟩ := info_parts info_int
      have BB : i0.bytes * n ≤ 281474976710656 := by rw [hz2]; omega
      go_wp2_with (refine wpList_make_full _ rfl _ _ 34 rfl wo.heap.size 3 i0 (.int .i64 0) 1 Tryd.underlying34 hi hz0 hz1 .i64 .i64 _ _ n rfl rfl (by omega) (by omega) BB (by unfold maxLen; omega) (Nat.le_refl _) ?_; intro w2 hown hgrow)
      rw [fil_0] at hown
      have hb0 : Below wo.heap.size wo w2 := (Below.refl _ wo).grown hgrow (Nat.le_refl _) (fun g hg => by cases hg)
      obtain ⟨g, hg⟩ : ∃ g, g = wo.heap.size := ⟨_, rfl⟩
      rw [← hg] at hown hb0 ⊢
      have HG := Lib.hid hg
      have OW := Lib.hid hown
      have HB := Lib.hid hb0
      clear hown hgrow hb0 hg
      go_loopw [22] (fun i wq => ∃ j : Nat, j ≤ n ∧ i = .int .i64 j ∧ wq.ownsRow g 3 1 (.slice (some ⟨g, 0, none⟩) n n) n ((fil n j).map (Value.int .i64)) ∧ Below g wo wq) (fun i _ => n + 1 - (intOf i).toNat)
      case atStart => exact ⟨0, by omega, rfl, OW.out, HB.out⟩
      case round =>
        obtain ⟨j, hj, rfl, hown, hbl⟩ := hrel
        have HBL := Lib.hid hbl
        have HOW := Lib.hid hown
        by_cases hjn : j < n
        · obtain ⟨o, ho⟩ : ∃ o, ((fil n j).map (Value.int .i64))[j]? = some (.int .i64 o) := by
            have hl : j < (fil n j).length := by rw [fil_len n j (by omega)]; exact hjn
            exact ⟨(fil n j)[j], by rw [List.getElem?_map, List.getElem?_eq_getElem hl]; rfl⟩
          have hcA := (hown.cellAt j (by omega)).trans ho
          have hfA := hown.frozenAt j
          clear hown hbl ho
          go_wp2
          go_roundw
          case rel =>
            obtain ⟨s1, s2⟩ := HOW.out.stored j (.int .i64 (3 * (j : Int)))
            rw [fil_set n j hjn] at s1
            exact ⟨j + 1, by omega, by go_num, s1, HBL.out.grown s2 (by have := HBL.out.size; have := HG.out; omega) (fun k hk => by cases hk; exact Nat.le_refl _)⟩
          case measure => simp [intOf]; omega
        · obtain rfl : j = n := by omega
          have SQ : St w1 wr := SR.step (by rw [← HG.out]; exact HBL.out)
          have SL : Hid (∀ w', St wr w' → Sl w' (.slice (some ⟨g, 0, none⟩) j j) (thr j)) := fun w' b => by
            have h := HOW.out
            rw [fil_n] at h
            obtain ⟨a, c, e, hs, _⟩ := own_sl (zs := thr j) (by rw [thr_len]; exact h)
            exact hs.below b.bl
          clear hown hbl
          by_cases hR : j ≤ 1000
          · have hr := thr_right j hR
            have HR := Lib.hid hr
            obtain ⟨m, hm⟩ : ∃ m, m = Hol.wb (thr j) 7000 - Hol.wb (thr j) 0 := ⟨_, rfl⟩
            have RT : Hid (∀ w', St wr w' → Calls Tryd.prog 40 #[.slice (some ⟨g, 0, none⟩) j j] w' fun e w'' => e = .returned (.bool true) ∧ w' = w'') := fun w' b => HR.out ▸ right_any _ (thr j) w' (SL.out _ b)
            have BT : Hid (∀ w', St wr w' → Calls Tryd.prog 34 #[.int .i64 0, .int .i64 7000, .slice (some ⟨g, 0, none⟩) j j] w' fun e w'' => e = .returned (.tuple #[.int .i64 m, .int .i64 0]) ∧ St wr w'') := fun w' b => between_eq 0 7000 m _ (thr j) wr w' b (SL.out _ b) HR.out (by omega) (by omega) (by omega) hm.symm
            obtain ⟨r, hrr⟩ : ∃ r : Int, r = 0 + (Hol.ahead (thr j) 0 0 730485 : Nat) := ⟨_, rfl⟩
            have AT : Hid (∀ w', St wr w' → Calls Tryd.prog 36 #[.int .i64 0, .int .i64 0, .slice (some ⟨g, 0, none⟩) j j] w' fun e w'' => e = .returned (.tuple #[.int .i64 r, .int .i64 0]) ∧ St wr w'') := fun w' b => ahead_hit 0 0 r _ (thr j) wr w' b (SL.out _ b) HR.out (by omega) (by omega) 730485 _ (by omega) rfl (thr_ahead j hR) hrr
            clear hr hm hrr
            have SC := St.refl SQ.gl
            go_wp2_with (first | (go_at_call 40; refine (RT.out _ SC).mono ?_; rintro e w' ⟨rfl, rfl⟩) | (go_at_call 34; refine (BT.out _ SC).mono ?_; rintro e w3 ⟨rfl, SC⟩) | (go_at_call 36; refine (AT.out _ SC).mono ?_; rintro e w3 ⟨rfl, SC⟩))
            go_roundw
            case rel => exact ⟨k + 1, by omega, by go_num, SQ.step SC.bl⟩
            case measure => simp [intOf]; omega
          · have hr : Hol.right (thr j) = false := Hol.right_long (by rw [thr_len]; omega)
            have HR := Lib.hid hr
            have RT : Hid (∀ w', St wr w' → Calls Tryd.prog 40 #[.slice (some ⟨g, 0, none⟩) j j] w' fun e w'' => e = .returned (.bool false) ∧ w' = w'') := fun w' b => HR.out ▸ right_any _ (thr j) w' (SL.out _ b)
            have BT : Hid (∀ w', St wr w' → Calls Tryd.prog 34 #[.int .i64 0, .int .i64 7000, .slice (some ⟨g, 0, none⟩) j j] w' fun e w'' => e = .returned (.tuple #[.int .i64 0, .int .i64 2]) ∧ w' = w'') := fun w' b => between_arg 0 7000 _ (thr j) w' (SL.out _ b) (Or.inl HR.out)
            have AT : Hid (∀ w', St wr w' → Calls Tryd.prog 36 #[.int .i64 0, .int .i64 0, .slice (some ⟨g, 0, none⟩) j j] w' fun e w'' => e = .returned (.tuple #[.int .i64 0, .int .i64 2]) ∧ St wr w'') := fun w' b => (ahead_arg 0 0 _ (thr j) w' (SL.out _ b) (Or.inl HR.out)).mono fun _ _ ⟨he, hb⟩ => ⟨he, b.step hb⟩
            clear hr
            have SC := St.refl SQ.gl
            go_wp2_with (first | (go_at_call 40; refine (RT.out _ SC).mono ?_; rintro e w' ⟨rfl, rfl⟩) | (go_at_call 34; refine (BT.out _ SC).mono ?_; rintro e w3 ⟨rfl, rfl⟩) | (go_at_call 36; refine (AT.out _ SC).mono ?_; rintro e w3 ⟨rfl, SC⟩))
            go_roundw
            case rel => exact ⟨k + 1, by omega, by go_num, SQ.step SC.bl⟩
            case measure => simp [intOf]; omega
    · obtain ⟨G, hG⟩ : ∃ G, G = wo.heap.size + 1 + 1 + 1 + 1 + 1 + 1 := ⟨_, rfl⟩
      have X := six wo
      have SX : St w1 (((((((wo.alloc (.cells #[.int .i64 0, .int .i64 0] 3)).alloc (.cells #[.int .i64 5, .int .i64 4] 3)).alloc (.cells #[.int .i64 (-1)] 3)).alloc (.cells #[.int .i64 730485] 3)).alloc (.cells #[.int .i64 730484] 3)).alloc (.cells #[.int .i64 0, .int .i64 730484] 3)).alloc (.cells #[.slice (some ⟨wo.heap.size, 0, none⟩) 2 2, .slice (some ⟨wo.heap.size + 1, 0, none⟩) 2 2, .slice (some ⟨wo.heap.size + 1 + 1, 0, none⟩) 1 1, .slice (some ⟨wo.heap.size + 1 + 1 + 1, 0, none⟩) 1 1, .slice (some ⟨wo.heap.size + 1 + 1 + 1 + 1, 0, none⟩) 1 1, .slice (some ⟨wo.heap.size + 1 + 1 + 1 + 1 + 1, 0, none⟩) 2 2] 34)) := SR.step (by go_grown)
      go_wp2
      rw [← hG] at X ⊢
      generalize ((((((wo.alloc (.cells #[.int .i64 0, .int .i64 0] 3)).alloc (.cells #[.int .i64 5, .int .i64 4] 3)).alloc (.cells #[.int .i64 (-1)] 3)).alloc (.cells #[.int .i64 730485] 3)).alloc (.cells #[.int .i64 730484] 3)).alloc (.cells #[.int .i64 0, .int .i64 730484] 3)).alloc (.cells #[.slice (some ⟨wo.heap.size, 0, none⟩) 2 2, .slice (some ⟨wo.heap.size + 1, 0, none⟩) 2 2, .slice (some ⟨wo.heap.size + 1 + 1, 0, none⟩) 1 1, .slice (some ⟨wo.heap.size + 1 + 1 + 1, 0, none⟩) 1 1, .slice (some ⟨wo.heap.size + 1 + 1 + 1 + 1, 0, none⟩) 1 1, .slice (some ⟨wo.heap.size + 1 + 1 + 1 + 1 + 1, 0, none⟩) 2 2] 34) = w2 at X SX ⊢
      have HX := Lib.hid X
      clear X hG
      go_loopw [86] (fun i wr => ∃ k : Nat, k ≤ 6 ∧ i = .int .i64 k ∧ St w2 wr) (fun i _ => 7 - (intOf i).toNat)
      case atStart => exact ⟨0, by omega, rfl, St.refl SX.gl⟩
      case round =>
        obtain ⟨q, hq, rfl, SR2⟩ := hrel
        by_cases hlt2 : q < 6
        · obtain ⟨b, n, zs, hcv, hn, hz⟩ := HX.out q hlt2
          have hcr := (SR2.bl.cell (World.block_lt_of_cell? _ _ hcv)).trans hcv
          have CW : Hid (Calls Tryd.prog 24 #[.slice (some ⟨b, 0, none⟩) n n, .int .i64 0, .int .i64 9, .int .i64 3, .int .i64 101, .int .i64 101] wr fun e w' => e = .returned (.bool true) ∧ St w2 w') :=
            civilWorks_any (some ⟨b, 0, none⟩) n n zs 0 9 3 101 101 (by omega) (by omega) (by omega) (by omega) (by omega) w2 wr SR2 hn (carry (Or.inr ⟨b, 0, rfl, hz⟩) SR2.bl) (fun e => by cases e)
          clear hcv hn hz
          go_wp2_with (go_at_call 24; refine CW.out.mono ?_; rintro e w3 ⟨rfl, S3⟩)
          go_roundw
          case rel => exact ⟨q + 1, by omega, by go_num, S3⟩
          case measure => simp [intOf]; omega
        · have S4 : St w0 wr := S.step (S1.bl.trans ((SX.bl.trans (SR2.bl.mono SX.bl.size)).mono S1.bl.size))
          go_wp2_with (go_at_call 19; refine (awake_any w0 _ S4).mono ?_; rintro e w5 ⟨rfl, S5⟩)
          go_ret
          exact ⟨rfl, S5⟩
end Go.Proofs.YtcnnfgigpjbcpaaDoor
