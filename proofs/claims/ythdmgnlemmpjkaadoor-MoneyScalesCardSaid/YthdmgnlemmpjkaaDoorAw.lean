/- 'awake' answers true. -/
import Derived.Test.YthdmgnlemmpjkaaDoorA3
import Derived.Test.YthdmgnlemmpjkaaDoorA4
import Derived.Test.YthdmgnlemmpjkaaDoorRd
namespace Go.Proofs.YthdmgnlemmpjkaaDoor
open Go.RowKit

set_option maxHeartbeats 1600000 in
theorem same_yes (a a' : Option Addr) (c c' n : Nat) (xs : List Int) (w : World) (hn : n = xs.length) (h : Sl w (.slice a n c) xs) (h' : Sl w (.slice a' n c') xs) (hl : n ≤ 1000000) :
    Calls Tryd.prog 19 #[.slice a n c, .slice a' n c'] w fun e w' => e = .returned (.bool true) ∧ Qt w w' := by
  obtain ⟨_, _, e1, h⟩ := h
  obtain ⟨_, _, e2, h'⟩ := h'
  obtain ⟨rfl, _, rfl⟩ := Value.slice.inj e1
  obtain ⟨rfl, _, rfl⟩ := Value.slice.inj e2
  clear e1 e2
  have HN := Lib.hid hn
  have H := Lib.hid h
  have H' := Lib.hid h'
  clear h h' hn
  go_enter Tryd.func19, Tryd.ntmps19
  go_wp2
  go_loopw [5] (fun i wr => ∃ k : Nat, k ≤ n ∧ i = .int .i64 k ∧ Qt w wr) (fun i _ => n + 1 - (intOf i).toNat)
  case atStart => exact ⟨0, Nat.zero_le _, rfl, Qt.refl w⟩
  case round =>
    obtain ⟨k, hk, rfl, hq⟩ := hrel
    have HQ := Lib.hid hq
    by_cases hlt : k < n
    · rcases H.out with h0 | ⟨b, off, rfl, hc⟩
      · exfalso; have := HN.out; rw [h0] at this; simp at this; omega
      rcases H'.out with h0 | ⟨b', off', rfl, hc'⟩
      · exfalso; have := HN.out; rw [h0] at this; simp at this; omega
      have hck := hq.cell (hc k (by have := HN.out; omega))
      have hck' := hq.cell (hc' k (by have := HN.out; omega))
      obtain ⟨x, hx⟩ : ∃ x, x = xs.getD k 0 := ⟨_, rfl⟩
      rw [← hx] at hck hck'
      clear hx hc hc' hq
      go_wp2
      go_region
      go_wp2
      go_roundw
      case rel => exact ⟨k + 1, by omega, by go_num, HQ.out.trans ⟨1, rfl⟩⟩
      case measure => simp [intOf]; omega
    · go_wp2
      go_ret
      exact ⟨rfl, HQ.out⟩
theorem spx (c : Int) (xs zs : List Int) (n : Nat) (v : Value) (w : World) (h : Sl w v xs) (hl : xs.length ≤ 4096) (ho : Mny.okS c xs = true) (hz : Mny.split c xs = zs) (hn : zs.length = n) :
    Calls Tryd.prog 15 #[.int .i64 c, v] w fun e w' => ∃ a k, e = .returned (.tuple #[.slice a n k, .int .i64 0]) ∧ Sl w' (.slice a n k) zs ∧ Below w.heap.size w w' := by
  refine (split_ok v xs c w h hl ho).mono ?_
  rintro e w' ⟨g, rfl, _, hown, hb⟩
  have e1 : xs.length = n := by rw [← hn, ← hz, Mny.split_len]
  rw [hz, e1] at hown
  rw [e1]
  have hown' := hown
  rw [← hn] at hown'
  obtain ⟨a, k, e2, hs, _⟩ := own_sl hown'
  rw [hn] at e2 hs
  cases e2
  exact ⟨_, _, rfl, hs, hb⟩
theorem sh (c s way r : Int) (w : World) (h1 : -1000000000000000 ≤ c) (h2 : c ≤ 1000000000000000) (h3 : 0 ≤ s) (h4 : s ≤ 10000) (h5 : 1 ≤ way) (h6 : way ≤ 4) (hr : Mny.rnd (c * s) way = r) :
    Calls Tryd.prog 18 #[.int .i64 c, .int .i64 s, .int .u8 way] w fun e w' => e = .returned (.tuple #[.int .i64 r, .int .i64 0]) ∧ Below w.heap.size w w' := by
  subst hr; exact share_ok c s way w h1 h2 h3 h4 h5 h6
theorem tx5 (w0 w : World) (S : St w0 w) : Calls Tryd.prog 21 #[.int .i64 (-5)] w fun e w' => e = .returned (.tuple #[.string ⟨#[45, 48, 46, 48, 53]⟩, .int .i64 0]) ∧ St w0 w' := by
  have := text_ok (-5) w0 w (by decide) S
  have e : (Mtx.txt (-5)).toArray = #[45, 48, 46, 48, 53] := by decide +kernel
  rw [e] at this; exact this
theorem tx6 (w0 w : World) (S : St w0 w) : Calls Tryd.prog 21 #[.int .i64 123456] w fun e w' => e = .returned (.tuple #[.string ⟨#[49, 50, 51, 52, 46, 53, 54]⟩, .int .i64 0]) ∧ St w0 w' := by
  have := text_ok 123456 w0 w (by decide) S
  have e : (Mtx.txt 123456).toArray = #[49, 50, 51, 52, 46, 53, 54] := by decide +kernel
  rw [e] at this; exact this
theorem no_txt (l : List UInt8) (h : Mtx.txt (Mtx.rn l) ≠ l) : ∀ c, Mny.rt c = true → l ≠ Mtx.txt c := by
  intro c _ e
  apply h
  rw [e, Mtx.rn_txt]
theorem rd7 (w0 w : World) (S : St w0 w) : Calls Tryd.prog 22 #[.string ⟨#[48, 48, 55, 46, 48, 48]⟩] w fun e w' => e = .returned (.tuple #[.int .i64 0, .int .i64 20]) ∧ St w0 w' :=
  read_no _ w0 w (no_txt _ (by decide +kernel)) S
theorem rd0 (w0 w : World) (S : St w0 w) : Calls Tryd.prog 22 #[.string ⟨#[45, 48, 46, 48, 48]⟩] w fun e w' => e = .returned (.tuple #[.int .i64 0, .int .i64 20]) ∧ St w0 w' :=
  read_no _ w0 w (no_txt _ (by decide +kernel)) S
theorem rd1 (w0 w : World) (S : St w0 w) : Calls Tryd.prog 22 #[.string ⟨#[49, 46, 53]⟩] w fun e w' => e = .returned (.tuple #[.int .i64 0, .int .i64 20]) ∧ St w0 w' :=
  read_no _ w0 w (no_txt _ (by decide +kernel)) S
abbrev exL : List Int := [1050, 5000, 525, 525, 525, 525, 105, 5000, 52, 53, 53, 52, -105, 5000, -53, -52, -53, -52]
set_option maxRecDepth 100000 in
set_option maxHeartbeats 6400000 in
theorem awake_any (w0 w : World) (S : St w0 w) : Calls Tryd.prog 11 #[] w fun e w' => e = .returned (.bool true) ∧ St w0 w' := by
  go_enter Tryd.func11, Tryd.ntmps11
  go_wp2
  obtain ⟨w1, hw1⟩ : ∃ x, x = w.alloc (.cells #[.int .i64 1050, .int .i64 5000, .int .i64 525, .int .i64 525, .int .i64 525, .int .i64 525, .int .i64 105, .int .i64 5000, .int .i64 52, .int .i64 53, .int .i64 53, .int .i64 52, .int .i64 (-105), .int .i64 5000, .int .i64 (-53), .int .i64 (-52), .int .i64 (-53), .int .i64 (-52)] 51) := ⟨_, rfl⟩
  obtain ⟨b, hb⟩ : ∃ x, x = w.heap.size := ⟨_, rfl⟩
  have S1 : St w0 w1 := by rw [hw1]; exact S.step (by go_grown)
  have CC : Hid (∀ wr, St w1 wr → ∀ j, j < 18 → wr.cell? ⟨b, j, none⟩ = some (.int .i64 (exL.getD j 0))) := by
    intro wr R j hj
    have h1 : w1.cell? ⟨b, j, none⟩ = some (.int .i64 (exL.getD j 0)) := by
      rw [hw1]
      refine cell_at _ _ _ j _ _ hb ?_
      have : j = 0 ∨ j = 1 ∨ j = 2 ∨ j = 3 ∨ j = 4 ∨ j = 5 ∨ j = 6 ∨ j = 7 ∨ j = 8 ∨ j = 9 ∨ j = 10 ∨ j = 11 ∨ j = 12 ∨ j = 13 ∨ j = 14 ∨ j = 15 ∨ j = 16 ∨ j = 17 := by omega
      rcases this with rfl | rfl | rfl | rfl | rfl | rfl | rfl | rfl | rfl | rfl | rfl | rfl | rfl | rfl | rfl | rfl | rfl | rfl <;> rfl
    exact (R.bl.cell (World.block_lt_of_cell? _ _ h1)).trans h1
  rw [← hw1, ← hb]
  have S01 : Hid (Below w0.heap.size w0 w1) := S1.bl
  clear hw1 hb S
  go_loopw [29] (fun i wr => ∃ k : Int, (0 ≤ k ∧ k ≤ 3) ∧ i = .int .i64 k ∧ St w1 wr) (fun i _ => 4 - (intOf i).toNat)
  case atStart => exact ⟨0, by omega, rfl, St.refl S1.gl⟩
  case round =>
    obtain ⟨k, hk, rfl, SR⟩ := hrel
    have hk3 : k = 0 ∨ k = 1 ∨ k = 2 ∨ k = 3 := by omega
    rcases hk3 with rfl | rfl | rfl | rfl
    · have c0 : wr.cell? ⟨b, 0, none⟩ = some (.int .i64 1050) := CC.out _ SR 0 (by omega)
      have c1 : wr.cell? ⟨b, 1, none⟩ = some (.int .i64 5000) := CC.out _ SR 1 (by omega)
      have c2 : wr.cell? ⟨b, 2, none⟩ = some (.int .i64 525) := CC.out _ SR 2 (by omega)
      have c3 : wr.cell? ⟨b, 3, none⟩ = some (.int .i64 525) := CC.out _ SR 3 (by omega)
      have c4 : wr.cell? ⟨b, 4, none⟩ = some (.int .i64 525) := CC.out _ SR 4 (by omega)
      have c5 : wr.cell? ⟨b, 5, none⟩ = some (.int .i64 525) := CC.out _ SR 5 (by omega)
      obtain ⟨wo, rfl⟩ : ∃ x, x = wr := ⟨_, rfl⟩
      go_wp2
      obtain ⟨wi, hwi⟩ : ∃ x, x = wo.alloc (.cells #[.int .i64 1050, .int .i64 5000, .int .i64 525, .int .i64 525, .int .i64 525, .int .i64 525] 51) := ⟨_, rfl⟩
      obtain ⟨bi, hbi⟩ : ∃ x, x = wo.heap.size := ⟨_, rfl⟩
      have SI : St w1 wi := by rw [hwi]; exact SR.step (by go_grown)
      have d0 : Hid (wi.cell? ⟨bi, 0, none⟩ = some (.int .i64 1050)) := by rw [hwi]; exact cell_at _ _ _ 0 _ _ hbi rfl
      have d1 : Hid (wi.cell? ⟨bi, 1, none⟩ = some (.int .i64 5000)) := by rw [hwi]; exact cell_at _ _ _ 1 _ _ hbi rfl
      rw [← hwi, ← hbi]
      clear hwi hbi
      go_loopw [35] (fun j wq => ∃ m : Int, (0 ≤ m ∧ m ≤ 4) ∧ j = .int .i64 m ∧ St wi wq) (fun j _ => 5 - (intOf j).toNat)
      case atStart => exact ⟨0, by omega, rfl, St.refl SI.gl⟩
      case round =>
        obtain ⟨m, hm, rfl, SQ⟩ := hrel
        have e0 : wr.cell? ⟨bi, 0, none⟩ = some (.int .i64 1050) := (SQ.bl.cell (World.block_lt_of_cell? _ _ d0.out)).trans d0.out
        have e1 : wr.cell? ⟨bi, 1, none⟩ = some (.int .i64 5000) := (SQ.bl.cell (World.block_lt_of_cell? _ _ d1.out)).trans d1.out
        by_cases hlt : m < 4
        · have hm4 : m = 0 ∨ m = 1 ∨ m = 2 ∨ m = 3 := by omega
          have i0 : ∀ w, (Instr.index 50 (.agg #[.int .i64 525, .int .i64 525, .int .i64 525, .int .i64 525]) (.int .i64 0)).run Tryd.prog w = .ok (.int .i64 525) w := fun _ => by kernel_rfl
          have i1 : ∀ w, (Instr.index 50 (.agg #[.int .i64 525, .int .i64 525, .int .i64 525, .int .i64 525]) (.int .i64 1)).run Tryd.prog w = .ok (.int .i64 525) w := fun _ => by kernel_rfl
          have i2 : ∀ w, (Instr.index 50 (.agg #[.int .i64 525, .int .i64 525, .int .i64 525, .int .i64 525]) (.int .i64 2)).run Tryd.prog w = .ok (.int .i64 525) w := fun _ => by kernel_rfl
          have i3 : ∀ w, (Instr.index 50 (.agg #[.int .i64 525, .int .i64 525, .int .i64 525, .int .i64 525]) (.int .i64 3)).run Tryd.prog w = .ok (.int .i64 525) w := fun _ => by kernel_rfl
          rcases hm4 with rfl | rfl | rfl | rfl
          · go_wp2_with (go_at_call 18; refine (sh 1050 5000 1 525 _ (by omega) (by omega) (by omega) (by omega) (by omega) (by omega) (by decide)).mono ?_; rintro e w2 ⟨rfl, hb⟩; have SX := SQ.step hb)
            go_roundw
            case rel => exact ⟨1, by omega, rfl, SX⟩
            case measure => simp [intOf]
          · go_wp2_with (go_at_call 18; refine (sh 1050 5000 2 525 _ (by omega) (by omega) (by omega) (by omega) (by omega) (by omega) (by decide)).mono ?_; rintro e w2 ⟨rfl, hb⟩; have SX := SQ.step hb)
            go_roundw
            case rel => exact ⟨2, by omega, rfl, SX⟩
            case measure => simp [intOf]
          · go_wp2_with (go_at_call 18; refine (sh 1050 5000 3 525 _ (by omega) (by omega) (by omega) (by omega) (by omega) (by omega) (by decide)).mono ?_; rintro e w2 ⟨rfl, hb⟩; have SX := SQ.step hb)
            go_roundw
            case rel => exact ⟨3, by omega, rfl, SX⟩
            case measure => simp [intOf]
          · go_wp2_with (go_at_call 18; refine (sh 1050 5000 4 525 _ (by omega) (by omega) (by omega) (by omega) (by omega) (by omega) (by decide)).mono ?_; rintro e w2 ⟨rfl, hb⟩; have SX := SQ.step hb)
            go_roundw
            case rel => exact ⟨4, by omega, rfl, SX⟩
            case measure => simp [intOf]
        · have SX : St w1 wr := ⟨SQ.gl, SI.bl.trans (SQ.bl.mono SI.bl.size)⟩
          go_wp2
          go_roundw
          case rel => exact ⟨1, by omega, rfl, SX⟩
          case measure => simp [intOf]
    · have c0 : wr.cell? ⟨b, 6, none⟩ = some (.int .i64 105) := CC.out _ SR 6 (by omega)
      have c1 : wr.cell? ⟨b, 7, none⟩ = some (.int .i64 5000) := CC.out _ SR 7 (by omega)
      have c2 : wr.cell? ⟨b, 8, none⟩ = some (.int .i64 52) := CC.out _ SR 8 (by omega)
      have c3 : wr.cell? ⟨b, 9, none⟩ = some (.int .i64 53) := CC.out _ SR 9 (by omega)
      have c4 : wr.cell? ⟨b, 10, none⟩ = some (.int .i64 53) := CC.out _ SR 10 (by omega)
      have c5 : wr.cell? ⟨b, 11, none⟩ = some (.int .i64 52) := CC.out _ SR 11 (by omega)
      obtain ⟨wo, rfl⟩ : ∃ x, x = wr := ⟨_, rfl⟩
      go_wp2
      obtain ⟨wi, hwi⟩ : ∃ x, x = wo.alloc (.cells #[.int .i64 105, .int .i64 5000, .int .i64 52, .int .i64 53, .int .i64 53, .int .i64 52] 51) := ⟨_, rfl⟩
      obtain ⟨bi, hbi⟩ : ∃ x, x = wo.heap.size := ⟨_, rfl⟩
      have SI : St w1 wi := by rw [hwi]; exact SR.step (by go_grown)
      have d0 : Hid (wi.cell? ⟨bi, 0, none⟩ = some (.int .i64 105)) := by rw [hwi]; exact cell_at _ _ _ 0 _ _ hbi rfl
      have d1 : Hid (wi.cell? ⟨bi, 1, none⟩ = some (.int .i64 5000)) := by rw [hwi]; exact cell_at _ _ _ 1 _ _ hbi rfl
      rw [← hwi, ← hbi]
      clear hwi hbi
      go_loopw [35] (fun j wq => ∃ m : Int, (0 ≤ m ∧ m ≤ 4) ∧ j = .int .i64 m ∧ St wi wq) (fun j _ => 5 - (intOf j).toNat)
      case atStart => exact ⟨0, by omega, rfl, St.refl SI.gl⟩
      case round =>
        obtain ⟨m, hm, rfl, SQ⟩ := hrel
        have e0 : wr.cell? ⟨bi, 0, none⟩ = some (.int .i64 105) := (SQ.bl.cell (World.block_lt_of_cell? _ _ d0.out)).trans d0.out
        have e1 : wr.cell? ⟨bi, 1, none⟩ = some (.int .i64 5000) := (SQ.bl.cell (World.block_lt_of_cell? _ _ d1.out)).trans d1.out
        by_cases hlt : m < 4
        · have hm4 : m = 0 ∨ m = 1 ∨ m = 2 ∨ m = 3 := by omega
          have i0 : ∀ w, (Instr.index 50 (.agg #[.int .i64 52, .int .i64 53, .int .i64 53, .int .i64 52]) (.int .i64 0)).run Tryd.prog w = .ok (.int .i64 52) w := fun _ => by kernel_rfl
          have i1 : ∀ w, (Instr.index 50 (.agg #[.int .i64 52, .int .i64 53, .int .i64 53, .int .i64 52]) (.int .i64 1)).run Tryd.prog w = .ok (.int .i64 53) w := fun _ => by kernel_rfl
          have i2 : ∀ w, (Instr.index 50 (.agg #[.int .i64 52, .int .i64 53, .int .i64 53, .int .i64 52]) (.int .i64 2)).run Tryd.prog w = .ok (.int .i64 53) w := fun _ => by kernel_rfl
          have i3 : ∀ w, (Instr.index 50 (.agg #[.int .i64 52, .int .i64 53, .int .i64 53, .int .i64 52]) (.int .i64 3)).run Tryd.prog w = .ok (.int .i64 52) w := fun _ => by kernel_rfl
          rcases hm4 with rfl | rfl | rfl | rfl
          · go_wp2_with (go_at_call 18; refine (sh 105 5000 1 52 _ (by omega) (by omega) (by omega) (by omega) (by omega) (by omega) (by decide)).mono ?_; rintro e w2 ⟨rfl, hb⟩; have SX := SQ.step hb)
            go_roundw
            case rel => exact ⟨1, by omega, rfl, SX⟩
            case measure => simp [intOf]
          · go_wp2_with (go_at_call 18; refine (sh 105 5000 2 53 _ (by omega) (by omega) (by omega) (by omega) (by omega) (by omega) (by decide)).mono ?_; rintro e w2 ⟨rfl, hb⟩; have SX := SQ.step hb)
            go_roundw
            case rel => exact ⟨2, by omega, rfl, SX⟩
            case measure => simp [intOf]
          · go_wp2_with (go_at_call 18; refine (sh 105 5000 3 53 _ (by omega) (by omega) (by omega) (by omega) (by omega) (by omega) (by decide)).mono ?_; rintro e w2 ⟨rfl, hb⟩; have SX := SQ.step hb)
            go_roundw
            case rel => exact ⟨3, by omega, rfl, SX⟩
            case measure => simp [intOf]
          · go_wp2_with (go_at_call 18; refine (sh 105 5000 4 52 _ (by omega) (by omega) (by omega) (by omega) (by omega) (by omega) (by decide)).mono ?_; rintro e w2 ⟨rfl, hb⟩; have SX := SQ.step hb)
            go_roundw
            case rel => exact ⟨4, by omega, rfl, SX⟩
            case measure => simp [intOf]
        · have SX : St w1 wr := ⟨SQ.gl, SI.bl.trans (SQ.bl.mono SI.bl.size)⟩
          go_wp2
          go_roundw
          case rel => exact ⟨2, by omega, rfl, SX⟩
          case measure => simp [intOf]
    · have c0 : wr.cell? ⟨b, 12, none⟩ = some (.int .i64 (-105)) := CC.out _ SR 12 (by omega)
      have c1 : wr.cell? ⟨b, 13, none⟩ = some (.int .i64 5000) := CC.out _ SR 13 (by omega)
      have c2 : wr.cell? ⟨b, 14, none⟩ = some (.int .i64 (-53)) := CC.out _ SR 14 (by omega)
      have c3 : wr.cell? ⟨b, 15, none⟩ = some (.int .i64 (-52)) := CC.out _ SR 15 (by omega)
      have c4 : wr.cell? ⟨b, 16, none⟩ = some (.int .i64 (-53)) := CC.out _ SR 16 (by omega)
      have c5 : wr.cell? ⟨b, 17, none⟩ = some (.int .i64 (-52)) := CC.out _ SR 17 (by omega)
      obtain ⟨wo, rfl⟩ : ∃ x, x = wr := ⟨_, rfl⟩
      go_wp2
      obtain ⟨wi, hwi⟩ : ∃ x, x = wo.alloc (.cells #[.int .i64 (-105), .int .i64 5000, .int .i64 (-53), .int .i64 (-52), .int .i64 (-53), .int .i64 (-52)] 51) := ⟨_, rfl⟩
      obtain ⟨bi, hbi⟩ : ∃ x, x = wo.heap.size := ⟨_, rfl⟩
      have SI : St w1 wi := by rw [hwi]; exact SR.step (by go_grown)
      have d0 : Hid (wi.cell? ⟨bi, 0, none⟩ = some (.int .i64 (-105))) := by rw [hwi]; exact cell_at _ _ _ 0 _ _ hbi rfl
      have d1 : Hid (wi.cell? ⟨bi, 1, none⟩ = some (.int .i64 5000)) := by rw [hwi]; exact cell_at _ _ _ 1 _ _ hbi rfl
      rw [← hwi, ← hbi]
      clear hwi hbi
      go_loopw [35] (fun j wq => ∃ m : Int, (0 ≤ m ∧ m ≤ 4) ∧ j = .int .i64 m ∧ St wi wq) (fun j _ => 5 - (intOf j).toNat)
      case atStart => exact ⟨0, by omega, rfl, St.refl SI.gl⟩
      case round =>
        obtain ⟨m, hm, rfl, SQ⟩ := hrel
        have e0 : wr.cell? ⟨bi, 0, none⟩ = some (.int .i64 (-105)) := (SQ.bl.cell (World.block_lt_of_cell? _ _ d0.out)).trans d0.out
        have e1 : wr.cell? ⟨bi, 1, none⟩ = some (.int .i64 5000) := (SQ.bl.cell (World.block_lt_of_cell? _ _ d1.out)).trans d1.out
        by_cases hlt : m < 4
        · have hm4 : m = 0 ∨ m = 1 ∨ m = 2 ∨ m = 3 := by omega
          have i0 : ∀ w, (Instr.index 50 (.agg #[.int .i64 (-53), .int .i64 (-52), .int .i64 (-53), .int .i64 (-52)]) (.int .i64 0)).run Tryd.prog w = .ok (.int .i64 (-53)) w := fun _ => by kernel_rfl
          have i1 : ∀ w, (Instr.index 50 (.agg #[.int .i64 (-53), .int .i64 (-52), .int .i64 (-53), .int .i64 (-52)]) (.int .i64 1)).run Tryd.prog w = .ok (.int .i64 (-52)) w := fun _ => by kernel_rfl
          have i2 : ∀ w, (Instr.index 50 (.agg #[.int .i64 (-53), .int .i64 (-52), .int .i64 (-53), .int .i64 (-52)]) (.int .i64 2)).run Tryd.prog w = .ok (.int .i64 (-53)) w := fun _ => by kernel_rfl
          have i3 : ∀ w, (Instr.index 50 (.agg #[.int .i64 (-53), .int .i64 (-52), .int .i64 (-53), .int .i64 (-52)]) (.int .i64 3)).run Tryd.prog w = .ok (.int .i64 (-52)) w := fun _ => by kernel_rfl
          rcases hm4 with rfl | rfl | rfl | rfl
          · go_wp2_with (go_at_call 18; refine (sh (-105) 5000 1 (-53) _ (by omega) (by omega) (by omega) (by omega) (by omega) (by omega) (by decide)).mono ?_; rintro e w2 ⟨rfl, hb⟩; have SX := SQ.step hb)
            go_roundw
            case rel => exact ⟨1, by omega, rfl, SX⟩
            case measure => simp [intOf]
          · go_wp2_with (go_at_call 18; refine (sh (-105) 5000 2 (-52) _ (by omega) (by omega) (by omega) (by omega) (by omega) (by omega) (by decide)).mono ?_; rintro e w2 ⟨rfl, hb⟩; have SX := SQ.step hb)
            go_roundw
            case rel => exact ⟨2, by omega, rfl, SX⟩
            case measure => simp [intOf]
          · go_wp2_with (go_at_call 18; refine (sh (-105) 5000 3 (-53) _ (by omega) (by omega) (by omega) (by omega) (by omega) (by omega) (by decide)).mono ?_; rintro e w2 ⟨rfl, hb⟩; have SX := SQ.step hb)
            go_roundw
            case rel => exact ⟨3, by omega, rfl, SX⟩
            case measure => simp [intOf]
          · go_wp2_with (go_at_call 18; refine (sh (-105) 5000 4 (-52) _ (by omega) (by omega) (by omega) (by omega) (by omega) (by omega) (by decide)).mono ?_; rintro e w2 ⟨rfl, hb⟩; have SX := SQ.step hb)
            go_roundw
            case rel => exact ⟨4, by omega, rfl, SX⟩
            case measure => simp [intOf]
        · have SX : St w1 wr := ⟨SQ.gl, SI.bl.trans (SQ.bl.mono SI.bl.size)⟩
          go_wp2
          go_roundw
          case rel => exact ⟨3, by omega, rfl, SX⟩
          case measure => simp [intOf]
    · go_wp2
      obtain ⟨w5, hw5⟩ : ∃ x, x = (((((((wr).alloc (.cells #[.int .i64 1, .int .i64 1, .int .i64 1] 3)).alloc (.cells #[.int .i64 34, .int .i64 33, .int .i64 33] 3)).alloc (.cells #[.int .i64 1, .int .i64 1, .int .i64 1] 3)).alloc (.cells #[.int .i64 (-33), .int .i64 (-33), .int .i64 (-34)] 3)).alloc (.cells #[.int .i64 0, .int .i64 3, .int .i64 1] 3)).alloc (.cells #[.int .i64 0, .int .i64 8, .int .i64 2] 3)).alloc (.cells #[.int .i64 100, .slice (some ⟨wr.heap.size, 0, none⟩) 3 3, .slice (some ⟨wr.heap.size + 1, 0, none⟩) 3 3, .int .i64 (-100), .slice (some ⟨wr.heap.size + 1 + 1, 0, none⟩) 3 3, .slice (some ⟨wr.heap.size + 1 + 1 + 1, 0, none⟩) 3 3, .int .i64 10, .slice (some ⟨wr.heap.size + 1 + 1 + 1 + 1, 0, none⟩) 3 3, .slice (some ⟨wr.heap.size + 1 + 1 + 1 + 1 + 1, 0, none⟩) 3 3] 53) := ⟨_, rfl⟩
      have S5 : St w1 w5 := by rw [hw5]; exact SR.step (by go_grown)
      have D0 : Hid (w5.cell? ⟨wr.heap.size + 1 + 1 + 1 + 1 + 1 + 1, 0, none⟩ = some (.int .i64 100)) := by show _ = _; rw [hw5]; exact cell_at _ _ _ 0 _ _ (by simp) rfl
      have D1 : Hid (w5.cell? ⟨wr.heap.size + 1 + 1 + 1 + 1 + 1 + 1, 1, none⟩ = some (.slice (some ⟨wr.heap.size, 0, none⟩) 3 3)) := by show _ = _; rw [hw5]; exact cell_at _ _ _ 1 _ _ (by simp) rfl
      have D2 : Hid (w5.cell? ⟨wr.heap.size + 1 + 1 + 1 + 1 + 1 + 1, 2, none⟩ = some (.slice (some ⟨wr.heap.size + 1, 0, none⟩) 3 3)) := by show _ = _; rw [hw5]; exact cell_at _ _ _ 2 _ _ (by simp) rfl
      have D3 : Hid (w5.cell? ⟨wr.heap.size + 1 + 1 + 1 + 1 + 1 + 1, 3, none⟩ = some (.int .i64 (-100))) := by show _ = _; rw [hw5]; exact cell_at _ _ _ 3 _ _ (by simp) rfl
      have D4 : Hid (w5.cell? ⟨wr.heap.size + 1 + 1 + 1 + 1 + 1 + 1, 4, none⟩ = some (.slice (some ⟨wr.heap.size + 1 + 1, 0, none⟩) 3 3)) := by show _ = _; rw [hw5]; exact cell_at _ _ _ 4 _ _ (by simp) rfl
      have D5 : Hid (w5.cell? ⟨wr.heap.size + 1 + 1 + 1 + 1 + 1 + 1, 5, none⟩ = some (.slice (some ⟨wr.heap.size + 1 + 1 + 1, 0, none⟩) 3 3)) := by show _ = _; rw [hw5]; exact cell_at _ _ _ 5 _ _ (by simp) rfl
      have D6 : Hid (w5.cell? ⟨wr.heap.size + 1 + 1 + 1 + 1 + 1 + 1, 6, none⟩ = some (.int .i64 10)) := by show _ = _; rw [hw5]; exact cell_at _ _ _ 6 _ _ (by simp) rfl
      have D7 : Hid (w5.cell? ⟨wr.heap.size + 1 + 1 + 1 + 1 + 1 + 1, 7, none⟩ = some (.slice (some ⟨wr.heap.size + 1 + 1 + 1 + 1, 0, none⟩) 3 3)) := by show _ = _; rw [hw5]; exact cell_at _ _ _ 7 _ _ (by simp) rfl
      have D8 : Hid (w5.cell? ⟨wr.heap.size + 1 + 1 + 1 + 1 + 1 + 1, 8, none⟩ = some (.slice (some ⟨wr.heap.size + 1 + 1 + 1 + 1 + 1, 0, none⟩) 3 3)) := by show _ = _; rw [hw5]; exact cell_at _ _ _ 8 _ _ (by simp) rfl
      have L0 : Hid (Sl w5 (.slice (some ⟨wr.heap.size, 0, none⟩) 3 3) [1, 1, 1]) := by
        show Sl _ _ _; rw [hw5]
        exact ⟨_, 3, rfl, Or.inr ⟨_, 0, rfl, fun j hj => by match j, hj with | 0, _ => (repeat' (first | (refine cell_at _ _ _ _ _ _ ?_ rfl; simp; done) | refine cell_in _ ?_)) | 1, _ => (repeat' (first | (refine cell_at _ _ _ _ _ _ ?_ rfl; simp; done) | refine cell_in _ ?_)) | 2, _ => (repeat' (first | (refine cell_at _ _ _ _ _ _ ?_ rfl; simp; done) | refine cell_in _ ?_))⟩⟩
      have L1 : Hid (Sl w5 (.slice (some ⟨wr.heap.size + 1, 0, none⟩) 3 3) [34, 33, 33]) := by
        show Sl _ _ _; rw [hw5]
        exact ⟨_, 3, rfl, Or.inr ⟨_, 0, rfl, fun j hj => by match j, hj with | 0, _ => (repeat' (first | (refine cell_at _ _ _ _ _ _ ?_ rfl; simp; done) | refine cell_in _ ?_)) | 1, _ => (repeat' (first | (refine cell_at _ _ _ _ _ _ ?_ rfl; simp; done) | refine cell_in _ ?_)) | 2, _ => (repeat' (first | (refine cell_at _ _ _ _ _ _ ?_ rfl; simp; done) | refine cell_in _ ?_))⟩⟩
      have L2 : Hid (Sl w5 (.slice (some ⟨wr.heap.size + 1 + 1, 0, none⟩) 3 3) [1, 1, 1]) := by
        show Sl _ _ _; rw [hw5]
        exact ⟨_, 3, rfl, Or.inr ⟨_, 0, rfl, fun j hj => by match j, hj with | 0, _ => (repeat' (first | (refine cell_at _ _ _ _ _ _ ?_ rfl; simp; done) | refine cell_in _ ?_)) | 1, _ => (repeat' (first | (refine cell_at _ _ _ _ _ _ ?_ rfl; simp; done) | refine cell_in _ ?_)) | 2, _ => (repeat' (first | (refine cell_at _ _ _ _ _ _ ?_ rfl; simp; done) | refine cell_in _ ?_))⟩⟩
      have L3 : Hid (Sl w5 (.slice (some ⟨wr.heap.size + 1 + 1 + 1, 0, none⟩) 3 3) [-33, -33, -34]) := by
        show Sl _ _ _; rw [hw5]
        exact ⟨_, 3, rfl, Or.inr ⟨_, 0, rfl, fun j hj => by match j, hj with | 0, _ => (repeat' (first | (refine cell_at _ _ _ _ _ _ ?_ rfl; simp; done) | refine cell_in _ ?_)) | 1, _ => (repeat' (first | (refine cell_at _ _ _ _ _ _ ?_ rfl; simp; done) | refine cell_in _ ?_)) | 2, _ => (repeat' (first | (refine cell_at _ _ _ _ _ _ ?_ rfl; simp; done) | refine cell_in _ ?_))⟩⟩
      have L4 : Hid (Sl w5 (.slice (some ⟨wr.heap.size + 1 + 1 + 1 + 1, 0, none⟩) 3 3) [0, 3, 1]) := by
        show Sl _ _ _; rw [hw5]
        exact ⟨_, 3, rfl, Or.inr ⟨_, 0, rfl, fun j hj => by match j, hj with | 0, _ => (repeat' (first | (refine cell_at _ _ _ _ _ _ ?_ rfl; simp; done) | refine cell_in _ ?_)) | 1, _ => (repeat' (first | (refine cell_at _ _ _ _ _ _ ?_ rfl; simp; done) | refine cell_in _ ?_)) | 2, _ => (repeat' (first | (refine cell_at _ _ _ _ _ _ ?_ rfl; simp; done) | refine cell_in _ ?_))⟩⟩
      have L5 : Hid (Sl w5 (.slice (some ⟨wr.heap.size + 1 + 1 + 1 + 1 + 1, 0, none⟩) 3 3) [0, 8, 2]) := by
        show Sl _ _ _; rw [hw5]
        exact ⟨_, 3, rfl, Or.inr ⟨_, 0, rfl, fun j hj => by match j, hj with | 0, _ => (repeat' (first | (refine cell_at _ _ _ _ _ _ ?_ rfl; simp; done) | refine cell_in _ ?_)) | 1, _ => (repeat' (first | (refine cell_at _ _ _ _ _ _ ?_ rfl; simp; done) | refine cell_in _ ?_)) | 2, _ => (repeat' (first | (refine cell_at _ _ _ _ _ _ ?_ rfl; simp; done) | refine cell_in _ ?_))⟩⟩
      rw [← hw5]
      clear hw5
      obtain ⟨bw, hbw⟩ : ∃ x, x = wr.heap.size := ⟨_, rfl⟩
      rw [← hbw] at D0 D1 D2 D3 D4 D5 D6 D7 D8 L0 L1 L2 L3 L4 L5 ⊢
      have S05 : Hid (Below w1.heap.size w1 w5) := S5.bl
      have G5 := S5.gl
      clear hbw SR S5
      go_loopw [70] (fun i wq => ∃ k : Int, (0 ≤ k ∧ k ≤ 3) ∧ i = .int .i64 k ∧ St w5 wq) (fun i _ => 4 - (intOf i).toNat)
      case atStart => exact ⟨0, by omega, rfl, St.refl G5⟩
      case round =>
        obtain ⟨k, hk, rfl, SQ⟩ := hrel
        have hk3 : k = 0 ∨ k = 1 ∨ k = 2 ∨ k = 3 := by omega
        rcases hk3 with rfl | rfl | rfl | rfl
        · have c0 : wr.cell? ⟨bw + 1 + 1 + 1 + 1 + 1 + 1, 0, none⟩ = some (.int .i64 100) := (SQ.bl.cell (World.block_lt_of_cell? _ _ D0.out)).trans D0.out
          have c1 : wr.cell? ⟨bw + 1 + 1 + 1 + 1 + 1 + 1, 1, none⟩ = some (.slice (some ⟨bw, 0, none⟩) 3 3) := (SQ.bl.cell (World.block_lt_of_cell? _ _ D1.out)).trans D1.out
          have c2 : wr.cell? ⟨bw + 1 + 1 + 1 + 1 + 1 + 1, 2, none⟩ = some (.slice (some ⟨bw + 1, 0, none⟩) 3 3) := (SQ.bl.cell (World.block_lt_of_cell? _ _ D2.out)).trans D2.out
          go_wp2_with (first | (go_at_call 15; refine (spx 100 [1, 1, 1] [34, 33, 33] 3 _ _ (L0.out.below (SQ.bl.alloc SQ.bl.size _)) (by decide) (by decide) (by decide) rfl).mono ?_; rintro e w6 ⟨a6, k6, rfl, sl6, b6⟩; have b7 : Below w5.heap.size w5 w6 := (SQ.bl.alloc SQ.bl.size _).trans (b6.mono (SQ.bl.alloc SQ.bl.size _).size); have f2 := (b6.cell (World.block_lt_of_cell? _ _ (cell_at wr #[.int .i64 100, .slice (some ⟨bw, 0, none⟩) 3 3, .slice (some ⟨bw + 1, 0, none⟩) 3 3] 53 2 _ _ rfl rfl))).trans (cell_at wr #[.int .i64 100, .slice (some ⟨bw, 0, none⟩) 3 3, .slice (some ⟨bw + 1, 0, none⟩) 3 3] 53 2 _ _ rfl rfl))  | (go_at_call 19; refine (same_yes _ _ _ _ 3 _ _ rfl sl6 (L1.out.below b7) (by omega)).mono ?_; rintro e w8 ⟨rfl, q8⟩))
          go_roundw
          case rel => exact ⟨1, by omega, rfl, ⟨(G5.below b7).below q8.bl, b7.trans (q8.bl.mono b7.size)⟩⟩
          case measure => simp [intOf]
        · have c0 : wr.cell? ⟨bw + 1 + 1 + 1 + 1 + 1 + 1, 3, none⟩ = some (.int .i64 (-100)) := (SQ.bl.cell (World.block_lt_of_cell? _ _ D3.out)).trans D3.out
          have c1 : wr.cell? ⟨bw + 1 + 1 + 1 + 1 + 1 + 1, 4, none⟩ = some (.slice (some ⟨bw + 1 + 1, 0, none⟩) 3 3) := (SQ.bl.cell (World.block_lt_of_cell? _ _ D4.out)).trans D4.out
          have c2 : wr.cell? ⟨bw + 1 + 1 + 1 + 1 + 1 + 1, 5, none⟩ = some (.slice (some ⟨bw + 1 + 1 + 1, 0, none⟩) 3 3) := (SQ.bl.cell (World.block_lt_of_cell? _ _ D5.out)).trans D5.out
          go_wp2_with (first | (go_at_call 15; refine (spx (-100) [1, 1, 1] [-33, -33, -34] 3 _ _ (L2.out.below (SQ.bl.alloc SQ.bl.size _)) (by decide) (by decide) (by decide) rfl).mono ?_; rintro e w6 ⟨a6, k6, rfl, sl6, b6⟩; have b7 : Below w5.heap.size w5 w6 := (SQ.bl.alloc SQ.bl.size _).trans (b6.mono (SQ.bl.alloc SQ.bl.size _).size); have f2 := (b6.cell (World.block_lt_of_cell? _ _ (cell_at wr #[.int .i64 (-100), .slice (some ⟨bw + 1 + 1, 0, none⟩) 3 3, .slice (some ⟨bw + 1 + 1 + 1, 0, none⟩) 3 3] 53 2 _ _ rfl rfl))).trans (cell_at wr #[.int .i64 (-100), .slice (some ⟨bw + 1 + 1, 0, none⟩) 3 3, .slice (some ⟨bw + 1 + 1 + 1, 0, none⟩) 3 3] 53 2 _ _ rfl rfl))  | (go_at_call 19; refine (same_yes _ _ _ _ 3 _ _ rfl sl6 (L3.out.below b7) (by omega)).mono ?_; rintro e w8 ⟨rfl, q8⟩))
          go_roundw
          case rel => exact ⟨2, by omega, rfl, ⟨(G5.below b7).below q8.bl, b7.trans (q8.bl.mono b7.size)⟩⟩
          case measure => simp [intOf]
        · have c0 : wr.cell? ⟨bw + 1 + 1 + 1 + 1 + 1 + 1, 6, none⟩ = some (.int .i64 10) := (SQ.bl.cell (World.block_lt_of_cell? _ _ D6.out)).trans D6.out
          have c1 : wr.cell? ⟨bw + 1 + 1 + 1 + 1 + 1 + 1, 7, none⟩ = some (.slice (some ⟨bw + 1 + 1 + 1 + 1, 0, none⟩) 3 3) := (SQ.bl.cell (World.block_lt_of_cell? _ _ D7.out)).trans D7.out
          have c2 : wr.cell? ⟨bw + 1 + 1 + 1 + 1 + 1 + 1, 8, none⟩ = some (.slice (some ⟨bw + 1 + 1 + 1 + 1 + 1, 0, none⟩) 3 3) := (SQ.bl.cell (World.block_lt_of_cell? _ _ D8.out)).trans D8.out
          go_wp2_with (first | (go_at_call 15; refine (spx 10 [0, 3, 1] [0, 8, 2] 3 _ _ (L4.out.below (SQ.bl.alloc SQ.bl.size _)) (by decide) (by decide) (by decide) rfl).mono ?_; rintro e w6 ⟨a6, k6, rfl, sl6, b6⟩; have b7 : Below w5.heap.size w5 w6 := (SQ.bl.alloc SQ.bl.size _).trans (b6.mono (SQ.bl.alloc SQ.bl.size _).size); have f2 := (b6.cell (World.block_lt_of_cell? _ _ (cell_at wr #[.int .i64 10, .slice (some ⟨bw + 1 + 1 + 1 + 1, 0, none⟩) 3 3, .slice (some ⟨bw + 1 + 1 + 1 + 1 + 1, 0, none⟩) 3 3] 53 2 _ _ rfl rfl))).trans (cell_at wr #[.int .i64 10, .slice (some ⟨bw + 1 + 1 + 1 + 1, 0, none⟩) 3 3, .slice (some ⟨bw + 1 + 1 + 1 + 1 + 1, 0, none⟩) 3 3] 53 2 _ _ rfl rfl))  | (go_at_call 19; refine (same_yes _ _ _ _ 3 _ _ rfl sl6 (L5.out.below b7) (by omega)).mono ?_; rintro e w8 ⟨rfl, q8⟩))
          go_roundw
          case rel => exact ⟨3, by omega, rfl, ⟨(G5.below b7).below q8.bl, b7.trans (q8.bl.mono b7.size)⟩⟩
          case measure => simp [intOf]
        · have S9 : St w1 wr := ⟨SQ.gl, S05.out.trans (SQ.bl.mono S05.out.size)⟩
          clear SQ
          go_wp2_with (first | (go_at_call 21; (with_reducible refine (tx5 w1 _ S9).mono ?_); rintro e wa ⟨rfl, Sa⟩)  | (go_at_call 21; (with_reducible refine (tx6 w1 _ Sa).mono ?_); rintro e wb ⟨rfl, Sb⟩)  | (go_at_call 22; (with_reducible refine (rd7 w1 _ Sb).mono ?_); rintro e wc ⟨rfl, Sc⟩)  | (go_at_call 22; (with_reducible refine (rd0 w1 _ Sc).mono ?_); rintro e wd ⟨rfl, Sd⟩)  | (go_at_call 22; (with_reducible refine (rd1 w1 _ Sd).mono ?_); rintro e we ⟨rfl, Se⟩))
          go_ret
          exact ⟨rfl, ⟨Se.gl, S01.out.trans (Se.bl.mono S01.out.size)⟩⟩
end Go.Proofs.YthdmgnlemmpjkaaDoor
