/- Contracts of the kit's LentInts and KeptInts: a slice lent with marks behind it, and what is left of it. -/
import Derived.Test.YtjfopggpohakkaaRn
namespace Go.Proofs.Ytjfopggpohakkaa
open Go.RowKit

/-- The marks behind. -/
def marks (k : Nat) : List Int := (List.range k).map fun (i : Nat) => 8000024 + (i : Int)
theorem marks_len (k : Nat) : (marks k).length = k := by simp [marks]
theorem marks_succ (k : Nat) : marks (k + 1) = marks k ++ [8000024 + (k : Int)] := by simp [marks, List.range_succ]
set_option maxHeartbeats 400000 in
theorem mark_any (i : Int) (w : World) (h0 : 0 ≤ i) (h1 : i ≤ 4611686018427387904) : Calls Try.prog 76 #[.int .i64 1, .int .i64 i] w fun e w' => e = .returned (.int .i64 (8000024 + i)) ∧ w = w' := by
  go_enter Try.func76, Try.ntmps76
  go_wp2
  go_ret
  exact ⟨rfl, rfl⟩
/-- A lent slice: its elements, and the marks behind them. -/
def Lent (w : World) (g n : Nat) (zs : List Int) : Prop := n = zs.length ∧ ∀ j, j < n + 12 → w.cell? ⟨g, 0 + j, none⟩ = some (.int .i64 ((zs ++ marks 12).getD j 0))
theorem Lent.below {w w' : World} {g n : Nat} {zs : List Int} (h : Lent w g n zs) (hb : Below w.heap.size w w') : Lent w' g n zs :=
  ⟨h.1, fun j hj => (hb.cell (World.block_lt_of_cell? _ _ (h.2 j hj))).trans (h.2 j hj)⟩
theorem Lent.sl {w : World} {g n c : Nat} {zs : List Int} (h : Lent w g n zs) : Sl w (.slice (some ⟨g, 0, none⟩) n c) zs := by
  obtain ⟨rfl, h⟩ := h
  exact ⟨_, c, rfl, Or.inr ⟨g, 0, rfl, fun j hj => by
    rw [h j (by omega), List.getD_eq_getElem?_getD, List.getD_eq_getElem?_getD, List.getElem?_append_left hj]⟩⟩
set_option maxRecDepth 100000 in
set_option maxHeartbeats 3200000 in
theorem lent_any (a : Option Addr) (n c : Nat) (zs : List Int) (w : World) (hn : n = zs.length) (h : zs = [] ∨ ∃ b off, a = some ⟨b, off, none⟩ ∧ ∀ j, j < zs.length → w.cell? ⟨b, off + j, none⟩ = some (.int .i64 (zs.getD j 0))) (hnone : a = none → c = 0) (hlen : n ≤ 17592186044416) :
    Calls Try.prog 47 #[.slice a n c] w fun e w' => ∃ g, e = .returned (.slice (some ⟨g, 0, none⟩) n (n + 12)) ∧ Lent w' g n zs ∧ Below w.heap.size w w' ∧ w.heap.size ≤ g := by
  have HN := Lib.hid hn
  have H := Lib.hid h
  have HO := Lib.hid (one_cells zs)
  have hl : (zs.map (Value.int .i64)).length = n * 1 := by rw [List.length_map]; omega
  have HL := Lib.hid hl
  have HNO : Hid (a = none → n = 0 ∧ c = 0) := by
    intro e
    refine ⟨?_, hnone e⟩
    rcases h with h | ⟨b, off, h, _⟩
    · rw [hn, h]; rfl
    · rw [e] at h; cases h
  obtain ⟨i0, hi, hz0, hz1, hz2⟩ := info_parts info_int
  have BB : i0.bytes * (n + 12) ≤ 281474976710656 := by rw [hz2]; omega
  obtain ⟨B, hB⟩ : ∃ B, B = w.heap.size := ⟨_, rfl⟩
  have HB := Lib.hid hB
  have CR := Lib.hid (fun w1 (b : Below B w w1) => cells_of (carry H.out (show Below w.heap.size w w1 by rw [← HB.out]; exact b)))
  have hB1 : B ≤ w.heap.size := by omega
  have hB2 : w.heap.size ≤ B := by omega
  clear hn h hl hnone hB
  go_enter Try.func47, Try.ntmps47
  go_wp2_with (first | (refine wpList_make_own _ rfl _ _ 24 rfl B 3 i0 (.int .i64 0) 1 Try.underlying24 hi hz0 hz1 .i64 .i64 _ (n + 12) rfl rfl (by omega) BB (by unfold maxLen; omega) hB1 ?_; intro w1 hown1 hgrow1; have b1 := Lib.hid ((Below.refl B w).grown hgrow1 hB1 (fun k hk => by cases hk)))  | (at_builtin; go_loud ((refine wpList_append_fits_any _ rfl (.tmp 9) (.tmp 10) 24 rfl B 3 i0 1 Try.underlying24 hi hz1 w.heap.size 0 (n + 12) [] rfl hown1 a n c (zs.map (Value.int .i64)) rfl HL.out HNO.out (CR.out _ b1.out) HO.out (by omega) ?_); intro w2 hown2 hgrow2; simp only [Nat.zero_add, List.nil_append] at hown2; have b2 := Lib.hid (b1.out.grown hgrow2 (by have := b1.out.size; omega) (fun k hk => by cases hk; exact hB1)); clear hown1 hgrow1 hgrow2)))
  have own0 : w2.ownsRow B 3 1 (.slice (some ⟨w.heap.size, 0, none⟩) (n + 0) (n + 12)) (n + 0) ((zs ++ marks 0).map (Value.int .i64)) := by simpa [marks] using hown2
  have OW := Lib.hid own0
  clear own0 hown2
  go_loopw [3, 4] (fun v i wr => ∃ k : Nat, k ≤ 12 ∧ i = .int .i64 k ∧ v = .slice (some ⟨w.heap.size, 0, none⟩) (n + k) (n + 12) ∧ wr.ownsRow B 3 1 (.slice (some ⟨w.heap.size, 0, none⟩) (n + k) (n + 12)) (n + k) ((zs ++ marks k).map (Value.int .i64)) ∧ Below B w wr) (fun _ i _ => 13 - (intOf i).toNat)
  case atStart => exact ⟨0, Nat.zero_le _, rfl, rfl, OW.out, b2.out⟩
  case round =>
    obtain ⟨k, hk, rfl, rfl, hown, hbl⟩ := hrel
    by_cases hlt : k < 12
    · have NX := Lib.hid (fun (w' : World) (h : w'.ownsRow B 3 1 (.slice (some ⟨w.heap.size, 0, none⟩) (n + k + 1) (n + 12)) (n + k + 1) ((zs ++ marks k).map (Value.int .i64) ++ [.int .i64 (8000024 + (k : Int))])) => (by rw [marks_succ, ← List.append_assoc, List.map_append]; exact h : w'.ownsRow B 3 1 (.slice (some ⟨w.heap.size, 0, none⟩) (n + (k + 1)) (n + 12)) (n + (k + 1)) ((zs ++ marks (k + 1)).map (Value.int .i64))))
      have HBL := Lib.hid hbl
      clear hbl
      go_wp2_with (first | (go_at_call 76; refine (mark_any _ _ (by omega) (by omega)).mono ?_; rintro e w' ⟨rfl, rfl⟩)  | (at_builtin; go_loud (refine wpList_append_fits_any _ rfl (.tmp 16) (.tmp 19) 24 rfl B 3 i0 1 Try.underlying24 hi hz1 w.heap.size (n + k) (n + 12) _ rfl (hown.alloc _) (some ⟨wr.heap.size, 0, none⟩) 1 1 [.int .i64 (8000024 + (k : Int))] rfl rfl (fun e => by cases e) ?c1 ?c2 (by omega) ?_; (case c1 => (intro ad had j u hj; obtain rfl := Option.some.inj had; match j, hj with | 0, hj => (simp at hj; subst hj; simp [Addr.add]))); (case c2 => (intro u hu; simp at hu; subst hu; rfl)); intro w3 hown3 hgrow3)))
      have R := NX.out _ hown3
      have hb3 : Below B w w3 := (HBL.out.alloc (by have := HBL.out.size; omega) _).grown hgrow3 (by have := HBL.out.size; simp only [World.size_alloc]; omega) (fun g hg => by cases hg; exact hB1)
      have RR := Lib.hid R
      clear R hown3 hgrow3 hown
      go_wp2
      go_roundw
      case rel => exact ⟨k + 1, by omega, by go_num, rfl, RR.out, hb3⟩
      case measure => simp [intOf]; omega
    · obtain rfl : k = 12 := by omega
      have HBL := Lib.hid hbl
      have hlen2 : (zs ++ marks 12).length = n + 12 := by rw [List.length_append, marks_len, ← HN.out]
      have FULL : Hid (Lent wr w.heap.size n zs) := ⟨HN.out, by
        have := own_full (w := wr) (B := B) (g := w.heap.size) (c := n + 12) (zs := zs ++ marks 12) (by rw [hlen2]; exact hown)
        rw [hlen2] at this
        exact this⟩
      clear hbl hlen2 hown
      go_wp2
      go_ret
      exact ⟨_, rfl, FULL.out, (by rw [← HB.out]; exact HBL.out), Nat.le_refl _⟩
/-- What was lent and is unchanged is found so. -/
theorem marks_get (zs : List Int) (k : Nat) (h : zs.length ≤ k) (h2 : k < zs.length + 12) : (zs ++ marks 12).getD k 0 = 8000024 + ((k : Int) - zs.length) := by
  rw [List.getD_eq_getElem?_getD, List.getElem?_append_right h, marks, List.getElem?_map, List.getElem?_range (by omega)]
  show 8000024 + ((k - zs.length : Nat) : Int) = _
  omega
set_option maxRecDepth 100000 in
set_option maxHeartbeats 1600000 in
theorem kept_any (a : Option Addr) (g n c : Nat) (zs : List Int) (w : World) (L : Lent w g n zs) (h : zs = [] ∨ ∃ b off, a = some ⟨b, off, none⟩ ∧ ∀ j, j < zs.length → w.cell? ⟨b, off + j, none⟩ = some (.int .i64 (zs.getD j 0))) (hlen : n ≤ 17592186044416) :
    Calls Try.prog 49 #[.slice (some ⟨g, 0, none⟩) n (n + 12), .slice a n c] w fun e w' => e = .returned (.bool true) ∧ Qt w w' := by
  have HL := Lib.hid L
  have H := Lib.hid h
  clear L h
  go_enter Try.func49, Try.ntmps49
  go_wp2
  go_loopw [6] (fun i wr => ∃ k : Nat, k ≤ n + 12 ∧ i = .int .i64 k ∧ Qt w wr) (fun i _ => n + 13 - (intOf i).toNat)
  case atStart => exact ⟨0, Nat.zero_le _, rfl, Qt.refl w⟩
  case round =>
    obtain ⟨k, hk, rfl, hq⟩ := hrel
    have HQ := Lib.hid hq
    by_cases hlt : k < n + 12
    · by_cases hs : k < n
      · rcases H.out with h0 | ⟨b, off, rfl, hc⟩
        · exfalso; have := HL.out.1; rw [h0] at this; simp at this; omega
        · have hck := hc k (by have := HL.out.1; omega)
          have hgk := HL.out.2 k (by omega)
          rw [List.getD_eq_getElem?_getD, List.getElem?_append_left (by have := HL.out.1; omega), ← List.getD_eq_getElem?_getD] at hgk
          obtain ⟨x, hx⟩ : ∃ x, x = zs.getD k 0 := ⟨_, rfl⟩
          rw [← hx] at hck hgk
          clear hx hc
          have hck := hq.cell hck
          have hgk := hq.cell hgk
          rw [Nat.zero_add] at hgk
          have d1 : decide (k < n) = true := decide_eq_true hs
          have d2 : decide (n ≤ k) = false := decide_eq_false (by omega)
          clear hq
          go_wp2_with fail
          go_quiet ((go_at_call 76; exact quiet_sym (mark_any _ _ (by omega) (by omega))))
          go_wp2
          go_roundw
          case rel => exact ⟨k + 1, by omega, by go_num, HQ.out.trans (by first | exact ⟨_, rfl⟩ | exact Qt.refl _)⟩
          case measure => simp [intOf]; omega
      · have hgk := HL.out.2 k (by omega)
        rw [marks_get zs k (by have := HL.out.1; omega) (by have := HL.out.1; omega), ← HL.out.1] at hgk
        have hgk := hq.cell hgk
        rw [Nat.zero_add] at hgk
        have d1 : decide (k < n) = false := decide_eq_false hs
        have d2 : decide (n ≤ k) = true := decide_eq_true (by omega)
        clear hq
        go_wp2_with fail
        go_quiet ((go_at_call 76; exact quiet_sym (mark_any _ _ (by omega) (by omega))))
        go_wp2
        go_roundw
        case rel => exact ⟨k + 1, by omega, by go_num, HQ.out.trans (by first | exact ⟨_, rfl⟩ | exact Qt.refl _)⟩
        case measure => simp [intOf]; omega
    · go_wp2
      go_ret
      exact ⟨rfl, HQ.out⟩
end Go.Proofs.Ytjfopggpohakkaa
