/- CivilSmall: its walk. -/
import Derived.Test.YtcnnfgigpjbcpaaDoorSmA
import Derived.Test.YtcnnfgigpjbcpaaDoorCTells
import Derived.Test.YtcnnfgigpjbcpaaDoorCReads
import Derived.BigRegion
import Derived.Deep.RegionHeld3
namespace Go.Proofs.YtcnnfgigpjbcpaaDoor
open Go.RowKit
theorem seven (w : World) : ∀ k, k < 7 → ∃ d : Int, (w.alloc (.cells #[.int .i64 0, .int .i64 1, .int .i64 28, .int .i64 29, .int .i64 30, .int .i64 31, .int .i64 32] 3)).cell? ⟨w.heap.size, k, none⟩ = some (.int .i64 d) := by
  intro k hk
  match k, hk with
  | 0, _ => exact ⟨_, cell_at _ _ _ _ _ _ rfl rfl⟩
  | 1, _ => exact ⟨_, cell_at _ _ _ _ _ _ rfl rfl⟩
  | 2, _ => exact ⟨_, cell_at _ _ _ _ _ _ rfl rfl⟩
  | 3, _ => exact ⟨_, cell_at _ _ _ _ _ _ rfl rfl⟩
  | 4, _ => exact ⟨_, cell_at _ _ _ _ _ _ rfl rfl⟩
  | 5, _ => exact ⟨_, cell_at _ _ _ _ _ _ rfl rfl⟩
  | 6, _ => exact ⟨_, cell_at _ _ _ _ _ _ rfl rfl⟩
theorem twelve (w : World) : ∀ k, k < 12 → ∃ d : Int, -9223372036854775808 ≤ d ∧ d ≤ 9223372036854775807 ∧ (w.alloc (.cells #[.int .i64 (-1), .int .i64 0, .int .i64 1, .int .i64 1439, .int .i64 1440, .int .i64 730483, .int .i64 730484, .int .i64 730485, .int .i64 1051898399, .int .i64 1051898400, .int .i64 (-9223372036854775808), .int .i64 9223372036854775807] 3)).cell? ⟨w.heap.size, k, none⟩ = some (.int .i64 d) := by
  intro k hk
  match k, hk with
  | 0, _ => exact ⟨-1, by omega, by omega, cell_at _ _ _ _ _ _ rfl rfl⟩
  | 1, _ => exact ⟨0, by omega, by omega, cell_at _ _ _ _ _ _ rfl rfl⟩
  | 2, _ => exact ⟨1, by omega, by omega, cell_at _ _ _ _ _ _ rfl rfl⟩
  | 3, _ => exact ⟨1439, by omega, by omega, cell_at _ _ _ _ _ _ rfl rfl⟩
  | 4, _ => exact ⟨1440, by omega, by omega, cell_at _ _ _ _ _ _ rfl rfl⟩
  | 5, _ => exact ⟨730483, by omega, by omega, cell_at _ _ _ _ _ _ rfl rfl⟩
  | 6, _ => exact ⟨730484, by omega, by omega, cell_at _ _ _ _ _ _ rfl rfl⟩
  | 7, _ => exact ⟨730485, by omega, by omega, cell_at _ _ _ _ _ _ rfl rfl⟩
  | 8, _ => exact ⟨1051898399, by omega, by omega, cell_at _ _ _ _ _ _ rfl rfl⟩
  | 9, _ => exact ⟨1051898400, by omega, by omega, cell_at _ _ _ _ _ _ rfl rfl⟩
  | 10, _ => exact ⟨-9223372036854775808, by omega, by omega, cell_at _ _ _ _ _ _ rfl rfl⟩
  | 11, _ => exact ⟨9223372036854775807, by omega, by omega, cell_at _ _ _ _ _ _ rfl rfl⟩
theorem two (w : World) : ∀ k, k < 2 → ∃ z : ByteArray, z.size ≤ 16 ∧ (w.alloc (.cells #[.string ⟨#[50, 48, 48, 52, 45, 48, 50, 45, 50, 57]⟩, .string ⟨#[52, 48, 48, 48, 45, 49, 50, 45, 51, 49, 32, 50, 51, 58, 53, 57]⟩] 9)).cell? ⟨w.heap.size, k, none⟩ = some (.string z) := by
  intro k hk
  match k, hk with
  | 0, _ => exact ⟨_, by decide, cell_at _ _ _ _ _ _ rfl rfl⟩
  | 1, _ => exact ⟨_, by decide, cell_at _ _ _ _ _ _ rfl rfl⟩
set_option maxRecDepth 100000 in
set_option maxHeartbeats 6400000 in
theorem small_true (w0 w : World) (S : St w0 w) : Calls Tryd.prog 6 #[] w fun e w' => e = .returned (.bool true) ∧ St w0 w' := by
  have T := Lib.hid (fun y m d n i wa wb (h : St wa wb) => tells_true y m d n i wa wb h)
  go_enter Tryd.func6, Tryd.ntmps6
  go_wp2
  go_loopw [1] (fun s wr => ∃ y : Int, 2000 ≤ y ∧ y ≤ 4002 ∧ s = .int .i64 y ∧ St w0 wr) (fun s _ => (4003 - intOf s).toNat)
  case atStart => exact ⟨2000, by omega, by omega, rfl, S⟩
  case round =>
    obtain ⟨y, hy0, hy1, rfl, SA⟩ := hrel
    obtain ⟨wa, rfl⟩ : ∃ x, x = wr := ⟨_, rfl⟩
    by_cases hy : y ≤ 4001
    · go_wp2
      go_loopw [2] (fun s wr => ∃ m : Int, 0 ≤ m ∧ m ≤ 14 ∧ s = .int .i64 m ∧ St w0 wr) (fun s _ => (15 - intOf s).toNat)
      case atStart => exact ⟨0, by omega, by omega, rfl, SA⟩
      case round =>
        obtain ⟨m, hm0, hm1, rfl, SB⟩ := hrel
        obtain ⟨wb, rfl⟩ : ∃ x, x = wr := ⟨_, rfl⟩
        by_cases hm : m ≤ 13
        · go_wp2
          have SW : St w0 (wb.alloc (.cells #[.int .i64 0, .int .i64 1, .int .i64 28, .int .i64 29, .int .i64 30, .int .i64 31, .int .i64 32] 3)) := SB.step (by go_grown)
          have C7 := seven wb
          generalize wb.alloc (.cells #[.int .i64 0, .int .i64 1, .int .i64 28, .int .i64 29, .int .i64 30, .int .i64 31, .int .i64 32] 3) = w7 at C7 SW ⊢
          have HC := Lib.hid C7
          clear C7
          go_loopw [26] (fun s wr => ∃ k : Nat, k ≤ 7 ∧ s = .int .i64 k ∧ St w7 wr) (fun s _ => 8 - (intOf s).toNat)
          case atStart => exact ⟨0, by omega, rfl, St.refl SW.gl⟩
          case round =>
            obtain ⟨k, hk, rfl, SC⟩ := hrel
            by_cases hlt : k < 7
            · obtain ⟨d, hcd⟩ := HC.out k hlt
              have hcr := (SC.bl.cell (World.block_lt_of_cell? _ _ hcd)).trans hcd
              clear hcd
              go_wp2_with (go_at_call 3; refine (T.out _ _ _ _ _ w7 _ SC).mono ?_; rintro e w3 ⟨rfl, SD⟩)
              all_goals go_roundw
              all_goals first | exact ⟨k + 1, by omega, by go_num, SD⟩ | exact ⟨k + 1, by omega, by go_num, SC⟩ | (simp [intOf]; omega)
            · have SE : St w0 wr := SW.step SC.bl
              go_wp2
              go_roundw
              case rel => exact ⟨m + 1, by omega, by omega, by go_num, SE⟩
              case measure => simp [intOf]; omega
        · go_wp2
          go_roundw
          case rel => exact ⟨y + 1, by omega, by omega, by go_num, SB⟩
          case measure => simp [intOf]; omega
    · go_wp2
      have SW : St w0 (wa.alloc (.cells #[.int .i64 (-1), .int .i64 0, .int .i64 1, .int .i64 1439, .int .i64 1440, .int .i64 730483, .int .i64 730484, .int .i64 730485, .int .i64 1051898399, .int .i64 1051898400, .int .i64 (-9223372036854775808), .int .i64 9223372036854775807] 3)) := SA.step (by go_grown)
      have C12 := twelve wa
      generalize wa.alloc (.cells #[.int .i64 (-1), .int .i64 0, .int .i64 1, .int .i64 1439, .int .i64 1440, .int .i64 730483, .int .i64 730484, .int .i64 730485, .int .i64 1051898399, .int .i64 1051898400, .int .i64 (-9223372036854775808), .int .i64 9223372036854775807] 3) = w12 at C12 SW ⊢
      have HC := Lib.hid C12
      clear C12
      go_loopw [50] (fun s wr => ∃ k : Nat, k ≤ 12 ∧ s = .int .i64 k ∧ St w12 wr) (fun s _ => 13 - (intOf s).toNat)
      case atStart => exact ⟨0, by omega, rfl, St.refl SW.gl⟩
      case round =>
        obtain ⟨k, hk, rfl, SC⟩ := hrel
        obtain ⟨wc, rfl⟩ : ∃ x, x = wr := ⟨_, rfl⟩
        by_cases hlt : k < 12
        · have dk : decide ((k : Int) < 12) = true := decide_eq_true (by omega)
          obtain ⟨a, a1, a2, hca⟩ := HC.out k hlt
          have hcr := (SC.bl.cell (World.block_lt_of_cell? _ _ hca)).trans hca
          clear hca
          go_wp2
          go_loopw [56] (fun s wr => ∃ j : Nat, j ≤ 12 ∧ s = .int .i64 j ∧ St w12 wr) (fun s _ => 13 - (intOf s).toNat)
          case atStart => exact ⟨0, by omega, rfl, SC⟩
          case round =>
            obtain ⟨j, hj, rfl, SD⟩ := hrel
            by_cases hjt : j < 12
            · obtain ⟨b, b1, b2, hcb⟩ := HC.out j hjt
              have hcs := (SD.bl.cell (World.block_lt_of_cell? _ _ hcb)).trans hcb
              clear hcb
              have N1 : Hid (∀ wq, St w12 wq → Calls Tryd.prog 24 #[.slice none 0 0, .int .i64 a, .int .i64 b, .int .i64 0, .int .i64 101, .int .i64 1231] wq fun e w' => e = .returned (.bool true) ∧ St w12 w') := fun wq h => civilWorks_any none 0 0 [] a b 0 101 1231 (by omega) (by omega) (by omega) (by omega) (by omega) w12 wq h rfl (Or.inl rfl) (fun _ => rfl)
              have N2 : Hid (∀ wq : World, St w12 wq → Calls Tryd.prog 24 #[.slice (some ⟨wq.heap.size, 0, none⟩) 2 2, .int .i64 a, .int .i64 a, .int .i64 b, .int .i64 228, .int .i64 301] (wq.alloc (.cells #[.int .i64 0, .int .i64 1] 3)) fun e w' => e = .returned (.bool true) ∧ St w12 w') := fun wq h => civilWorks_any (some ⟨wq.heap.size, 0, none⟩) 2 2 [0, 1] a a b 228 301 b2 (by omega) (by omega) (by omega) (by omega) w12 _ (h.step (by go_grown)) rfl (Or.inr ⟨_, _, rfl, fun j hj => by
                match j, hj with
                | 0, _ => exact cell_at _ _ _ _ _ _ rfl rfl
                | 1, _ => exact cell_at _ _ _ _ _ _ rfl rfl⟩) (fun e => by cases e)
              have DT := Lib.hid (fun wq (h : St w12 wq) => date_true a b w12 wq h)
              have TT := Lib.hid (fun wq (h : St w12 wq) => tells_true a b a b a w12 wq h)
              go_wp2_with (first | (go_at_call 18; refine (DT.out _ SD).mono ?_; rintro e w3 ⟨rfl, SD⟩) | (go_at_call 3; refine (TT.out _ SD).mono ?_; rintro e w3 ⟨rfl, SD⟩)  | (go_at_call 24; (with_reducible refine (N1.out _ SD).mono ?_); rintro e w3 ⟨rfl, SD⟩) | (go_at_call 24; (with_reducible refine (N2.out _ SD).mono ?_); rintro e w3 ⟨rfl, SD⟩))
              go_roundw
              case rel => exact ⟨j + 1, by omega, by go_num, SD⟩
              case measure => simp [intOf]; omega
            · go_wp2
              go_roundw
              case rel => exact ⟨k + 1, by omega, by go_num, SD⟩
              case measure => simp [intOf]; omega
        · have dk : decide ((k : Int) < 12) = false := decide_eq_false (by omega)
          have SE : St w0 wc := SW.step SC.bl
          go_wp2
          have SW2 : St w0 (wc.alloc (.cells #[.string ⟨#[50, 48, 48, 52, 45, 48, 50, 45, 50, 57]⟩, .string ⟨#[52, 48, 48, 48, 45, 49, 50, 45, 51, 49, 32, 50, 51, 58, 53, 57]⟩] 9)) := SE.step (by go_grown)
          have C2 := two wc
          generalize wc.alloc (.cells #[.string ⟨#[50, 48, 48, 52, 45, 48, 50, 45, 50, 57]⟩, .string ⟨#[52, 48, 48, 48, 45, 49, 50, 45, 51, 49, 32, 50, 51, 58, 53, 57]⟩] 9) = w2 at C2 SW2 ⊢
          have HC2 := Lib.hid C2
          clear C2
          go_loopw [91] (fun s wr => ∃ q : Nat, q ≤ 2 ∧ s = .int .i64 q ∧ St w2 wr) (fun s _ => 3 - (intOf s).toNat)
          case atStart => exact ⟨0, by omega, rfl, St.refl SW2.gl⟩
          case round =>
            obtain ⟨q, hq, rfl, SF⟩ := hrel
            obtain ⟨we, rfl⟩ : ∃ x, x = wr := ⟨_, rfl⟩
            by_cases hqt : q < 2
            · have dq : decide ((q : Int) < 2) = true := decide_eq_true (by omega)
              obtain ⟨z, hz, hcz⟩ := HC2.out q hqt
              have hct := (SF.bl.cell (World.block_lt_of_cell? _ _ hcz)).trans hcz
              clear hcz
              go_wp2
              go_loopw [12] (fun s wr => ∃ i : Nat, i ≤ z.size ∧ s = .int .i64 i ∧ St w2 wr) (fun s _ => z.size + 1 - (intOf s).toNat)
              case atStart => exact ⟨0, by omega, rfl, SF⟩
              case round =>
                obtain ⟨i, hi, rfl, SI⟩ := hrel
                obtain ⟨wi, rfl⟩ : ∃ x, x = wr := ⟨_, rfl⟩
                by_cases hit : i < z.size
                · go_wp2
                  go_loopw [13] (fun s wr => ∃ c : Nat, c ≤ 256 ∧ s = .int .i64 c ∧ St w2 wr) (fun s _ => 257 - (intOf s).toNat)
                  case atStart => exact ⟨0, by omega, rfl, SI⟩
                  case round =>
                    obtain ⟨c, hc, rfl, SJ⟩ := hrel
                    obtain ⟨wj, rfl⟩ : ∃ x, x = wr := ⟨_, rfl⟩
                    by_cases hct : c < 256
                    · go_wp2
                      have hcw : IntKind.u8.wrap (c : Int) = c := by simp [IntKind.wrap, IntKind.bits, IntKind.signed]; omega
                      have hiw : IntKind.i64.wrap ((i : Int) + 1) = (i : Int) + 1 := IntWalk.i64_in _ (by omega)
                      have hi0 : (0 : Int) ≤ (i : Int) + 1 := by omega
                      have hin : ((i : Int) + 1).toNat = i + 1 := by omega
                      have his : i + 1 ≤ z.size := by omega
                      have hcv : (convert 37 9 (.slice (some ⟨wj.heap.size, 0, none⟩) 1 1)).run Tryd.prog (wj.alloc (.cells #[.int .u8 c] 5)).drew = .ok (.string ⟨#[UInt8.ofNat c]⟩) (wj.alloc (.cells #[.int .u8 c] 5)).drew :=
                        run_convert_bytes_back _ 37 9 5 ⟨wj.heap.size, 0, none⟩ 1 [UInt8.ofNat c] Tryd.underlying37 Tryd.underlying5 Tryd.underlying9 (fun j hj => by
                          have e0 : j = 0 := by simp at hj; omega
                          subst e0
                          have := cell_at wj #[.int .u8 c] 5 0 (.int .u8 c) _ rfl rfl
                          have e1 : (((UInt8.ofNat c).toNat : Nat) : Int) = c := by simp; omega
                          show (wj.alloc (.cells #[.int .u8 c] 5)).drew.cell? ⟨wj.heap.size, 0, none⟩ = some (.int .u8 (((UInt8.ofNat c).toNat : Nat) : Int))
                          rw [e1]
                          exact this)
                      go_region
                      have SK : St w2 (wj.alloc (.cells #[.int .u8 c] 5)).drew := SJ.step (by go_grown)
                      generalize (wj.alloc (.cells #[.int .u8 c] 5)).drew = wk at SK hcv ⊢
                      clear hcv hcw hiw hi0 hin
                      go_wp2_with (go_at_call 4; refine (reads_true _ w2 _ SK).mono ?_; rintro e w3 ⟨rfl, SK⟩)
                      go_roundw
                      case rel => exact ⟨c + 1, by omega, by go_num, SK⟩
                      case measure => simp [intOf]; omega
                    · go_wp2
                      have SJd : St w2 wj.drew := SJ.step (by go_grown)
                      have hiw : IntKind.i64.wrap ((i : Int) + 1) = (i : Int) + 1 := IntWalk.i64_in _ (by omega)
                      have hi0 : (0 : Int) ≤ (i : Int) + 1 := by omega
                      have hin : ((i : Int) + 1).toNat = i + 1 := by omega
                      have his : i + 1 ≤ z.size := by omega
                      have his2 : i ≤ z.size := by omega
                      have hisI : (i : Int) + 1 ≤ (z.size : Int) := by omega
                      have hisJ : (i : Int) ≤ (z.size : Int) := by omega
                      have hisK : (0 : Int) ≤ (i : Int) := by omega
                      have sA : (z.extract 0 i).size ≤ 16 := by rw [ByteArray.size_extract]; omega
                      have sB : (z.extract (i + 1) z.size).size ≤ 16 := by rw [ByteArray.size_extract]; omega
                      have sC : (z.extract i z.size).size ≤ 16 := by rw [ByteArray.size_extract]; omega
                      obtain ⟨A, hA⟩ : ∃ A, z.extract 0 i = A := ⟨_, rfl⟩
                      obtain ⟨B, hB⟩ : ∃ B, z.extract (i + 1) z.size = B := ⟨_, rfl⟩
                      obtain ⟨C, hC⟩ : ∃ C, z.extract i z.size = C := ⟨_, rfl⟩
                      rw [hA] at sA
                      rw [hB] at sB
                      rw [hC] at sC
                      have f1 : A.size + B.size ≤ 9223372036854775807 := by omega
                      have f2 : A.size + 1 ≤ 9223372036854775807 := by omega
                      have f3 : A.size + 1 + C.size ≤ 9223372036854775807 := by omega
                      have s1 : (⟨#[32]⟩ : ByteArray).size = 1 := rfl
                      have g1 : ¬ (9223372036854775807 < A.size + B.size) := by omega
                      have g2 : ¬ (9223372036854775807 < A.size + 1) := by omega
                      have g3 : ¬ (9223372036854775807 < A.size + 1 + C.size) := by omega
                      have e1 : ∀ W : World, (Op.stringOp .add A B).run Tryd.prog W = .ok (.string (A ++ B)) W := fun W => Go.run_string_add_sum W A B f1
                      have e2 : ∀ W : World, (Op.stringOp .add A ⟨#[32]⟩).run Tryd.prog W = .ok (.string (A ++ ⟨#[32]⟩)) W := fun W => Go.run_string_add_sum W A ⟨#[32]⟩ f2
                      have e3 : ∀ W : World, (Op.stringOp .add (A ++ ⟨#[32]⟩) C).run Tryd.prog W = .ok (.string (A ++ ⟨#[32]⟩ ++ C)) W := fun W => Go.run_string_add_sum W (A ++ ⟨#[32]⟩) C (by rw [ByteArray.size_append, s1]; exact f3)
                      go_region_held3 (fun w' => St w2 w') (first | assumption | exact SJ.step (by go_grown))
                        (first | (go_at_call 4; refine (reads_true _ w2 _ ?_).mono ?_; (assumption); rintro e w3 ⟨rfl, SM⟩))
                      clear hiw hi0 hin hA hB hC f1 f2 f3 g1 g2 g3 e1 e2 e3 s1
                      go_wp2
                      go_roundw
                      case rel => exact ⟨i + 1, by omega, by go_num, by assumption⟩
                      case measure => simp [intOf]; omega
                · go_wp2
                  go_roundw
                  case rel => exact ⟨q + 1, by omega, by go_num, SI⟩
                  case measure => simp [intOf]; omega
            · have SG : St w0 we := SW2.step SF.bl
              have dq : decide ((q : Int) < 2) = false := decide_eq_false (by omega)
              go_wp2
              go_loopw [15] (fun s wr => ∃ n : Int, -1 ≤ n ∧ n ≤ 1301 ∧ s = .int .i64 n ∧ St w0 wr) (fun s _ => (1302 - intOf s).toNat)
              case atStart => exact ⟨-1, by omega, by omega, rfl, SG⟩
              case round =>
                obtain ⟨n, hn0, hn1, rfl, SH⟩ := hrel
                by_cases hnt : n ≤ 1300
                · have N1 : Hid (∀ wq, St w0 wq → Calls Tryd.prog 24 #[.slice none 0 0, .int .i64 1154, .int .i64 1154, .int .i64 0, .int .i64 n, .int .i64 229] wq fun e w' => e = .returned (.bool true) ∧ St w0 w') := fun wq h => civilWorks_any none 0 0 [] 1154 1154 0 n 229 (by omega) (by omega) (by omega) (by omega) (by omega) w0 wq h rfl (Or.inl rfl) (fun _ => rfl)
                  have N2 : Hid (∀ wq, St w0 wq → Calls Tryd.prog 24 #[.slice none 0 0, .int .i64 1153, .int .i64 1154, .int .i64 0, .int .i64 229, .int .i64 n] wq fun e w' => e = .returned (.bool true) ∧ St w0 w') := fun wq h => civilWorks_any none 0 0 [] 1153 1154 0 229 n (by omega) (by omega) (by omega) (by omega) (by omega) w0 wq h rfl (Or.inl rfl) (fun _ => rfl)
                  go_wp2_with (first | (go_at_call 24; (with_reducible refine (N1.out _ SH).mono ?_); rintro e w3 ⟨rfl, SH⟩) | (go_at_call 24; (with_reducible refine (N2.out _ SH).mono ?_); rintro e w3 ⟨rfl, SH⟩))
                  go_roundw
                  case rel => exact ⟨n + 1, by omega, by omega, by go_num, SH⟩
                  case measure => simp [intOf]; omega
                · go_wp2_with (go_at_call 25; refine (lists_true w0 _ SH).mono ?_; rintro e w3 ⟨rfl, SI⟩)
                  go_ret
                  exact ⟨rfl, SI⟩
theorem walk_civilSmall (w : World) (G : Gl w) : Calls Tryd.prog 6 #[] w fun e w' => e = .returned (.bool true) ∧ Below w.heap.size w w' :=
  (small_true w w (St.refl G)).mono fun _ _ ⟨he, S⟩ => ⟨he, S.bl⟩
end Go.Proofs.YtcnnfgigpjbcpaaDoor
