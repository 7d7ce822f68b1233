/- The contract of measure. -/
import Derived.Test.YtkhgjjbiifbfgaaEm
import Derived.Deep.RegionWith
import Derived.Deep.RegionHeld3
import Derived.Deep.DeepCutAuto
namespace Go.Proofs.Ytkhgjjbiifbfgaa
open Go.RowKit

theorem below_cell {w w' : World} {p : Addr} {v : Value} (b : Below w.heap.size w w') (h : w.cell? p = some v) : w'.cell? p = some v := (b.cell (World.block_lt_of_cell? _ _ h)).trans h
/-- The rows that are made so far. -/
structure Made (B n k : Nat) (c : Ed.Cs) (w W : World) : Prop where
  box : W.heap[B]? = some (.cells #[.int .i64 c.ins, .int .i64 c.del, .int .i64 c.chg, .int .i64 c.swp] 24 (0, 0))
  arr : ∃ cur : Array Value, W.heap[B + 1]? = some (.cells cur 81 (0, 0)) ∧ cur.size = 3 ∧ ∀ t, t < k → cur[t]? = some (.slice (some ⟨B + 2 + t, 0, none⟩) (n + 1) (n + 1))
  made : ∀ t, t < k → Ir W (B + 2 + t) n (fun _ => 0)
  size : W.heap.size = B + 2 + k
  bl : Below B w W
theorem Made.start (n : Nat) (c : Ed.Cs) (w : World) : Made w.heap.size n 0 c w ((w.alloc (.cells #[.int .i64 c.ins, .int .i64 c.del, .int .i64 c.chg, .int .i64 c.swp] 24)).alloc (.cells #[.slice none 0 0, .slice none 0 0, .slice none 0 0] 81)) := by
  refine ⟨?_, ⟨#[.slice none 0 0, .slice none 0 0, .slice none 0 0], ?_, rfl, fun t ht => by omega⟩, fun t ht => by omega, by simp, ((Below.refl _ _).alloc (Nat.le_refl _) _).alloc (by simp) _⟩
  · rw [Below.heap_alloc _ _ _ (by simp)]; exact heap_alloc_new _ _
  · have := heap_alloc_new (w.alloc (.cells #[.int .i64 c.ins, .int .i64 c.del, .int .i64 c.chg, .int .i64 c.swp] 24)) (.cells #[.slice none 0 0, .slice none 0 0, .slice none 0 0] 81)
    simpa using this
theorem Made.next {B n k : Nat} {c : Ed.Cs} {w W : World} (h : Made B n k c w W) (hk : k < 3) (hB : B = w.heap.size) :
    Made B n (k + 1) c w ((W.alloc (.cells (madeCells #[.int .i64 0] (n + 1)) 3)).setCell ⟨B + 1, k, none⟩ (.slice (some ⟨W.heap.size, 0, none⟩) (n + 1) (n + 1))) := by
  obtain ⟨cur, h1, h2, h3⟩ := h.arr
  have hs := h.size
  refine ⟨?_, ⟨cur.setIfInBounds k (.slice (some ⟨W.heap.size, 0, none⟩) (n + 1) (n + 1)), ?_, by simpa using h2, fun t ht => ?_⟩, fun t ht => ?_, by simp [hs]; omega, ?_⟩
  · rw [Below.heap_setCell _ _ _ _ (by simp), Below.heap_alloc _ _ _ (by omega)]; exact h.box
  · refine heap_setCell_same _ _ _ cur _ _ ?_
    rw [Below.heap_alloc _ _ _ (by omega)]; exact h1
  · by_cases e : t = k
    · subst e
      simp [h2, hk, hs]
    · rw [Array.getElem?_setIfInBounds_ne (fun x => e x.symm)]
      exact h3 t (by omega)
  · by_cases e : t = k
    · subst e
      refine Ir.sv (g := B + 1) ?_ (Sv.set _ _ _ _) (by omega)
      refine ⟨_, _, by rw [← hs]; exact heap_alloc_new _ _, by simp [size_madeCells], fun j hj => ?_⟩
      have : j < n + 1 := by omega
      simp [madeCells, this, Nat.mod_one]
    · exact Ir.sv (g := B + 1) ((h.made t (by omega)).quiet ((Below.refl _ _).alloc (Nat.le_refl _) _)) (Sv.set _ _ _ _) (by omega)
  · exact (h.bl.alloc (by omega) _).setCell (p := ⟨B + 1, k, none⟩) (by simp) _
theorem Made.mks {B n mb : Nat} {c : Ed.Cs} {w W W' : World} (h : Made B n 3 c w W) (ht : Tm W' mb) (hm : W.heap.size ≤ mb) (hb : Below W.heap.size W W') : Mk B n mb c W' := by
  obtain ⟨cur, h1, h2, h3⟩ := h.arr
  have hs := h.size
  refine ⟨(hb.block B (by omega)).trans h.box, fun t ht => ?_, ht, by omega⟩
  rw [cell_of_row _ _ _ cur _ _ ((hb.block (B + 1) (by omega)).trans h1), h3 t ht]
/-- Between two rounds of measure. -/
structure Mi (B n mb : Nat) (c : Ed.Cs) (xs ys : Ed.Bs) (V : World → Nat → Prop) (z : Int) (W : World) : Prop where
  kk : Mk B n mb c W
  rows : ∃ F : Nat → Nat → Int, (∀ t, t < 3 → Ir W (B + 2 + t) n (F t)) ∧ (∀ t : Nat, z < t → t ≤ z + 2 → t ≤ xs.length → ∀ j, j ≤ n → F (t % 3) j = Ed.ds c (xs.drop t) (ys.drop j))
  seen : V W (z + 1).toNat
theorem Mi.start {n mb g : Nat} {lb : Array Value} {c : Ed.Cs} {xs ys : Ed.Bs} {V : World → Nat → Prop} {w wr w1 : World} (S : Sees w.heap.size c xs ys g lb V) (v0 : V w (xs.length + 1)) (M : Made w.heap.size n 3 c w wr) (hm : wr.heap.size ≤ mb) (ht : Tm w1 mb) (b : Below wr.heap.size wr w1) : Mi w.heap.size n mb c xs ys V xs.length w1 := by
  have hs := M.size
  refine ⟨M.mks ht hm b, ⟨fun _ _ => 0, fun t h => (M.made t h).quiet b, fun t h1 _ h2 => by omega⟩, ?_⟩
  have e : ((xs.length : Int) + 1).toNat = xs.length + 1 := by omega
  rw [e]
  exact S.stab _ _ _ v0 (Stab.quiet (M.bl.trans (b.mono (by omega))))
theorem mod_ne {i t : Nat} (h1 : 1 ≤ t) (h2 : t ≤ 2) : (i + t) % 3 ≠ i % 3 := by omega
theorem lessen_at (B n : Nat) (c : Ed.Cs) (hc : Ed.Rc c) (xs ys : Ed.Bs) (hx : xs.length ≤ 60) (hy : ys.length ≤ 60) (hn : n = ys.length) (i k br : Nat) (hk : 1 ≤ k ∧ k ≤ 5) (hi : i + Ed.tk k ≤ xs.length) (hbr : br = B + 2 + i % 3) (F : Nat → Nat → Int) (wo W : World)
    (hF1 : ∀ t, t < 3 → Ir wo (B + 2 + t) n (F t)) (hF2 : ∀ t : Nat, (i : Int) < t → (t : Int) ≤ (i : Int) + 2 → t ≤ xs.length → ∀ j, j ≤ n → F (t % 3) j = Ed.ds c (xs.drop t) (ys.drop j))
    (hS : Sv br wo W) (hR : Ir W br n (fun j => Ed.st c (Ed.ds c) (k - 1) (xs.drop i) (ys.drop j))) :
    Calls Try.prog 43 #[.slice (some ⟨br, 0, none⟩) (n + 1) (n + 1), .slice (some ⟨B + 2 + (i + Ed.tk k) % 3, 0, none⟩) (n + 1) (n + 1), sv k, .int .i64 (Ed.co c k), sb (xs.drop i), sb ys] W
      fun e w' => e = .returned (.tuple #[]) ∧ Ir w' br n (fun j => Ed.st c (Ed.ds c) k (xs.drop i) (ys.drop j)) ∧ Sv br W w' := by
  obtain ⟨q, rfl⟩ : ∃ q, k = q + 1 := ⟨k - 1, by omega⟩
  have hl : (xs.drop i).length = xs.length - i := List.length_drop
  refine lessen_any (q + 1) hk br (B + 2 + (i + Ed.tk (q + 1)) % 3) n (Ed.co c (q + 1)) (xs.drop i) ys (fun j => Ed.st c (Ed.ds c) q (xs.drop i) (ys.drop j)) (fun j => Ed.ds c (xs.drop (i + Ed.tk (q + 1))) (ys.drop j)) (fun j => Ed.st c (Ed.ds c) (q + 1) (xs.drop i) (ys.drop j)) W
    (by omega) hn.symm (by omega) (Ed.co_nonneg hc _) hR (Ed.st_less c q i xs ys hk) (fun j => ?_) (fun W' j hj S' I' => ?_)
  · have h := Ed.ds_bd hc (xs.drop (i + Ed.tk (q + 1))) (ys.drop j) (by rw [List.length_drop]; omega) (by rw [List.length_drop]; omega)
    exact ⟨h.1, Int.le_trans h.2 (by decide)⟩
  · have t2 := Ed.tk_le (q + 1)
    by_cases h0 : Ed.tk (q + 1) = 0
    · have q4 : q = 4 := by
        rcases kind5 hk with h | h | h | h | h
        all_goals first
          | omega
          | (exfalso; rw [h] at h0; revert h0; decide)
      subst q4
      rw [h0] at hi ⊢
      have e := I'.cell (j := j + Ed.wr 5) hj
      have w1 : Ed.wr 5 = 1 := rfl
      rw [w1] at e ⊢
      rw [if_pos (by omega)] at e
      show W'.cell? ⟨B + 2 + i % 3, j + 1, none⟩ = some (.int .i64 (Ed.ds c (xs.drop i) (ys.drop (j + 1))))
      rw [← hbr, e, Ed.ds_eq]
    · have hb : B + 2 + (i + Ed.tk (q + 1)) % 3 ≠ br := by
        have := mod_ne (i := i) (t := Ed.tk (q + 1)) (by omega) t2
        omega
      have r1 := ((hF1 ((i + Ed.tk (q + 1)) % 3) (Nat.mod_lt _ (by omega))).sv hS hb).sv S' hb
      rw [r1.cell hj, hF2 (i + Ed.tk (q + 1)) (by omega) (by omega) hi _ hj]
theorem Mi.next {B n mb i br : Nat} {c : Ed.Cs} {xs ys : Ed.Bs} {V : World → Nat → Prop} {wo wr w' : World} (I : Mi B n mb c xs ys V i wo) (hbr : br = B + 2 + i % 3) (S : Sv br wo wr)
    (R : Ir wr br n (fun j => Ed.ds c (xs.drop i) (ys.drop j))) (E : Seen B wr w') (v : V w' i) : Mi B n mb c xs ys V ((i : Int) - 1) w' := by
  have hm : i % 3 < 3 := Nat.mod_lt _ (by omega)
  obtain ⟨F, h1, h2⟩ := I.rows
  refine ⟨(I.kk.sv S (by omega) (by omega)).seen E, ⟨fun t j => if t = i % 3 then Ed.ds c (xs.drop i) (ys.drop j) else F t j, fun t ht => ?_, fun t t1 t2 t3 j hj => ?_⟩, ?_⟩
  · by_cases e : t = i % 3
    · subst e
      have := R.seen E (by omega)
      rw [hbr] at this
      exact this.congr fun j _ => (if_pos rfl).symm
    · exact ((((h1 t ht).sv S (by omega)).seen E (by omega))).congr fun j _ => (if_neg e).symm
  · by_cases e : t = i
    · subst e; exact if_pos rfl
    · obtain rfl : t = i + 1 := by omega
      have hne : (i + 1) % 3 ≠ i % 3 := by omega
      exact (if_neg hne).trans (h2 (i + 1) (by omega) (by omega) t3 j hj)
  · have e : ((i : Int) - 1 + 1).toNat = i := by omega
    rw [e]; exact v
set_option maxRecDepth 100000 in
set_option maxHeartbeats 3200000 in
theorem measure_any (c : Ed.Cs) (hc : Ed.Rc c) (xs ys : Ed.Bs) (hx : xs.length ≤ 60) (hy : ys.length ≤ 60) (g : Nat) (lb : Array Value) (w : World) (V : World → Nat → Prop)
    (S : Sees w.heap.size c xs ys g lb V) (v0 : V w (xs.length + 1)) :
    Calls Try.prog 28 #[sb xs, sb ys, cv c, .func (.func g) #[] lb] w fun e w' => e = .returned (.int .i64 (Ed.ds c xs ys)) ∧ V w' 0 := by
  obtain ⟨n, hn⟩ : ∃ n, n = ys.length := ⟨_, rfl⟩
  obtain ⟨m, hm⟩ : ∃ m, m = xs.length := ⟨_, rfl⟩
  obtain ⟨a, hxa⟩ : ∃ a : ByteArray, a = ⟨xs.toArray⟩ := ⟨_, rfl⟩
  obtain ⟨b, hxb⟩ : ∃ b : ByteArray, b = ⟨ys.toArray⟩ := ⟨_, rfl⟩
  have LA : Hid (a.size = m) := by show _ = _; rw [hxa, hm]; exact Ed.size_is xs
  have LB : Hid (b.size = n) := by show _ = _; rw [hxb, hn]; exact Ed.size_is ys
  have e1 : sb xs = .string a := by rw [hxa]
  have e2 : sb ys = .string b := by rw [hxb]
  rw [e1, e2]
  have la : a.size ≤ 60 := by rw [LA.out, hm]; exact hx
  have lb6 : b.size ≤ 60 := by rw [LB.out, hn]; exact hy
  have HS := Lib.hid S
  have HV := Lib.hid v0
  have HN := Lib.hid hn
  have HM := Lib.hid hm
  have HXA := Lib.hid hxa
  have HXB := Lib.hid hxb
  have HC := Lib.hid hc
  have MI : Hid (∀ w, (Instr.makeSlice 44 (.int .i64 ((b.size : Int) + 1)) (.int .i64 ((b.size : Int) + 1))).run Try.prog w = .ok (.slice (some ⟨w.heap.size, 0, none⟩) (b.size + 1) (b.size + 1)) (w.alloc (.cells (madeCells #[.int .i64 0] (b.size + 1)) 3))) := run_make_row' (P := Try.prog) 44 3 (.int .i64 0) 8 Try.underlying44 info_int rfl .i64 .i64 (b.size + 1) (by omega) (by omega)
  clear e1 e2 S v0 hn hm hxa hxb hc hx hy
  go_enter Try.func28, Try.ntmps28
  go_wp2
  go_loopw [17] (fun s wr => ∃ k : Nat, s = .int .i64 k ∧ k ≤ 3 ∧ Hid (Made w.heap.size n k c w wr)) (fun s _ => 3 - (intOf s).toNat)
  case atStart =>
    exact ⟨0, rfl, by omega, Made.start n c w⟩
  case round =>
    obtain ⟨k, rfl, hk, M⟩ := hrel
    by_cases hlt : k < 3
    · have mi := MI.out
      obtain ⟨cur, h1, h2, h3⟩ := M.out.arr
      have hs := M.out.size
      have hl : (w.heap.size + 1 : Nat) ≠ wr.heap.size := by omega
      have fz : ∀ o, (wr.alloc o).frozen? ⟨w.heap.size + 1, k, none⟩ = false := fun o => Lib.frozen_of_heap ((Below.heap_alloc wr o _ (by omega)).trans h1) k
      obtain ⟨v, hv⟩ : ∃ v, cur[k]? = some v := ⟨_, Array.getElem?_eq_getElem (by omega)⟩
      have ce : ∀ o, (wr.alloc o).cell? ⟨w.heap.size + 1, k, none⟩ = some v := fun o => by rw [cell_of_row _ _ _ cur _ _ ((Below.heap_alloc wr o _ (by omega)).trans h1), hv]
      clear h1 h2 h3 hs
      go_wp2
      go_roundw
      case rel => exact ⟨k + 1, by go_num, by omega, by show Made _ _ _ _ _ _; rw [LB.out]; exact M.out.next hlt rfl⟩
      case measure => simp [intOf]; omega
    · obtain rfl : k = 3 := by omega
      have hs := M.out.size
      go_wp2_with (go_at_call 42; (with_reducible refine (stepKinds_any _).mono ?_))
      rintro e w1 ⟨mb, rfl, hmb, htm, b1⟩
      have MS := Lib.hid (Mi.start HS.out HV.out M.out hmb htm b1)
      clear hmb htm b1 hs hlt
      go_wp2
      go_loopw [12] (fun s wx => ∃ z : Int, s = .int .i64 z ∧ -1 ≤ z ∧ z ≤ a.size ∧ Hid (Mi w.heap.size n mb c xs ys V z wx)) (fun s _ => (intOf s + 1).toNat)
      case atStart => exact ⟨_, rfl, by omega, Int.le_refl _, by show Mi _ _ _ _ _ _ _ _ _; rw [LA.out, HM.out]; exact MS.out⟩
      case round =>
        obtain ⟨z, rfl, hz1, hz2, I⟩ := hrel
        by_cases hlt : 0 ≤ z
        · obtain ⟨i, rfl⟩ : ∃ i : Nat, z = i := ⟨z.toNat, by omega⟩
          obtain ⟨br, hbr⟩ : ∃ br, br = w.heap.size + 2 + i % 3 := ⟨_, rfl⟩
          have cr := I.out.kk.rows (i % 3) (Nat.mod_lt _ (by omega))
          rw [← hbr] at cr
          obtain ⟨F, hF1, hF2⟩ := I.out.rows
          have IR := Lib.hid (hF1 (i % 3) (Nat.mod_lt _ (by omega)))
          rw [← hbr] at IR
          have HF1 := Lib.hid hF1
          have HF2 := Lib.hid hF2
          have BR := Lib.hid hbr
          have B1 : Hid (w.heap.size + 2 ≤ br ∧ br < w.heap.size + 5) := by show _ ∧ _; omega
          obtain ⟨wo, hwo⟩ : ∃ x, x = wr := ⟨_, rfl⟩
          rw [← hwo] at I IR HF1 cr ⊢
          have n6 : n ≤ 60 := by have := LB.out; omega
          clear hF1 hF2 hbr hwo
          go_wp2
          go_loopw [40] (fun s wy => ∃ k : Nat, s = .int .i64 k ∧ k ≤ n + 1 ∧ Hid (Ir wy br n (fun j => if j < k then 120001 else F (i % 3) j)) ∧ Hid (Sv br wo wy)) (fun s _ => n + 1 - (intOf s).toNat)
          case atStart => exact ⟨0, rfl, by omega, Ir.congr IR.out fun j _ => (if_neg (by omega)).symm, Sv.refl _ _⟩
          case round =>
            obtain ⟨k, rfl, hk, R, SV⟩ := hrel
            by_cases hkn : k < n + 1
            · have rc := R.out.cell (j := k) (by omega)
              have rf := R.out.free k
              rw [if_neg (Nat.lt_irrefl _)] at rc
              have hki : (k : Int) < (n : Int) + 1 := by omega
              go_wp2
              go_roundw
              case rel =>
                refine ⟨k + 1, by go_num, by omega, ?_, SV.out.trans (Sv.set _ _ _ _)⟩
                refine Ir.congr (R.out.put k _) fun j hj => ?_
                by_cases e : j = k
                · subst e; rw [if_pos rfl, if_pos (by omega)]
                · rw [if_neg e]
                  by_cases h : j < k
                  · rw [if_pos h, if_pos (by omega)]
                  · rw [if_neg h, if_neg (by omega)]
              case measure => simp [intOf]; omega
            · have hki : ¬ (k : Int) < (n : Int) + 1 := by omega
              have RK : Hid (Ir wr br n (fun _ => 120001)) := Ir.congr R.out fun j hj => if_pos (by omega)
              have SB := SV
              have b1 : (b.size : Int) < (n : Int) + 1 := by have := LB.out; omega
              have b2 := RK.out.cell (j := b.size) (by have := LB.out; omega)
              have b3 := RK.out.free b.size
              go_upto_if 50 with fail
              go_cut [] (fun wx => Hid (Ir wx br n (fun j => Ed.st c (Ed.ds c) 0 (xs.drop i) (ys.drop j))) ∧ Hid (Sv br wo wx))
              case first =>
                by_cases hia : i = a.size
                · have hib : ((i : Int) == (a.size : Int)) = true := beq_iff_eq.2 (by omega)
                  have HI := Lib.hid hia
                  clear hia
                  go_wp2
                  go_meet
                  case rel =>
                    refine ⟨Ir.congr (RK.out.put b.size 0) fun j hj => ?_, SB.out.trans (Sv.set _ _ _ _)⟩
                    show _ = Ed.ini _ _
                    rw [Ed.ini_is xs ys i j (by have := LA.out; have := HM.out; omega) (by have := HN.out; omega)]
                    by_cases e : j = b.size
                    · rw [if_pos e, if_pos ⟨by have := HI.out; have := LA.out; have := HM.out; omega, by have := LB.out; have := HN.out; omega⟩]
                    · rw [if_neg e, if_neg (fun h => e (by have := LB.out; have := HN.out; omega))]
                · have hib : ((i : Int) == (a.size : Int)) = false := beq_eq_false_iff_ne.2 (by omega)
                  go_wp2
                  go_meet
                  case rel =>
                    refine ⟨Ir.congr RK.out fun j hj => ?_, SB.out⟩
                    show _ = Ed.ini _ _
                    rw [Ed.ini_is xs ys i j (by have := LA.out; have := HM.out; omega) (by have := HN.out; omega), if_neg (fun h => hia (by have := LA.out; have := HM.out; omega))]
              case rest =>
                obtain ⟨R0, SC⟩ := hcut
                clear RK SB R SV b1 b2 b3 hki hk hkn
                go_wp2
                go_loopw [15] (fun s wy => ∃ k : Nat, s = .int .u8 k ∧ 1 ≤ k ∧ k ≤ 6 ∧ Hid (Ir wy br n (fun j => Ed.st c (Ed.ds c) (k - 1) (xs.drop i) (ys.drop j))) ∧ Hid (Sv br wo wy)) (fun s _ => 6 - (intOf s).toNat)
                case atStart => exact ⟨1, rfl, Nat.le_refl _, by omega, R0.out, SC.out⟩
                case round =>
                  obtain ⟨k, rfl, hk1, hk6, R, SV⟩ := hrel
                  have KK := Lib.hid (I.out.kk.sv SV.out B1.out.1 B1.out.2)
                  by_cases hk5 : k ≤ 5
                  · have TB := table_at KK.out.tab ⟨hk1, hk5⟩
                    obtain ⟨t, ht⟩ : ∃ t, t = Ed.tk k := ⟨_, rfl⟩
                    obtain ⟨r, hr⟩ : ∃ r, r = Ed.wr k := ⟨_, rfl⟩
                    have SK : sv k = .agg #[.int .i64 t, .int .i64 r, fv (fcost k), fv (fdoes k), fv (ffits k)] := by rw [ht, hr]; rfl
                    have t2 : t ≤ 2 := by rw [ht]; exact Ed.tk_le k
                    rw [SK] at TB
                    have HT := Lib.hid ht
                    have SKH := Lib.hid SK
                    clear ht hr SK
                    go_upto_if 68 with fail
                    have b1 : Below wr.heap.size wr (wr.alloc (.cells #[.int .i64 t, .int .i64 r, fv (fcost k), fv (fdoes k), fv (ffits k)] 87)) := (Below.refl _ _).alloc (Nat.le_refl _) _
                    have s0 : (wr.alloc (.cells #[.int .i64 t, .int .i64 r, fv (fcost k), fv (fdoes k), fv (ffits k)] 87)).cell? ⟨wr.heap.size, 0, none⟩ = some (.int .i64 t) := cell_at _ _ _ 0 _ _ rfl rfl
                    have s1 : (wr.alloc (.cells #[.int .i64 t, .int .i64 r, fv (fcost k), fv (fdoes k), fv (ffits k)] 87)).cell? ⟨wr.heap.size, 1, none⟩ = some (.int .i64 r) := cell_at _ _ _ 1 _ _ rfl rfl
                    have s2 : (wr.alloc (.cells #[.int .i64 t, .int .i64 r, fv (fcost k), fv (fdoes k), fv (ffits k)] 87)).cell? ⟨wr.heap.size, 2, none⟩ = some (fv (fcost k)) := cell_at _ _ _ 2 _ _ rfl rfl
                    have s3 : (wr.alloc (.cells #[.int .i64 t, .int .i64 r, fv (fcost k), fv (fdoes k), fv (ffits k)] 87)).cell? ⟨wr.heap.size, 3, none⟩ = some (fv (fdoes k)) := cell_at _ _ _ 3 _ _ rfl rfl
                    have s4 : (wr.alloc (.cells #[.int .i64 t, .int .i64 r, fv (fcost k), fv (fdoes k), fv (ffits k)] 87)).cell? ⟨wr.heap.size, 4, none⟩ = some (fv (ffits k)) := cell_at _ _ _ 4 _ _ rfl rfl
                    obtain ⟨w2, hw2⟩ : ∃ x, x = wr.alloc (.cells #[.int .i64 t, .int .i64 r, fv (fcost k), fv (fdoes k), fv (ffits k)] 87) := ⟨_, rfl⟩
                    rw [← hw2] at b1 s0 s1 s2 s3 s4 ⊢
                    clear hw2
                    by_cases hit : i + t ≤ a.size
                    · have hix : i + Ed.tk k ≤ xs.length := by have := HT.out; have := LA.out; have := HM.out; omega
                      have EX : a.extract i a.size = ⟨(xs.drop i).toArray⟩ := by
                        rw [Ed.extract_is, HXA.out, Ed.size_is]
                        show (⟨((xs.drop i).take (xs.length - i)).toArray⟩ : ByteArray) = _
                        rw [List.take_of_length_le (by rw [List.length_drop]; exact Nat.le_refl _)]
                      have LE : ∀ W, Below w2.heap.size w2 W → Calls Try.prog 43 #[.slice (some ⟨br, 0, none⟩) (n + 1) (n + 1), .slice (some ⟨w.heap.size + 2 + (i + t) % 3, 0, none⟩) (n + 1) (n + 1), .agg #[.int .i64 t, .int .i64 r, fv (fcost k), fv (fdoes k), fv (ffits k)], .int .i64 (Ed.co c k), .string (a.extract i a.size), .string b] W
                          fun e w' => e = .returned (.tuple #[]) ∧ Ir w' br n (fun j => Ed.st c (Ed.ds c) k (xs.drop i) (ys.drop j)) ∧ Sv br W w' := by
                        intro W hW
                        rw [EX, HXB.out, ← SKH.out, HT.out]
                        exact lessen_at w.heap.size n c HC.out xs ys (by have := LA.out; have := HM.out; omega) (by have := LB.out; have := HN.out; omega) HN.out i k br ⟨hk1, hk5⟩ hix BR.out F wo W HF1.out HF2.out ((SV.out.trans (Sv.of_below b1)).trans (Sv.of_below hW)) ((R.out.quiet b1).quiet hW)
                      have EC := enter_cost k ⟨hk1, hk5⟩
                      have CC := Lib.hid (fun w => cost_any c k ⟨hk1, hk5⟩ w)
                      have S2 := Lib.hid (SV.out.trans (Sv.of_below b1))
                      have K2 := KK.out.quiet b1
                      have c1 := K2.rows ((i + t) % 3) (Nat.mod_lt _ (by omega))
                      have x0 : w2.cell? ⟨w.heap.size, 0, none⟩ = some (.int .i64 c.ins) := by rw [Lib.cell_of_heap K2.box]; rfl
                      have x1 : w2.cell? ⟨w.heap.size, 1, none⟩ = some (.int .i64 c.del) := by rw [Lib.cell_of_heap K2.box]; rfl
                      have x2 : w2.cell? ⟨w.heap.size, 2, none⟩ = some (.int .i64 c.chg) := by rw [Lib.cell_of_heap K2.box]; rfl
                      have x3 : w2.cell? ⟨w.heap.size, 3, none⟩ = some (.int .i64 c.swp) := by rw [Lib.cell_of_heap K2.box]; rfl
                      have q1 : IntKind.i64.wrap ((i : Int) + t) = (i : Int) + t := IntWalk.i64_in _ (by omega)
                      have q2 : (i : Int) + t ≤ a.size := by omega
                      have q3 : (i : Int) ≤ a.size := by omega
                      obtain ⟨mq, hmq⟩ : ∃ mq, mq = (i + t) % 3 := ⟨_, rfl⟩
                      have m3 : mq < 3 := by omega
                      have m4 : (mq : Int) < 3 := by omega
                      have m1 : ((i : Int) + t) % 3 = mq := by omega
                      have m2 : ((i : Int) + t).tmod 3 = mq := by rw [Int.tmod_eq_emod_of_nonneg (by omega)]; exact m1
                      rw [← hmq] at LE c1
                      have HLE := Lib.hid LE
                      clear LE K2 EX hmq
                      go_upto_region 24 with fail
                      have n1 : w.heap.size ≠ br := by have := B1.out; omega
                      have n2 : w.heap.size + 1 ≠ br := by have := B1.out; omega
                      have n3 : wr.heap.size ≠ br := fun e => Nat.lt_irrefl _ (e ▸ R.out.lt)
                      have c1 : w2.drew.cell? ⟨w.heap.size + 1, mq, none⟩ = some (.slice (some ⟨w.heap.size + 2 + mq, 0, none⟩) (n + 1) (n + 1)) := c1
                      have s0 : w2.drew.cell? ⟨wr.heap.size, 0, none⟩ = some (.int .i64 t) := s0
                      have s1 : w2.drew.cell? ⟨wr.heap.size, 1, none⟩ = some (.int .i64 r) := s1
                      have s2 : w2.drew.cell? ⟨wr.heap.size, 2, none⟩ = some (fv (fcost k)) := s2
                      have s3 : w2.drew.cell? ⟨wr.heap.size, 3, none⟩ = some (fv (fdoes k)) := s3
                      have s4 : w2.drew.cell? ⟨wr.heap.size, 4, none⟩ = some (fv (ffits k)) := s4
                      have x0 : w2.drew.cell? ⟨w.heap.size, 0, none⟩ = some (.int .i64 c.ins) := x0
                      have x1 : w2.drew.cell? ⟨w.heap.size, 1, none⟩ = some (.int .i64 c.del) := x1
                      have x2 : w2.drew.cell? ⟨w.heap.size, 2, none⟩ = some (.int .i64 c.chg) := x2
                      have x3 : w2.drew.cell? ⟨w.heap.size, 3, none⟩ = some (.int .i64 c.swp) := x3
                      have gb : Below w2.heap.size w2 w2.drew := (Below.refl _ _).drew
                      go_region_held3 (fun w' => w'.cell? ⟨w.heap.size + 1, mq, none⟩ = some (.slice (some ⟨w.heap.size + 2 + mq, 0, none⟩) (n + 1) (n + 1)) ∧ w'.cell? ⟨wr.heap.size, 0, none⟩ = some (.int .i64 t) ∧ w'.cell? ⟨wr.heap.size, 1, none⟩ = some (.int .i64 r) ∧ w'.cell? ⟨wr.heap.size, 2, none⟩ = some (fv (fcost k)) ∧ w'.cell? ⟨wr.heap.size, 3, none⟩ = some (fv (fdoes k)) ∧ w'.cell? ⟨wr.heap.size, 4, none⟩ = some (fv (ffits k)) ∧ w'.cell? ⟨w.heap.size, 0, none⟩ = some (.int .i64 c.ins) ∧ w'.cell? ⟨w.heap.size, 1, none⟩ = some (.int .i64 c.del) ∧ w'.cell? ⟨w.heap.size, 2, none⟩ = some (.int .i64 c.chg) ∧ w'.cell? ⟨w.heap.size, 3, none⟩ = some (.int .i64 c.swp)) (first | (refine ⟨?_, ?_, ?_, ?_, ?_, ?_, ?_, ?_, ?_, ?_⟩ <;> assumption) | skip)
                        (first
                          | (go_at_fn (fcost k); (with_reducible refine (CC.out _).mono ?_); rintro e w5 ⟨rfl, b5⟩; have c1 := below_cell b5 c1; have s0 := below_cell b5 s0; have s1 := below_cell b5 s1; have s2 := below_cell b5 s2; have s3 := below_cell b5 s3; have s4 := below_cell b5 s4; have x0 := below_cell b5 x0; have x1 := below_cell b5 x1; have x2 := below_cell b5 x2; have x3 := below_cell b5 x3; have gb := gb.trans (b5.mono gb.size); clear b5)
                          | (go_at_call 43; (with_reducible refine (HLE.out _ gb).mono ?_); rintro e w6 ⟨rfl, i6, v6⟩; have c1 := v6.cell n2 c1; have s0 := v6.cell n3 s0; have s1 := v6.cell n3 s1; have s2 := v6.cell n3 s2; have s3 := v6.cell n3 s3; have s4 := v6.cell n3 s4; have x0 := v6.cell n1 x0; have x1 := v6.cell n1 x1; have x2 := v6.cell n1 x2; have x3 := v6.cell n1 x3))
                      have I6 : Hid (Ir w6 br n (fun j => Ed.st c (Ed.ds c) (k + 1 - 1) (xs.drop i) (ys.drop j))) := i6
                      have V6 := Lib.hid ((S2.out.trans (Sv.of_below gb)).trans v6)
                      clear i6 v6 gb c1 s0 s1 s2 s3 s4 x0 x1 x2 x3 n1 n2 n3
                      go_wp2
                      go_roundw
                      case rel => exact ⟨k + 1, by go_num, by omega, by omega, I6.out, V6.out⟩
                      case measure => simp [intOf]; omega
                    · have q1 : IntKind.i64.wrap ((i : Int) + t) = (i : Int) + t := IntWalk.i64_in _ (by omega)
                      have q2 : ¬ (i : Int) + t ≤ a.size := by omega
                      have SS : Hid (∀ j, Ed.st c (Ed.ds c) (k + 1 - 1) (xs.drop i) (ys.drop j) = Ed.st c (Ed.ds c) (k - 1) (xs.drop i) (ys.drop j)) := by
                        intro j
                        obtain ⟨q, rfl⟩ : ∃ q, k = q + 1 := ⟨k - 1, by omega⟩
                        exact Ed.st_skip (by rw [List.length_drop]; have := HT.out; have := LA.out; have := HM.out; omega)
                      have S2 := Lib.hid (SV.out.trans (Sv.of_below b1))
                      have R2 := Lib.hid (R.out.quiet b1)
                      go_wp2
                      go_roundw
                      case rel => exact ⟨k + 1, by go_num, by omega, by omega, Ir.congr R2.out fun j _ => (SS.out j).symm, S2.out⟩
                      case measure => simp [intOf]; omega
                  · obtain rfl : k = 6 := by omega
                    have RE : Ir wr br n (fun j => Ed.ds c (xs.drop i) (ys.drop j)) := Ir.congr R.out fun j _ => (Ed.ds_eq c _ _).symm
                    have EN := HS.out.enters
                    have VI : V wr (i + 1) := HS.out.stab _ _ _ (by have := I.out.seen; rw [show ((i : Int) + 1).toNat = i + 1 by omega] at this; exact this) (Stab.sv SV.out (by have := B1.out; omega) (by have := B1.out; omega))
                    have CS := HS.out.call wr i br VI KK.out.size B1.out.1 B1.out.2 (by have := LA.out; have := HM.out; omega) (by rw [← HN.out]; exact RE)
                    rw [← HN.out] at CS
                    have CH := Lib.hid CS
                    have HR := Lib.hid RE
                    clear RE VI CS
                    go_wp2_with (go_at_fn g; (with_reducible refine CH.out.mono ?_); rintro e w8 ⟨rfl, v8, s8⟩)
                    have M8 := Lib.hid (Mi.next I.out BR.out SV.out HR.out s8 v8)
                    clear v8 s8
                    go_wp2
                    go_roundw
                    case rel => exact ⟨(i : Int) - 1, by go_num, by omega, by omega, M8.out⟩
                    case measure => simp [intOf]
        · obtain rfl : z = -1 := by omega
          obtain ⟨F, hF1, hF2⟩ := I.out.rows
          have c0 := I.out.kk.rows 0 (by omega)
          have d0 := (hF1 0 (by omega)).cell (j := 0) (Nat.zero_le _)
          have e0 := hF2 0 (by omega) (by omega) (Nat.zero_le _) 0 (Nat.zero_le _)
          rw [show (0 : Nat) % 3 = 0 from rfl] at e0
          rw [e0] at d0
          have VE : Hid (V wr 0) := I.out.seen
          clear hF1 hF2 e0
          go_wp2
          go_ret
          exact ⟨rfl, VE.out⟩
end Go.Proofs.Ytkhgjjbiifbfgaa
