/- StatsRanks: the walk. -/
import Derived.Test.YtjfopggpohakkaaCSRn
import Derived.Test.YtjfopggpohakkaaSF
namespace Go.Proofs.Ytjfopggpohakkaa
open Go.RowKit

theorem row_some {w : World} {B n : Nat} {e : TypeId} {v : Value} {xs : List Value} (h0 : 0 < n) (h : w.ownsRow B e 1 v n xs) : ∃ g k, v = .slice (some ⟨g, 0, none⟩) n k := by
  obtain ⟨j, rfl⟩ : ∃ j, n = j + 1 := ⟨n - 1, by omega⟩
  exact ownsRow_succ h
theorem row_base {w : World} {B g n k : Nat} {e : TypeId} {xs : List Value} (h : w.ownsRow B e 1 (.slice (some ⟨g, 0, none⟩) n k) n xs) : B ≤ g := by
  rcases h.2 with ⟨he, _⟩ | ⟨gb, cap, cur, he, hbase, _⟩
  · cases he
  · cases he; exact hbase
set_option maxRecDepth 100000 in
set_option maxHeartbeats 6400000 in
theorem ranks_some (w : World) (a : Option Addr) (len cap m : Nat) (zs : List Int) (s t : Int) (h : Sl w (.slice a m cap) zs) (hml : m = min len 5000) (hlc : len ≤ cap) (h0 : 0 < m) :
    Calls Try.prog 12 #[.slice a len cap, .int .i64 s, .int .i64 t] w fun e w' => e = .returned (.bool true) ∧ Below w.heap.size w w' := by
  obtain ⟨b, off, rfl, hmz, hcell⟩ := h.cells h0
  obtain ⟨p0, ep, hp⟩ := picked s 10001 (by omega)
  obtain ⟨q0, eq, hq⟩ := picked t 10001 (by omega)
  have AW := Lib.hid (awake4_any w)
  have PS := Lib.hid (fun w' => share4 s w')
  have PT := Lib.hid (fun w' => share4 t w')
  rw [ep] at PS
  rw [eq] at PT
  obtain ⟨p, hpp⟩ : ∃ p, p = min p0 q0 := ⟨_, rfl⟩
  obtain ⟨q, hqq⟩ : ∃ q, q = max p0 q0 := ⟨_, rfl⟩
  have m1 : min (p0 : Int) (q0 : Int) = (p : Int) := by omega
  have m2 : max (p0 : Int) (q0 : Int) = (q : Int) := by omega
  have m3 : min (len : Int) 5000 = (m : Int) := by omega
  have m5 : (m : Int) ≤ 5000 := by omega
  have p4 : p ≤ 10000 := by omega
  have q4 : q ≤ 10000 := by omega
  have pq : p ≤ q := by omega
  have hmc : m ≤ cap := by omega
  have hm5 : m ≤ 5000 := by omega
  clear ep eq hp hq hpp hqq
  have z0 : 0 < zs.length := by omega
  have z1 : zs.length ≤ 5000 := by omega
  obtain ⟨E1, c1, c2, xm⟩ := q_counts (q := p) z0 (by omega) p4
  obtain ⟨E2, _, _, _⟩ := q_counts (q := q) z0 (by omega) q4
  have mono := q_mono z0 (by omega) q4 pq
  obtain ⟨k1, k2⟩ := Rk.wt_counts c1 c2
  have QA : Hid (∀ w', Sl w' (.slice (some ⟨b, off, none⟩) m cap) zs → Calls Try.prog 37 #[.slice (some ⟨b, off, none⟩) m cap, .int .i64 p] w' fun e w'' => e = .returned (.tuple #[.int .i64 (qV zs p), .int .i64 0]) ∧ Below w'.heap.size w' w'') := fun w' hs => by
    have := quantile_any _ zs p w' hs
    rw [E1] at this; exact this
  have QB : Hid (∀ w', Sl w' (.slice (some ⟨b, off, none⟩) m cap) zs → Calls Try.prog 37 #[.slice (some ⟨b, off, none⟩) m cap, .int .i64 q] w' fun e w'' => e = .returned (.tuple #[.int .i64 (qV zs q), .int .i64 0]) ∧ Below w'.heap.size w' w'') := fun w' hs => by
    have := quantile_any _ zs q w' hs
    rw [E2] at this; exact this
  have QR : Hid (∀ v w', Sl w' v zs.reverse → Calls Try.prog 37 #[v, .int .i64 p] w' fun e w'' => e = .returned (.tuple #[.int .i64 (qV zs p), .int .i64 0]) ∧ Below w'.heap.size w' w'') := fun v w' hs => by
    have := quantile_any v zs.reverse p w' hs
    rw [q_rev z0 (by omega) p4, (q_counts (zs := zs.reverse) (q := p) (by rw [List.length_reverse]; exact z0) (by rw [List.length_reverse]; omega) p4).1] at this; exact this
  have QT : Hid (∀ v w', Sl w' v (zs ++ zs) → Calls Try.prog 37 #[v, .int .i64 p] w' fun e w'' => e = .returned (.tuple #[.int .i64 (qV zs p), .int .i64 0]) ∧ Below w'.heap.size w' w'') := fun v w' hs => by
    have := quantile_any v (zs ++ zs) p w' hs
    rw [q_two z0 z1 p4, (q_counts (zs := zs ++ zs) (q := p) (by rw [List.length_append]; omega) (by rw [List.length_append]; omega) p4).1] at this; exact this
  have CO := Lib.hid (fun w' (hs : Sl w' (.slice (some ⟨b, off, none⟩) m cap) zs) => show Calls Try.prog 38 #[.slice (some ⟨b, off, none⟩) m cap, .int .i64 (qV zs p)] w' (fun e w'' => e = .returned (.bool true) ∧ w'' = w') by
    have := contains_any _ m cap zs (qV zs p) w' hs h0 (by omega)
    rw [show zs.contains (qV zs p) = true from List.contains_iff_mem.2 xm] at this; exact this)
  have CL := Lib.hid (fun w' (hs : Sl w' (.slice (some ⟨b, off, none⟩) m cap) zs) => clone_ints _ m cap zs w' hs h0 (by omega))
  obtain ⟨x, hx⟩ : ∃ x, x = qV zs p := ⟨_, rfl⟩
  obtain ⟨y, hy⟩ : ∃ y, y = qV zs q := ⟨_, rfl⟩
  rw [← hx] at QA QR QT CO mono k1 k2 c1 c2
  rw [← hy] at QB mono
  have S0 := Lib.hid h
  have g1 : (1 : Int) ≤ (m : Int) := by omega
  have n0 : ((m : Int) == 0) = false := by rw [beq_eq_false_iff_ne]; omega
  have hmi : (len : Int) ≤ (cap : Int) := by omega
  have HM := Lib.hid hmz
  have HC := Lib.hid hcell
  have HK1 := Lib.hid k1
  have HK2 := Lib.hid k2
  have MO := Lib.hid mono
  clear hx hy h hcell E1 E2 xm hml hmz z0 z1 c1 c2 k1 k2
  go_enter Try.func12, Try.ntmps12
  go_wp2_with (first
    | (go_at_call 14; with_reducible refine AW.out.mono ?_; rintro e w1 ⟨rfl, b1⟩; have S1 := Lib.hid (Sl.below S0.out b1))
    | (go_at_call 20; with_reducible refine (PS.out _).mono ?_; rintro e w' ⟨rfl, rfl⟩)
    | (go_at_call 20; with_reducible refine (PT.out _).mono ?_; rintro e w' ⟨rfl, rfl⟩)
    | (go_at_call 37; with_reducible refine (QA.out _ S1.out).mono ?_; rintro e w2 ⟨rfl, b2⟩; have S2 := Lib.hid (Sl.below S1.out b2))
    | (go_at_call 37; with_reducible refine (QB.out _ S2.out).mono ?_; rintro e w3 ⟨rfl, b3⟩; have S3 := Lib.hid (Sl.below S2.out b3)))
  have BB := Lib.hid (b1.trans ((b2.trans (b3.mono b2.size)).mono b1.size))
  clear b1 b2 b3 AW PS PT QA QB S0 S1 S2
  have CELL : Hid (∀ j, j < m → w3.cell? ⟨b, off + j, none⟩ = some (.int .i64 (zs.getD j 0))) := by
    obtain ⟨b', off', e, hm', hc'⟩ := Sl.cells S3.out h0
    cases e
    exact fun j hj => hc' j (by omega)
  have LZ : Hid (∀ k, k ≤ m → Rk.lt x (zs.take k) ≤ k ∧ Rk.le x (zs.take k) ≤ k) := fun k hk => by
    have e : (zs.take k).length = k := by rw [List.length_take]; have := HM.out; omega
    have l1 := Rk.lt_len x (zs.take k)
    have l2 := Rk.le_len x (zs.take k)
    omega
  have LS : Hid (∀ k, k < m → Rk.lt x (zs.take (k + 1)) = Rk.lt x (zs.take k) + (if zs.getD k 0 < x then 1 else 0) ∧ Rk.le x (zs.take (k + 1)) = Rk.le x (zs.take k) + (if zs.getD k 0 ≤ x then 1 else 0)) := fun k hk => by
    have hk' : k < zs.length := by have := HM.out; omega
    have e : zs.take (k + 1) = zs.take k ++ [zs.getD k 0] := by
      rw [List.take_add_one, List.getElem?_eq_getElem hk', List.getD_eq_getElem?_getD, List.getElem?_eq_getElem hk']; rfl
    rw [e, Rk.lt_app, Rk.le_app]
    unfold Rk.lt Rk.le
    simp [List.countP_cons]
  go_loopw [13, 14, 66] (fun u v i wr => ∃ (k l g : Nat), k ≤ m ∧ i = .int .i64 k ∧ u = .int .i64 l ∧ v = .int .i64 g ∧ Hid (l = Rk.lt x (zs.take k)) ∧ Hid (g = Rk.le x (zs.take k)) ∧ Hid (Below w3.heap.size w3 wr)) (fun _ _ i _ => m - (intOf i).toNat)
  case atStart => exact ⟨0, 0, 0, by omega, rfl, rfl, rfl, (show _ = _ from rfl), (show _ = _ from rfl), (show Below _ _ _ from Below.refl _ _)⟩
  case round =>
    obtain ⟨k, l, g, hk, rfl, rfl, rfl, hl, hg, B⟩ := hrel
    have hlk := LZ.out k hk
    rw [← hl.out, ← hg.out] at hlk
    obtain ⟨lk1, lk2⟩ := hlk
    by_cases hlt : k < m
    · have hck := kept_cell B.out (CELL.out k hlt)
      have ls := Lib.hid (LS.out k hlt)
      obtain ⟨z, hz⟩ : ∃ z, z = zs.getD k 0 := ⟨_, rfl⟩
      rw [← hz] at hck ls
      clear hz
      have ki : (k : Int) ≤ 5000 := by omega
      have li : (l : Int) ≤ 5000 := by omega
      have gi : (g : Int) ≤ 5000 := by omega
      by_cases h1 : z < x
      · have a1 : Hid (l + 1 = Rk.lt x (zs.take (k + 1))) := by show _ = _; have := ls.out.1; rw [if_pos h1, ← hl.out] at this; omega
        have a2 : Hid (g + 1 = Rk.le x (zs.take (k + 1))) := by show _ = _; have := ls.out.2; rw [if_pos (by omega), ← hg.out] at this; omega
        have h2 : z ≤ x := by omega
        go_wp2
        go_roundw
        case rel => exact ⟨k + 1, l + 1, g + 1, by omega, by go_num, by go_num, by go_num, a1, a2, B⟩
        case measure => simp [intOf]; omega
      · by_cases h2 : z ≤ x
        · have a1 : Hid (l = Rk.lt x (zs.take (k + 1))) := by show _ = _; have := ls.out.1; rw [if_neg h1, ← hl.out] at this; omega
          have a2 : Hid (g + 1 = Rk.le x (zs.take (k + 1))) := by show _ = _; have := ls.out.2; rw [if_pos h2, ← hg.out] at this; omega
          go_wp2
          go_roundw
          case rel => exact ⟨k + 1, l, g + 1, by omega, by go_num, rfl, by go_num, a1, a2, B⟩
          case measure => simp [intOf]; omega
        · have a1 : Hid (l = Rk.lt x (zs.take (k + 1))) := by show _ = _; have := ls.out.1; rw [if_neg h1, ← hl.out] at this; omega
          have a2 : Hid (g = Rk.le x (zs.take (k + 1))) := by show _ = _; have := ls.out.2; rw [if_neg h2, ← hg.out] at this; omega
          go_wp2
          go_roundw
          case rel => exact ⟨k + 1, l, g, by omega, by go_num, rfl, rfl, a1, a2, B⟩
          case measure => simp [intOf]; omega
    · obtain rfl : k = m := by omega
      have eT : zs.take k = zs := List.take_of_length_le (by have := HM.out; omega)
      have el : l = Rk.lt x zs := by rw [hl.out, eT]
      have eg : g = Rk.le x zs := by rw [hg.out, eT]
      have f1 := HK1.out
      have f2 := HK2.out
      rw [← el, ← HM.out] at f2
      rw [← eg, ← HM.out] at f1
      obtain ⟨T, hT⟩ : ∃ T, T = p * k := ⟨_, rfl⟩
      rw [← hT] at f1 f2
      have T1 : T ≤ 50000000 := by rw [hT]; exact Nat.le_trans (Nat.mul_le_mul p4 hm5) (by decide)
      have e1 : (p : Int) * (k : Int) = (T : Int) := by rw [hT]; exact (Int.natCast_mul p k).symm
      have li : (l : Int) ≤ 5000 := by omega
      have gi : (g : Int) ≤ 5000 := by omega
      have ti : (T : Int) ≤ 50000000 := by omega
      have pi : (p : Int) ≤ 10000 := by omega
      have f3 : (T : Int) ≤ (g : Int) * 10000 := by omega
      have f4 : Hid (0 < l → (l : Int) * 10000 < (T : Int)) := fun h => by have := f2 h; show _ < _; omega
      have mo := MO.out
      have SW := Lib.hid (Sl.below S3.out B.out)
      have CLA := Lib.hid (CL.out wr SW.out)
      have RV := Lib.hid (fun g1 k1 w4 (b4 : Below wr.heap.size wr w4) (h : w4.ownsRow wr.heap.size 3 1 (.slice (some ⟨g1, 0, none⟩) k k1) k (zs.map (Value.int .i64))) => reverse_any wr.heap.size g1 k k1 zs w4 HM.out (by omega) b4.size h)
      have CLB := Lib.hid (fun w6 (b6 : Below wr.heap.size wr w6) => CL.out w6 (Sl.below SW.out b6))
      have OC := Lib.hid (fun g1 k1 (w5 : World) (h : w5.ownsRow wr.heap.size 3 1 (.slice (some ⟨g1, 0, none⟩) k k1) k (zs.reverse.map (Value.int .i64))) => own_cells (zs := zs.reverse) (by rw [List.length_reverse]; exact HM.out) h)
      have CE := Lib.hid (fun (w7 : World) (b7 : Below wr.heap.size wr w7) => show ∀ j u, (zs.map (Value.int .i64))[j]? = some u → w7.cell? ((⟨b, off, none⟩ : Addr).add j) = some u from by
        intro j u hj
        rw [List.getElem?_map, Option.map_eq_some_iff] at hj
        obtain ⟨x', hx', rfl⟩ := hj
        have hlt' : j < zs.length := (List.getElem?_eq_some_iff.1 hx').1
        rw [Go.WideShapes.add_plain]
        have c0 := kept_cell b7 (kept_cell B.out (CELL.out j (by have := HM.out; omega)))
        rw [c0, List.getD_eq_getElem?_getD, hx']; rfl)
      have ONE := Lib.hid (one_cells zs)
      have LEN : (zs.map (Value.int .i64)).length = k * 1 := by rw [List.length_map, Nat.mul_one, HM.out]
      have O2 := Lib.hid (fun g2 k2 (w8 : World) (B8 : Nat) (h : w8.ownsRow B8 3 1 (.slice (some ⟨g2, 0, none⟩) (k + k) k2) (k + k) (zs.map (Value.int .i64) ++ zs.map (Value.int .i64))) => by
        rw [← List.map_append] at h
        exact own_cells (zs := zs ++ zs) (by rw [List.length_append, ← HM.out]) h)
      obtain ⟨i0, hi, hz0, hz1, hz2⟩ := info_parts info_int
      clear hl hg hT f1 f2 hlt eT el eg
      by_cases l0 : 0 < l
      · have f5 := f4.out l0
        go_wp2_with (first
          | (go_at_call 38; with_reducible refine (CO.out _ SW.out).mono ?_; rintro e w' ⟨rfl, rfl⟩)
          | (go_at_call 39; with_reducible refine CLA.out.mono ?_; rintro e w4 ⟨g1, k1, rfl, hr1, b4⟩; have R1 := Lib.hid hr1; clear hr1)
          | (go_at_call 40; with_reducible refine (RV.out g1 k1 w4 b4 R1.out).mono ?_; rintro e w5 ⟨rfl, hr2, b5⟩; have R2 := Lib.hid hr2; clear hr2; have B5 := b4.trans b5)
          | (go_at_call 37; with_reducible refine (QR.out _ _ (OC.out _ _ _ R2.out)).mono ?_; rintro e w6 ⟨rfl, b6⟩; have B6 := B5.trans (b6.mono B5.size))
          | (go_at_call 39; with_reducible refine (CLB.out w6 B6).mono ?_; rintro e w7 ⟨g2, k2, rfl, hr3, b7⟩; have R3 := Lib.hid hr3; clear hr3; have B7 := B6.trans (b7.mono B6.size))
          | (at_builtin; refine wpList_append_own _ rfl _ _ 24 rfl w6.heap.size 3 i0 (.int .i64 0) 1 8 Try.underlying24 hi hz0 hz1 hz2 rfl (by decide) _ _ _ rfl R3.out ⟨b, off, none⟩ k cap (zs.map (Value.int .i64)) rfl LEN (CE.out w7 B7) ONE.out (by unfold maxLen; omega) (by omega) b7.size ?_; intro v' w8 hown' hgrow _; obtain ⟨g3, k3, rfl⟩ := row_some (by omega) hown'; have R4 := Lib.hid hown'; clear hown'; have B8 := B7.grown hgrow B7.size (fun j hj => by cases hj; exact Nat.le_trans B6.size (row_base R3.out)); clear hgrow)
          | (go_at_call 37; with_reducible refine (QT.out _ _ (O2.out _ _ _ _ R4.out)).mono ?_; rintro e w9 ⟨rfl, b9⟩; have B9 := B8.trans (b9.mono B8.size)))
        go_ret
        have BZ := BB.out.trans (B.out.mono BB.out.size)
        exact ⟨ret_bool (by first | rfl | (simp; done) | (simp; omega)), BZ.trans (B9.mono BZ.size)⟩
      · go_wp2_with (first
          | (go_at_call 38; with_reducible refine (CO.out _ SW.out).mono ?_; rintro e w' ⟨rfl, rfl⟩)
          | (go_at_call 39; with_reducible refine CLA.out.mono ?_; rintro e w4 ⟨g1, k1, rfl, hr1, b4⟩; have R1 := Lib.hid hr1; clear hr1)
          | (go_at_call 40; with_reducible refine (RV.out g1 k1 w4 b4 R1.out).mono ?_; rintro e w5 ⟨rfl, hr2, b5⟩; have R2 := Lib.hid hr2; clear hr2; have B5 := b4.trans b5)
          | (go_at_call 37; with_reducible refine (QR.out _ _ (OC.out _ _ _ R2.out)).mono ?_; rintro e w6 ⟨rfl, b6⟩; have B6 := B5.trans (b6.mono B5.size))
          | (go_at_call 39; with_reducible refine (CLB.out w6 B6).mono ?_; rintro e w7 ⟨g2, k2, rfl, hr3, b7⟩; have R3 := Lib.hid hr3; clear hr3; have B7 := B6.trans (b7.mono B6.size))
          | (at_builtin; refine wpList_append_own _ rfl _ _ 24 rfl w6.heap.size 3 i0 (.int .i64 0) 1 8 Try.underlying24 hi hz0 hz1 hz2 rfl (by decide) _ _ _ rfl R3.out ⟨b, off, none⟩ k cap (zs.map (Value.int .i64)) rfl LEN (CE.out w7 B7) ONE.out (by unfold maxLen; omega) (by omega) b7.size ?_; intro v' w8 hown' hgrow _; obtain ⟨g3, k3, rfl⟩ := row_some (by omega) hown'; have R4 := Lib.hid hown'; clear hown'; have B8 := B7.grown hgrow B7.size (fun j hj => by cases hj; exact Nat.le_trans B6.size (row_base R3.out)); clear hgrow)
          | (go_at_call 37; with_reducible refine (QT.out _ _ (O2.out _ _ _ _ R4.out)).mono ?_; rintro e w9 ⟨rfl, b9⟩; have B9 := B8.trans (b9.mono B8.size)))
        go_ret
        have BZ := BB.out.trans (B.out.mono BB.out.size)
        exact ⟨ret_bool (by first | rfl | (simp; done) | (simp; omega)), BZ.trans (B9.mono BZ.size)⟩
theorem walk_statsRanks (w : World) (a : Option Addr) (len cap : Nat) (zs : List Int) (h : IsRow .i64 w a len cap zs) (s : Int) (_s1 : -9223372036854775808 ≤ s) (_s2 : s ≤ 9223372036854775807) (t : Int) (_t1 : -9223372036854775808 ≤ t) (_t2 : t ≤ 9223372036854775807) :
    Calls Try.prog 12 #[.slice a len cap, .int .i64 s, .int .i64 t] w fun e w' => e = .returned (.bool true) ∧ Below w.heap.size w w' := by
  obtain ⟨l, hs, hl, hc, _, _⟩ := sl_of h
  by_cases h0 : len = 0
  · subst h0; exact ranks_none w a cap s t
  · exact ranks_some w a len cap (min len 5000) (l.take (min len 5000)) s t (hs.first _ (Nat.min_le_left _ _)) rfl hc (by omega)
end Go.Proofs.Ytjfopggpohakkaa
