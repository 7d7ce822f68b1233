/- The reference's Cost, and Apply and Cost beyond their limits. -/
import Derived.Test.YtalldnnegofdkaaAp1
namespace Go.Proofs.Ytalldnnegofdkaa
open Go.RowKit Go.Shelf

theorem Bxc.made_t (w : World) (c : Ed.Cs) (t : TypeId) : Bxc (w.alloc (.cells #[.int .i64 c.ins, .int .i64 c.del, .int .i64 c.chg, .int .i64 c.swp] t)) w.heap.size c :=
  ⟨cell_at _ _ _ 0 _ _ rfl rfl, cell_at _ _ _ 1 _ _ rfl rfl, cell_at _ _ _ 2 _ _ rfl rfl, cell_at _ _ _ 3 _ _ rfl rfl⟩
set_option maxRecDepth 100000 in
set_option maxHeartbeats 1600000 in
theorem rapply_long (s : Ed.Bs) (l : List Ed.Op) (v : Value) (w : World) (hs : 60 < s.length ∨ 120 < l.length) (h : Opl w v l) :
    Calls Try.prog 31 #[sb s, v] w fun e w' => e = .returned (.tuple #[sb [], .int .i64 3]) ∧ Below w.heap.size w w' := by
  obtain ⟨a, c, rfl, h1⟩ := h
  obtain ⟨n, hn⟩ : ∃ n, n = l.length := ⟨_, rfl⟩
  obtain ⟨S, hS⟩ : ∃ S : ByteArray, S = ⟨s.toArray⟩ := ⟨_, rfl⟩
  have LS : S.size = s.length := by rw [hS, Ed.size_is]
  have e1 : sb s = .string S := by rw [hS]
  rw [e1, ← hn]
  rw [← hn, ← LS] at hs
  clear h1 hn hS e1 LS
  by_cases h6 : 60 < S.size
  · clear hs
    go_enter Try.func31, Try.ntmps31
    go_wp2
    go_ret2
    exact ⟨rfl, Below.refl _ _⟩
  · have h12 : 120 < n := by omega
    clear hs
    go_enter Try.func31, Try.ntmps31
    go_wp2
    go_ret2
    exact ⟨rfl, Below.refl _ _⟩
set_option maxRecDepth 100000 in
theorem rcost_bad (n cp : Nat) (a : Option Addr) (c : Ed.Cs) (hc : ¬ Ed.Rc c) (w : World) :
    Calls Try.prog 33 #[.slice a n cp, cv c] w fun e w' => e = .returned (.tuple #[.int .i64 0, .int .i64 2]) ∧ Below w.heap.size w w' := by
  have RA := rright_any c
  rw [rcb_no hc] at RA
  have RH := Lib.hid RA
  have B0 := Lib.hid (show Below w.heap.size w (w.alloc (.cells #[.int .i64 c.ins, .int .i64 c.del, .int .i64 c.chg, .int .i64 c.swp] 58)) from (Below.refl _ _).alloc (Nat.le_refl _) _)
  clear RA hc
  go_enter Try.func33, Try.ntmps33
  go_wp2_with (go_at_call 29; (with_reducible refine (RH.out _).mono ?_); rintro e w1 ⟨rfl, b1⟩; have B1 := Lib.hid (B0.out.trans (b1.mono B0.out.size)); clear b1)
  go_ret2
  exact ⟨rfl, B1.out⟩
set_option maxRecDepth 100000 in
theorem rcost_long (n cp : Nat) (a : Option Addr) (c : Ed.Cs) (hc : Ed.Rc c) (hl : 120 < n) (w : World) :
    Calls Try.prog 33 #[.slice a n cp, cv c] w fun e w' => e = .returned (.tuple #[.int .i64 0, .int .i64 3]) ∧ Below w.heap.size w w' := by
  have RA := rright_any c
  rw [rcb_yes hc] at RA
  have RH := Lib.hid RA
  have B0 := Lib.hid (show Below w.heap.size w (w.alloc (.cells #[.int .i64 c.ins, .int .i64 c.del, .int .i64 c.chg, .int .i64 c.swp] 58)) from (Below.refl _ _).alloc (Nat.le_refl _) _)
  clear RA hc
  go_enter Try.func33, Try.ntmps33
  go_wp2_with (go_at_call 29; (with_reducible refine (RH.out _).mono ?_); rintro e w1 ⟨rfl, b1⟩; have B1 := Lib.hid (B0.out.trans (b1.mono B0.out.size)); clear b1)
  go_ret2
  exact ⟨rfl, B1.out⟩
set_option maxRecDepth 100000 in
theorem pcost_bad (n cp : Nat) (a : Option Addr) (c : Ed.Cs) (hc : ¬ Ed.Rc c) (w : World) :
    Calls Try.prog 20 #[.slice a n cp, cv c] w fun e w' => e = .returned (.tuple #[.int .i64 0, .int .i64 2]) ∧ Below w.heap.size w w' := by
  have RA := right_any c
  rw [rcb_no hc] at RA
  have RH := Lib.hid RA
  have B0 := Lib.hid (show Below w.heap.size w (w.alloc (.cells #[.int .i64 c.ins, .int .i64 c.del, .int .i64 c.chg, .int .i64 c.swp] 23)) from (Below.refl _ _).alloc (Nat.le_refl _) _)
  clear RA hc
  go_enter Try.func20, Try.ntmps20
  go_wp2_with (go_at_call 18; (with_reducible refine (RH.out _).mono ?_); rintro e w1 ⟨rfl, b1⟩; have B1 := Lib.hid (B0.out.trans (b1.mono B0.out.size)); clear b1)
  go_ret2
  exact ⟨rfl, B1.out⟩
set_option maxRecDepth 100000 in
theorem pcost_long (n cp : Nat) (a : Option Addr) (c : Ed.Cs) (hc : Ed.Rc c) (hl : 120 < n) (w : World) :
    Calls Try.prog 20 #[.slice a n cp, cv c] w fun e w' => e = .returned (.tuple #[.int .i64 0, .int .i64 3]) ∧ Below w.heap.size w w' := by
  have RA := right_any c
  rw [rcb_yes hc] at RA
  have RH := Lib.hid RA
  have B0 := Lib.hid (show Below w.heap.size w (w.alloc (.cells #[.int .i64 c.ins, .int .i64 c.del, .int .i64 c.chg, .int .i64 c.swp] 23)) from (Below.refl _ _).alloc (Nat.le_refl _) _)
  clear RA hc
  go_enter Try.func20, Try.ntmps20
  go_wp2_with (go_at_call 18; (with_reducible refine (RH.out _).mono ?_); rintro e w1 ⟨rfl, b1⟩; have B1 := Lib.hid (B0.out.trans (b1.mono B0.out.size)); clear b1)
  go_ret2
  exact ⟨rfl, B1.out⟩
set_option maxRecDepth 100000 in
set_option maxHeartbeats 3200000 in
theorem rcost_ok (l : List Ed.Op) (v : Value) (c : Ed.Cs) (hc : Ed.Rc c) (w : World) (hl : l.length ≤ 120) (h : Opl w v l) :
    Calls Try.prog 33 #[v, cv c] w fun e w' => e = .returned (.tuple #[.int .i64 (Ed.csV c l).1, .int .i64 (Ed.csV c l).2]) ∧ Below w.heap.size w w' := by
  obtain ⟨a, cc, rfl, h1⟩ := h
  obtain ⟨n, hn⟩ : ∃ n, n = l.length := ⟨_, rfl⟩
  have H1 := Lib.hid h1
  have HN := Lib.hid hn
  have HC := Lib.hid hc
  have RA := rright_any c
  rw [rcb_yes hc] at RA
  have RH := Lib.hid RA
  rw [← hn] at hl ⊢
  have B0 := Lib.hid (show Below w.heap.size w (w.alloc (.cells #[.int .i64 c.ins, .int .i64 c.del, .int .i64 c.chg, .int .i64 c.swp] 58)) from (Below.refl _ _).alloc (Nat.le_refl _) _)
  have K0 := Lib.hid (Bxc.made_t w c 58)
  clear h1 hn hc RA
  go_enter Try.func33, Try.ntmps33
  go_wp2_with (go_at_call 29; (with_reducible refine (RH.out _).mono ?_))
  rintro e w1 ⟨rfl, b1⟩
  have K1 := Lib.hid (K0.out.below b1)
  have B1 := Lib.hid (B0.out.trans (b1.mono B0.out.size))
  clear b1
  go_wp2
  go_loopw [6, 7] (fun sv iv wr => ∃ (k : Nat) (x : Int), k ≤ n ∧ iv = .int .i64 k ∧ sv = .int .i64 x ∧ 0 ≤ x ∧ x ≤ 1000 * k ∧ Hid (x = Ed.cost c (l.take k)) ∧ Hid (Ed.kok (l.take k)) ∧ Hid (Below w1.heap.size w1 wr)) (fun _ iv _ => n - (intOf iv).toNat)
  case atStart => exact ⟨0, 0, Nat.zero_le _, rfl, rfl, Int.le_refl _, by omega, rfl, by intro o ho; simp at ho, Below.refl _ _⟩
  case round =>
    obtain ⟨k, x, hkn, rfl, rfl, hx0, hx1, HX, KO, BO⟩ := hrel
    have BB := Lib.hid (B1.out.trans (BO.out.mono B1.out.size))
    by_cases hlt : k < n
    · have kl : k < l.length := by rw [← HN.out]; exact hlt
      obtain ⟨b, off, rfl, g1⟩ := H1.out.resolve_left (by intro e; rw [e] at kl; simp at kl)
      obtain ⟨x0, x1⟩ := g1 k kl
      have x0 := (BB.out.cell (World.block_lt_of_cell? _ _ x0)).trans x0
      have TK := List.take_append_getElem kl
      have HMEM := List.getElem_mem kl
      obtain ⟨o, hoe⟩ : ∃ o, o = l[k] := ⟨_, rfl⟩
      rw [← hoe] at x0 TK HMEM
      obtain ⟨q, y⟩ := o
      have C3 := K1.out.below BO.out
      obtain ⟨y0, y1, y2, y3⟩ := C3
      have TKH := Lib.hid TK
      have MEM := Lib.hid HMEM
      have X0 : wr.cell? ⟨b, off + k * 2, none⟩ = some (.int .u8 (q : Nat)) := x0
      have HCC := HC.out
      unfold Ed.Rc at HCC
      clear hoe g1 TK HMEM x0 x1
      by_cases hk5 : 1 ≤ q ∧ q ≤ 5
      · have NX : ∀ z, z = Ed.co c q → Ed.cost c (l.take (k + 1)) = x + z := fun z hz => by rw [← TKH.out, Ed.cost_snoc, ← HX.out, hz]
        have NK : Hid (Ed.kok (l.take (k + 1))) := by
          show Ed.kok _
          rw [← TKH.out]
          intro p hp
          rcases List.mem_append.1 hp with hp | hp
          · exact KO.out p hp
          · rw [List.mem_singleton] at hp; subst hp; exact hk5
        have hq : q = 1 ∨ q = 2 ∨ q = 3 ∨ q = 4 ∨ q = 5 := by omega
        clear TKH MEM hk5
        rcases hq with rfl | rfl | rfl | rfl | rfl
        · have X0 : wr.cell? ⟨b, off + k * 2, none⟩ = some (.int .u8 1) := X0
          have N2 := Lib.hid (NX 0 rfl)
          clear NX
          go_wp2
          go_roundw
          case rel => exact ⟨k + 1, x, by omega, by go_num, rfl, by omega, by omega, (N2.out.trans (Int.add_zero x)).symm, NK.out, BO.out⟩
          case measure => simp [intOf]; omega
        · have X0 : wr.cell? ⟨b, off + k * 2, none⟩ = some (.int .u8 2) := X0
          have N2 := Lib.hid (NX c.chg rfl)
          clear NX
          go_wp2
          go_roundw
          case rel => exact ⟨k + 1, x + c.chg, by omega, by go_num, rfl, by omega, by omega, N2.out.symm, NK.out, BO.out⟩
          case measure => simp [intOf]; omega
        · have X0 : wr.cell? ⟨b, off + k * 2, none⟩ = some (.int .u8 3) := X0
          have N2 := Lib.hid (NX c.swp rfl)
          clear NX
          go_wp2
          go_roundw
          case rel => exact ⟨k + 1, x + c.swp, by omega, by go_num, rfl, by omega, by omega, N2.out.symm, NK.out, BO.out⟩
          case measure => simp [intOf]; omega
        · have X0 : wr.cell? ⟨b, off + k * 2, none⟩ = some (.int .u8 4) := X0
          have N2 := Lib.hid (NX c.del rfl)
          clear NX
          go_wp2
          go_roundw
          case rel => exact ⟨k + 1, x + c.del, by omega, by go_num, rfl, by omega, by omega, N2.out.symm, NK.out, BO.out⟩
          case measure => simp [intOf]; omega
        · have X0 : wr.cell? ⟨b, off + k * 2, none⟩ = some (.int .u8 5) := X0
          have N2 := Lib.hid (NX c.ins rfl)
          clear NX
          go_wp2
          go_roundw
          case rel => exact ⟨k + 1, x + c.ins, by omega, by go_num, rfl, by omega, by omega, N2.out.symm, NK.out, BO.out⟩
          case measure => simp [intOf]; omega
      · have n1 : ((q : Int) == 1) = false := beq_eq_false_iff_ne.2 (by omega)
        have n2 : ((q : Int) == 2) = false := beq_eq_false_iff_ne.2 (by omega)
        have n3 : ((q : Int) == 3) = false := beq_eq_false_iff_ne.2 (by omega)
        have n4 : ((q : Int) == 4) = false := beq_eq_false_iff_ne.2 (by omega)
        have n5 : ((q : Int) == 5) = false := beq_eq_false_iff_ne.2 (by omega)
        have AV : Hid (Ed.csV c l = (0, 60)) := by
          show _ = _
          unfold Ed.csV
          rw [if_neg (fun h => hk5 (h _ MEM.out))]
        clear hk5
        go_wp2
        go_ret2
        rw [AV.out]
        exact ⟨rfl, BB.out⟩
    · have hke : k = n := by omega
      have TK : l.take k = l := List.take_of_length_le (by rw [← HN.out]; omega)
      have AV : Hid (Ed.csV c l = (x, 0)) := by
        show _ = _
        unfold Ed.csV
        have h1 := KO.out
        have h2 := HX.out
        rw [TK] at h1 h2
        rw [if_pos h1, ← h2]
      clear TK
      go_wp2
      go_ret2
      rw [AV.out]
      exact ⟨rfl, BB.out⟩
end Go.Proofs.Ytalldnnegofdkaa
