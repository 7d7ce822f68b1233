/- Contracts of rowsOf, first, Short, Kinds. -/
import Derived.Test.YtljfbdiiecohpaaFs
import Derived.Test.YtljfbdiiecohpaaFh
namespace Go.Proofs.Ytljfbdiiecohpaa
open Go.RowKit

theorem enters_rows : ∀ args w, (callFunc 60 args).run Try.prog w = .ok (.enter 60 args) w := enters_of Try.func60 (by kernel_rfl) rfl
theorem enters_short : ∀ args w, (callFunc 47 args).run Try.prog w = .ok (.enter 47 args) w := enters_of Try.func47 (by kernel_rfl) rfl
set_option maxRecDepth 100000 in
set_option maxHeartbeats 1600000 in
theorem rowsOf_any (k : Nat) (x : Fo.Bs) (w : World) : Calls Try.prog 44 #[.int .u8 k, .string ⟨x.toArray⟩] w fun e w' => ∃ v, e = .returned v ∧ Rw w' v (Fo.rowsOf k x) ∧ Below w.heap.size w w' := by
  have TB := Lib.hid table_any
  have B0 : Hid (Below w.heap.size w ((w.alloc (.cells #[.int .u8 k] 5)).alloc (.cells #[.string ⟨x.toArray⟩] 9))) := ((Below.refl _ _).alloc (Nat.le_refl _) _).alloc (by simp) _
  have K0 : Hid (((w.alloc (.cells #[.int .u8 k] 5)).alloc (.cells #[.string ⟨x.toArray⟩] 9)).cell? ⟨w.heap.size, 0, none⟩ = some (.int .u8 k)) := alloc_cell (cell_at _ _ _ 0 _ _ rfl rfl)
  have X0 : Hid (((w.alloc (.cells #[.int .u8 k] 5)).alloc (.cells #[.string ⟨x.toArray⟩] 9)).cell? ⟨w.heap.size + 1, 0, none⟩ = some (.string ⟨x.toArray⟩)) := cell_at _ _ _ 0 _ _ (by simp) rfl
  go_enter Try.func44, Try.ntmps44
  go_wp2_with (go_at_call 9; refine (TB.out _).mono ?_)
  rintro e w2 ⟨v, rfl, hv, b2⟩
  have V2 := Lib.hid hv
  have K2 := below_cell b2 K0.out
  have X2 := below_cell b2 X0.out
  have B2 := Lib.hid (B0.out.trans (b2.mono (B0.out.size)))
  have SL := Lib.hid (selected_any v Fo.tbl 60 #[.pointer (some ⟨w.heap.size, 0, none⟩), .pointer (some ⟨w.heap.size + 1, 0, none⟩)] (Fo.isR k x) w2 hv (by rw [Fo.tbl_len]; omega) enters_rows
    (fun W r hW => ofRow_any r k _ _ x W (below_cell hW K2) (below_cell hW X2)))
  clear hv b2 K2 X2
  go_wp2_with (go_at_call 46; refine SL.out.mono ?_)
  rintro e w3 ⟨u, rfl, hu, b3⟩
  have U3 := Lib.hid hu
  have B3 := Lib.hid b3
  clear hu b3
  go_wp2
  go_ret
  exact ⟨_, rfl, U3.out, B2.out.trans (B3.out.mono B2.out.size)⟩
theorem shorts_any (v : Value) (k K W : Nat) (x : Fo.Bs) (w : World) (hv : Rw w v Fo.tbl) (hk : w.cell? ⟨K, 0, none⟩ = some (.int .u8 k)) (hx : w.cell? ⟨W, 0, none⟩ = some (.string ⟨x.toArray⟩)) :
    Calls Try.prog 46 #[v, .func (.func 47) #[] #[.pointer (some ⟨K, 0, none⟩), .pointer (some ⟨W, 0, none⟩)]] w fun e w' => ∃ u, e = .returned u ∧ Rw w' u (Fo.tbl.filter (Fo.isL k x)) ∧ Below w.heap.size w w' :=
  selected_any v Fo.tbl 47 #[.pointer (some ⟨K, 0, none⟩), .pointer (some ⟨W, 0, none⟩)] (Fo.isL k x) w hv (by rw [Fo.tbl_len]; omega) enters_short (fun W' r hW => ofLong_any r k _ _ x W' (below_cell hW hk) (below_cell hW hx))
set_option maxRecDepth 100000 in
set_option maxHeartbeats 1600000 in
theorem first_nil (a : Option Addr) (c : Nat) (w : World) : Calls Try.prog 45 #[.slice a 0 c] w fun e w' => e = .returned (.agg #[.int .u8 0, .string ⟨#[]⟩, .string ⟨#[]⟩]) ∧ Below w.heap.size w w' := by
  go_enter Try.func45, Try.ntmps45
  go_wp2
  exact bodyPost_ret (v := .agg #[.int .u8 0, .string ⟨#[]⟩, .string ⟨#[]⟩]) (by simp [results, Try.results45, go_sem]) rfl ⟨rfl, ((Below.refl _ _).alloc (Nat.le_refl _) _).alloc (by simp) _⟩
set_option maxRecDepth 100000 in
set_option maxHeartbeats 1600000 in
theorem first_cons (v : Value) (r : Fo.Rd) (l : List Fo.Rd) (w : World) (h : Rw w v (r :: l)) : Calls Try.prog 45 #[v] w fun e w' => e = .returned (.agg #[.int .u8 r.k, .string ⟨r.lg.toArray⟩, .string ⟨r.sh.toArray⟩]) ∧ Below w.heap.size w w' := by
  obtain ⟨a, c, rfl, h⟩ := h
  obtain ⟨b, off, rfl, h2⟩ := h.resolve_left (by simp)
  obtain ⟨f0, f1, f2⟩ := h2 0 (by simp)
  simp only [Nat.zero_mul, Nat.add_zero, List.getElem_cons_zero] at f0 f1 f2
  have g0 := fun o => alloc_cell (o := o) f0
  have g1 := fun o => alloc_cell (o := o) f1
  have g2 := fun o => alloc_cell (o := o) f2
  have n1 : b ≠ w.heap.size := Nat.ne_of_lt (World.block_lt_of_cell? _ _ f0)
  obtain ⟨n, hn⟩ : ∃ n, n = l.length + 1 := ⟨_, rfl⟩
  have n0 : 0 < n := by omega
  rw [List.length_cons, ← hn]
  clear hn h h2 f0 f1 f2
  go_enter Try.func45, Try.ntmps45
  go_wp2
  exact bodyPost_ret (v := .agg #[.int .u8 r.k, .string ⟨r.lg.toArray⟩, .string ⟨r.sh.toArray⟩]) (by simp [results, Try.results45, go_sem]) rfl ⟨rfl, (Below.refl _ _).alloc (Nat.le_refl _) _⟩
set_option maxRecDepth 100000 in
set_option maxHeartbeats 1600000 in
theorem short_any (k : Nat) (x : Fo.Bs) (w : World) : Calls Try.prog 24 #[.int .u8 k, .string ⟨x.toArray⟩] w fun e w' => e = .returned (.tuple #[.string ⟨(Fo.short k x).1.toArray⟩, .bool (Fo.short k x).2]) ∧ Below w.heap.size w w' := by
  have TB := Lib.hid table_any
  have B0 : Hid (Below w.heap.size w ((w.alloc (.cells #[.int .u8 k] 5)).alloc (.cells #[.string ⟨x.toArray⟩] 9))) := ((Below.refl _ _).alloc (Nat.le_refl _) _).alloc (by simp) _
  have K0 : Hid (((w.alloc (.cells #[.int .u8 k] 5)).alloc (.cells #[.string ⟨x.toArray⟩] 9)).cell? ⟨w.heap.size, 0, none⟩ = some (.int .u8 k)) := alloc_cell (cell_at _ _ _ 0 _ _ rfl rfl)
  have X0 : Hid (((w.alloc (.cells #[.int .u8 k] 5)).alloc (.cells #[.string ⟨x.toArray⟩] 9)).cell? ⟨w.heap.size + 1, 0, none⟩ = some (.string ⟨x.toArray⟩)) := cell_at _ _ _ 0 _ _ (by simp) rfl
  go_enter Try.func24, Try.ntmps24
  go_wp2_with (go_at_call 9; refine (TB.out _).mono ?_)
  rintro e w2 ⟨v, rfl, hv, b2⟩
  have SL := Lib.hid (shorts_any v k _ _ x w2 hv (below_cell b2 K0.out) (below_cell b2 X0.out))
  have B2 := Lib.hid (B0.out.trans (b2.mono (B0.out.size)))
  clear hv b2
  go_wp2_with (go_at_call 46; refine SL.out.mono ?_)
  rintro e w3 ⟨u, rfl, hu, b3⟩
  have B3 := Lib.hid (B2.out.trans (b3.mono B2.out.size))
  obtain ⟨F, hF⟩ : ∃ F, F = Fo.tbl.filter (Fo.isL k x) := ⟨_, rfl⟩
  rw [← hF] at hu
  cases F with
  | nil =>
    have E : Hid (Fo.short k x = ([], false)) := by show _ = _; unfold Fo.short; rw [← hF]; rfl
    obtain ⟨a, c, rfl, -⟩ := hu
    have FN := Lib.hid (first_nil a c w3)
    clear hF b3
    go_wp2_with (go_at_call 45; refine FN.out.mono ?_)
    rintro e w4 ⟨rfl, b4⟩
    have B4 := Lib.hid (B3.out.trans (b4.mono B3.out.size))
    clear b4
    go_wp2_with fail
    go_quiet (fail)
    go_wp2
    go_ret2
    rw [E.out]
    exact ⟨rfl, below_drewN (B4.out.alloc B4.out.size _) _⟩
  | cons r l =>
    have E : Hid (Fo.short k x = (r.sh, true)) := by show _ = _; unfold Fo.short; rw [← hF]; rfl
    have kr := (Fo.tbl_k r (List.mem_filter.1 (by rw [← hF]; simp : r ∈ Fo.tbl.filter (Fo.isL k x))).1).1
    have FN := Lib.hid (first_cons u r l w3 hu)
    have k0 : ((r.k : Int) == 0) = false := beq_eq_false_iff_ne.2 (by omega)
    clear hF b3 hu kr
    go_wp2_with (go_at_call 45; refine FN.out.mono ?_)
    rintro e w4 ⟨rfl, b4⟩
    have B4 := Lib.hid (B3.out.trans (b4.mono B3.out.size))
    clear b4
    go_wp2_with fail
    go_quiet (fail)
    go_wp2
    go_ret2
    rw [E.out]
    exact ⟨rfl, below_drewN (B4.out.alloc B4.out.size _) _⟩
theorem or_k {z k : Nat} (hz : z < 64) (hk : k ≤ 5) : bits BinOp.or IntKind.u8 (z : Int) (2 ^ min k 8 % 256) = ((Fo.orK z k : Nat) : Int) := by
  have : ∀ (z : Fin 64) (k : Fin 6), bits BinOp.or IntKind.u8 (z.val : Int) (2 ^ min k.val 8 % 256) = ((Fo.orK z.val k.val : Nat) : Int) := by decide +kernel
  exact this ⟨z, hz⟩ ⟨k, by omega⟩
set_option maxRecDepth 100000 in
set_option maxHeartbeats 1600000 in
theorem kinds_any (x : Fo.Bs) (w : World) : Calls Try.prog 23 #[.string ⟨x.toArray⟩] w fun e w' => e = .returned (.int .u8 (Fo.kinds x)) ∧ Below w.heap.size w w' := by
  have RO := Lib.hid (rowsOf_any 0 x w)
  go_enter Try.func23, Try.ntmps23
  go_wp2_with (go_at_call 44; refine RO.out.mono ?_)
  rintro e w1 ⟨v, rfl, hv, b1⟩
  have HR := Lib.hid hv
  have HB := Lib.hid b1
  have KL : Hid (∀ r ∈ Fo.rowsOf 0 x, 1 ≤ r.k ∧ r.k ≤ 5) := Fo.rowsOf_k
  have hl := Fo.rowsOf_len 0 x
  have E : Hid (Fo.kinds x = Fo.kindsR 0 (Fo.rowsOf 0 x)) := rfl
  obtain ⟨l, hl'⟩ : ∃ l, l = Fo.rowsOf 0 x := ⟨_, rfl⟩
  rw [← hl'] at HR hl KL E hv
  obtain ⟨a, c, rfl, -⟩ := hv
  obtain ⟨n, hn⟩ : ∃ n, n = l.length := ⟨_, rfl⟩
  rw [← hn] at hl HR ⊢
  have HN := Lib.hid hn
  clear hn hl' b1
  go_wp2
  go_loopw [3, 9] (fun s i wr => ∃ k z : Nat, k ≤ n ∧ i = .int .i64 k ∧ s = .int .u8 z ∧ z < 64 ∧ Hid (z = Fo.kindsR 0 (l.take k)) ∧ Hid (Below w1.heap.size w1 wr)) (fun _ i _ => n - (intOf i).toNat)
  case atStart => exact ⟨0, 0, Nat.zero_le _, rfl, rfl, by omega, rfl, Below.refl _ _⟩
  case round =>
    obtain ⟨k, z, hk, rfl, rfl, hz, Z, B⟩ := hrel
    by_cases hlt : k < n
    · have hkl : k < l.length := by rw [← HN.out]; exact hlt
      obtain ⟨r, hr⟩ : ∃ r, r = l[k] := ⟨_, rfl⟩
      have TK : Hid (l.take (k + 1) = l.take k ++ [r]) := by show _ = _; rw [hr]; exact (List.take_append_getElem hkl).symm
      have kr := KL.out r (by rw [hr]; exact List.getElem_mem hkl)
      obtain ⟨a', c', e1, h1⟩ := HR.out.below B.out
      obtain ⟨rfl, -, rfl⟩ : a' = a ∧ l.length = n ∧ c' = c := by cases e1; exact ⟨rfl, HN.out.symm, rfl⟩
      obtain ⟨b, off, rfl, h2⟩ := h1.resolve_left (by intro e; rw [e] at hkl; simp at hkl)
      obtain ⟨f0, f1, f2⟩ := h2 k hkl
      rw [← hr] at f0 f1 f2
      clear h1 h2 hr e1
      have OR := Lib.hid (or_k hz kr.2)
      have OL := Fo.orK_lt hz kr.2
      have KS : Hid (Fo.orK z r.k = Fo.kindsR 0 (l.take (k + 1))) := by show _ = _; rw [TK.out, Z.out]; unfold Fo.kindsR; rw [List.foldl_append]; rfl
      clear kr
      go_wp2
      go_roundw
      case rel => exact ⟨k + 1, Fo.orK z r.k, by omega, by go_num, by rw [← OR.out], OL, KS, B.out.alloc B.out.size _⟩
      case measure => simp [intOf]; omega
    · have hkn : k = n := by omega
      have TK : Hid (z = Fo.kinds x) := by show _ = _; rw [Z.out, E.out, hkn, HN.out, List.take_length]
      clear Z E
      go_wp2
      go_ret
      rw [TK.out]
      exact ⟨rfl, HB.out.trans (B.out.mono HB.out.size)⟩
end Go.Proofs.Ytljfbdiiecohpaa
