/- What the package-level tables hold, and worlds in which they do. -/
import Derived.Test.YthdmgnlemmpjkaaDoorA1
import Derived.Test.YthdmgnlemmpjkaaDoorShelf
import Derived.Test.YthdmgnlemmpjkaaDoorMtx
namespace Go.Proofs.YthdmgnlemmpjkaaDoor
open Go.RowKit
open Go.Sort (grow)

structure Gl (w : World) : Prop where
  pw : Lib.TabIs Tryd.prog w "internal/strconv.uint64pow10" .u64 Lib.pow10Tab
  ml : ∃ m, w.cell? ⟨0, 0, none⟩ = some (.int .i64 m)
  es : ∃ ev, w.cell? ⟨1, 0, none⟩ = some ev ∧ (ev = .nilIface ∨ ∃ te pe, ev = .iface te pe)
theorem gPw : Tryd.prog.globalNamed "internal/strconv.uint64pow10" = some 3 := by kernel_rfl
theorem Gl.below {w w' : World} (G : Gl w) (h : Below w.heap.size w w') : Gl w' := by
  obtain ⟨a, ⟨m, b⟩, ⟨ev, c, d⟩⟩ := G
  exact ⟨Joins.tab_stays gPw a h (Nat.le_refl _), ⟨m, (h.cell (World.block_lt_of_cell? _ _ b)).trans b⟩, ⟨ev, (h.cell (World.block_lt_of_cell? _ _ c)).trans c, d⟩⟩
/-- A world in which the tables hold, and in which all that lay in an elder one lies as it did. -/
structure St (w0 w : World) : Prop where
  gl : Gl w
  bl : Below w0.heap.size w0 w
theorem St.refl {w : World} (G : Gl w) : St w w := ⟨G, Below.refl _ _⟩
theorem St.step {w0 w w' : World} (S : St w0 w) (h : Below w.heap.size w w') : St w0 w' := ⟨S.gl.below h, S.bl.trans (h.mono S.bl.size)⟩
theorem Qt.st {w0 w w' : World} (h : Qt w w') (S : St w0 w) : St w0 w' := S.step h.bl
theorem below_gr (w : World) (k : Nat) (os : Array Obj) : Below w.heap.size w (grow (w.drewN k) os) :=
  ⟨rfl, rfl, rfl, by show w.heap.size ≤ ((w.drewN k).heap ++ os).size; simp, fun i hi => by
    show ((w.drewN k).heap ++ os)[i]? = _
    rw [Array.getElem?_append_left (by show i < w.heap.size; omega)]
    rfl⟩
/-- The library's calls. -/
theorem itoa_any (n : Int) (l : List UInt8) (w : World) (h0 : 0 ≤ n) (h1 : n ≤ 1000000000000000) (hl : Lib.itoa n = l) (G : Gl w) :
    Calls Tryd.prog 35 #[.int .i64 n] w fun e w' => e = .returned (.string ⟨l.toArray⟩) ∧ Below w.heap.size w w' := by
  subst hl
  refine (Tryd.strconv_Itoa n (by omega) (by omega) w G.pw).mono ?_
  rintro e w' ⟨rfl, k, os, rfl⟩
  exact ⟨rfl, below_gr _ _ _⟩
theorem itoa_dig (u : Nat) : Lib.itoa (u : Int) = Lib.decDigits u := by unfold Lib.itoa; rw [if_neg (by omega)]; simp
theorem atoi_yes (l : List UInt8) (n : Int) (w : World) (hl : l.length ≤ 18) (h : Lib.atoi l = some n) :
    Calls Tryd.prog 37 #[.string ⟨l.toArray⟩] w fun e w' => e = .returned (.tuple #[.int .i64 n, .nilIface]) ∧ Below w.heap.size w w' := by
  refine (Tryd.strconv_Atoi ⟨l.toArray⟩ n (by show l.toArray.size ≤ 18; simpa using hl) (by simpa using h) w).mono ?_
  rintro e w' ⟨rfl, t, rfl⟩
  exact ⟨rfl, Lib.bytesWorld_below _ _ _⟩
theorem atoi_no (l : List UInt8) (w : World) (hl : l.length ≤ 18) (h : Lib.atoi l = none) (G : Gl w) :
    Calls Tryd.prog 37 #[.string ⟨l.toArray⟩] w fun e w' => ∃ N, e = .returned (.tuple #[.int .i64 0, .iface 85 (.pointer (some ⟨N, 0, none⟩))]) ∧ Below w.heap.size w w' := by
  obtain ⟨ev, c, d⟩ := G.es
  refine (Tryd.strconv_Atoi_err ⟨l.toArray⟩ (by show l.toArray.size ≤ 18; simpa using hl) (by simpa using h) ev w c d).mono ?_
  rintro e w' ⟨N, rfl, _, _, hb⟩
  exact ⟨N, rfl, hb⟩
theorem cut_any (l a b : List UInt8) (f : Bool) (w : World) (hl : l.length ≤ 1000) (h : Lib.cut l [46] = (a, b, f)) (G : Gl w) :
    Calls Tryd.prog 36 #[.string ⟨l.toArray⟩, .string ⟨#[46]⟩] w fun e w' => e = .returned (.tuple #[.string ⟨a.toArray⟩, .string ⟨b.toArray⟩, .bool f]) ∧ Qt w w' := by
  obtain ⟨m, hm⟩ := G.ml
  have := Tryd.strings_Cut ⟨l.toArray⟩ ⟨#[46]⟩ m w (by show l.toArray.size < _; simp; omega) hm
  have e : Lib.cut (⟨l.toArray⟩ : ByteArray).data.toList (⟨#[46]⟩ : ByteArray).data.toList = (a, b, f) := by simpa using h
  rw [e] at this
  exact this
set_option maxHeartbeats 800000 in
set_option maxRecDepth 100000 in
theorem text_pos (u : Nat) (w0 w : World) (h : u ≤ 1000000000000000) (S : St w0 w) :
    Calls Tryd.prog 21 #[.int .i64 ((u : Int))] w fun e w' => e = .returned (.tuple #[.string ⟨(Mtx.txt ((u : Int))).toArray⟩, .int .i64 0]) ∧ St w0 w' := by
  have R := Lib.hid (fun w => right_b ((u : Int)) true w ((Mny.rt_iff _).2 ⟨by omega, by omega⟩))
  have I1 := Lib.hid (fun w G => itoa_any (((u / 100 : Nat)) : Int) _ w (by omega) (by omega) (itoa_dig _) G)
  have I2 := Lib.hid (fun w G => itoa_any (((u / 10 % 10 : Nat)) : Int) _ w (by omega) (by omega) (itoa_dig _) G)
  have I3 := Lib.hid (fun w G => itoa_any (((u % 10 : Nat)) : Int) _ w (by omega) (by omega) (itoa_dig _) G)
  have e1 : (((u / 100 : Nat)) : Int) = (u : Int) / 100 := by omega
  have e2 : (((u / 10 % 10 : Nat)) : Int) = (u : Int) / 10 % 10 := by omega
  have e3 : (((u % 10 : Nat)) : Int) = (u : Int) % 10 := by omega
  rw [e1] at I1
  rw [e2] at I2
  rw [e3] at I3
  have l1 := Mtx.dig_len (u / 100) 13 (by omega)
  have l2 := Mtx.dig_len (u / 10 % 10) 0 (by omega)
  have l3 := Mtx.dig_len (u % 10) 0 (by omega)
  have E := Lib.hid (Mtx.txt_app_text_pos u)
  clear e1 e2 e3
  go_enter Tryd.func21, Tryd.ntmps21
  go_wp2_with (first | (go_at_call 23; refine (R.out _).mono ?_; rintro e w' ⟨rfl, rfl⟩)  | (go_at_call 35; (with_reducible refine (I1.out _ S.gl).mono ?_); rintro e w1 ⟨rfl, b1⟩; have S1 := S.step b1)  | (go_at_call 35; (with_reducible refine (I2.out _ S1.gl).mono ?_); rintro e w2 ⟨rfl, b2⟩; have S2 := S1.step b2)  | (go_at_call 35; (with_reducible refine (I3.out _ S2.gl).mono ?_); rintro e w3 ⟨rfl, b3⟩; have S3 := S2.step b3))
  go_ret2
  exact ⟨ret2s E.out, S3⟩
set_option maxHeartbeats 800000 in
set_option maxRecDepth 100000 in
theorem text_neg (u : Nat) (w0 w : World) (h0 : 1 ≤ u) (h : u ≤ 1000000000000000) (S : St w0 w) :
    Calls Tryd.prog 21 #[.int .i64 (-(u : Int))] w fun e w' => e = .returned (.tuple #[.string ⟨(Mtx.txt (-(u : Int))).toArray⟩, .int .i64 0]) ∧ St w0 w' := by
  have R := Lib.hid (fun w => right_b (-(u : Int)) true w ((Mny.rt_iff _).2 ⟨by omega, by omega⟩))
  have I1 := Lib.hid (fun w G => itoa_any (((u / 100 : Nat)) : Int) _ w (by omega) (by omega) (itoa_dig _) G)
  have I2 := Lib.hid (fun w G => itoa_any (((u / 10 % 10 : Nat)) : Int) _ w (by omega) (by omega) (itoa_dig _) G)
  have I3 := Lib.hid (fun w G => itoa_any (((u % 10 : Nat)) : Int) _ w (by omega) (by omega) (itoa_dig _) G)
  have e1 : (((u / 100 : Nat)) : Int) = (u : Int) / 100 := by omega
  have e2 : (((u / 10 % 10 : Nat)) : Int) = (u : Int) / 10 % 10 := by omega
  have e3 : (((u % 10 : Nat)) : Int) = (u : Int) % 10 := by omega
  rw [e1] at I1
  rw [e2] at I2
  rw [e3] at I3
  have l1 := Mtx.dig_len (u / 100) 13 (by omega)
  have l2 := Mtx.dig_len (u / 10 % 10) 0 (by omega)
  have l3 := Mtx.dig_len (u % 10) 0 (by omega)
  have E := Lib.hid (Mtx.txt_app_text_neg u h0)
  clear e1 e2 e3
  go_enter Tryd.func21, Tryd.ntmps21
  go_wp2_with (first | (go_at_call 23; refine (R.out _).mono ?_; rintro e w' ⟨rfl, rfl⟩)  | (go_at_call 35; (with_reducible refine (I1.out _ S.gl).mono ?_); rintro e w1 ⟨rfl, b1⟩; have S1 := S.step b1)  | (go_at_call 35; (with_reducible refine (I2.out _ S1.gl).mono ?_); rintro e w2 ⟨rfl, b2⟩; have S2 := S1.step b2)  | (go_at_call 35; (with_reducible refine (I3.out _ S2.gl).mono ?_); rintro e w3 ⟨rfl, b3⟩; have S3 := S2.step b3))
  go_ret2
  exact ⟨ret2s E.out, S3⟩
theorem text_ok (c : Int) (w0 w : World) (h : Mny.rt c = true) (S : St w0 w) :
    Calls Tryd.prog 21 #[.int .i64 c] w fun e w' => e = .returned (.tuple #[.string ⟨(Mtx.txt c).toArray⟩, .int .i64 0]) ∧ St w0 w' := by
  have b := (Mny.rt_iff c).1 h
  by_cases s : 0 ≤ c
  · obtain ⟨u, rfl⟩ : ∃ u : Nat, c = u := ⟨c.toNat, by omega⟩
    exact text_pos u w0 w (by omega) S
  · obtain ⟨u, rfl⟩ : ∃ u : Nat, c = -(u : Int) := ⟨(-c).toNat, by omega⟩
    exact text_neg u w0 w (by omega) (by omega) S
set_option maxHeartbeats 800000 in
theorem text_no (c : Int) (w : World) (h : Mny.rt c = false) :
    Calls Tryd.prog 21 #[.int .i64 c] w fun e w' => e = .returned (.tuple #[.string ⟨#[]⟩, .int .i64 2]) ∧ w = w' := by
  have R := Lib.hid (fun w => right_b c false w h)
  clear h
  go_enter Tryd.func21, Tryd.ntmps21
  go_wp2_with (go_at_call 23; refine (R.out _).mono ?_; rintro e w' ⟨rfl, rfl⟩)
  go_ret2
  exact ⟨rfl, rfl⟩
end Go.Proofs.YthdmgnlemmpjkaaDoor
