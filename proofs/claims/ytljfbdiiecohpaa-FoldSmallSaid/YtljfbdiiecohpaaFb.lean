/- The closure that tells what the bytes of a text become. -/
import Derived.Test.YtljfbdiiecohpaaFa
import Derived.Test.YtljfbdiiecohpaaSl
import Derived.Deep.QuietTactic
import Derived.BigQuiet
namespace Go.Proofs.Ytljfbdiiecohpaa
open Go.RowKit

theorem converting_any (s : ByteArray) (w : World) : Calls Try.prog 33 #[.string s] w fun e w' => e = .returned (.func (.func 53) #[] #[.pointer (some ⟨w.heap.size, 0, none⟩)]) ∧ w' = w.alloc (.cells #[.string s] 9) := by
  go_enter Try.func33, Try.ntmps33
  go_wp2
  go_ret
  exact ⟨rfl, rfl⟩
namespace Fo
theorem drop_at {s : ByteArray} {p : Nat} (hp : p < s.size) : s.data.toList.drop p = s[p] :: s.data.toList.drop (p + 1) := by
  have hl : p < s.data.toList.length := by rw [Array.length_toList]; exact hp
  rw [List.drop_eq_getElem_cons hl]
  congr 1
theorem drop_end {s : ByteArray} {p : Nat} (hp : ¬ p < s.size) : s.data.toList.drop p = [] := by
  rw [List.drop_eq_nil_iff, Array.length_toList]; exact Nat.not_lt.1 hp
theorem pcd_ks {c : UInt8} {r : Bs} (h : (kpt c || sml c) = true) : pcd (c :: r) = ([one c], 1) := by
  cases r with
  | nil => rfl
  | cons b r => rw [pcd_two, if_pos (two_low (Or.inl (ks_low c h)))]
theorem pcd_kept {c : UInt8} {r : Bs} (h : kpt c = true) : pcd (c :: r) = ([c], 1) := by rw [pcd_ks (by rw [h]; rfl), one_of_kpt h]
theorem extract_one {s : ByteArray} {p : Nat} (hp : p < s.size) : s.extract p (p + 1) = ⟨[s[p]].toArray⟩ := by
  apply ByteArray.ext
  rw [ByteArray.data_extract]
  apply Array.ext'
  rw [Array.toList_extract]
  have hl : p < s.data.toList.length := by rw [Array.length_toList]; exact hp
  rw [List.extract_eq_take_drop, show p + 1 - p = 1 by omega, List.drop_eq_getElem_cons hl]
  simp only [List.take_succ_cons, List.take_zero]
  rfl
theorem kpt_of {c : UInt8} (h : (65 ≤ c.toNat ∧ c.toNat ≤ 90) ∨ (48 ≤ c.toNat ∧ c.toNat ≤ 57) ∨ c.toNat = 45 ∨ c.toNat = 47) : kpt c = true := by
  unfold kpt
  simp only [Bool.or_eq_true, Bool.and_eq_true, decide_eq_true_eq]
  omega
theorem kpt_no {c : UInt8} (h : ¬ ((65 ≤ c.toNat ∧ c.toNat ≤ 90) ∨ (48 ≤ c.toNat ∧ c.toNat ≤ 57) ∨ c.toNat = 45 ∨ c.toNat = 47)) : ¬ kpt c = true := by
  unfold kpt
  simp only [Bool.or_eq_true, Bool.and_eq_true, decide_eq_true_eq]
  omega
theorem sml_of {c : UInt8} (h : 97 ≤ c.toNat ∧ c.toNat ≤ 122) : sml c = true := by
  unfold sml
  simp only [Bool.and_eq_true, decide_eq_true_eq]
  omega
theorem sml_no {c : UInt8} (h : ¬ (97 ≤ c.toNat ∧ c.toNat ≤ 122)) : ¬ sml c = true := by
  unfold sml
  simp only [Bool.and_eq_true, decide_eq_true_eq]
  omega
theorem enc_small {c : UInt8} (h : 97 ≤ c.toNat ∧ c.toNat ≤ 122) : Utf8.encode ((c.toNat : Int) - 97 + 65) = ⟨[one c].toArray⟩ := by
  have := all8 (p := fun c => 97 ≤ c.toNat ∧ c.toNat ≤ 122 → Utf8.encode ((c.toNat : Int) - 97 + 65) = ⟨[one c].toArray⟩) (by decide +kernel) c
  exact this h
theorem sml_ks {c : UInt8} {r : Bs} (h : 97 ≤ c.toNat ∧ c.toNat ≤ 122) : pcd (c :: r) = ([one c], 1) := pcd_ks (by rw [sml_of h]; simp)
theorem no_one {c : UInt8} (h1 : ¬ ((65 ≤ c.toNat ∧ c.toNat ≤ 90) ∨ (48 ≤ c.toNat ∧ c.toNat ≤ 57) ∨ c.toNat = 45 ∨ c.toNat = 47)) (h2 : ¬ (97 ≤ c.toNat ∧ c.toNat ≤ 122)) : one c = 32 := by
  unfold one; rw [if_neg (kpt_no h1), if_neg (sml_no h2)]
theorem str_ne {l : Bs} (h : l ≠ []) : l.isEmpty = false := by simpa using h
end Fo
theorem letters_q (a b : UInt8) (w : World) : Calls Try.prog 54 #[.int .u8 a.toNat, .int .u8 b.toNat] w fun e w' => e = .returned (.string ⟨(Fo.two a b).toArray⟩) ∧ w = w' :=
  (letters_any a b w).mono fun _ _ ⟨h1, h2⟩ => ⟨h1, h2.symm⟩
-- blank bytes
set_option maxRecDepth 100000 in
set_option maxHeartbeats 3200000 in
theorem becomes_end0 (s : ByteArray) (g p : Nat) (w : World) (hs : s.size ≤ 1000000) (hp : p < s.size) (hg : w.cell? ⟨g, 0, none⟩ = some (.string s)) (hr : s[p].toNat < 48 ∧ s[p].toNat ≠ 45 ∧ s[p].toNat ≠ 47) (h1 : ¬ p + 1 < s.size) :
    Calls Try.prog 53 #[.int .i64 p, .pointer (some ⟨g, 0, none⟩)] w fun e w' => e = .returned (.tuple #[.string ⟨#[32]⟩, .int .i64 1]) ∧ Qt w w' := by
  have f65 : ¬ (65 : Int) ≤ s[p].toNat := by omega
  have f48 : ¬ (48 : Int) ≤ s[p].toNat := by omega
  have f97 : ¬ (97 : Int) ≤ s[p].toNat := by omega
  have f45 : ((s[p].toNat : Int) == 45) = false := beq_eq_false_iff_ne.2 (by omega)
  have f47 : ((s[p].toNat : Int) == 47) = false := beq_eq_false_iff_ne.2 (by omega)
  have h2 : decide ((p : Int) + 1 < s.size) = false := decide_eq_false (by omega)
  clear h1 hr
  go_enter Try.func53, Try.ntmps53
  go_wp2
  go_ret2
  exact ⟨rfl, Qt.refl _⟩
set_option maxRecDepth 100000 in
set_option maxHeartbeats 3200000 in
theorem becomes_no0 (s : ByteArray) (g p : Nat) (w : World) (hs : s.size ≤ 1000000) (hp : p < s.size) (hg : w.cell? ⟨g, 0, none⟩ = some (.string s)) (hr : s[p].toNat < 48 ∧ s[p].toNat ≠ 45 ∧ s[p].toNat ≠ 47) (h1 : p + 1 < s.size) (ht : Fo.two s[p] s[p + 1] = []) :
    Calls Try.prog 53 #[.int .i64 p, .pointer (some ⟨g, 0, none⟩)] w fun e w' => e = .returned (.tuple #[.string ⟨#[32]⟩, .int .i64 1]) ∧ Qt w w' := by
  have f65 : ¬ (65 : Int) ≤ s[p].toNat := by omega
  have f48 : ¬ (48 : Int) ≤ s[p].toNat := by omega
  have f97 : ¬ (97 : Int) ≤ s[p].toNat := by omega
  have f45 : ((s[p].toNat : Int) == 45) = false := beq_eq_false_iff_ne.2 (by omega)
  have f47 : ((s[p].toNat : Int) == 47) = false := beq_eq_false_iff_ne.2 (by omega)
  have h2 : decide ((p : Int) + 1 < s.size) = true := decide_eq_true (by omega)
  have L := Lib.hid (fun w => letters_q s[p] s[p + 1] w)
  rw [ht] at L
  clear ht
  have q1 : IntKind.i64.wrap ((p : Int) + 1) = (p : Int) + 1 := IntWalk.i64_in _ (by omega)
  have q2 : (0 : Int) ≤ (p : Int) + 1 := by omega
  have q3 : ((p : Int) + 1).toNat = p + 1 := by omega
  have q4 : (p : Int) + 1 < s.size := by omega
  clear hr
  go_enter Try.func53, Try.ntmps53
  go_wp2_with fail
  go_quiet ((go_at_call 54; with_reducible exact quiet_sym (L.out _)))
  clear q1
  go_wp2
  go_ret2
  exact ⟨rfl, ⟨_, rfl⟩⟩
set_option maxRecDepth 100000 in
set_option maxHeartbeats 3200000 in
theorem becomes_two0 (s : ByteArray) (g p : Nat) (w : World) (hs : s.size ≤ 1000000) (hp : p < s.size) (hg : w.cell? ⟨g, 0, none⟩ = some (.string s)) (hr : s[p].toNat < 48 ∧ s[p].toNat ≠ 45 ∧ s[p].toNat ≠ 47) (h1 : p + 1 < s.size) (ht : Fo.two s[p] s[p + 1] ≠ []) :
    Calls Try.prog 53 #[.int .i64 p, .pointer (some ⟨g, 0, none⟩)] w fun e w' => e = .returned (.tuple #[.string ⟨(Fo.two s[p] s[p + 1]).toArray⟩, .int .i64 2]) ∧ Qt w w' := by
  have f65 : ¬ (65 : Int) ≤ s[p].toNat := by omega
  have f48 : ¬ (48 : Int) ≤ s[p].toNat := by omega
  have f97 : ¬ (97 : Int) ≤ s[p].toNat := by omega
  have f45 : ((s[p].toNat : Int) == 45) = false := beq_eq_false_iff_ne.2 (by omega)
  have f47 : ((s[p].toNat : Int) == 47) = false := beq_eq_false_iff_ne.2 (by omega)
  have h2 : decide ((p : Int) + 1 < s.size) = true := decide_eq_true (by omega)
  have L := Lib.hid (fun w => letters_q s[p] s[p + 1] w)
  have NE := Fo.str_ne ht
  have T := Lib.hid ht
  clear ht
  have q1 : IntKind.i64.wrap ((p : Int) + 1) = (p : Int) + 1 := IntWalk.i64_in _ (by omega)
  have q2 : (0 : Int) ≤ (p : Int) + 1 := by omega
  have q3 : ((p : Int) + 1).toNat = p + 1 := by omega
  have q4 : (p : Int) + 1 < s.size := by omega
  clear hr
  go_enter Try.func53, Try.ntmps53
  go_wp2_with fail
  go_quiet ((go_at_call 54; with_reducible exact quiet_sym (L.out _)))
  clear q1
  go_wp2
  go_ret2
  exact ⟨rfl, ⟨_, rfl⟩⟩
set_option maxRecDepth 100000 in
set_option maxHeartbeats 3200000 in
theorem becomes_end1 (s : ByteArray) (g p : Nat) (w : World) (hs : s.size ≤ 1000000) (hp : p < s.size) (hg : w.cell? ⟨g, 0, none⟩ = some (.string s)) (hr : 58 ≤ s[p].toNat ∧ s[p].toNat ≤ 64) (h1 : ¬ p + 1 < s.size) :
    Calls Try.prog 53 #[.int .i64 p, .pointer (some ⟨g, 0, none⟩)] w fun e w' => e = .returned (.tuple #[.string ⟨#[32]⟩, .int .i64 1]) ∧ Qt w w' := by
  have f65 : ¬ (65 : Int) ≤ s[p].toNat := by omega
  have f48 : (48 : Int) ≤ s[p].toNat := by omega
  have f57 : ¬ (s[p].toNat : Int) ≤ 57 := by omega
  have f97 : ¬ (97 : Int) ≤ s[p].toNat := by omega
  have f45 : ((s[p].toNat : Int) == 45) = false := beq_eq_false_iff_ne.2 (by omega)
  have f47 : ((s[p].toNat : Int) == 47) = false := beq_eq_false_iff_ne.2 (by omega)
  have h2 : decide ((p : Int) + 1 < s.size) = false := decide_eq_false (by omega)
  clear h1 hr
  go_enter Try.func53, Try.ntmps53
  go_wp2
  go_ret2
  exact ⟨rfl, Qt.refl _⟩
set_option maxRecDepth 100000 in
set_option maxHeartbeats 3200000 in
theorem becomes_no1 (s : ByteArray) (g p : Nat) (w : World) (hs : s.size ≤ 1000000) (hp : p < s.size) (hg : w.cell? ⟨g, 0, none⟩ = some (.string s)) (hr : 58 ≤ s[p].toNat ∧ s[p].toNat ≤ 64) (h1 : p + 1 < s.size) (ht : Fo.two s[p] s[p + 1] = []) :
    Calls Try.prog 53 #[.int .i64 p, .pointer (some ⟨g, 0, none⟩)] w fun e w' => e = .returned (.tuple #[.string ⟨#[32]⟩, .int .i64 1]) ∧ Qt w w' := by
  have f65 : ¬ (65 : Int) ≤ s[p].toNat := by omega
  have f48 : (48 : Int) ≤ s[p].toNat := by omega
  have f57 : ¬ (s[p].toNat : Int) ≤ 57 := by omega
  have f97 : ¬ (97 : Int) ≤ s[p].toNat := by omega
  have f45 : ((s[p].toNat : Int) == 45) = false := beq_eq_false_iff_ne.2 (by omega)
  have f47 : ((s[p].toNat : Int) == 47) = false := beq_eq_false_iff_ne.2 (by omega)
  have h2 : decide ((p : Int) + 1 < s.size) = true := decide_eq_true (by omega)
  have L := Lib.hid (fun w => letters_q s[p] s[p + 1] w)
  rw [ht] at L
  clear ht
  have q1 : IntKind.i64.wrap ((p : Int) + 1) = (p : Int) + 1 := IntWalk.i64_in _ (by omega)
  have q2 : (0 : Int) ≤ (p : Int) + 1 := by omega
  have q3 : ((p : Int) + 1).toNat = p + 1 := by omega
  have q4 : (p : Int) + 1 < s.size := by omega
  clear hr
  go_enter Try.func53, Try.ntmps53
  go_wp2_with fail
  go_quiet ((go_at_call 54; with_reducible exact quiet_sym (L.out _)))
  clear q1
  go_wp2
  go_ret2
  exact ⟨rfl, ⟨_, rfl⟩⟩
set_option maxRecDepth 100000 in
set_option maxHeartbeats 3200000 in
theorem becomes_two1 (s : ByteArray) (g p : Nat) (w : World) (hs : s.size ≤ 1000000) (hp : p < s.size) (hg : w.cell? ⟨g, 0, none⟩ = some (.string s)) (hr : 58 ≤ s[p].toNat ∧ s[p].toNat ≤ 64) (h1 : p + 1 < s.size) (ht : Fo.two s[p] s[p + 1] ≠ []) :
    Calls Try.prog 53 #[.int .i64 p, .pointer (some ⟨g, 0, none⟩)] w fun e w' => e = .returned (.tuple #[.string ⟨(Fo.two s[p] s[p + 1]).toArray⟩, .int .i64 2]) ∧ Qt w w' := by
  have f65 : ¬ (65 : Int) ≤ s[p].toNat := by omega
  have f48 : (48 : Int) ≤ s[p].toNat := by omega
  have f57 : ¬ (s[p].toNat : Int) ≤ 57 := by omega
  have f97 : ¬ (97 : Int) ≤ s[p].toNat := by omega
  have f45 : ((s[p].toNat : Int) == 45) = false := beq_eq_false_iff_ne.2 (by omega)
  have f47 : ((s[p].toNat : Int) == 47) = false := beq_eq_false_iff_ne.2 (by omega)
  have h2 : decide ((p : Int) + 1 < s.size) = true := decide_eq_true (by omega)
  have L := Lib.hid (fun w => letters_q s[p] s[p + 1] w)
  have NE := Fo.str_ne ht
  have T := Lib.hid ht
  clear ht
  have q1 : IntKind.i64.wrap ((p : Int) + 1) = (p : Int) + 1 := IntWalk.i64_in _ (by omega)
  have q2 : (0 : Int) ≤ (p : Int) + 1 := by omega
  have q3 : ((p : Int) + 1).toNat = p + 1 := by omega
  have q4 : (p : Int) + 1 < s.size := by omega
  clear hr
  go_enter Try.func53, Try.ntmps53
  go_wp2_with fail
  go_quiet ((go_at_call 54; with_reducible exact quiet_sym (L.out _)))
  clear q1
  go_wp2
  go_ret2
  exact ⟨rfl, ⟨_, rfl⟩⟩
set_option maxRecDepth 100000 in
set_option maxHeartbeats 3200000 in
theorem becomes_end2 (s : ByteArray) (g p : Nat) (w : World) (hs : s.size ≤ 1000000) (hp : p < s.size) (hg : w.cell? ⟨g, 0, none⟩ = some (.string s)) (hr : 91 ≤ s[p].toNat ∧ s[p].toNat ≤ 96) (h1 : ¬ p + 1 < s.size) :
    Calls Try.prog 53 #[.int .i64 p, .pointer (some ⟨g, 0, none⟩)] w fun e w' => e = .returned (.tuple #[.string ⟨#[32]⟩, .int .i64 1]) ∧ Qt w w' := by
  have f65 : (65 : Int) ≤ s[p].toNat := by omega
  have f90 : ¬ (s[p].toNat : Int) ≤ 90 := by omega
  have f48 : (48 : Int) ≤ s[p].toNat := by omega
  have f57 : ¬ (s[p].toNat : Int) ≤ 57 := by omega
  have f97 : ¬ (97 : Int) ≤ s[p].toNat := by omega
  have f45 : ((s[p].toNat : Int) == 45) = false := beq_eq_false_iff_ne.2 (by omega)
  have f47 : ((s[p].toNat : Int) == 47) = false := beq_eq_false_iff_ne.2 (by omega)
  have h2 : decide ((p : Int) + 1 < s.size) = false := decide_eq_false (by omega)
  clear h1 hr
  go_enter Try.func53, Try.ntmps53
  go_wp2
  go_ret2
  exact ⟨rfl, Qt.refl _⟩
set_option maxRecDepth 100000 in
set_option maxHeartbeats 3200000 in
theorem becomes_no2 (s : ByteArray) (g p : Nat) (w : World) (hs : s.size ≤ 1000000) (hp : p < s.size) (hg : w.cell? ⟨g, 0, none⟩ = some (.string s)) (hr : 91 ≤ s[p].toNat ∧ s[p].toNat ≤ 96) (h1 : p + 1 < s.size) (ht : Fo.two s[p] s[p + 1] = []) :
    Calls Try.prog 53 #[.int .i64 p, .pointer (some ⟨g, 0, none⟩)] w fun e w' => e = .returned (.tuple #[.string ⟨#[32]⟩, .int .i64 1]) ∧ Qt w w' := by
  have f65 : (65 : Int) ≤ s[p].toNat := by omega
  have f90 : ¬ (s[p].toNat : Int) ≤ 90 := by omega
  have f48 : (48 : Int) ≤ s[p].toNat := by omega
  have f57 : ¬ (s[p].toNat : Int) ≤ 57 := by omega
  have f97 : ¬ (97 : Int) ≤ s[p].toNat := by omega
  have f45 : ((s[p].toNat : Int) == 45) = false := beq_eq_false_iff_ne.2 (by omega)
  have f47 : ((s[p].toNat : Int) == 47) = false := beq_eq_false_iff_ne.2 (by omega)
  have h2 : decide ((p : Int) + 1 < s.size) = true := decide_eq_true (by omega)
  have L := Lib.hid (fun w => letters_q s[p] s[p + 1] w)
  rw [ht] at L
  clear ht
  have q1 : IntKind.i64.wrap ((p : Int) + 1) = (p : Int) + 1 := IntWalk.i64_in _ (by omega)
  have q2 : (0 : Int) ≤ (p : Int) + 1 := by omega
  have q3 : ((p : Int) + 1).toNat = p + 1 := by omega
  have q4 : (p : Int) + 1 < s.size := by omega
  clear hr
  go_enter Try.func53, Try.ntmps53
  go_wp2_with fail
  go_quiet ((go_at_call 54; with_reducible exact quiet_sym (L.out _)))
  clear q1
  go_wp2
  go_ret2
  exact ⟨rfl, ⟨_, rfl⟩⟩
set_option maxRecDepth 100000 in
set_option maxHeartbeats 3200000 in
theorem becomes_two2 (s : ByteArray) (g p : Nat) (w : World) (hs : s.size ≤ 1000000) (hp : p < s.size) (hg : w.cell? ⟨g, 0, none⟩ = some (.string s)) (hr : 91 ≤ s[p].toNat ∧ s[p].toNat ≤ 96) (h1 : p + 1 < s.size) (ht : Fo.two s[p] s[p + 1] ≠ []) :
    Calls Try.prog 53 #[.int .i64 p, .pointer (some ⟨g, 0, none⟩)] w fun e w' => e = .returned (.tuple #[.string ⟨(Fo.two s[p] s[p + 1]).toArray⟩, .int .i64 2]) ∧ Qt w w' := by
  have f65 : (65 : Int) ≤ s[p].toNat := by omega
  have f90 : ¬ (s[p].toNat : Int) ≤ 90 := by omega
  have f48 : (48 : Int) ≤ s[p].toNat := by omega
  have f57 : ¬ (s[p].toNat : Int) ≤ 57 := by omega
  have f97 : ¬ (97 : Int) ≤ s[p].toNat := by omega
  have f45 : ((s[p].toNat : Int) == 45) = false := beq_eq_false_iff_ne.2 (by omega)
  have f47 : ((s[p].toNat : Int) == 47) = false := beq_eq_false_iff_ne.2 (by omega)
  have h2 : decide ((p : Int) + 1 < s.size) = true := decide_eq_true (by omega)
  have L := Lib.hid (fun w => letters_q s[p] s[p + 1] w)
  have NE := Fo.str_ne ht
  have T := Lib.hid ht
  clear ht
  have q1 : IntKind.i64.wrap ((p : Int) + 1) = (p : Int) + 1 := IntWalk.i64_in _ (by omega)
  have q2 : (0 : Int) ≤ (p : Int) + 1 := by omega
  have q3 : ((p : Int) + 1).toNat = p + 1 := by omega
  have q4 : (p : Int) + 1 < s.size := by omega
  clear hr
  go_enter Try.func53, Try.ntmps53
  go_wp2_with fail
  go_quiet ((go_at_call 54; with_reducible exact quiet_sym (L.out _)))
  clear q1
  go_wp2
  go_ret2
  exact ⟨rfl, ⟨_, rfl⟩⟩
set_option maxRecDepth 100000 in
set_option maxHeartbeats 3200000 in
theorem becomes_end3 (s : ByteArray) (g p : Nat) (w : World) (hs : s.size ≤ 1000000) (hp : p < s.size) (hg : w.cell? ⟨g, 0, none⟩ = some (.string s)) (hr : 123 ≤ s[p].toNat) (h1 : ¬ p + 1 < s.size) :
    Calls Try.prog 53 #[.int .i64 p, .pointer (some ⟨g, 0, none⟩)] w fun e w' => e = .returned (.tuple #[.string ⟨#[32]⟩, .int .i64 1]) ∧ Qt w w' := by
  have f65 : (65 : Int) ≤ s[p].toNat := by omega
  have f90 : ¬ (s[p].toNat : Int) ≤ 90 := by omega
  have f48 : (48 : Int) ≤ s[p].toNat := by omega
  have f57 : ¬ (s[p].toNat : Int) ≤ 57 := by omega
  have f97 : (97 : Int) ≤ s[p].toNat := by omega
  have f122 : ¬ (s[p].toNat : Int) ≤ 122 := by omega
  have f45 : ((s[p].toNat : Int) == 45) = false := beq_eq_false_iff_ne.2 (by omega)
  have f47 : ((s[p].toNat : Int) == 47) = false := beq_eq_false_iff_ne.2 (by omega)
  have h2 : decide ((p : Int) + 1 < s.size) = false := decide_eq_false (by omega)
  clear h1 hr
  go_enter Try.func53, Try.ntmps53
  go_wp2
  go_ret2
  exact ⟨rfl, Qt.refl _⟩
set_option maxRecDepth 100000 in
set_option maxHeartbeats 3200000 in
theorem becomes_no3 (s : ByteArray) (g p : Nat) (w : World) (hs : s.size ≤ 1000000) (hp : p < s.size) (hg : w.cell? ⟨g, 0, none⟩ = some (.string s)) (hr : 123 ≤ s[p].toNat) (h1 : p + 1 < s.size) (ht : Fo.two s[p] s[p + 1] = []) :
    Calls Try.prog 53 #[.int .i64 p, .pointer (some ⟨g, 0, none⟩)] w fun e w' => e = .returned (.tuple #[.string ⟨#[32]⟩, .int .i64 1]) ∧ Qt w w' := by
  have f65 : (65 : Int) ≤ s[p].toNat := by omega
  have f90 : ¬ (s[p].toNat : Int) ≤ 90 := by omega
  have f48 : (48 : Int) ≤ s[p].toNat := by omega
  have f57 : ¬ (s[p].toNat : Int) ≤ 57 := by omega
  have f97 : (97 : Int) ≤ s[p].toNat := by omega
  have f122 : ¬ (s[p].toNat : Int) ≤ 122 := by omega
  have f45 : ((s[p].toNat : Int) == 45) = false := beq_eq_false_iff_ne.2 (by omega)
  have f47 : ((s[p].toNat : Int) == 47) = false := beq_eq_false_iff_ne.2 (by omega)
  have h2 : decide ((p : Int) + 1 < s.size) = true := decide_eq_true (by omega)
  have L := Lib.hid (fun w => letters_q s[p] s[p + 1] w)
  rw [ht] at L
  clear ht
  have q1 : IntKind.i64.wrap ((p : Int) + 1) = (p : Int) + 1 := IntWalk.i64_in _ (by omega)
  have q2 : (0 : Int) ≤ (p : Int) + 1 := by omega
  have q3 : ((p : Int) + 1).toNat = p + 1 := by omega
  have q4 : (p : Int) + 1 < s.size := by omega
  clear hr
  go_enter Try.func53, Try.ntmps53
  go_wp2_with fail
  go_quiet ((go_at_call 54; with_reducible exact quiet_sym (L.out _)))
  clear q1
  go_wp2
  go_ret2
  exact ⟨rfl, ⟨_, rfl⟩⟩
set_option maxRecDepth 100000 in
set_option maxHeartbeats 3200000 in
theorem becomes_two3 (s : ByteArray) (g p : Nat) (w : World) (hs : s.size ≤ 1000000) (hp : p < s.size) (hg : w.cell? ⟨g, 0, none⟩ = some (.string s)) (hr : 123 ≤ s[p].toNat) (h1 : p + 1 < s.size) (ht : Fo.two s[p] s[p + 1] ≠ []) :
    Calls Try.prog 53 #[.int .i64 p, .pointer (some ⟨g, 0, none⟩)] w fun e w' => e = .returned (.tuple #[.string ⟨(Fo.two s[p] s[p + 1]).toArray⟩, .int .i64 2]) ∧ Qt w w' := by
  have f65 : (65 : Int) ≤ s[p].toNat := by omega
  have f90 : ¬ (s[p].toNat : Int) ≤ 90 := by omega
  have f48 : (48 : Int) ≤ s[p].toNat := by omega
  have f57 : ¬ (s[p].toNat : Int) ≤ 57 := by omega
  have f97 : (97 : Int) ≤ s[p].toNat := by omega
  have f122 : ¬ (s[p].toNat : Int) ≤ 122 := by omega
  have f45 : ((s[p].toNat : Int) == 45) = false := beq_eq_false_iff_ne.2 (by omega)
  have f47 : ((s[p].toNat : Int) == 47) = false := beq_eq_false_iff_ne.2 (by omega)
  have h2 : decide ((p : Int) + 1 < s.size) = true := decide_eq_true (by omega)
  have L := Lib.hid (fun w => letters_q s[p] s[p + 1] w)
  have NE := Fo.str_ne ht
  have T := Lib.hid ht
  clear ht
  have q1 : IntKind.i64.wrap ((p : Int) + 1) = (p : Int) + 1 := IntWalk.i64_in _ (by omega)
  have q2 : (0 : Int) ≤ (p : Int) + 1 := by omega
  have q3 : ((p : Int) + 1).toNat = p + 1 := by omega
  have q4 : (p : Int) + 1 < s.size := by omega
  clear hr
  go_enter Try.func53, Try.ntmps53
  go_wp2_with fail
  go_quiet ((go_at_call 54; with_reducible exact quiet_sym (L.out _)))
  clear q1
  go_wp2
  go_ret2
  exact ⟨rfl, ⟨_, rfl⟩⟩
-- all bytes
set_option maxRecDepth 100000 in
set_option maxHeartbeats 3200000 in
theorem becomes_any (s : ByteArray) (g p : Nat) (w : World) (hs : s.size ≤ 1000000) (hp : p < s.size) (hg : w.cell? ⟨g, 0, none⟩ = some (.string s)) :
    Calls Try.prog 53 #[.int .i64 p, .pointer (some ⟨g, 0, none⟩)] w fun e w' => e = .returned (.tuple #[.string ⟨(Fo.pcd (s.data.toList.drop p)).1.toArray⟩, .int .i64 (Fo.pcd (s.data.toList.drop p)).2]) ∧ Qt w w' := by
  have D := Lib.hid (Fo.drop_at hp)
  have X := Lib.hid (Fo.extract_one hp)
  obtain ⟨K, hK⟩ : ∃ K : Prop, K ↔ ((65 ≤ s[p].toNat ∧ s[p].toNat ≤ 90) ∨ (48 ≤ s[p].toNat ∧ s[p].toNat ≤ 57) ∨ s[p].toNat = 45 ∨ s[p].toNat = 47) := ⟨_, Iff.rfl⟩
  by_cases k : K
  · have E : Hid (Fo.pcd (s.data.toList.drop p) = ([s[p]], 1)) := by show _ = _; rw [D.out, Fo.pcd_kept (Fo.kpt_of (hK.1 k))]
    have k' := hK.1 k
    clear k hK
    rcases k' with ⟨k1, k2⟩ | ⟨k1, k2⟩ | k1 | k1
    · have k1 : (65 : Int) ≤ s[p].toNat := by omega
      have k2 : (s[p].toNat : Int) ≤ 90 := by omega
      go_enter Try.func53, Try.ntmps53
      go_wp2
      go_ret2
      rw [E.out, ← X.out]
      exact ⟨by go_num, Qt.refl _⟩
    · have k3 : ¬ (65 : Int) ≤ s[p].toNat := by omega
      have k1 : (48 : Int) ≤ s[p].toNat := by omega
      have k2 : (s[p].toNat : Int) ≤ 57 := by omega
      go_enter Try.func53, Try.ntmps53
      go_wp2
      go_ret2
      rw [E.out, ← X.out]
      exact ⟨by go_num, Qt.refl _⟩
    · have k3 : (s[p].toNat : Int) = 45 := by omega
      go_enter Try.func53, Try.ntmps53
      go_wp2
      go_ret2
      rw [E.out, ← X.out]
      exact ⟨by go_num, Qt.refl _⟩
    · have k3 : (s[p].toNat : Int) = 47 := by omega
      go_enter Try.func53, Try.ntmps53
      go_wp2
      go_ret2
      rw [E.out, ← X.out]
      exact ⟨by go_num, Qt.refl _⟩
  · have k' : ¬ _ := fun h => k (hK.2 h)
    clear k hK
    by_cases ks : 97 ≤ s[p].toNat ∧ s[p].toNat ≤ 122
    · have E : Hid (Fo.pcd (s.data.toList.drop p) = ([Fo.one s[p]], 1)) := by show _ = _; rw [D.out, Fo.sml_ks ks]
      have Y := Lib.hid (Fo.enc_small ks)
      obtain ⟨k1, k2⟩ := ks
      have k3 : (97 : Int) ≤ s[p].toNat := by omega
      have k4 : (s[p].toNat : Int) ≤ 122 := by omega
      have k5 : ¬ (s[p].toNat : Int) ≤ 90 := by omega
      have k6 : ¬ (s[p].toNat : Int) ≤ 57 := by omega
      clear k1 k2 k'
      go_enter Try.func53, Try.ntmps53
      go_wp2
      go_ret2
      rw [E.out, ← Y.out]
      exact ⟨by go_num, Qt.refl _⟩
    · have O := Fo.no_one k' ks
      have RG : (s[p].toNat < 48 ∧ s[p].toNat ≠ 45 ∧ s[p].toNat ≠ 47) ∨ (58 ≤ s[p].toNat ∧ s[p].toNat ≤ 64) ∨ (91 ≤ s[p].toNat ∧ s[p].toNat ≤ 96) ∨ 123 ≤ s[p].toNat := by omega
      by_cases h1 : p + 1 < s.size
      · have D2 : s.data.toList.drop p = s[p] :: s[p + 1] :: s.data.toList.drop (p + 1 + 1) := by rw [D.out, Fo.drop_at h1]
        by_cases ht : Fo.two s[p] s[p + 1] = []
        · rw [D2, Fo.pcd_two, if_pos ht, O]
          rcases RG with r | r | r | r
          · exact becomes_no0 s g p w hs hp hg r h1 ht
          · exact becomes_no1 s g p w hs hp hg r h1 ht
          · exact becomes_no2 s g p w hs hp hg r h1 ht
          · exact becomes_no3 s g p w hs hp hg r h1 ht
        · rw [D2, Fo.pcd_two, if_neg ht]
          rcases RG with r | r | r | r
          · exact becomes_two0 s g p w hs hp hg r h1 ht
          · exact becomes_two1 s g p w hs hp hg r h1 ht
          · exact becomes_two2 s g p w hs hp hg r h1 ht
          · exact becomes_two3 s g p w hs hp hg r h1 ht
      · rw [D.out, Fo.drop_end h1]
        show Calls _ _ _ _ fun e w' => e = .returned (.tuple #[.string ⟨[Fo.one s[p]].toArray⟩, .int .i64 1]) ∧ Qt w w'
        rw [O]
        rcases RG with r | r | r | r
        · exact becomes_end0 s g p w hs hp hg r h1
        · exact becomes_end1 s g p w hs hp hg r h1
        · exact becomes_end2 s g p w hs hp hg r h1
        · exact becomes_end3 s g p w hs hp hg r h1
end Go.Proofs.Ytljfbdiiecohpaa
