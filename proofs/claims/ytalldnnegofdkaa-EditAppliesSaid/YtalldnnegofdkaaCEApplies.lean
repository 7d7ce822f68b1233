/- EditApplies' walk. -/
import Derived.Test.YtalldnnegofdkaaAp4
namespace Go.Proofs.Ytalldnnegofdkaa
open Go.RowKit Go.Shelf

set_option maxRecDepth 100000 in
set_option maxHeartbeats 1600000 in
theorem editApplies_go (s : Ed.Bs) (l : List Ed.Op) (a : Option Addr) (cp : Nat) (c : Ed.Cs) (w : World) (hk : ∀ o ∈ l, o.k ≤ 255) (h : Opl w (.slice a l.length cp) l) :
    Calls Try.prog 4 #[sb s, .slice a l.length cp, cv c] w fun e w' => e = .returned (.bool true) ∧ Below w.heap.size w w' := by
  have AW := Lib.hid awake_any
  obtain ⟨S, hS⟩ : ∃ S : ByteArray, S = ⟨s.toArray⟩ := ⟨_, rfl⟩
  have e1 : sb s = .string S := by rw [hS]
  have HP := Lib.hid h
  have AP := fun hl W hW => applies_any s l a cp c W hl hk hW
  obtain ⟨n, hn⟩ : ∃ n, n = l.length := ⟨_, rfl⟩
  rw [e1] at AP
  rw [e1, ← hn]
  rw [← hn] at AP HP
  clear hk h hn hS e1
  have B0 := Lib.hid (show Below w.heap.size w (w.alloc (.cells #[.int .i64 c.ins, .int .i64 c.del, .int .i64 c.chg, .int .i64 c.swp] 23)) from (Below.refl _ _).alloc (Nat.le_refl _) _)
  by_cases h1 : 130 < S.size
  · clear AP
    go_enter Try.func4, Try.ntmps4
    go_wp2_with (go_at_call 11; (with_reducible refine (AW.out _).mono ?_); rintro e w2 ⟨rfl, b2⟩; have B1 := Lib.hid (B0.out.trans (b2.mono B0.out.size)); clear b2)
    go_ret
    exact ⟨rfl, B1.out⟩
  · by_cases h2 : 130 < n
    · clear AP
      go_enter Try.func4, Try.ntmps4
      go_wp2_with (go_at_call 11; (with_reducible refine (AW.out _).mono ?_); rintro e w2 ⟨rfl, b2⟩; have B1 := Lib.hid (B0.out.trans (b2.mono B0.out.size)); clear b2)
      go_ret
      exact ⟨rfl, B1.out⟩
    · have AH := Lib.hid (AP (by omega))
      clear AP
      go_enter Try.func4, Try.ntmps4
      go_wp2_with (first
        | (go_at_call 11; (with_reducible refine (AW.out _).mono ?_); rintro e w2 ⟨rfl, b2⟩; have B1 := Lib.hid (B0.out.trans (b2.mono B0.out.size)); clear b2)
        | (go_at_call 13; (with_reducible refine (AH.out _ (HP.out.below B0.out)).mono ?_); rintro e w1 ⟨rfl, b1⟩; have B0 := Lib.hid (B0.out.trans (b1.mono B0.out.size)); clear b1))
      go_ret
      exact ⟨rfl, B1.out⟩
theorem walk_editApplies (w : World) (a : ByteArray) (_ha : a.size ≤ maxLen) (v : Value) (l : List Ed.Op) (ho : Opl w v l) (hk : ∀ o ∈ l, o.k ≤ 255) (c : Ed.Cs) :
    Calls Try.prog 4 #[.string a, v, cv c] w fun e w' => e = .returned (.bool true) ∧ Below w.heap.size w w' := by
  have ho2 := ho
  obtain ⟨a0, cp, rfl, -⟩ := ho2
  exact editApplies_go a.data.toList l a0 cp c w hk ho
end Go.Proofs.Ytalldnnegofdkaa
