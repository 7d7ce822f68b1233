/- The way to a node; new ways. -/
import Derived.Test.YtkhgjjbiifbfgaaLt
namespace Go.Proofs.Ytkhgjjbiifbfgaa
open Go.RowKit

set_option maxRecDepth 100000 in
set_option maxHeartbeats 1600000 in
/-- reach, from the root on. -/
theorem nreach_any {B N : Nat} {M : Ed.Bs → Option (Nat × Nat)} {nm : Ed.Bs → Int} (xs : Ed.Bs) (w : World) (h : Tr B w M nm N) (hcl : ∀ p q, (M q).isSome = true → p <+: q → (M p).isSome = true) (hx : xs.length ≤ 9223372036854775807) :
    Calls Try.prog 44 #[ptr (M []), sb xs] w fun e w' => e = .returned (ptr (M xs)) ∧ Below w.heap.size w w' := by
  obtain ⟨a, hxa⟩ : ∃ a : ByteArray, a = ⟨xs.toArray⟩ := ⟨_, rfl⟩
  have LA : a.size = xs.length := by rw [hxa]; exact Ed.size_is xs
  have e1 : sb xs = .string a := by rw [hxa]
  rw [e1]
  have HX := Lib.hid hxa
  have HL := Lib.hid LA
  have HT := Lib.hid h
  have HC := Lib.hid hcl
  have la : a.size ≤ 9223372036854775807 := by omega
  clear hxa LA e1 h hcl hx
  go_enter Try.func44, Try.ntmps44
  go_wp2
  go_loopw [0, 5] (fun n i wr => ∃ k : Nat, k ≤ a.size ∧ i = .int .i64 k ∧ n = ptr (M (xs.take k)) ∧ Hid (Below w.heap.size w wr)) (fun _ i _ => a.size - (intOf i).toNat)
  case atStart => exact ⟨0, Nat.zero_le _, rfl, by rw [List.take_zero], Below.refl _ _⟩
  case round =>
    obtain ⟨k, hk, rfl, rfl, HB⟩ := hrel
    cases hm : M (xs.take k) with
    | none =>
      have E : Hid (M xs = none) := by
        show _ = _
        cases he : M xs with
        | none => rfl
        | some y => have := HC.out (xs.take k) xs (by rw [he]; rfl) (List.take_prefix _ _); rw [hm] at this; cases this
      clear hm
      dsimp only [ptr]
      go_wp2
      go_ret
      exact ⟨by rw [E.out]; rfl, HB.out⟩
    | some x =>
      by_cases hlt : k < a.size
      · have hk2 : k < xs.length := by rw [← HL.out]; exact hlt
        have hc : xs[k] = a[k] := by have e := HX.out; subst e; rfl
        have TK : Hid (xs.take (k + 1) = xs.take k ++ [a[k]]) := by show _ = _; rw [← hc]; exact (List.take_append_getElem hk2).symm
        have T := HT.out.quiet HB.out
        have c1 := T.c1 _ _ hm
        have lk := fun n => T.next hm a[k] (wr.drewN n) (below_drewN (Below.refl _ _) n)
        obtain ⟨y, hy⟩ : ∃ y, y = ptr (M (xs.take k ++ [a[k]])) := ⟨_, rfl⟩
        rw [← hy] at lk
        have HY := Lib.hid hy
        clear hm hc hy T
        dsimp only [ptr]
        go_wp2
        go_quiet (fail)
        go_wp2
        go_roundw
        case rel => exact ⟨k + 1, by omega, by go_num, by rw [TK.out]; exact HY.out, below_drewN HB.out _⟩
        case measure => simp [intOf]; omega
      · have hke : k = a.size := by omega
        have E : Hid (M xs = some x) := by show _ = _; rw [← hm, hke, HL.out, List.take_length]
        clear hm
        dsimp only [ptr]
        go_wp2
        go_ret
        exact ⟨by rw [E.out]; rfl, HB.out⟩
end Go.Proofs.Ytkhgjjbiifbfgaa
