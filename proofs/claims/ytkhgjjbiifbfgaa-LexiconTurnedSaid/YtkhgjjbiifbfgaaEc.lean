/- Contracts of edit's kinds of steps: the closures, and the map that holds them. -/
import Derived.Test.YtkhgjjbiifbfgaaEr
import Derived.Maps.OwnSet
import Derived.Laws.EntriesVeiled
import Derived.Laws.IdiomStrings
import Derived.Shelf.Abstract
namespace Go.Proofs.Ytkhgjjbiifbfgaa
open Go.RowKit
open Go.Maps (Keyed)
open Go.Shelf

def fcost (k : Nat) : Nat := match k with | 1 => 49 | 2 => 52 | 3 => 55 | 4 => 58 | _ => 61
def fdoes (k : Nat) : Nat := match k with | 1 => 50 | 2 => 53 | 3 => 56 | 4 => 59 | _ => 62
def ffits (k : Nat) : Nat := match k with | 1 => 51 | 2 => 54 | 3 => 57 | 4 => 60 | _ => 63
set_option maxHeartbeats 800000 in
theorem cost_1 (c : Ed.Cs) (w : World) : Calls Try.prog 49 #[cv c] w fun e w' => e = .returned (.int .i64 (Ed.co c 1)) ∧ Below w.heap.size w w' := by
  go_enter Try.func49, Try.ntmps49
  go_wp2
  go_ret
  exact ⟨rfl, (Below.refl _ _).alloc (Nat.le_refl _) _⟩
set_option maxHeartbeats 800000 in
theorem cost_2 (c : Ed.Cs) (w : World) : Calls Try.prog 52 #[cv c] w fun e w' => e = .returned (.int .i64 (Ed.co c 2)) ∧ Below w.heap.size w w' := by
  go_enter Try.func52, Try.ntmps52
  go_wp2
  go_ret
  exact ⟨rfl, (Below.refl _ _).alloc (Nat.le_refl _) _⟩
set_option maxHeartbeats 800000 in
theorem cost_3 (c : Ed.Cs) (w : World) : Calls Try.prog 55 #[cv c] w fun e w' => e = .returned (.int .i64 (Ed.co c 3)) ∧ Below w.heap.size w w' := by
  go_enter Try.func55, Try.ntmps55
  go_wp2
  go_ret
  exact ⟨rfl, (Below.refl _ _).alloc (Nat.le_refl _) _⟩
set_option maxHeartbeats 800000 in
theorem cost_4 (c : Ed.Cs) (w : World) : Calls Try.prog 58 #[cv c] w fun e w' => e = .returned (.int .i64 (Ed.co c 4)) ∧ Below w.heap.size w w' := by
  go_enter Try.func58, Try.ntmps58
  go_wp2
  go_ret
  exact ⟨rfl, (Below.refl _ _).alloc (Nat.le_refl _) _⟩
set_option maxHeartbeats 800000 in
theorem cost_5 (c : Ed.Cs) (w : World) : Calls Try.prog 61 #[cv c] w fun e w' => e = .returned (.int .i64 (Ed.co c 5)) ∧ Below w.heap.size w w' := by
  go_enter Try.func61, Try.ntmps61
  go_wp2
  go_ret
  exact ⟨rfl, (Below.refl _ _).alloc (Nat.le_refl _) _⟩
theorem kind5 {k : Nat} (h : 1 ≤ k ∧ k ≤ 5) : k = 1 ∨ k = 2 ∨ k = 3 ∨ k = 4 ∨ k = 5 := by omega
theorem cost_any (c : Ed.Cs) (k : Nat) (hk : 1 ≤ k ∧ k ≤ 5) (w : World) : Calls Try.prog (fcost k) #[cv c] w fun e w' => e = .returned (.int .i64 (Ed.co c k)) ∧ Below w.heap.size w w' := by
  rcases kind5 hk with rfl | rfl | rfl | rfl | rfl
  · exact cost_1 c w
  · exact cost_2 c w
  · exact cost_3 c w
  · exact cost_4 c w
  · exact cost_5 c w
theorem enter_cost (k : Nat) (hk : 1 ≤ k ∧ k ≤ 5) : ∀ args w, (callFunc (fcost k) args).run Try.prog w = .ok (.enter (fcost k) args) w := by
  rcases kind5 hk with rfl | rfl | rfl | rfl | rfl
  · exact enters_of Try.func49 (by kernel_rfl) rfl
  · exact enters_of Try.func52 (by kernel_rfl) rfl
  · exact enters_of Try.func55 (by kernel_rfl) rfl
  · exact enters_of Try.func58 (by kernel_rfl) rfl
  · exact enters_of Try.func61 (by kernel_rfl) rfl
theorem byte_eq (a b : UInt8) : ((a.toNat : Int) == (b.toNat : Int)) = (a == b) := by
  rw [Bool.eq_iff_iff, beq_iff_eq, beq_iff_eq]
  exact ⟨fun h => UInt8.toNat_inj.1 (by omega), fun h => by rw [h]⟩
set_option maxHeartbeats 800000 in
theorem fits_1 (a b : UInt8) (w : World) : Calls Try.prog 51 #[sb [a], sb [b]] w fun e w' => e = .returned (.bool (a == b)) ∧ ∃ q, w' = w.drewN q := by
  go_enter Try.func51, Try.ntmps51
  go_wp2
  go_ret
  exact ⟨rfl, 0, rfl⟩
set_option maxHeartbeats 800000 in
theorem fits_2 (a b : UInt8) (w : World) : Calls Try.prog 54 #[sb [a], sb [b]] w fun e w' => e = .returned (.bool (a != b)) ∧ ∃ q, w' = w.drewN q := by
  go_enter Try.func54, Try.ntmps54
  go_wp2
  go_ret
  exact ⟨rfl, 0, rfl⟩
set_option maxRecDepth 100000 in
set_option maxHeartbeats 1600000 in
theorem fits_3b (s t : ByteArray) (hs : 1 < s.size) (ht : 1 < t.size) (w : World) : Calls Try.prog 57 #[.string s, .string t] w fun e w' => e = .returned (.bool ((s[0] == t[1] && s[1] == t[0]) && s[0] != s[1])) ∧ ∃ q, w' = w.drewN q := by
  have s0 : (0 : Int) < (s.size : Int) := by omega
  have s00 : 0 < s.size := by omega
  have t00 : 0 < t.size := by omega
  have s1 : (1 : Int) < (s.size : Int) := by omega
  have t0 : (0 : Int) < (t.size : Int) := by omega
  have t1 : (1 : Int) < (t.size : Int) := by omega
  have g1 := byte_eq s[0] t[1]
  have g2 := byte_eq s[1] t[0]
  have g3 := byte_eq s[0] s[1]
  cases h1 : (s[0] == t[1]) with
  | false =>
    rw [h1] at g1
    clear g2 g3 h1
    go_enter Try.func57, Try.ntmps57
    go_wp2
    go_quiet (fail)
    go_wp2
    go_ret
    exact ⟨rfl, _, rfl⟩
  | true =>
    rw [h1] at g1
    cases h2 : (s[1] == t[0]) with
    | false =>
      rw [h2] at g2
      clear g3 h1 h2
      go_enter Try.func57, Try.ntmps57
      go_wp2
      go_quiet (fail)
      go_wp2
      go_ret
      exact ⟨rfl, _, rfl⟩
    | true =>
      rw [h2] at g2
      have E : (((s[0].toNat : Int) != (s[1].toNat : Int)) : Bool) = (s[0] != s[1]) := by rw [bne, g3]; rfl
      rw [← E]
      clear g3 h1 h2 E
      go_enter Try.func57, Try.ntmps57
      go_wp2
      go_quiet (fail)
      go_wp2
      go_ret
      exact ⟨rfl, _, rfl⟩
theorem fits_3 (a x b y : UInt8) (w : World) : Calls Try.prog 57 #[sb [a, x], sb [b, y]] w fun e w' => e = .returned (.bool ((a == y && x == b) && a != x)) ∧ ∃ q, w' = w.drewN q :=
  fits_3b ⟨[a, x].toArray⟩ ⟨[b, y].toArray⟩ (Nat.lt_succ_self 1) (Nat.lt_succ_self 1) w
set_option maxHeartbeats 800000 in
theorem fits_4 (x y : Ed.Bs) (w : World) : Calls Try.prog 60 #[sb x, sb y] w fun e w' => e = .returned (.bool true) ∧ ∃ q, w' = w.drewN q := by
  go_enter Try.func60, Try.ntmps60
  go_wp2
  go_ret
  exact ⟨rfl, 0, rfl⟩
set_option maxHeartbeats 800000 in
theorem fits_5 (x y : Ed.Bs) (w : World) : Calls Try.prog 63 #[sb x, sb y] w fun e w' => e = .returned (.bool true) ∧ ∃ q, w' = w.drewN q := by
  go_enter Try.func63, Try.ntmps63
  go_wp2
  go_ret
  exact ⟨rfl, 0, rfl⟩
theorem fits_any (k : Nat) (hk : 1 ≤ k ∧ k ≤ 5) (x y : Ed.Bs) (hx : x.length = Ed.tk k) (hy : y.length = Ed.wr k) (w : World) : Calls Try.prog (ffits k) #[sb x, sb y] w fun e w' => e = .returned (.bool (Ed.ft k x y)) ∧ ∃ q, w' = w.drewN q := by
  rcases kind5 hk with rfl | rfl | rfl | rfl | rfl
  · match x, y, hx, hy with
    | [a], [b], _, _ => exact fits_1 a b w
  · match x, y, hx, hy with
    | [a], [b], _, _ => exact fits_2 a b w
  · match x, y, hx, hy with
    | [a, p], [b, q], _, _ => exact fits_3 a p b q w
  · match x, hx with
    | [a], _ => exact fits_4 [a] y w
  · match x, y, hx, hy with
    | [], [b], _, _ => exact fits_5 [] [b] w
theorem enter_fits (k : Nat) (hk : 1 ≤ k ∧ k ≤ 5) : ∀ args w, (callFunc (ffits k) args).run Try.prog w = .ok (.enter (ffits k) args) w := by
  rcases kind5 hk with rfl | rfl | rfl | rfl | rfl
  · exact enters_of Try.func51 (by kernel_rfl) rfl
  · exact enters_of Try.func54 (by kernel_rfl) rfl
  · exact enters_of Try.func57 (by kernel_rfl) rfl
  · exact enters_of Try.func60 (by kernel_rfl) rfl
  · exact enters_of Try.func63 (by kernel_rfl) rfl
set_option maxHeartbeats 800000 in
theorem does_1 (t : Ed.Bs) (b : UInt8) (w : World) : Calls Try.prog 50 #[sb t, .int .u8 (b.toNat : Nat)] w fun e w' => e = .returned (sb t) ∧ Below w.heap.size w w' := by
  go_enter Try.func50, Try.ntmps50
  go_wp2
  go_ret
  exact ⟨rfl, Below.refl _ _⟩
set_option maxRecDepth 100000 in
set_option maxHeartbeats 800000 in
theorem does_2 (t : Ed.Bs) (b : UInt8) (w : World) : Calls Try.prog 53 #[sb t, .int .u8 (b.toNat : Nat)] w fun e w' => e = .returned (sb [b]) ∧ Below w.heap.size w w' := by
  have CV : ∀ w : World, (convert 93 9 (.slice (some ⟨w.heap.size, 0, none⟩) 1 1)).run Try.prog (w.alloc (.cells #[.int .u8 (b.toNat : Nat)] 5)) = .ok (.string ⟨[b].toArray⟩) (w.alloc (.cells #[.int .u8 (b.toNat : Nat)] 5)) := by
    intro w
    refine run_convert_bytes_back _ _ _ 5 ⟨w.heap.size, 0, none⟩ _ [b] Try.underlying93 Try.underlying5 Try.underlying9 fun j hj => ?_
    have : j = 0 := by simp at hj; omega
    subst this
    rw [Go.WideShapes.add_plain, Nat.zero_add]
    exact cell_at _ _ _ 0 _ _ rfl rfl
  go_enter Try.func53, Try.ntmps53
  go_wp2
  go_ret
  exact ⟨rfl, (Below.refl _ _).alloc (Nat.le_refl _) _⟩
set_option maxRecDepth 100000 in
set_option maxHeartbeats 800000 in
theorem does_5 (t : Ed.Bs) (b : UInt8) (w : World) : Calls Try.prog 62 #[sb t, .int .u8 (b.toNat : Nat)] w fun e w' => e = .returned (sb [b]) ∧ Below w.heap.size w w' := by
  have CV : ∀ w : World, (convert 93 9 (.slice (some ⟨w.heap.size, 0, none⟩) 1 1)).run Try.prog (w.alloc (.cells #[.int .u8 (b.toNat : Nat)] 5)) = .ok (.string ⟨[b].toArray⟩) (w.alloc (.cells #[.int .u8 (b.toNat : Nat)] 5)) := by
    intro w
    refine run_convert_bytes_back _ _ _ 5 ⟨w.heap.size, 0, none⟩ _ [b] Try.underlying93 Try.underlying5 Try.underlying9 fun j hj => ?_
    have : j = 0 := by simp at hj; omega
    subst this
    rw [Go.WideShapes.add_plain, Nat.zero_add]
    exact cell_at _ _ _ 0 _ _ rfl rfl
  go_enter Try.func62, Try.ntmps62
  go_wp2
  go_ret
  exact ⟨rfl, (Below.refl _ _).alloc (Nat.le_refl _) _⟩
theorem swap_text (a x : UInt8) : (⟨[a, x].toArray⟩ : ByteArray).extract 1 2 ++ (⟨[a, x].toArray⟩ : ByteArray).extract 0 1 = ⟨[x, a].toArray⟩ := by
  rw [Ed.extract_is, Ed.extract_is, app]; rfl
set_option maxRecDepth 100000 in
set_option maxHeartbeats 800000 in
theorem does_3 (a x b : UInt8) (w : World) : Calls Try.prog 56 #[sb [a, x], .int .u8 (b.toNat : Nat)] w fun e w' => e = .returned (sb [x, a]) ∧ Below w.heap.size w w' := by
  go_enter Try.func56, Try.ntmps56
  go_wp2
  go_quiet (fail)
  go_wp2
  go_ret
  exact ⟨ret_str (swap_text a x), below_drewN (Below.refl _ _) _⟩
set_option maxHeartbeats 800000 in
theorem does_4 (t : Ed.Bs) (b : UInt8) (w : World) : Calls Try.prog 59 #[sb t, .int .u8 (b.toNat : Nat)] w fun e w' => e = .returned (sb []) ∧ Below w.heap.size w w' := by
  go_enter Try.func59, Try.ntmps59
  go_wp2
  go_ret
  exact ⟨rfl, Below.refl _ _⟩
theorem does_any (k : Nat) (hk : 1 ≤ k ∧ k ≤ 5) (t : Ed.Bs) (b : UInt8) (ht : t.length = Ed.tk k) (w : World) : Calls Try.prog (fdoes k) #[sb t, .int .u8 (b.toNat : Nat)] w fun e w' => e = .returned (sb (Ed.wn k t b)) ∧ Below w.heap.size w w' := by
  rcases kind5 hk with rfl | rfl | rfl | rfl | rfl
  · exact does_1 t b w
  · exact does_2 t b w
  · match t, ht with
    | [a, x], _ => exact does_3 a x b w
  · exact does_4 t b w
  · exact does_5 t b w
theorem enter_does (k : Nat) (hk : 1 ≤ k ∧ k ≤ 5) : ∀ args w, (callFunc (fdoes k) args).run Try.prog w = .ok (.enter (fdoes k) args) w := by
  rcases kind5 hk with rfl | rfl | rfl | rfl | rfl
  · exact enters_of Try.func50 (by kernel_rfl) rfl
  · exact enters_of Try.func53 (by kernel_rfl) rfl
  · exact enters_of Try.func56 (by kernel_rfl) rfl
  · exact enters_of Try.func59 (by kernel_rfl) rfl
  · exact enters_of Try.func62 (by kernel_rfl) rfl
end Go.Proofs.Ytkhgjjbiifbfgaa
