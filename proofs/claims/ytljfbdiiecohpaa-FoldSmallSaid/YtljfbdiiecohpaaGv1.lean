/- The reference's letters of two bytes, byte by byte (1). -/
import Derived.Test.YtljfbdiiecohpaaProg
import Derived.Test.YtljfbdiiecohpaaSl
namespace Go.Proofs.Ytljfbdiiecohpaa
open Go.RowKit

set_option maxRecDepth 100000 in
theorem rtwo_x128 (s : ByteArray) (p : Nat) (w : World) (hs : s.size ≤ 1000000) (hp : p + 1 < s.size) (h2 : (p : Int) + 1 < s.size) (fa : (s[p].toNat : Int) = 195) (fb : (s[p + 1].toNat : Int) = 128) : Calls Try.prog 49 #[.string s, .int .i64 p] w fun e w' => e = .returned (.string ⟨#[65]⟩) ∧ Below w.heap.size w w' := by
  go_enter Try.func49, Try.ntmps49
  go_wp2
  go_ret
  exact ⟨rfl, Below.refl _ _⟩
set_option maxRecDepth 100000 in
theorem rtwo_x129 (s : ByteArray) (p : Nat) (w : World) (hs : s.size ≤ 1000000) (hp : p + 1 < s.size) (h2 : (p : Int) + 1 < s.size) (fa : (s[p].toNat : Int) = 195) (fb : (s[p + 1].toNat : Int) = 129) : Calls Try.prog 49 #[.string s, .int .i64 p] w fun e w' => e = .returned (.string ⟨#[65]⟩) ∧ Below w.heap.size w w' := by
  go_enter Try.func49, Try.ntmps49
  go_wp2
  go_ret
  exact ⟨rfl, Below.refl _ _⟩
set_option maxRecDepth 100000 in
theorem rtwo_x130 (s : ByteArray) (p : Nat) (w : World) (hs : s.size ≤ 1000000) (hp : p + 1 < s.size) (h2 : (p : Int) + 1 < s.size) (fa : (s[p].toNat : Int) = 195) (fb : (s[p + 1].toNat : Int) = 130) : Calls Try.prog 49 #[.string s, .int .i64 p] w fun e w' => e = .returned (.string ⟨#[65]⟩) ∧ Below w.heap.size w w' := by
  go_enter Try.func49, Try.ntmps49
  go_wp2
  go_ret
  exact ⟨rfl, Below.refl _ _⟩
set_option maxRecDepth 100000 in
theorem rtwo_x131 (s : ByteArray) (p : Nat) (w : World) (hs : s.size ≤ 1000000) (hp : p + 1 < s.size) (h2 : (p : Int) + 1 < s.size) (fa : (s[p].toNat : Int) = 195) (fb : (s[p + 1].toNat : Int) = 131) : Calls Try.prog 49 #[.string s, .int .i64 p] w fun e w' => e = .returned (.string ⟨#[65]⟩) ∧ Below w.heap.size w w' := by
  go_enter Try.func49, Try.ntmps49
  go_wp2
  go_ret
  exact ⟨rfl, Below.refl _ _⟩
set_option maxRecDepth 100000 in
theorem rtwo_x132 (s : ByteArray) (p : Nat) (w : World) (hs : s.size ≤ 1000000) (hp : p + 1 < s.size) (h2 : (p : Int) + 1 < s.size) (fa : (s[p].toNat : Int) = 195) (fb : (s[p + 1].toNat : Int) = 132) : Calls Try.prog 49 #[.string s, .int .i64 p] w fun e w' => e = .returned (.string ⟨#[65, 69]⟩) ∧ Below w.heap.size w w' := by
  go_enter Try.func49, Try.ntmps49
  go_wp2
  go_ret
  exact ⟨rfl, Below.refl _ _⟩
set_option maxRecDepth 100000 in
theorem rtwo_x133 (s : ByteArray) (p : Nat) (w : World) (hs : s.size ≤ 1000000) (hp : p + 1 < s.size) (h2 : (p : Int) + 1 < s.size) (fa : (s[p].toNat : Int) = 195) (fb : (s[p + 1].toNat : Int) = 133) : Calls Try.prog 49 #[.string s, .int .i64 p] w fun e w' => e = .returned (.string ⟨#[65]⟩) ∧ Below w.heap.size w w' := by
  go_enter Try.func49, Try.ntmps49
  go_wp2
  go_ret
  exact ⟨rfl, Below.refl _ _⟩
set_option maxRecDepth 100000 in
theorem rtwo_x134 (s : ByteArray) (p : Nat) (w : World) (hs : s.size ≤ 1000000) (hp : p + 1 < s.size) (h2 : (p : Int) + 1 < s.size) (fa : (s[p].toNat : Int) = 195) (fb : (s[p + 1].toNat : Int) = 134) : Calls Try.prog 49 #[.string s, .int .i64 p] w fun e w' => e = .returned (.string ⟨#[65, 69]⟩) ∧ Below w.heap.size w w' := by
  go_enter Try.func49, Try.ntmps49
  go_wp2
  go_ret
  exact ⟨rfl, Below.refl _ _⟩
set_option maxRecDepth 100000 in
theorem rtwo_x135 (s : ByteArray) (p : Nat) (w : World) (hs : s.size ≤ 1000000) (hp : p + 1 < s.size) (h2 : (p : Int) + 1 < s.size) (fa : (s[p].toNat : Int) = 195) (fb : (s[p + 1].toNat : Int) = 135) : Calls Try.prog 49 #[.string s, .int .i64 p] w fun e w' => e = .returned (.string ⟨#[67]⟩) ∧ Below w.heap.size w w' := by
  go_enter Try.func49, Try.ntmps49
  go_wp2
  go_ret
  exact ⟨rfl, Below.refl _ _⟩
set_option maxRecDepth 100000 in
theorem rtwo_x136 (s : ByteArray) (p : Nat) (w : World) (hs : s.size ≤ 1000000) (hp : p + 1 < s.size) (h2 : (p : Int) + 1 < s.size) (fa : (s[p].toNat : Int) = 195) (fb : (s[p + 1].toNat : Int) = 136) : Calls Try.prog 49 #[.string s, .int .i64 p] w fun e w' => e = .returned (.string ⟨#[69]⟩) ∧ Below w.heap.size w w' := by
  go_enter Try.func49, Try.ntmps49
  go_wp2
  go_ret
  exact ⟨rfl, Below.refl _ _⟩
set_option maxRecDepth 100000 in
theorem rtwo_x137 (s : ByteArray) (p : Nat) (w : World) (hs : s.size ≤ 1000000) (hp : p + 1 < s.size) (h2 : (p : Int) + 1 < s.size) (fa : (s[p].toNat : Int) = 195) (fb : (s[p + 1].toNat : Int) = 137) : Calls Try.prog 49 #[.string s, .int .i64 p] w fun e w' => e = .returned (.string ⟨#[69]⟩) ∧ Below w.heap.size w w' := by
  go_enter Try.func49, Try.ntmps49
  go_wp2
  go_ret
  exact ⟨rfl, Below.refl _ _⟩
set_option maxRecDepth 100000 in
theorem rtwo_x138 (s : ByteArray) (p : Nat) (w : World) (hs : s.size ≤ 1000000) (hp : p + 1 < s.size) (h2 : (p : Int) + 1 < s.size) (fa : (s[p].toNat : Int) = 195) (fb : (s[p + 1].toNat : Int) = 138) : Calls Try.prog 49 #[.string s, .int .i64 p] w fun e w' => e = .returned (.string ⟨#[69]⟩) ∧ Below w.heap.size w w' := by
  go_enter Try.func49, Try.ntmps49
  go_wp2
  go_ret
  exact ⟨rfl, Below.refl _ _⟩
set_option maxRecDepth 100000 in
theorem rtwo_x139 (s : ByteArray) (p : Nat) (w : World) (hs : s.size ≤ 1000000) (hp : p + 1 < s.size) (h2 : (p : Int) + 1 < s.size) (fa : (s[p].toNat : Int) = 195) (fb : (s[p + 1].toNat : Int) = 139) : Calls Try.prog 49 #[.string s, .int .i64 p] w fun e w' => e = .returned (.string ⟨#[69]⟩) ∧ Below w.heap.size w w' := by
  go_enter Try.func49, Try.ntmps49
  go_wp2
  go_ret
  exact ⟨rfl, Below.refl _ _⟩
set_option maxRecDepth 100000 in
theorem rtwo_x140 (s : ByteArray) (p : Nat) (w : World) (hs : s.size ≤ 1000000) (hp : p + 1 < s.size) (h2 : (p : Int) + 1 < s.size) (fa : (s[p].toNat : Int) = 195) (fb : (s[p + 1].toNat : Int) = 140) : Calls Try.prog 49 #[.string s, .int .i64 p] w fun e w' => e = .returned (.string ⟨#[73]⟩) ∧ Below w.heap.size w w' := by
  go_enter Try.func49, Try.ntmps49
  go_wp2
  go_ret
  exact ⟨rfl, Below.refl _ _⟩
set_option maxRecDepth 100000 in
theorem rtwo_x141 (s : ByteArray) (p : Nat) (w : World) (hs : s.size ≤ 1000000) (hp : p + 1 < s.size) (h2 : (p : Int) + 1 < s.size) (fa : (s[p].toNat : Int) = 195) (fb : (s[p + 1].toNat : Int) = 141) : Calls Try.prog 49 #[.string s, .int .i64 p] w fun e w' => e = .returned (.string ⟨#[73]⟩) ∧ Below w.heap.size w w' := by
  go_enter Try.func49, Try.ntmps49
  go_wp2
  go_ret
  exact ⟨rfl, Below.refl _ _⟩
set_option maxRecDepth 100000 in
theorem rtwo_x142 (s : ByteArray) (p : Nat) (w : World) (hs : s.size ≤ 1000000) (hp : p + 1 < s.size) (h2 : (p : Int) + 1 < s.size) (fa : (s[p].toNat : Int) = 195) (fb : (s[p + 1].toNat : Int) = 142) : Calls Try.prog 49 #[.string s, .int .i64 p] w fun e w' => e = .returned (.string ⟨#[73]⟩) ∧ Below w.heap.size w w' := by
  go_enter Try.func49, Try.ntmps49
  go_wp2
  go_ret
  exact ⟨rfl, Below.refl _ _⟩
set_option maxRecDepth 100000 in
theorem rtwo_x143 (s : ByteArray) (p : Nat) (w : World) (hs : s.size ≤ 1000000) (hp : p + 1 < s.size) (h2 : (p : Int) + 1 < s.size) (fa : (s[p].toNat : Int) = 195) (fb : (s[p + 1].toNat : Int) = 143) : Calls Try.prog 49 #[.string s, .int .i64 p] w fun e w' => e = .returned (.string ⟨#[73]⟩) ∧ Below w.heap.size w w' := by
  go_enter Try.func49, Try.ntmps49
  go_wp2
  go_ret
  exact ⟨rfl, Below.refl _ _⟩
set_option maxRecDepth 100000 in
theorem rtwo_x144 (s : ByteArray) (p : Nat) (w : World) (hs : s.size ≤ 1000000) (hp : p + 1 < s.size) (h2 : (p : Int) + 1 < s.size) (fa : (s[p].toNat : Int) = 195) (fb : (s[p + 1].toNat : Int) = 144) : Calls Try.prog 49 #[.string s, .int .i64 p] w fun e w' => e = .returned (.string ⟨#[68]⟩) ∧ Below w.heap.size w w' := by
  go_enter Try.func49, Try.ntmps49
  go_wp2
  go_ret
  exact ⟨rfl, Below.refl _ _⟩
set_option maxRecDepth 100000 in
theorem rtwo_x145 (s : ByteArray) (p : Nat) (w : World) (hs : s.size ≤ 1000000) (hp : p + 1 < s.size) (h2 : (p : Int) + 1 < s.size) (fa : (s[p].toNat : Int) = 195) (fb : (s[p + 1].toNat : Int) = 145) : Calls Try.prog 49 #[.string s, .int .i64 p] w fun e w' => e = .returned (.string ⟨#[78]⟩) ∧ Below w.heap.size w w' := by
  go_enter Try.func49, Try.ntmps49
  go_wp2
  go_ret
  exact ⟨rfl, Below.refl _ _⟩
end Go.Proofs.Ytljfbdiiecohpaa
