/- The reference's letters of two bytes, byte by byte (2). -/
import Derived.Test.YtljfbdiiecohpaaProg
import Derived.Test.YtljfbdiiecohpaaSl
namespace Go.Proofs.Ytljfbdiiecohpaa
open Go.RowKit

set_option maxRecDepth 100000 in
theorem rtwo_x146 (s : ByteArray) (p : Nat) (w : World) (hs : s.size ≤ 1000000) (hp : p + 1 < s.size) (h2 : (p : Int) + 1 < s.size) (fa : (s[p].toNat : Int) = 195) (fb : (s[p + 1].toNat : Int) = 146) : Calls Try.prog 49 #[.string s, .int .i64 p] w fun e w' => e = .returned (.string ⟨#[79]⟩) ∧ Below w.heap.size w w' := by
  go_enter Try.func49, Try.ntmps49
  go_wp2
  go_ret
  exact ⟨rfl, Below.refl _ _⟩
set_option maxRecDepth 100000 in
theorem rtwo_x147 (s : ByteArray) (p : Nat) (w : World) (hs : s.size ≤ 1000000) (hp : p + 1 < s.size) (h2 : (p : Int) + 1 < s.size) (fa : (s[p].toNat : Int) = 195) (fb : (s[p + 1].toNat : Int) = 147) : Calls Try.prog 49 #[.string s, .int .i64 p] w fun e w' => e = .returned (.string ⟨#[79]⟩) ∧ Below w.heap.size w w' := by
  go_enter Try.func49, Try.ntmps49
  go_wp2
  go_ret
  exact ⟨rfl, Below.refl _ _⟩
set_option maxRecDepth 100000 in
theorem rtwo_x148 (s : ByteArray) (p : Nat) (w : World) (hs : s.size ≤ 1000000) (hp : p + 1 < s.size) (h2 : (p : Int) + 1 < s.size) (fa : (s[p].toNat : Int) = 195) (fb : (s[p + 1].toNat : Int) = 148) : Calls Try.prog 49 #[.string s, .int .i64 p] w fun e w' => e = .returned (.string ⟨#[79]⟩) ∧ Below w.heap.size w w' := by
  go_enter Try.func49, Try.ntmps49
  go_wp2
  go_ret
  exact ⟨rfl, Below.refl _ _⟩
set_option maxRecDepth 100000 in
theorem rtwo_x149 (s : ByteArray) (p : Nat) (w : World) (hs : s.size ≤ 1000000) (hp : p + 1 < s.size) (h2 : (p : Int) + 1 < s.size) (fa : (s[p].toNat : Int) = 195) (fb : (s[p + 1].toNat : Int) = 149) : Calls Try.prog 49 #[.string s, .int .i64 p] w fun e w' => e = .returned (.string ⟨#[79]⟩) ∧ Below w.heap.size w w' := by
  go_enter Try.func49, Try.ntmps49
  go_wp2
  go_ret
  exact ⟨rfl, Below.refl _ _⟩
set_option maxRecDepth 100000 in
theorem rtwo_x150 (s : ByteArray) (p : Nat) (w : World) (hs : s.size ≤ 1000000) (hp : p + 1 < s.size) (h2 : (p : Int) + 1 < s.size) (fa : (s[p].toNat : Int) = 195) (fb : (s[p + 1].toNat : Int) = 150) : Calls Try.prog 49 #[.string s, .int .i64 p] w fun e w' => e = .returned (.string ⟨#[79, 69]⟩) ∧ Below w.heap.size w w' := by
  go_enter Try.func49, Try.ntmps49
  go_wp2
  go_ret
  exact ⟨rfl, Below.refl _ _⟩
set_option maxRecDepth 100000 in
theorem rtwo_x151 (s : ByteArray) (p : Nat) (w : World) (hs : s.size ≤ 1000000) (hp : p + 1 < s.size) (h2 : (p : Int) + 1 < s.size) (fa : (s[p].toNat : Int) = 195) (fb : (s[p + 1].toNat : Int) = 151) : Calls Try.prog 49 #[.string s, .int .i64 p] w fun e w' => e = .returned (.string ⟨#[]⟩) ∧ Below w.heap.size w w' := by
  go_enter Try.func49, Try.ntmps49
  go_wp2
  go_ret
  exact ⟨rfl, Below.refl _ _⟩
set_option maxRecDepth 100000 in
theorem rtwo_x152 (s : ByteArray) (p : Nat) (w : World) (hs : s.size ≤ 1000000) (hp : p + 1 < s.size) (h2 : (p : Int) + 1 < s.size) (fa : (s[p].toNat : Int) = 195) (fb : (s[p + 1].toNat : Int) = 152) : Calls Try.prog 49 #[.string s, .int .i64 p] w fun e w' => e = .returned (.string ⟨#[79]⟩) ∧ Below w.heap.size w w' := by
  go_enter Try.func49, Try.ntmps49
  go_wp2
  go_ret
  exact ⟨rfl, Below.refl _ _⟩
set_option maxRecDepth 100000 in
theorem rtwo_x153 (s : ByteArray) (p : Nat) (w : World) (hs : s.size ≤ 1000000) (hp : p + 1 < s.size) (h2 : (p : Int) + 1 < s.size) (fa : (s[p].toNat : Int) = 195) (fb : (s[p + 1].toNat : Int) = 153) : Calls Try.prog 49 #[.string s, .int .i64 p] w fun e w' => e = .returned (.string ⟨#[85]⟩) ∧ Below w.heap.size w w' := by
  go_enter Try.func49, Try.ntmps49
  go_wp2
  go_ret
  exact ⟨rfl, Below.refl _ _⟩
set_option maxRecDepth 100000 in
theorem rtwo_x154 (s : ByteArray) (p : Nat) (w : World) (hs : s.size ≤ 1000000) (hp : p + 1 < s.size) (h2 : (p : Int) + 1 < s.size) (fa : (s[p].toNat : Int) = 195) (fb : (s[p + 1].toNat : Int) = 154) : Calls Try.prog 49 #[.string s, .int .i64 p] w fun e w' => e = .returned (.string ⟨#[85]⟩) ∧ Below w.heap.size w w' := by
  go_enter Try.func49, Try.ntmps49
  go_wp2
  go_ret
  exact ⟨rfl, Below.refl _ _⟩
set_option maxRecDepth 100000 in
theorem rtwo_x155 (s : ByteArray) (p : Nat) (w : World) (hs : s.size ≤ 1000000) (hp : p + 1 < s.size) (h2 : (p : Int) + 1 < s.size) (fa : (s[p].toNat : Int) = 195) (fb : (s[p + 1].toNat : Int) = 155) : Calls Try.prog 49 #[.string s, .int .i64 p] w fun e w' => e = .returned (.string ⟨#[85]⟩) ∧ Below w.heap.size w w' := by
  go_enter Try.func49, Try.ntmps49
  go_wp2
  go_ret
  exact ⟨rfl, Below.refl _ _⟩
set_option maxRecDepth 100000 in
theorem rtwo_x156 (s : ByteArray) (p : Nat) (w : World) (hs : s.size ≤ 1000000) (hp : p + 1 < s.size) (h2 : (p : Int) + 1 < s.size) (fa : (s[p].toNat : Int) = 195) (fb : (s[p + 1].toNat : Int) = 156) : Calls Try.prog 49 #[.string s, .int .i64 p] w fun e w' => e = .returned (.string ⟨#[85, 69]⟩) ∧ Below w.heap.size w w' := by
  go_enter Try.func49, Try.ntmps49
  go_wp2
  go_ret
  exact ⟨rfl, Below.refl _ _⟩
set_option maxRecDepth 100000 in
theorem rtwo_x157 (s : ByteArray) (p : Nat) (w : World) (hs : s.size ≤ 1000000) (hp : p + 1 < s.size) (h2 : (p : Int) + 1 < s.size) (fa : (s[p].toNat : Int) = 195) (fb : (s[p + 1].toNat : Int) = 157) : Calls Try.prog 49 #[.string s, .int .i64 p] w fun e w' => e = .returned (.string ⟨#[89]⟩) ∧ Below w.heap.size w w' := by
  go_enter Try.func49, Try.ntmps49
  go_wp2
  go_ret
  exact ⟨rfl, Below.refl _ _⟩
set_option maxRecDepth 100000 in
theorem rtwo_x158 (s : ByteArray) (p : Nat) (w : World) (hs : s.size ≤ 1000000) (hp : p + 1 < s.size) (h2 : (p : Int) + 1 < s.size) (fa : (s[p].toNat : Int) = 195) (fb : (s[p + 1].toNat : Int) = 158) : Calls Try.prog 49 #[.string s, .int .i64 p] w fun e w' => e = .returned (.string ⟨#[84, 72]⟩) ∧ Below w.heap.size w w' := by
  go_enter Try.func49, Try.ntmps49
  go_wp2
  go_ret
  exact ⟨rfl, Below.refl _ _⟩
set_option maxRecDepth 100000 in
theorem rtwo_x159 (s : ByteArray) (p : Nat) (w : World) (hs : s.size ≤ 1000000) (hp : p + 1 < s.size) (h2 : (p : Int) + 1 < s.size) (fa : (s[p].toNat : Int) = 195) (fb : (s[p + 1].toNat : Int) = 159) : Calls Try.prog 49 #[.string s, .int .i64 p] w fun e w' => e = .returned (.string ⟨#[83, 83]⟩) ∧ Below w.heap.size w w' := by
  go_enter Try.func49, Try.ntmps49
  go_wp2
  go_ret
  exact ⟨rfl, Below.refl _ _⟩
set_option maxRecDepth 100000 in
theorem rtwo_x160 (s : ByteArray) (p : Nat) (w : World) (hs : s.size ≤ 1000000) (hp : p + 1 < s.size) (h2 : (p : Int) + 1 < s.size) (fa : (s[p].toNat : Int) = 195) (fb : (s[p + 1].toNat : Int) = 160) : Calls Try.prog 49 #[.string s, .int .i64 p] w fun e w' => e = .returned (.string ⟨#[65]⟩) ∧ Below w.heap.size w w' := by
  go_enter Try.func49, Try.ntmps49
  go_wp2
  go_ret
  exact ⟨rfl, Below.refl _ _⟩
set_option maxRecDepth 100000 in
theorem rtwo_x161 (s : ByteArray) (p : Nat) (w : World) (hs : s.size ≤ 1000000) (hp : p + 1 < s.size) (h2 : (p : Int) + 1 < s.size) (fa : (s[p].toNat : Int) = 195) (fb : (s[p + 1].toNat : Int) = 161) : Calls Try.prog 49 #[.string s, .int .i64 p] w fun e w' => e = .returned (.string ⟨#[65]⟩) ∧ Below w.heap.size w w' := by
  go_enter Try.func49, Try.ntmps49
  go_wp2
  go_ret
  exact ⟨rfl, Below.refl _ _⟩
set_option maxRecDepth 100000 in
theorem rtwo_x162 (s : ByteArray) (p : Nat) (w : World) (hs : s.size ≤ 1000000) (hp : p + 1 < s.size) (h2 : (p : Int) + 1 < s.size) (fa : (s[p].toNat : Int) = 195) (fb : (s[p + 1].toNat : Int) = 162) : Calls Try.prog 49 #[.string s, .int .i64 p] w fun e w' => e = .returned (.string ⟨#[65]⟩) ∧ Below w.heap.size w w' := by
  go_enter Try.func49, Try.ntmps49
  go_wp2
  go_ret
  exact ⟨rfl, Below.refl _ _⟩
set_option maxRecDepth 100000 in
theorem rtwo_x163 (s : ByteArray) (p : Nat) (w : World) (hs : s.size ≤ 1000000) (hp : p + 1 < s.size) (h2 : (p : Int) + 1 < s.size) (fa : (s[p].toNat : Int) = 195) (fb : (s[p + 1].toNat : Int) = 163) : Calls Try.prog 49 #[.string s, .int .i64 p] w fun e w' => e = .returned (.string ⟨#[65]⟩) ∧ Below w.heap.size w w' := by
  go_enter Try.func49, Try.ntmps49
  go_wp2
  go_ret
  exact ⟨rfl, Below.refl _ _⟩
end Go.Proofs.Ytljfbdiiecohpaa
