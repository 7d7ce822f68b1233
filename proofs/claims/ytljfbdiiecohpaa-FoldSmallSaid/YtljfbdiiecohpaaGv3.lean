/- The reference's letters of two bytes, byte by byte (3). -/
import Derived.Test.YtljfbdiiecohpaaProg
import Derived.Test.YtljfbdiiecohpaaSl
namespace Go.Proofs.Ytljfbdiiecohpaa
open Go.RowKit

set_option maxRecDepth 100000 in
theorem rtwo_x164 (s : ByteArray) (p : Nat) (w : World) (hs : s.size ≤ 1000000) (hp : p + 1 < s.size) (h2 : (p : Int) + 1 < s.size) (fa : (s[p].toNat : Int) = 195) (fb : (s[p + 1].toNat : Int) = 164) : Calls Try.prog 49 #[.string s, .int .i64 p] w fun e w' => e = .returned (.string ⟨#[65, 69]⟩) ∧ Below w.heap.size w w' := by
  go_enter Try.func49, Try.ntmps49
  go_wp2
  go_ret
  exact ⟨rfl, Below.refl _ _⟩
set_option maxRecDepth 100000 in
theorem rtwo_x165 (s : ByteArray) (p : Nat) (w : World) (hs : s.size ≤ 1000000) (hp : p + 1 < s.size) (h2 : (p : Int) + 1 < s.size) (fa : (s[p].toNat : Int) = 195) (fb : (s[p + 1].toNat : Int) = 165) : Calls Try.prog 49 #[.string s, .int .i64 p] w fun e w' => e = .returned (.string ⟨#[65]⟩) ∧ Below w.heap.size w w' := by
  go_enter Try.func49, Try.ntmps49
  go_wp2
  go_ret
  exact ⟨rfl, Below.refl _ _⟩
set_option maxRecDepth 100000 in
theorem rtwo_x166 (s : ByteArray) (p : Nat) (w : World) (hs : s.size ≤ 1000000) (hp : p + 1 < s.size) (h2 : (p : Int) + 1 < s.size) (fa : (s[p].toNat : Int) = 195) (fb : (s[p + 1].toNat : Int) = 166) : Calls Try.prog 49 #[.string s, .int .i64 p] w fun e w' => e = .returned (.string ⟨#[65, 69]⟩) ∧ Below w.heap.size w w' := by
  go_enter Try.func49, Try.ntmps49
  go_wp2
  go_ret
  exact ⟨rfl, Below.refl _ _⟩
set_option maxRecDepth 100000 in
theorem rtwo_x167 (s : ByteArray) (p : Nat) (w : World) (hs : s.size ≤ 1000000) (hp : p + 1 < s.size) (h2 : (p : Int) + 1 < s.size) (fa : (s[p].toNat : Int) = 195) (fb : (s[p + 1].toNat : Int) = 167) : Calls Try.prog 49 #[.string s, .int .i64 p] w fun e w' => e = .returned (.string ⟨#[67]⟩) ∧ Below w.heap.size w w' := by
  go_enter Try.func49, Try.ntmps49
  go_wp2
  go_ret
  exact ⟨rfl, Below.refl _ _⟩
set_option maxRecDepth 100000 in
theorem rtwo_x168 (s : ByteArray) (p : Nat) (w : World) (hs : s.size ≤ 1000000) (hp : p + 1 < s.size) (h2 : (p : Int) + 1 < s.size) (fa : (s[p].toNat : Int) = 195) (fb : (s[p + 1].toNat : Int) = 168) : Calls Try.prog 49 #[.string s, .int .i64 p] w fun e w' => e = .returned (.string ⟨#[69]⟩) ∧ Below w.heap.size w w' := by
  go_enter Try.func49, Try.ntmps49
  go_wp2
  go_ret
  exact ⟨rfl, Below.refl _ _⟩
set_option maxRecDepth 100000 in
theorem rtwo_x169 (s : ByteArray) (p : Nat) (w : World) (hs : s.size ≤ 1000000) (hp : p + 1 < s.size) (h2 : (p : Int) + 1 < s.size) (fa : (s[p].toNat : Int) = 195) (fb : (s[p + 1].toNat : Int) = 169) : Calls Try.prog 49 #[.string s, .int .i64 p] w fun e w' => e = .returned (.string ⟨#[69]⟩) ∧ Below w.heap.size w w' := by
  go_enter Try.func49, Try.ntmps49
  go_wp2
  go_ret
  exact ⟨rfl, Below.refl _ _⟩
set_option maxRecDepth 100000 in
theorem rtwo_x170 (s : ByteArray) (p : Nat) (w : World) (hs : s.size ≤ 1000000) (hp : p + 1 < s.size) (h2 : (p : Int) + 1 < s.size) (fa : (s[p].toNat : Int) = 195) (fb : (s[p + 1].toNat : Int) = 170) : Calls Try.prog 49 #[.string s, .int .i64 p] w fun e w' => e = .returned (.string ⟨#[69]⟩) ∧ Below w.heap.size w w' := by
  go_enter Try.func49, Try.ntmps49
  go_wp2
  go_ret
  exact ⟨rfl, Below.refl _ _⟩
set_option maxRecDepth 100000 in
theorem rtwo_x171 (s : ByteArray) (p : Nat) (w : World) (hs : s.size ≤ 1000000) (hp : p + 1 < s.size) (h2 : (p : Int) + 1 < s.size) (fa : (s[p].toNat : Int) = 195) (fb : (s[p + 1].toNat : Int) = 171) : Calls Try.prog 49 #[.string s, .int .i64 p] w fun e w' => e = .returned (.string ⟨#[69]⟩) ∧ Below w.heap.size w w' := by
  go_enter Try.func49, Try.ntmps49
  go_wp2
  go_ret
  exact ⟨rfl, Below.refl _ _⟩
set_option maxRecDepth 100000 in
theorem rtwo_x172 (s : ByteArray) (p : Nat) (w : World) (hs : s.size ≤ 1000000) (hp : p + 1 < s.size) (h2 : (p : Int) + 1 < s.size) (fa : (s[p].toNat : Int) = 195) (fb : (s[p + 1].toNat : Int) = 172) : Calls Try.prog 49 #[.string s, .int .i64 p] w fun e w' => e = .returned (.string ⟨#[73]⟩) ∧ Below w.heap.size w w' := by
  go_enter Try.func49, Try.ntmps49
  go_wp2
  go_ret
  exact ⟨rfl, Below.refl _ _⟩
set_option maxRecDepth 100000 in
theorem rtwo_x173 (s : ByteArray) (p : Nat) (w : World) (hs : s.size ≤ 1000000) (hp : p + 1 < s.size) (h2 : (p : Int) + 1 < s.size) (fa : (s[p].toNat : Int) = 195) (fb : (s[p + 1].toNat : Int) = 173) : Calls Try.prog 49 #[.string s, .int .i64 p] w fun e w' => e = .returned (.string ⟨#[73]⟩) ∧ Below w.heap.size w w' := by
  go_enter Try.func49, Try.ntmps49
  go_wp2
  go_ret
  exact ⟨rfl, Below.refl _ _⟩
set_option maxRecDepth 100000 in
theorem rtwo_x174 (s : ByteArray) (p : Nat) (w : World) (hs : s.size ≤ 1000000) (hp : p + 1 < s.size) (h2 : (p : Int) + 1 < s.size) (fa : (s[p].toNat : Int) = 195) (fb : (s[p + 1].toNat : Int) = 174) : Calls Try.prog 49 #[.string s, .int .i64 p] w fun e w' => e = .returned (.string ⟨#[73]⟩) ∧ Below w.heap.size w w' := by
  go_enter Try.func49, Try.ntmps49
  go_wp2
  go_ret
  exact ⟨rfl, Below.refl _ _⟩
set_option maxRecDepth 100000 in
theorem rtwo_x175 (s : ByteArray) (p : Nat) (w : World) (hs : s.size ≤ 1000000) (hp : p + 1 < s.size) (h2 : (p : Int) + 1 < s.size) (fa : (s[p].toNat : Int) = 195) (fb : (s[p + 1].toNat : Int) = 175) : Calls Try.prog 49 #[.string s, .int .i64 p] w fun e w' => e = .returned (.string ⟨#[73]⟩) ∧ Below w.heap.size w w' := by
  go_enter Try.func49, Try.ntmps49
  go_wp2
  go_ret
  exact ⟨rfl, Below.refl _ _⟩
set_option maxRecDepth 100000 in
theorem rtwo_x176 (s : ByteArray) (p : Nat) (w : World) (hs : s.size ≤ 1000000) (hp : p + 1 < s.size) (h2 : (p : Int) + 1 < s.size) (fa : (s[p].toNat : Int) = 195) (fb : (s[p + 1].toNat : Int) = 176) : Calls Try.prog 49 #[.string s, .int .i64 p] w fun e w' => e = .returned (.string ⟨#[68]⟩) ∧ Below w.heap.size w w' := by
  go_enter Try.func49, Try.ntmps49
  go_wp2
  go_ret
  exact ⟨rfl, Below.refl _ _⟩
set_option maxRecDepth 100000 in
theorem rtwo_x177 (s : ByteArray) (p : Nat) (w : World) (hs : s.size ≤ 1000000) (hp : p + 1 < s.size) (h2 : (p : Int) + 1 < s.size) (fa : (s[p].toNat : Int) = 195) (fb : (s[p + 1].toNat : Int) = 177) : Calls Try.prog 49 #[.string s, .int .i64 p] w fun e w' => e = .returned (.string ⟨#[78]⟩) ∧ Below w.heap.size w w' := by
  go_enter Try.func49, Try.ntmps49
  go_wp2
  go_ret
  exact ⟨rfl, Below.refl _ _⟩
set_option maxRecDepth 100000 in
theorem rtwo_x178 (s : ByteArray) (p : Nat) (w : World) (hs : s.size ≤ 1000000) (hp : p + 1 < s.size) (h2 : (p : Int) + 1 < s.size) (fa : (s[p].toNat : Int) = 195) (fb : (s[p + 1].toNat : Int) = 178) : Calls Try.prog 49 #[.string s, .int .i64 p] w fun e w' => e = .returned (.string ⟨#[79]⟩) ∧ Below w.heap.size w w' := by
  go_enter Try.func49, Try.ntmps49
  go_wp2
  go_ret
  exact ⟨rfl, Below.refl _ _⟩
set_option maxRecDepth 100000 in
theorem rtwo_x179 (s : ByteArray) (p : Nat) (w : World) (hs : s.size ≤ 1000000) (hp : p + 1 < s.size) (h2 : (p : Int) + 1 < s.size) (fa : (s[p].toNat : Int) = 195) (fb : (s[p + 1].toNat : Int) = 179) : Calls Try.prog 49 #[.string s, .int .i64 p] w fun e w' => e = .returned (.string ⟨#[79]⟩) ∧ Below w.heap.size w w' := by
  go_enter Try.func49, Try.ntmps49
  go_wp2
  go_ret
  exact ⟨rfl, Below.refl _ _⟩
set_option maxRecDepth 100000 in
theorem rtwo_x180 (s : ByteArray) (p : Nat) (w : World) (hs : s.size ≤ 1000000) (hp : p + 1 < s.size) (h2 : (p : Int) + 1 < s.size) (fa : (s[p].toNat : Int) = 195) (fb : (s[p + 1].toNat : Int) = 180) : Calls Try.prog 49 #[.string s, .int .i64 p] w fun e w' => e = .returned (.string ⟨#[79]⟩) ∧ Below w.heap.size w w' := by
  go_enter Try.func49, Try.ntmps49
  go_wp2
  go_ret
  exact ⟨rfl, Below.refl _ _⟩
set_option maxRecDepth 100000 in
theorem rtwo_x181 (s : ByteArray) (p : Nat) (w : World) (hs : s.size ≤ 1000000) (hp : p + 1 < s.size) (h2 : (p : Int) + 1 < s.size) (fa : (s[p].toNat : Int) = 195) (fb : (s[p + 1].toNat : Int) = 181) : Calls Try.prog 49 #[.string s, .int .i64 p] w fun e w' => e = .returned (.string ⟨#[79]⟩) ∧ Below w.heap.size w w' := by
  go_enter Try.func49, Try.ntmps49
  go_wp2
  go_ret
  exact ⟨rfl, Below.refl _ _⟩
end Go.Proofs.Ytljfbdiiecohpaa
