/- The reference's letters of two bytes, byte by byte (4). -/
import Derived.Test.YtljfbdiiecohpaaProg
import Derived.Test.YtljfbdiiecohpaaSl
namespace Go.Proofs.Ytljfbdiiecohpaa
open Go.RowKit

set_option maxRecDepth 100000 in
theorem rtwo_x182 (s : ByteArray) (p : Nat) (w : World) (hs : s.size ≤ 1000000) (hp : p + 1 < s.size) (h2 : (p : Int) + 1 < s.size) (fa : (s[p].toNat : Int) = 195) (fb : (s[p + 1].toNat : Int) = 182) : Calls Try.prog 49 #[.string s, .int .i64 p] w fun e w' => e = .returned (.string ⟨#[79, 69]⟩) ∧ Below w.heap.size w w' := by
  go_enter Try.func49, Try.ntmps49
  go_wp2
  go_ret
  exact ⟨rfl, Below.refl _ _⟩
set_option maxRecDepth 100000 in
theorem rtwo_x183 (s : ByteArray) (p : Nat) (w : World) (hs : s.size ≤ 1000000) (hp : p + 1 < s.size) (h2 : (p : Int) + 1 < s.size) (fa : (s[p].toNat : Int) = 195) (fb : (s[p + 1].toNat : Int) = 183) : Calls Try.prog 49 #[.string s, .int .i64 p] w fun e w' => e = .returned (.string ⟨#[]⟩) ∧ Below w.heap.size w w' := by
  go_enter Try.func49, Try.ntmps49
  go_wp2
  go_ret
  exact ⟨rfl, Below.refl _ _⟩
set_option maxRecDepth 100000 in
theorem rtwo_x184 (s : ByteArray) (p : Nat) (w : World) (hs : s.size ≤ 1000000) (hp : p + 1 < s.size) (h2 : (p : Int) + 1 < s.size) (fa : (s[p].toNat : Int) = 195) (fb : (s[p + 1].toNat : Int) = 184) : Calls Try.prog 49 #[.string s, .int .i64 p] w fun e w' => e = .returned (.string ⟨#[79]⟩) ∧ Below w.heap.size w w' := by
  go_enter Try.func49, Try.ntmps49
  go_wp2
  go_ret
  exact ⟨rfl, Below.refl _ _⟩
set_option maxRecDepth 100000 in
theorem rtwo_x185 (s : ByteArray) (p : Nat) (w : World) (hs : s.size ≤ 1000000) (hp : p + 1 < s.size) (h2 : (p : Int) + 1 < s.size) (fa : (s[p].toNat : Int) = 195) (fb : (s[p + 1].toNat : Int) = 185) : Calls Try.prog 49 #[.string s, .int .i64 p] w fun e w' => e = .returned (.string ⟨#[85]⟩) ∧ Below w.heap.size w w' := by
  go_enter Try.func49, Try.ntmps49
  go_wp2
  go_ret
  exact ⟨rfl, Below.refl _ _⟩
set_option maxRecDepth 100000 in
theorem rtwo_x186 (s : ByteArray) (p : Nat) (w : World) (hs : s.size ≤ 1000000) (hp : p + 1 < s.size) (h2 : (p : Int) + 1 < s.size) (fa : (s[p].toNat : Int) = 195) (fb : (s[p + 1].toNat : Int) = 186) : Calls Try.prog 49 #[.string s, .int .i64 p] w fun e w' => e = .returned (.string ⟨#[85]⟩) ∧ Below w.heap.size w w' := by
  go_enter Try.func49, Try.ntmps49
  go_wp2
  go_ret
  exact ⟨rfl, Below.refl _ _⟩
set_option maxRecDepth 100000 in
theorem rtwo_x187 (s : ByteArray) (p : Nat) (w : World) (hs : s.size ≤ 1000000) (hp : p + 1 < s.size) (h2 : (p : Int) + 1 < s.size) (fa : (s[p].toNat : Int) = 195) (fb : (s[p + 1].toNat : Int) = 187) : Calls Try.prog 49 #[.string s, .int .i64 p] w fun e w' => e = .returned (.string ⟨#[85]⟩) ∧ Below w.heap.size w w' := by
  go_enter Try.func49, Try.ntmps49
  go_wp2
  go_ret
  exact ⟨rfl, Below.refl _ _⟩
set_option maxRecDepth 100000 in
theorem rtwo_x188 (s : ByteArray) (p : Nat) (w : World) (hs : s.size ≤ 1000000) (hp : p + 1 < s.size) (h2 : (p : Int) + 1 < s.size) (fa : (s[p].toNat : Int) = 195) (fb : (s[p + 1].toNat : Int) = 188) : Calls Try.prog 49 #[.string s, .int .i64 p] w fun e w' => e = .returned (.string ⟨#[85, 69]⟩) ∧ Below w.heap.size w w' := by
  go_enter Try.func49, Try.ntmps49
  go_wp2
  go_ret
  exact ⟨rfl, Below.refl _ _⟩
set_option maxRecDepth 100000 in
theorem rtwo_x189 (s : ByteArray) (p : Nat) (w : World) (hs : s.size ≤ 1000000) (hp : p + 1 < s.size) (h2 : (p : Int) + 1 < s.size) (fa : (s[p].toNat : Int) = 195) (fb : (s[p + 1].toNat : Int) = 189) : Calls Try.prog 49 #[.string s, .int .i64 p] w fun e w' => e = .returned (.string ⟨#[89]⟩) ∧ Below w.heap.size w w' := by
  go_enter Try.func49, Try.ntmps49
  go_wp2
  go_ret
  exact ⟨rfl, Below.refl _ _⟩
set_option maxRecDepth 100000 in
theorem rtwo_x190 (s : ByteArray) (p : Nat) (w : World) (hs : s.size ≤ 1000000) (hp : p + 1 < s.size) (h2 : (p : Int) + 1 < s.size) (fa : (s[p].toNat : Int) = 195) (fb : (s[p + 1].toNat : Int) = 190) : Calls Try.prog 49 #[.string s, .int .i64 p] w fun e w' => e = .returned (.string ⟨#[84, 72]⟩) ∧ Below w.heap.size w w' := by
  go_enter Try.func49, Try.ntmps49
  go_wp2
  go_ret
  exact ⟨rfl, Below.refl _ _⟩
set_option maxRecDepth 100000 in
theorem rtwo_x191 (s : ByteArray) (p : Nat) (w : World) (hs : s.size ≤ 1000000) (hp : p + 1 < s.size) (h2 : (p : Int) + 1 < s.size) (fa : (s[p].toNat : Int) = 195) (fb : (s[p + 1].toNat : Int) = 191) : Calls Try.prog 49 #[.string s, .int .i64 p] w fun e w' => e = .returned (.string ⟨#[89]⟩) ∧ Below w.heap.size w w' := by
  go_enter Try.func49, Try.ntmps49
  go_wp2
  go_ret
  exact ⟨rfl, Below.refl _ _⟩
set_option maxRecDepth 100000 in
theorem rtwo_xlo (s : ByteArray) (p : Nat) (w : World) (hs : s.size ≤ 1000000) (hp : p + 1 < s.size) (h2 : (p : Int) + 1 < s.size) (fa : (s[p].toNat : Int) = 195) (fb : (s[p + 1].toNat : Int) < 128) (wr : Go.RowKit.wrap64 (s[p + 1].toNat : Int) = (s[p + 1].toNat : Int)) : Calls Try.prog 49 #[.string s, .int .i64 p] w fun e w' => e = .returned (.string ⟨#[]⟩) ∧ Below w.heap.size w w' := by
  go_enter Try.func49, Try.ntmps49
  go_wp2
  go_ret
  exact ⟨rfl, Below.refl _ _⟩
set_option maxRecDepth 100000 in
theorem rtwo_xhi (s : ByteArray) (p : Nat) (w : World) (hs : s.size ≤ 1000000) (hp : p + 1 < s.size) (h2 : (p : Int) + 1 < s.size) (fa : (s[p].toNat : Int) = 195) (fb : ¬ (s[p + 1].toNat : Int) < 128) (fc : (191 : Int) < s[p + 1].toNat) (wr : Go.RowKit.wrap64 (s[p + 1].toNat : Int) = (s[p + 1].toNat : Int)) : Calls Try.prog 49 #[.string s, .int .i64 p] w fun e w' => e = .returned (.string ⟨#[]⟩) ∧ Below w.heap.size w w' := by
  go_enter Try.func49, Try.ntmps49
  go_wp2
  go_ret
  exact ⟨rfl, Below.refl _ _⟩
set_option maxRecDepth 100000 in
theorem rtwo_y146 (s : ByteArray) (p : Nat) (w : World) (hs : s.size ≤ 1000000) (hp : p + 1 < s.size) (h2 : (p : Int) + 1 < s.size) (fa : (s[p].toNat : Int) = 197) (fb : (s[p + 1].toNat : Int) = 146) : Calls Try.prog 49 #[.string s, .int .i64 p] w fun e w' => e = .returned (.string ⟨#[79, 69]⟩) ∧ Below w.heap.size w w' := by
  go_enter Try.func49, Try.ntmps49
  go_wp2
  go_ret
  exact ⟨rfl, Below.refl _ _⟩
set_option maxRecDepth 100000 in
theorem rtwo_y147 (s : ByteArray) (p : Nat) (w : World) (hs : s.size ≤ 1000000) (hp : p + 1 < s.size) (h2 : (p : Int) + 1 < s.size) (fa : (s[p].toNat : Int) = 197) (fb : (s[p + 1].toNat : Int) = 147) : Calls Try.prog 49 #[.string s, .int .i64 p] w fun e w' => e = .returned (.string ⟨#[79, 69]⟩) ∧ Below w.heap.size w w' := by
  go_enter Try.func49, Try.ntmps49
  go_wp2
  go_ret
  exact ⟨rfl, Below.refl _ _⟩
set_option maxRecDepth 100000 in
theorem rtwo_y160 (s : ByteArray) (p : Nat) (w : World) (hs : s.size ≤ 1000000) (hp : p + 1 < s.size) (h2 : (p : Int) + 1 < s.size) (fa : (s[p].toNat : Int) = 197) (fb : (s[p + 1].toNat : Int) = 160) : Calls Try.prog 49 #[.string s, .int .i64 p] w fun e w' => e = .returned (.string ⟨#[83]⟩) ∧ Below w.heap.size w w' := by
  go_enter Try.func49, Try.ntmps49
  go_wp2
  go_ret
  exact ⟨rfl, Below.refl _ _⟩
set_option maxRecDepth 100000 in
theorem rtwo_y161 (s : ByteArray) (p : Nat) (w : World) (hs : s.size ≤ 1000000) (hp : p + 1 < s.size) (h2 : (p : Int) + 1 < s.size) (fa : (s[p].toNat : Int) = 197) (fb : (s[p + 1].toNat : Int) = 161) : Calls Try.prog 49 #[.string s, .int .i64 p] w fun e w' => e = .returned (.string ⟨#[83]⟩) ∧ Below w.heap.size w w' := by
  go_enter Try.func49, Try.ntmps49
  go_wp2
  go_ret
  exact ⟨rfl, Below.refl _ _⟩
set_option maxRecDepth 100000 in
theorem rtwo_y189 (s : ByteArray) (p : Nat) (w : World) (hs : s.size ≤ 1000000) (hp : p + 1 < s.size) (h2 : (p : Int) + 1 < s.size) (fa : (s[p].toNat : Int) = 197) (fb : (s[p + 1].toNat : Int) = 189) : Calls Try.prog 49 #[.string s, .int .i64 p] w fun e w' => e = .returned (.string ⟨#[90]⟩) ∧ Below w.heap.size w w' := by
  go_enter Try.func49, Try.ntmps49
  go_wp2
  go_ret
  exact ⟨rfl, Below.refl _ _⟩
set_option maxRecDepth 100000 in
theorem rtwo_y190 (s : ByteArray) (p : Nat) (w : World) (hs : s.size ≤ 1000000) (hp : p + 1 < s.size) (h2 : (p : Int) + 1 < s.size) (fa : (s[p].toNat : Int) = 197) (fb : (s[p + 1].toNat : Int) = 190) : Calls Try.prog 49 #[.string s, .int .i64 p] w fun e w' => e = .returned (.string ⟨#[90]⟩) ∧ Below w.heap.size w w' := by
  go_enter Try.func49, Try.ntmps49
  go_wp2
  go_ret
  exact ⟨rfl, Below.refl _ _⟩
set_option maxRecDepth 100000 in
theorem rtwo_yno (s : ByteArray) (p : Nat) (w : World) (hs : s.size ≤ 1000000) (hp : p + 1 < s.size) (h2 : (p : Int) + 1 < s.size) (fa : (s[p].toNat : Int) = 197) (f146 : ((s[p + 1].toNat : Int) == 146) = false) (f147 : ((s[p + 1].toNat : Int) == 147) = false) (f160 : ((s[p + 1].toNat : Int) == 160) = false) (f161 : ((s[p + 1].toNat : Int) == 161) = false) (f189 : ((s[p + 1].toNat : Int) == 189) = false) (f190 : ((s[p + 1].toNat : Int) == 190) = false) (wr : Go.RowKit.wrap64 (s[p + 1].toNat : Int) = (s[p + 1].toNat : Int)) : Calls Try.prog 49 #[.string s, .int .i64 p] w fun e w' => e = .returned (.string ⟨#[]⟩) ∧ Below w.heap.size w w' := by
  go_enter Try.func49, Try.ntmps49
  go_wp2
  go_ret
  exact ⟨rfl, Below.refl _ _⟩
end Go.Proofs.Ytljfbdiiecohpaa
