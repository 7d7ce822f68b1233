/- The reference's letters of two bytes, kept bytes, words. -/
import Derived.Test.YtljfbdiiecohpaaFx
import Derived.Test.YtljfbdiiecohpaaGv1
import Derived.Test.YtljfbdiiecohpaaGv2
import Derived.Test.YtljfbdiiecohpaaGv3
import Derived.Test.YtljfbdiiecohpaaGv4
namespace Go.Proofs.Ytljfbdiiecohpaa
open Go.RowKit Go.Lib

namespace Fo
theorem ret_eq {l m : List UInt8} {w : World} (h : l = m) : Ending.returned (.string ⟨l.toArray⟩) = .returned (.string ⟨m.toArray⟩) ∧ Below w.heap.size w w := ⟨by rw [h], Below.refl _ _⟩
theorem c3_out {b : Nat} (h : b < 128 ∨ 191 < b) : c3 b = [] := by
  unfold c3
  repeat (rw [if_neg (by omega)])
theorem c5_out {b : Nat} (h : b ≠ 146 ∧ b ≠ 147 ∧ b ≠ 160 ∧ b ≠ 161 ∧ b ≠ 189 ∧ b ≠ 190) : c5 b = [] := by
  unfold c5
  repeat (rw [if_neg (by omega)])
end Fo
theorem rtwo_c3 (s : ByteArray) (p : Nat) (w : World) (hs : s.size ≤ 1000000) (hp : p + 1 < s.size) (ha : s[p].toNat = 195) : Calls Try.prog 49 #[.string s, .int .i64 p] w fun e w' => e = .returned (.string ⟨(Fo.c3 s[p + 1].toNat).toArray⟩) ∧ Below w.heap.size w w' := by
  have h2 : (p : Int) + 1 < s.size := by omega
  have fa : (s[p].toNat : Int) = 195 := by omega
  have wr : wrap64 (s[p + 1].toNat : Int) = (s[p + 1].toNat : Int) := by rw [← IntWalk.i64_left]; exact IntWalk.i64_in _ (by have := s[p + 1].toNat_lt; omega)
  by_cases hlo : s[p + 1].toNat < 128
  · rw [Fo.c3_out (by omega)]; exact rtwo_xlo s p w hs hp h2 fa (by omega) wr
  · by_cases hhi : 191 < s[p + 1].toNat
    · rw [Fo.c3_out (by omega)]; exact rtwo_xhi s p w hs hp h2 fa (by omega) (by omega) wr
    · have hb : s[p + 1].toNat = 128 ∨ s[p + 1].toNat = 129 ∨ s[p + 1].toNat = 130 ∨ s[p + 1].toNat = 131 ∨ s[p + 1].toNat = 132 ∨ s[p + 1].toNat = 133 ∨ s[p + 1].toNat = 134 ∨ s[p + 1].toNat = 135 ∨ s[p + 1].toNat = 136 ∨ s[p + 1].toNat = 137 ∨ s[p + 1].toNat = 138 ∨ s[p + 1].toNat = 139 ∨ s[p + 1].toNat = 140 ∨ s[p + 1].toNat = 141 ∨ s[p + 1].toNat = 142 ∨ s[p + 1].toNat = 143 ∨ s[p + 1].toNat = 144 ∨ s[p + 1].toNat = 145 ∨ s[p + 1].toNat = 146 ∨ s[p + 1].toNat = 147 ∨ s[p + 1].toNat = 148 ∨ s[p + 1].toNat = 149 ∨ s[p + 1].toNat = 150 ∨ s[p + 1].toNat = 151 ∨ s[p + 1].toNat = 152 ∨ s[p + 1].toNat = 153 ∨ s[p + 1].toNat = 154 ∨ s[p + 1].toNat = 155 ∨ s[p + 1].toNat = 156 ∨ s[p + 1].toNat = 157 ∨ s[p + 1].toNat = 158 ∨ s[p + 1].toNat = 159 ∨ s[p + 1].toNat = 160 ∨ s[p + 1].toNat = 161 ∨ s[p + 1].toNat = 162 ∨ s[p + 1].toNat = 163 ∨ s[p + 1].toNat = 164 ∨ s[p + 1].toNat = 165 ∨ s[p + 1].toNat = 166 ∨ s[p + 1].toNat = 167 ∨ s[p + 1].toNat = 168 ∨ s[p + 1].toNat = 169 ∨ s[p + 1].toNat = 170 ∨ s[p + 1].toNat = 171 ∨ s[p + 1].toNat = 172 ∨ s[p + 1].toNat = 173 ∨ s[p + 1].toNat = 174 ∨ s[p + 1].toNat = 175 ∨ s[p + 1].toNat = 176 ∨ s[p + 1].toNat = 177 ∨ s[p + 1].toNat = 178 ∨ s[p + 1].toNat = 179 ∨ s[p + 1].toNat = 180 ∨ s[p + 1].toNat = 181 ∨ s[p + 1].toNat = 182 ∨ s[p + 1].toNat = 183 ∨ s[p + 1].toNat = 184 ∨ s[p + 1].toNat = 185 ∨ s[p + 1].toNat = 186 ∨ s[p + 1].toNat = 187 ∨ s[p + 1].toNat = 188 ∨ s[p + 1].toNat = 189 ∨ s[p + 1].toNat = 190 ∨ s[p + 1].toNat = 191 := by omega
      rcases hb with h | h | h | h | h | h | h | h | h | h | h | h | h | h | h | h | h | h | h | h | h | h | h | h | h | h | h | h | h | h | h | h | h | h | h | h | h | h | h | h | h | h | h | h | h | h | h | h | h | h | h | h | h | h | h | h | h | h | h | h | h | h | h | h
      · rw [h]; exact rtwo_x128 s p w hs hp h2 fa (by omega)
      · rw [h]; exact rtwo_x129 s p w hs hp h2 fa (by omega)
      · rw [h]; exact rtwo_x130 s p w hs hp h2 fa (by omega)
      · rw [h]; exact rtwo_x131 s p w hs hp h2 fa (by omega)
      · rw [h]; exact rtwo_x132 s p w hs hp h2 fa (by omega)
      · rw [h]; exact rtwo_x133 s p w hs hp h2 fa (by omega)
      · rw [h]; exact rtwo_x134 s p w hs hp h2 fa (by omega)
      · rw [h]; exact rtwo_x135 s p w hs hp h2 fa (by omega)
      · rw [h]; exact rtwo_x136 s p w hs hp h2 fa (by omega)
      · rw [h]; exact rtwo_x137 s p w hs hp h2 fa (by omega)
      · rw [h]; exact rtwo_x138 s p w hs hp h2 fa (by omega)
      · rw [h]; exact rtwo_x139 s p w hs hp h2 fa (by omega)
      · rw [h]; exact rtwo_x140 s p w hs hp h2 fa (by omega)
      · rw [h]; exact rtwo_x141 s p w hs hp h2 fa (by omega)
      · rw [h]; exact rtwo_x142 s p w hs hp h2 fa (by omega)
      · rw [h]; exact rtwo_x143 s p w hs hp h2 fa (by omega)
      · rw [h]; exact rtwo_x144 s p w hs hp h2 fa (by omega)
      · rw [h]; exact rtwo_x145 s p w hs hp h2 fa (by omega)
      · rw [h]; exact rtwo_x146 s p w hs hp h2 fa (by omega)
      · rw [h]; exact rtwo_x147 s p w hs hp h2 fa (by omega)
      · rw [h]; exact rtwo_x148 s p w hs hp h2 fa (by omega)
      · rw [h]; exact rtwo_x149 s p w hs hp h2 fa (by omega)
      · rw [h]; exact rtwo_x150 s p w hs hp h2 fa (by omega)
      · rw [h]; exact rtwo_x151 s p w hs hp h2 fa (by omega)
      · rw [h]; exact rtwo_x152 s p w hs hp h2 fa (by omega)
      · rw [h]; exact rtwo_x153 s p w hs hp h2 fa (by omega)
      · rw [h]; exact rtwo_x154 s p w hs hp h2 fa (by omega)
      · rw [h]; exact rtwo_x155 s p w hs hp h2 fa (by omega)
      · rw [h]; exact rtwo_x156 s p w hs hp h2 fa (by omega)
      · rw [h]; exact rtwo_x157 s p w hs hp h2 fa (by omega)
      · rw [h]; exact rtwo_x158 s p w hs hp h2 fa (by omega)
      · rw [h]; exact rtwo_x159 s p w hs hp h2 fa (by omega)
      · rw [h]; exact rtwo_x160 s p w hs hp h2 fa (by omega)
      · rw [h]; exact rtwo_x161 s p w hs hp h2 fa (by omega)
      · rw [h]; exact rtwo_x162 s p w hs hp h2 fa (by omega)
      · rw [h]; exact rtwo_x163 s p w hs hp h2 fa (by omega)
      · rw [h]; exact rtwo_x164 s p w hs hp h2 fa (by omega)
      · rw [h]; exact rtwo_x165 s p w hs hp h2 fa (by omega)
      · rw [h]; exact rtwo_x166 s p w hs hp h2 fa (by omega)
      · rw [h]; exact rtwo_x167 s p w hs hp h2 fa (by omega)
      · rw [h]; exact rtwo_x168 s p w hs hp h2 fa (by omega)
      · rw [h]; exact rtwo_x169 s p w hs hp h2 fa (by omega)
      · rw [h]; exact rtwo_x170 s p w hs hp h2 fa (by omega)
      · rw [h]; exact rtwo_x171 s p w hs hp h2 fa (by omega)
      · rw [h]; exact rtwo_x172 s p w hs hp h2 fa (by omega)
      · rw [h]; exact rtwo_x173 s p w hs hp h2 fa (by omega)
      · rw [h]; exact rtwo_x174 s p w hs hp h2 fa (by omega)
      · rw [h]; exact rtwo_x175 s p w hs hp h2 fa (by omega)
      · rw [h]; exact rtwo_x176 s p w hs hp h2 fa (by omega)
      · rw [h]; exact rtwo_x177 s p w hs hp h2 fa (by omega)
      · rw [h]; exact rtwo_x178 s p w hs hp h2 fa (by omega)
      · rw [h]; exact rtwo_x179 s p w hs hp h2 fa (by omega)
      · rw [h]; exact rtwo_x180 s p w hs hp h2 fa (by omega)
      · rw [h]; exact rtwo_x181 s p w hs hp h2 fa (by omega)
      · rw [h]; exact rtwo_x182 s p w hs hp h2 fa (by omega)
      · rw [h]; exact rtwo_x183 s p w hs hp h2 fa (by omega)
      · rw [h]; exact rtwo_x184 s p w hs hp h2 fa (by omega)
      · rw [h]; exact rtwo_x185 s p w hs hp h2 fa (by omega)
      · rw [h]; exact rtwo_x186 s p w hs hp h2 fa (by omega)
      · rw [h]; exact rtwo_x187 s p w hs hp h2 fa (by omega)
      · rw [h]; exact rtwo_x188 s p w hs hp h2 fa (by omega)
      · rw [h]; exact rtwo_x189 s p w hs hp h2 fa (by omega)
      · rw [h]; exact rtwo_x190 s p w hs hp h2 fa (by omega)
      · rw [h]; exact rtwo_x191 s p w hs hp h2 fa (by omega)
theorem rtwo_c5 (s : ByteArray) (p : Nat) (w : World) (hs : s.size ≤ 1000000) (hp : p + 1 < s.size) (ha : s[p].toNat = 197) : Calls Try.prog 49 #[.string s, .int .i64 p] w fun e w' => e = .returned (.string ⟨(Fo.c5 s[p + 1].toNat).toArray⟩) ∧ Below w.heap.size w w' := by
  have h2 : (p : Int) + 1 < s.size := by omega
  have fa : (s[p].toNat : Int) = 197 := by omega
  have wr : wrap64 (s[p + 1].toNat : Int) = (s[p + 1].toNat : Int) := by rw [← IntWalk.i64_left]; exact IntWalk.i64_in _ (by have := s[p + 1].toNat_lt; omega)
  by_cases h146 : s[p + 1].toNat = 146
  · rw [h146]; exact rtwo_y146 s p w hs hp h2 fa (by omega)
  by_cases h147 : s[p + 1].toNat = 147
  · rw [h147]; exact rtwo_y147 s p w hs hp h2 fa (by omega)
  by_cases h160 : s[p + 1].toNat = 160
  · rw [h160]; exact rtwo_y160 s p w hs hp h2 fa (by omega)
  by_cases h161 : s[p + 1].toNat = 161
  · rw [h161]; exact rtwo_y161 s p w hs hp h2 fa (by omega)
  by_cases h189 : s[p + 1].toNat = 189
  · rw [h189]; exact rtwo_y189 s p w hs hp h2 fa (by omega)
  by_cases h190 : s[p + 1].toNat = 190
  · rw [h190]; exact rtwo_y190 s p w hs hp h2 fa (by omega)
  rw [Fo.c5_out (by omega)]
  exact rtwo_yno s p w hs hp h2 fa (beq_eq_false_iff_ne.2 (by omega)) (beq_eq_false_iff_ne.2 (by omega)) (beq_eq_false_iff_ne.2 (by omega)) (beq_eq_false_iff_ne.2 (by omega)) (beq_eq_false_iff_ne.2 (by omega)) (beq_eq_false_iff_ne.2 (by omega)) wr
set_option maxRecDepth 100000 in
theorem rtwo_no (s : ByteArray) (p : Nat) (w : World) (hs : s.size ≤ 1000000) (hp : p + 1 < s.size) (ha : s[p].toNat ≠ 195) (hb : s[p].toNat ≠ 197) : Calls Try.prog 49 #[.string s, .int .i64 p] w fun e w' => e = .returned (.string ⟨#[]⟩) ∧ Below w.heap.size w w' := by
  have fa : ((s[p].toNat : Int) == 195) = false := beq_eq_false_iff_ne.2 (by omega)
  have fa2 : ((s[p].toNat : Int) != 195) = true := bne_iff_ne.2 (by omega)
  have fb : ((s[p].toNat : Int) == 197) = false := beq_eq_false_iff_ne.2 (by omega)
  have h2 : (p : Int) + 1 < s.size := by omega
  clear ha hb
  go_enter Try.func49, Try.ntmps49
  go_wp2
  go_ret
  exact ⟨rfl, Below.refl _ _⟩
set_option maxRecDepth 100000 in
theorem rtwo_end (s : ByteArray) (p : Nat) (w : World) (hs : s.size ≤ 1000000) (hp : p < s.size) (h1 : ¬ p + 1 < s.size) : Calls Try.prog 49 #[.string s, .int .i64 p] w fun e w' => e = .returned (.string ⟨#[]⟩) ∧ Below w.heap.size w w' := by
  have h2 : ¬ (p : Int) + 1 < s.size := by omega
  have h3 : (s.size : Int) ≤ (p : Int) + 1 := by omega
  clear h1
  go_enter Try.func49, Try.ntmps49
  go_wp2
  go_ret
  exact ⟨rfl, Below.refl _ _⟩
namespace Fo
/-- The letters at a place. -/
def twoAt (s : ByteArray) (p : Nat) : Bs := if h : p + 1 < s.size then two s[p] s[p + 1] else []
end Fo
theorem rtwo_any (s : ByteArray) (p : Nat) (w : World) (hs : s.size ≤ 1000000) (hp : p < s.size) : Calls Try.prog 49 #[.string s, .int .i64 p] w fun e w' => e = .returned (.string ⟨(Fo.twoAt s p).toArray⟩) ∧ Below w.heap.size w w' := by
  by_cases h1 : p + 1 < s.size
  · have e : Fo.twoAt s p = Fo.two s[p] s[p + 1] := by unfold Fo.twoAt; rw [dif_pos h1]
    rw [e]
    unfold Fo.two
    by_cases ha : s[p].toNat = 195
    · rw [if_pos ha]; exact rtwo_c3 s p w hs h1 ha
    · rw [if_neg ha]
      by_cases hb : s[p].toNat = 197
      · rw [if_pos hb]; exact rtwo_c5 s p w hs h1 hb
      · rw [if_neg hb]; exact rtwo_no s p w hs h1 ha hb
  · have e : Fo.twoAt s p = [] := by unfold Fo.twoAt; rw [dif_neg h1]
    rw [e]
    exact rtwo_end s p w hs hp h1
end Go.Proofs.Ytljfbdiiecohpaa
