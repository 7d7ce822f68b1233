/- For every two slices a and p of uint32, every string s and every int n the call NatTexts(a, s, p, n) returns true: texts and powers are as the reference tells them (at most 40 limbs, 400 bytes of text; powers of at most 3 limbs up to 30; beyond that nothing is asked). Conditions: none beyond the row's own; the package-level variables read as the rows list. -/
import Derived.Test.YtlmigbfpdbkkjaaDoorRows
import Derived.Test.YtlmigbfpdbkkjaaDoorLm
import Derived.ProofKit
import Derived.OpenShut
import Derived.Lay
import Derived.LaidMore
import Derived.Stop.LaidErr
import Derived.ChangeOld
import Derived.Below
import Derived.Test.YtlmigbfpdbkkjaaDoorBo
import Derived.Test.YtlmigbfpdbkkjaaDoorLn
import Derived.Test.YtlmigbfpdbkkjaaDoorTd
import Derived.Test.YtlmigbfpdbkkjaaDoorTc
import Derived.Test.YtlmigbfpdbkkjaaDoorCards
import Derived.Test.YtlmigbfpdbkkjaaDoorTie
import Derived.SevenTiedAt
namespace Go.Proofs.YtlmigbfpdbkkjaaDoor
open Go.ChangeShapes Go.WideShapes Go.ChangeAt Go.RowKit

theorem own : ownKnob Tryd.prog.godebug = none := by kernel_rfl
/-- What the rows list. -/
def laidL : List (String × DataW Unit) := Rows.natDividesRow.laid
theorem gl_of {W : World} (_ : laidMetH Tryd.prog laidL W) : True := trivial
theorem door_met (os : Os) (args : Array Value) : laidMetH Tryd.prog laidL ((World.laidAll Tryd.prog os laidL).forCall (fun _ _ => 0) ⟨#[], args, []⟩).memory := by
  rw [MakeChecks.laidMetH_plain _ _ _ (by kernel_rfl)]; exact laidMet_laidAll _ (by kernel_rfl) (by kernel_rfl)
theorem laidOut : laidOutB Tryd.prog = true := by kernel_rfl
/-- A slice of integers that came in: nil, or a row. -/
def IsRow (k : IntKind) (w : World) (a : Option Addr) (len cap : Nat) (zs : List Int) : Prop :=
  (a = none ∧ len = 0 ∧ cap = 0 ∧ zs = []) ∨
  ∃ x, a = some x ∧ len ≤ cap ∧ cap ≤ maxLen ∧ zs.length = cap ∧ (∀ i, i < zs.length → w.cell? (x.add i) = some (.int k (zs.getD i 0))) ∧ ∀ n ∈ zs, (Lit.int k n).wf = true
theorem row_at {k : IntKind} {w : World} {a : Option Addr} {len cap : Nat} {zs : List Int} (h : IsRow k w a len cap zs) : (zs.take len).length = len ∧ len ≤ 9223372036854775807 ∧ len ≤ cap ∧ (a = none → cap = 0) ∧ (zs.take len = [] ∨ ∃ b off, a = some ⟨b, off, none⟩ ∧ ∀ j, j < (zs.take len).length → w.cell? ⟨b, off + j, none⟩ = some (.int k ((zs.take len).getD j 0))) ∧ ∀ n ∈ zs.take len, (Lit.int k n).wf = true := by
  rcases h with ⟨rfl, rfl, rfl, rfl⟩ | ⟨x, rfl, hl, hm, hz, hc, hw⟩
  · exact ⟨rfl, by omega, Nat.le_refl _, fun _ => rfl, Or.inl rfl, by simp⟩
  · have e : (zs.take len).length = len := by rw [List.length_take]; omega
    refine ⟨e, by unfold maxLen at hm; omega, hl, (fun e => by cases e), ?_, fun n hn => hw n (List.mem_of_mem_take hn)⟩
    by_cases h0 : len = 0
    · subst h0; exact Or.inl rfl
    · obtain ⟨b, off, rfl, hc'⟩ := ints_at hc (by omega)
      refine Or.inr ⟨b, off, rfl, fun j hj => ?_⟩
      rw [hc' j (by omega)]
      rw [List.getD_eq_getElem?_getD, List.getD_eq_getElem?_getD, List.getElem?_take]
      rw [if_pos (by omega)]
/-- The limbs of a slice that came in. -/
theorem lm_of {w : World} {a : Option Addr} {len cap : Nat} {zs : List Int} (h : IsRow .u32 w a len cap zs) : ∃ l : List Nat, Lm w (.slice a len cap) l ∧ l.length ≤ 9223372036854775807 := by
  obtain ⟨e, hm, hc, ha, hr, hw⟩ := row_at h
  have wf : ∀ n ∈ zs.take len, 0 ≤ n ∧ n ≤ 4294967295 := by
    intro n hn
    simpa [Lit.wf, IntKind.min, IntKind.max, IntKind.signed, IntKind.bits] using hw n hn
  have el : ((zs.take len).map Int.toNat).length = len := by rw [List.length_map, e]
  refine ⟨(zs.take len).map Int.toNat, ⟨a, cap, by rw [el], ?_, ha, by rw [el]; exact hc, ?_⟩, by rw [el]; exact hm⟩
  · intro x hx
    obtain ⟨n, hn, rfl⟩ := List.mem_map.1 hx
    have := wf n hn
    show n.toNat < 4294967296
    omega
  · rcases hr with hr | ⟨b, off, rfl, hr⟩
    · exact Or.inl (by rw [hr]; rfl)
    · refine Or.inr ⟨b, off, rfl, fun j hj => ?_⟩
      rw [List.length_map] at hj
      rw [hr j hj]
      rw [List.getD_eq_getElem?_getD, List.getD_eq_getElem?_getD, List.getElem?_map, List.getElem?_eq_getElem hj]
      have := wf _ (List.getElem_mem hj)
      show some (Value.int IntKind.u32 ((zs.take len)[j])) = some (Value.int IntKind.u32 (((zs.take len)[j]).toNat : Nat))
      rw [Int.toNat_of_nonneg this.1]
end Go.Proofs.YtlmigbfpdbkkjaaDoor

namespace Go.Proofs.YtlmigbfpdbkkjaaDoor
open Go.RowKit

set_option maxRecDepth 100000 in
set_option maxHeartbeats 800000 in
theorem nread_any (s : ByteArray) (w : World) (hs : s.size ≤ 400) :
    Calls Tryd.prog 26 #[.string s] w fun e w' => ∃ a n c, e = .returned (.tuple #[.slice a n c, .int .i64 (Nt.readR s.data.toList).2]) ∧ Lm w' (.slice a n c) (Nt.readR s.data.toList).1 ∧ Below w.heap.size w w' := by
  have LS : s.data.toList.length = s.size := by rw [Array.length_toList]; rfl
  have ES : (⟨s.data.toList.toArray⟩ : ByteArray) = s := by rw [Array.toArray_toList]
  cases htx : Nt.isTx s.data.toList with
  | true =>
    have := read_yes3 s.data.toList w (by omega) htx
    rw [ES] at this
    unfold Nt.readR
    rw [if_pos htx]
    exact this
  | false =>
    have T := isText_any s.data.toList (by omega) w
    rw [ES, htx] at T
    have T := Lib.hid T
    have E : Hid (Nt.readR s.data.toList = ([], 30)) := by show _ = _; unfold Nt.readR; rw [if_neg (by rw [htx]; exact Bool.false_ne_true)]
    clear htx ES LS
    go_enter Tryd.func26, Tryd.ntmps26
    go_wp2_with (go_at_call 46; (with_reducible refine T.out.mono ?_); rintro e w1 ⟨rfl, b1⟩)
    go_ret2
    rw [E.out]
    exact ⟨_, _, _, rfl, Lm.nil _, b1⟩
set_option maxRecDepth 100000 in
set_option maxHeartbeats 3200000 in
theorem natTexts_any (va vp : Value) (l p : List Nat) (s : ByteArray) (n : Int) (w : World) (h : Lm w va l) (h' : Lm w vp p) (hs : s.size ≤ 9223372036854775807) (n0 : -9223372036854775808 ≤ n) (n1 : n ≤ 9223372036854775807) :
    Calls Tryd.prog 13 #[va, .string s, vp, .int .i64 n] w fun e w' => e = .returned (.bool true) ∧ Below w.heap.size w w' := by
  have LA := Lib.hid h
  have LP := Lib.hid h'
  obtain ⟨a, c, rfl, -, -, hcap, -⟩ := h
  obtain ⟨a', c', rfl, -, -, hcap', -⟩ := h'
  by_cases big : l.length ≤ 40 ∧ s.size ≤ 400 ∧ p.length ≤ 3 ∧ n ≤ 30
  · obtain ⟨g1, g2, g3, g4⟩ := big
    have T1 := Lib.hid (fun w' (b : Below w.heap.size w w') => text3_any _ l w' (LA.out.below b))
    have T2 := Lib.hid (fun w' (b : Below w.heap.size w w') => rtext_any _ l w' (LA.out.below b) g1)
    have R1 := Lib.hid (fun w' => nread_any s w' g2)
    have R2 := Lib.hid (fun w' => rread3_any s w' g2)
    have P1 := Lib.hid (fun w' (b : Below w.heap.size w w') => pow3_any _ p n w' (LP.out.below b) (by omega))
    have P2 := Lib.hid (fun w' (b : Below w.heap.size w w') => rpow_any _ p n w' (LP.out.below b) g3 g4 n0)
    have NR : Hid ((Nt.readR s.data.toList).1.length ≤ 1000000) := by
      show _ ≤ _
      unfold Nt.readR
      split
      · unfold Nt.numR
        split
        · rename_i h; exact Nat.le_trans ((Nt.rg_iff _).1 (Nt.rg_yes h)).1 (by decide)
        · exact Nat.zero_le _
      · exact Nat.zero_le _
    have NP : Hid ((Nt.powR p n).1.length ≤ 1000000) := by
      show _ ≤ _
      unfold Nt.powR
      split
      · unfold Nt.numR
        split
        · rename_i h; exact Nat.le_trans ((Nt.rg_iff _).1 (Nt.rg_yes h)).1 (by decide)
        · exact Nat.zero_le _
      · exact Nat.zero_le _
    obtain ⟨tx, htx⟩ : ∃ x, x = (Nt.txtR l).1 := ⟨_, rfl⟩
    obtain ⟨te, hte⟩ : ∃ x, x = (Nt.txtR l).2 := ⟨_, rfl⟩
    obtain ⟨rx, hrx⟩ : ∃ x, x = (Nt.readR s.data.toList).1 := ⟨_, rfl⟩
    obtain ⟨re, hre⟩ : ∃ x, x = (Nt.readR s.data.toList).2 := ⟨_, rfl⟩
    obtain ⟨px, hpx⟩ : ∃ x, x = (Nt.powR p n).1 := ⟨_, rfl⟩
    obtain ⟨pe, hpe⟩ : ∃ x, x = (Nt.powR p n).2 := ⟨_, rfl⟩
    rw [← htx, ← hte] at T1 T2
    rw [← hrx, ← hre] at R1 R2
    rw [← hpx, ← hpe] at P1 P2
    rw [← hrx] at NR
    rw [← hpx] at NP
    have S1 := Lib.hid (fun v u w' (h : Lm w' v rx) (h' : Lm w' u rx) => same3_any v u rx rx w' h h' NR.out)
    have S2 := Lib.hid (fun v u w' (h : Lm w' v px) (h' : Lm w' u px) => same3_any v u px px w' h h' NP.out)
    rw [decide_eq_true (rfl : rx = rx)] at S1
    rw [decide_eq_true (rfl : px = px)] at S2
    obtain ⟨k, hk⟩ : ∃ k, k = l.length := ⟨_, rfl⟩
    obtain ⟨k', hk'⟩ : ∃ k, k = p.length := ⟨_, rfl⟩
    rw [← hk] at g1 hcap T1 T2 ⊢
    rw [← hk'] at g3 hcap' P1 P2 ⊢
    have B0 := Lib.hid (Below.refl w.heap.size w)
    clear htx hte hrx hre hpx hpe hk hk' LA LP
    go_enter Tryd.func13, Tryd.ntmps13
    go_wp2_with (first
      | (go_at_call 25; (with_reducible refine (T1.out _ B0.out).mono ?_); rintro e w1 ⟨rfl, b1⟩; have B1 := Lib.hid b1; clear b1)
      | (go_at_call 28; (with_reducible refine (T2.out _ B1.out).mono ?_); rintro e w2 ⟨rfl, b2⟩; have B2 := Lib.hid (bring b2 B1.out); clear b2)
      | (go_at_call 26; (with_reducible refine (R1.out _).mono ?_); rintro e w3 ⟨a3, n3, c3, rfl, t3, b3⟩; have B3 := Lib.hid (bring b3 B2.out); clear b3)
      | (go_at_call 29; (with_reducible refine (R2.out _).mono ?_); rintro e w4 ⟨a4, n4, c4, rfl, t4, b4⟩; have B4 := Lib.hid (bring b4 B3.out); have u3 := t3.below b4; clear b4)
      | (go_at_call 27; (with_reducible refine (P1.out _ B4.out).mono ?_); rintro e w5 ⟨a5, n5, c5, rfl, t5, b5⟩; have B5 := Lib.hid (bring b5 B4.out); have v3 := u3.below b5; have v4 := t4.below b5; clear b5)
      | (go_at_call 30; (with_reducible refine (P2.out _ B5.out).mono ?_); rintro e w6 ⟨a6, n6, c6, rfl, t6, b6⟩; have B6 := Lib.hid (bring b6 B5.out); have x3 := v3.below b6; have x4 := v4.below b6; have x5 := t5.below b6; clear b6)
      | (go_at_call 20; (with_reducible refine (S1.out _ _ _ x3 x4).mono ?_); rintro e w7 ⟨rfl, b7⟩; have B7 := Lib.hid (bring b7.bl B6.out); have y5 := x5.below b7.bl; have y6 := t6.below b7.bl; clear b7)
      | (go_at_call 20; (with_reducible refine (S2.out _ _ _ y5 y6).mono ?_); rintro e w8 ⟨rfl, b8⟩; have B8 := Lib.hid (bring b8.bl B7.out); clear b8))
    go_ret
    exact ⟨rfl, B8.out⟩
  · obtain ⟨k, hk⟩ : ∃ k, k = l.length := ⟨_, rfl⟩
    obtain ⟨k', hk'⟩ : ∃ k, k = p.length := ⟨_, rfl⟩
    rw [← hk] at big hcap ⊢
    rw [← hk'] at big hcap' ⊢
    clear hk hk' LA LP
    by_cases d1 : 40 < k
    · go_enter Tryd.func13, Tryd.ntmps13
      go_wp2
      go_ret
      exact ⟨rfl, Below.refl _ _⟩
    by_cases d2 : 400 < s.size
    · clear big
      go_enter Tryd.func13, Tryd.ntmps13
      go_wp2
      go_ret
      exact ⟨rfl, Below.refl _ _⟩
    by_cases d3 : 3 < k'
    · clear big
      go_enter Tryd.func13, Tryd.ntmps13
      go_wp2
      go_ret
      exact ⟨rfl, Below.refl _ _⟩
    · have d4 : 30 < n := by omega
      clear big
      go_enter Tryd.func13, Tryd.ntmps13
      go_wp2
      go_ret
      exact ⟨rfl, Below.refl _ _⟩
set_option maxHeartbeats 800000 in
theorem texts_any (va vp : Value) (l p : List Nat) (s : ByteArray) (n : Int) (w : World) (h : Lm w va l) (h' : Lm w vp p) (hs : s.size ≤ 9223372036854775807) (n0 : -9223372036854775808 ≤ n) (n1 : n ≤ 9223372036854775807) :
    Calls Tryd.prog 3 #[va, .string s, vp, .int .i64 n] w fun e w' => e = .returned (.bool true) ∧ Below w.heap.size w w' := by
  have NT := Lib.hid (fun w' (b : Below w.heap.size w w') => natTexts_any va vp l p s n w' (h.below b) (h'.below b) hs n0 n1)
  clear h h'
  go_enter Tryd.func3, Tryd.ntmps3
  go_wp2_with (first | (go_at_call 12; (with_reducible refine (natc.awake _ trivial).mono ?_); rintro e w1 ⟨rfl, b1⟩)  | (go_at_call 13; (with_reducible refine (NT.out _ b1).mono ?_); rintro e w2 ⟨rfl, b2⟩))
  go_ret
  exact ⟨rfl, bring b2 b1⟩
end Go.Proofs.YtlmigbfpdbkkjaaDoor

namespace Go.Proofs.YtlmigbfpdbkkjaaDoor
open Go.RowKit

theorem walk_natTexts (W : World) (_ : True) (a0 : Option Addr) (n0 c0 : Nat) (z0 : List Int) (h0 : IsRow .u32 W a0 n0 c0 z0) (s : ByteArray) (h1 : s.size ≤ maxLen) (a2 : Option Addr) (n2 c2 : Nat) (z2 : List Int) (h2 : IsRow .u32 W a2 n2 c2 z2) (n : Int) (l3 : -9223372036854775808 ≤ n) (h3 : n ≤ 9223372036854775807) :
    Calls Tryd.prog 3 #[.slice a0 n0 c0, .string s, .slice a2 n2 c2, .int .i64 n] W fun e w' => e = .returned (.bool true) ∧ Below W.heap.size W w' := by
  obtain ⟨l, hl, _⟩ := lm_of h0
  obtain ⟨p, hp, _⟩ := lm_of h2
  exact texts_any _ _ l p s n W hl hp (by unfold maxLen at h1; exact h1) l3 h3
end Go.Proofs.YtlmigbfpdbkkjaaDoor

namespace Go.Proofs.YtlmigbfpdbkkjaaDoor.natTexts
open Go.ChangeShapes Go.WideShapes Go.ChangeAt Go.RowKit
open Go.ChangeMaps (open_string shut_string)
set_option linter.unusedVariables false

set_option maxRecDepth 100000 in
theorem lifted (os : Os) (started : os.Started) (H : Type) (enc : TypeId × Value → H) :
    ReturnsInHanded {} Tryd.checked os 3 .any (fun w args => (Rows.natTextsSpec.pre enc Tryd.prog Tryd.f3 [] false w args ∧ laidMetH Tryd.prog laidL w) ∧ sizedMet enc Tryd.prog Tryd.f3 (OpenSpec.ofChange Rows.natTextsSpec) false w args)
      (Rows.natTextsSpec.post enc Tryd.prog Tryd.f3 false true false false) := by
  refine returnsInHanded_of_change_and (C := Tryd.checked) (X := fun w _ => laidMetH Tryd.prog laidL w) (fun _ _ _ hh h => h.of_heap hh) own started (by kernel_rfl) Tryd.func3
    (ChangeSpec.witness_shaped (enc := enc) (C := Tryd.checked) (os := os) (X := fun w _ => laidMetH Tryd.prog laidL w) false (World.laidAll Tryd.prog os laidL) #[.slice none 0 0, .string ⟨#[]⟩, .slice none 0 0, .int .i64 0] 8 (World.laidAll_os _ _ _)
      (World.shaped_of_ZipB (by kernel_rfl) (by kernel_rfl)) (by kernel_rfl) (by kernel_rfl) (by kernel_rfl) (door_met os _)) ?_
  intro W base args ds gs before hval0 hW _ _ hL _
  have hval : ∀ (j : Nat) t v, Tryd.f3.params[j]? = some t → args[j]? = some v → Value.okWide Tryd.prog W .any base t v := hval0
  have hW' := hW
  obtain ⟨p, q, hA0, hV, rfl, _, _⟩ := hW
  have hA : DataW.TrodAll enc Tryd.prog W 0 (fun _ => true) true Tryd.f3.params.toList args.toList ds p := hA0
  rw [Tryd.params3] at hA hval
  obtain ⟨v0, vs0, d0, ds0, p0, q0, hargs, rfl, rfl, h0, r0⟩ := trodAll_cons hA
  obtain ⟨v1, vs1, d1, ds1, p1, q1, rfl, rfl, rfl, h1, r1⟩ := trodAll_cons r0
  obtain ⟨v2, vs2, d2, ds2, p2, q2, rfl, rfl, rfl, h2, r2⟩ := trodAll_cons r1
  obtain ⟨v3, vs3, d3, ds3, p3, q3, rfl, rfl, rfl, h3, r3⟩ := trodAll_cons r2
  obtain ⟨rfl, rfl, rfl⟩ := trodAll_nil r3
  obtain rfl : args = #[v0, v1, v2, v3] := by cases args; simp_all
  obtain ⟨rfl, rfl⟩ := trodVars_none hV
  obtain ⟨a0, len0, cap0, rfl⟩ := okWide_slice Tryd.underlying22 (hval 0 22 v0 rfl rfl)
  have k0 := h0
  have lt0 : ∀ x ∈ p0, x.block < W.heap.size := by obtain ⟨m, hm⟩ := k0; exact DataW.trod_lt m _ _ _ hm
  obtain ⟨z0, w0⟩ : ∃ zs, IsRow .u32 W a0 len0 cap0 zs := by
    obtain ⟨fuel, hf⟩ := h0
    rcases open_ints Tryd.underlying22 Tryd.underlying48 (by kernel_rfl) hf with ⟨hcs, _⟩ | ⟨x, l, c, zs, hcs, _, hl, hm, hz, _, hcell, hwz⟩
    · simp [Value.cells] at hcs
      obtain ⟨rfl, rfl, rfl⟩ := hcs
      exact ⟨[], .inl ⟨rfl, rfl, rfl, rfl⟩⟩
    · simp [Value.cells] at hcs
      obtain ⟨rfl, rfl, rfl⟩ := hcs
      exact ⟨zs, .inr ⟨_, rfl, hl, hm, by simpa using hz, hcell, hwz⟩⟩
  obtain ⟨a1, rfl, rfl, rfl, w1⟩ := open_string Tryd.underlying9 (hval 1 9 v1 rfl rfl) h1
  obtain ⟨a2, len2, cap2, rfl⟩ := okWide_slice Tryd.underlying22 (hval 2 22 v2 rfl rfl)
  have k2 := h2
  have lt2 : ∀ x ∈ p2, x.block < W.heap.size := by obtain ⟨m, hm⟩ := k2; exact DataW.trod_lt m _ _ _ hm
  obtain ⟨z2, w2⟩ : ∃ zs, IsRow .u32 W a2 len2 cap2 zs := by
    obtain ⟨fuel, hf⟩ := h2
    rcases open_ints Tryd.underlying22 Tryd.underlying48 (by kernel_rfl) hf with ⟨hcs, _⟩ | ⟨x, l, c, zs, hcs, _, hl, hm, hz, _, hcell, hwz⟩
    · simp [Value.cells] at hcs
      obtain ⟨rfl, rfl, rfl⟩ := hcs
      exact ⟨[], .inl ⟨rfl, rfl, rfl, rfl⟩⟩
    · simp [Value.cells] at hcs
      obtain ⟨rfl, rfl, rfl⟩ := hcs
      exact ⟨zs, .inr ⟨_, rfl, hl, hm, by simpa using hz, hcell, hwz⟩⟩
  obtain ⟨a3, rfl, rfl, rfl, w3⟩ := open_int Tryd.underlying3 (hval 3 3 v3 rfl rfl) h3
  have b3 : -9223372036854775808 ≤ a3 ∧ a3 ≤ 9223372036854775807 := by simpa [Lit.wf, IntKind.min, IntKind.max, IntKind.signed, IntKind.bits] using w3
  simp only [List.append_nil] at hW'
  refine (walk_natTexts W (gl_of hL) a0 len0 cap0 z0 w0 a1 w1 a2 len2 cap2 z2 w2 a3 b3.1 b3.2).mono fun e W' ⟨he, hb⟩ => ?_
  subst he
  exact ⟨_, rfl, _, _, _, [], _, [], hW', (trodAll_cons_mk (shut_bool Tryd.underlying4 _) trodAll_mk0), (trodAll_cons_mk (Below.trod laidOut (by kernel_rfl) (of_decide_eq_true (by kernel_rfl)) k0 hb lt0) (trodAll_cons_mk (shut_string Tryd.underlying9 w1) (trodAll_cons_mk (Below.trod laidOut (by kernel_rfl) (of_decide_eq_true (by kernel_rfl)) k2 hb lt2) (trodAll_cons_mk (shut_int Tryd.underlying3 w3) trodAll_mk0)))), rfl, hb.frame _, fun h => by cases h⟩
theorem over : Rows.NatTextsSaid :=
  OpenClaim.holds_of_wide 3 Tryd.f3 rfl rfl rfl rfl rfl rfl rfl ⟨rfl, rfl, rfl, rfl, rfl⟩ rfl rfl rfl rfl rfl (by kernel_rfl) Tryd.func3 (by kernel_rfl)
    (of_decide_eq_true (by kernel_rfl)) (by unfold Func.isWrapper; first | (rw [if_pos (by decide +kernel)]; kernel_rfl) | (rw [if_neg (by decide +kernel)]; exact ⟨rfl, rfl⟩))
    (fun os started H enc _ => lifted os started H enc)
theorem proved : Rows.NatTextsCardSaid :=
  Claim7.holds_tied_plain_at .later [] [.data, .data, .data, .data, .sentinel, .sentinel, .pinned] true Rows.natTextsCard.stood.harness true
    over (fun _ h => by cases h) (by kernel_rfl) (fun _ h => by cases h) natTexts_row_tie rfl ⟨rfl, rfl⟩ (by kernel_rfl) rfl
    (fun f fn hf hfn => by
      obtain rfl : f = 3 := Option.some.inj ((show Tryd.prog.funcNamed "letterbag/letterbaglaw03.NatTexts" = some 3 by kernel_rfl).symm.trans hf) |>.symm
      obtain rfl : fn = Tryd.f3 := (Option.some.inj (Tryd.func3.symm.trans hfn)).symm
      exact ⟨by kernel_rfl, fun j t ht => by
        rw [Tryd.params3] at ht
        have hm : t ∈ [22, 9, 22, 3] := by simpa using Array.mem_of_getElem? ht
        have hall : ([22, 9, 22, 3].all fun u => !Tryd.prog.wantsStandIn u) = true := by kernel_rfl
        exact (show Tryd.prog.wantsStandIn t = false by simpa using List.all_eq_true.1 hall t hm)⟩)
    (by kernel_rfl)
#print axioms proved
end Go.Proofs.YtlmigbfpdbkkjaaDoor.natTexts
