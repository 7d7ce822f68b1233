/- 'awake' of the statements answers true. -/
import Derived.Test.YtjfopggpohakkaaSo
import Derived.Maps.RangeWalk
import Derived.Maps.OwnSet
import Derived.Laws.EntriesVeiled
namespace Go.Proofs.Ytjfopggpohakkaa
open Go.RowKit
open Go.Maps (Keyed)

/-- An entry of a map's literal. -/
theorem insert_lit {H : Type} {P : Program} (w : World) {ops : Array Oper} {rest : List Oper} {o : Oper} {a : Act} {Q : Exit → Act → World → Prop}
    (hg : o.guard = none) (m x v : Operand) (t : TypeId) (hop : o.op = Op.insert t m x v)
    (k e : TypeId) (K : Keyed P k) (ht : P.underlying t = some (.map k e)) (R : Value → Option (DataW H × List MemPlace)) (b n : Nat) (D : DataW H)
    (hm : a.eval m = .map (some b)) (hown : w.ownsMap P k R b n D) (hn : n < maxLen) (key val : Value) (kl : Lit) (hx : a.eval x = key) (hv : a.eval v = val) (hkey : keyOf P k key = some kl)
    (d : DataW H) (ps : List MemPlace) (hval : R val = some (d, ps))
    (hK : ∀ w', w'.ownsMap P k R b (n + 1) (D.put kl d) → w.grownBy w' (some b) → wpList P ops Q rest (a.put o.dst undef) w') :
    wpList P ops Q (o :: rest) a w :=
  wpList_plain hg fun K' hK' => by
    obtain ⟨w', hrun, s1, s2⟩ := hown.update K ht hn hkey hval
    unfold Oper.wp
    simp [execOp, hop, hm, hx, hv, hrun, Result.andThen]
    exact hK' _ _ (hK w' s1 s2)
theorem same_lit4 (x c : Nat) (hd : Nt.dig x = [c]) (hc : c < Nt.B) (hx : x < Nt.top) (v : Value) (w : World) (h : Dg w v x) :
    Calls Try.prog 30 #[v, .slice (some ⟨w.heap.size, 0, none⟩) 1 1] (w.alloc (.cells #[.int .u32 (c : Nat)] 55)) fun e w' => e = .returned (.bool true) ∧ Below w.heap.size w w' := by
  have hb : Below w.heap.size w (w.alloc (.cells #[.int .u32 (c : Nat)] 55)) := (Below.refl _ w).alloc (Nat.le_refl _) _
  have L2 : Lm (w.alloc (.cells #[.int .u32 (c : Nat)] 55)) (.slice (some ⟨w.heap.size, 0, none⟩) 1 1) [c] := by
    refine ⟨_, 1, rfl, Nt.fit_one hc, (fun e => by cases e), Nat.le_refl _, Or.inr ⟨w.heap.size, 0, rfl, fun j hj => ?_⟩⟩
    obtain rfl : j = 0 := by simp at hj; omega
    exact cell_at w _ _ 0 _ _ rfl rfl
  refine (same4 v _ x [c] _ (h.below hb) L2 hx).mono ?_
  rintro e w' ⟨rfl, q⟩
  exact ⟨by rw [decide_eq_true hd], hb.trans (q.mono hb.size)⟩
theorem dig_one {x : Nat} (h : x < Nt.B) (h0 : x ≠ 0) : Nt.dig x = [x] := by
  have e : Nt.val [x] = x := by show x + Nt.B * 0 = x; omega
  have r : Nt.rg [x] = true := (Nt.rg_iff _).2 ⟨by simp, by simpa using h0⟩
  have := Nt.dig_of (Nt.fit_one h) r
  rw [e] at this; exact this
theorem low_is {n k r p : Nat} (hp : p ≤ Bn.W) (yes : Bn.ex n r (Bn.Up n k p) = true) (no : p = 0 ∨ Bn.ex n r (Bn.Up n k (p - 1)) = false) : Bn.low n k r = p := by
  unfold Bn.low
  refine Bn.least_is (f := fun p => Bn.ex n r (Bn.Up n k p)) hp (fun q h1 h2 => Bn.up_mono n k r p q h1 h2 yes) (fun q h1 => ?_)
  rcases no with no | no
  · omega
  · cases h : Bn.ex n r (Bn.Up n k q) with
    | false => rfl
    | true => rw [Bn.up_mono n k r q (p - 1) (by omega) (by omega) h] at no; cases no
theorem low_a : Bn.low 10 10 500 = 7412 := low_is (by decide) (by decide +kernel) (.inr (by decide +kernel))
theorem low_b : Bn.low 10 0 500 = 0 := low_is (by decide) (by decide +kernel) (.inl rfl)
theorem low_c : Bn.low 0 0 500 = 0 := low_is (by decide) (by decide +kernel) (.inl rfl)
theorem srt_lit : srt [5, 1, 4, 2] = [1, 2, 4, 5] := by simp [srt, List.mergeSort]
/-- The map of the last examples. -/
def Dq : DataW Unit := .map [(.int .i64 0, .lit (.int .i64 1)), (.int .i64 5000, .lit (.int .i64 2)), (.int .i64 9000, .lit (.int .i64 5)), (.int .i64 10000, .lit (.int .i64 5))]
theorem dq_put : ((((DataW.map (H := Unit) []).put (.int .i64 0) (.lit (.int .i64 1))).put (.int .i64 5000) (.lit (.int .i64 2))).put (.int .i64 9000) (.lit (.int .i64 5))).put (.int .i64 10000) (.lit (.int .i64 5)) = Dq := rfl
theorem dq_at {x c : Int} (h : Go.Maps.has Dq (.int .i64 x) = true) (hat : ∀ zd, Dq.atKey (.int .i64 x) zd = .lit (.int .i64 c)) : qV [5, 1, 4, 2] x = c ∧ qE 4 x = 0 := by
  have hx : x = 0 ∨ x = 5000 ∨ x = 9000 ∨ x = 10000 := by
    simp [Go.Maps.has, Dq, Lit.sameKey] at h
    omega
  have ha := hat (.lit (.int .i64 0))
  have q0 : qE 4 0 = 0 := by decide
  have q1 : qE 4 5000 = 0 := by decide
  have q2 : qE 4 9000 = 0 := by decide
  have q3 : qE 4 10000 = 0 := by decide
  rcases hx with rfl | rfl | rfl | rfl
  · have : c = 1 := by cases ha; rfl
    subst this
    exact ⟨by unfold qV; rw [srt_lit]; decide, q0⟩
  · have : c = 2 := by cases ha; rfl
    subst this
    exact ⟨by unfold qV; rw [srt_lit]; decide, q1⟩
  · have : c = 5 := by cases ha; rfl
    subst this
    exact ⟨by unfold qV; rw [srt_lit]; decide, q2⟩
  · have : c = 5 := by cases ha; rfl
    subst this
    exact ⟨by unfold qV; rw [srt_lit]; decide, q3⟩
end Go.Proofs.Ytjfopggpohakkaa
