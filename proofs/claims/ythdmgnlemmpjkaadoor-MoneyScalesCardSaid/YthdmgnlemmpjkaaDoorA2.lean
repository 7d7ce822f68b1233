/- Contracts of money's ways of rounding: the closures in the map, and Share. -/
import Derived.Test.YthdmgnlemmpjkaaDoorA1
import Derived.Maps.OwnSet
import Derived.Laws.EntriesVeiled
namespace Go.Proofs.YthdmgnlemmpjkaaDoor
open Go.RowKit
open Go.Maps (Keyed)

set_option maxHeartbeats 400000 in
theorem one_any (b : Bool) (w : World) : Calls Tryd.prog 40 #[.bool b] w fun e w' => e = .returned (.int .i64 (if b = true then 1 else 0)) ∧ w = w' := by
  cases b
  · go_enter Tryd.func40, Tryd.ntmps40
    go_wp2
    go_ret
    exact ⟨rfl, rfl⟩
  · go_enter Tryd.func40, Tryd.ntmps40
    go_wp2
    go_ret
    exact ⟨rfl, rfl⟩
set_option maxHeartbeats 400000 in
theorem down_any (w : World) : Calls Tryd.prog 41 #[] w fun e w' => e = .returned (.int .i64 0) ∧ w = w' := by
  go_enter Tryd.func41, Tryd.ntmps41
  go_wp2
  go_ret
  exact ⟨rfl, rfl⟩
/-- What the closures capture. -/
structure Cap (w : World) (p1 p2 p3 : Addr) (q r : Int) : Prop where
  one : w.cell? p1 = some (.func (.func 40) #[] #[])
  rest : w.cell? p2 = some (.int .i64 r)
  down : w.cell? p3 = some (.int .i64 q)
theorem ad_2 (q r x : Int) (h : x = if 0 < r then 1 else 0) : x = Mny.ad 2 q r := by subst h; unfold Mny.ad; simp
theorem ad_3 (q r x : Int) (h : x = if 5000 < r ∨ r = 5000 ∧ 0 ≤ q then 1 else 0) : x = Mny.ad 3 q r := by subst h; unfold Mny.ad; simp
theorem ad_4 (q r x : Int) (h : x = if 5000 < r ∨ r = 5000 ∧ q % 2 ≠ 0 then 1 else 0) : x = Mny.ad 4 q r := by subst h; unfold Mny.ad; simp
set_option maxHeartbeats 800000 in
theorem up_any (p1 p2 p3 : Addr) (q r : Int) (w : World) (C : Cap w p1 p2 p3 q r) : Calls Tryd.prog 42 #[.pointer (some p1), .pointer (some p2)] w fun e w' => e = .returned (.int .i64 (Mny.ad 2 q r)) ∧ w = w' := by
  obtain ⟨c1, c2, c3⟩ := C
  go_enter Tryd.func42, Tryd.ntmps42
  go_wp2_with (go_at_call 40; refine (one_any _ _).mono ?_; rintro e w' ⟨rfl, rfl⟩)
  all_goals go_ret
  · exact ⟨ret_int (ad_2 _ _ _ (by rw [if_pos (by assumption)])), rfl⟩
  · exact ⟨ret_int (ad_2 _ _ _ (by rw [if_neg (by omega)])), rfl⟩
set_option maxHeartbeats 800000 in
theorem half_any (p1 p2 p3 : Addr) (q r : Int) (w : World) (C : Cap w p1 p2 p3 q r) (r0 : 0 ≤ r) (r1 : r < 10000) : Calls Tryd.prog 43 #[.pointer (some p1), .pointer (some p2), .pointer (some p3)] w fun e w' => e = .returned (.int .i64 (Mny.ad 3 q r)) ∧ w = w' := by
  obtain ⟨c1, c2, c3⟩ := C
  by_cases h1 : 10000 < 2 * r <;> by_cases h2 : 2 * r = 10000 <;> by_cases h3 : 0 ≤ q
  all_goals first
    | (exfalso; omega; done)
    | skip
  all_goals
    go_enter Tryd.func43, Tryd.ntmps43
    go_wp2_with (go_at_call 40; refine (one_any _ _).mono ?_; rintro e w' ⟨rfl, rfl⟩)
    go_ret
    first | exact ⟨ret_int (ad_3 _ _ _ (by rw [if_pos (by omega)])), rfl⟩ | exact ⟨ret_int (ad_3 _ _ _ (by rw [if_neg (by omega)])), rfl⟩
theorem tmod2 (q : Int) : q.tmod 2 = 0 ↔ q % 2 = 0 :=
  ⟨fun h => Int.emod_eq_zero_of_dvd (Int.dvd_of_tmod_eq_zero h), fun h => Int.tmod_eq_zero_of_dvd (Int.dvd_of_emod_eq_zero h)⟩
set_option maxHeartbeats 800000 in
theorem even_any (p1 p2 p3 : Addr) (q r : Int) (w : World) (C : Cap w p1 p2 p3 q r) (r0 : 0 ≤ r) (r1 : r < 10000) : Calls Tryd.prog 44 #[.pointer (some p1), .pointer (some p2), .pointer (some p3)] w fun e w' => e = .returned (.int .i64 (Mny.ad 4 q r)) ∧ w = w' := by
  obtain ⟨c1, c2, c3⟩ := C
  by_cases h1 : 10000 < 2 * r <;> by_cases h2 : 2 * r = 10000 <;> by_cases h3 : q.tmod 2 = 0
  all_goals first
    | (exfalso; omega; done)
    | skip
  all_goals
    have h4 := tmod2 q
    go_enter Tryd.func44, Tryd.ntmps44
    go_wp2_with (go_at_call 40; refine (one_any _ _).mono ?_; rintro e w' ⟨rfl, rfl⟩)
    go_ret
    first | exact ⟨ret_int (ad_4 _ _ _ (by rw [if_pos (by omega)])), rfl⟩ | exact ⟨ret_int (ad_4 _ _ _ (by rw [if_neg (by omega)])), rfl⟩
/-- The ways of rounding as values. -/
abbrev fDown : Value := .func (.func 41) #[] #[]
abbrev fUp (p1 p2 : Addr) : Value := .func (.func 42) #[] #[.pointer (some p1), .pointer (some p2)]
abbrev fHalf (p1 p2 p3 : Addr) : Value := .func (.func 43) #[] #[.pointer (some p1), .pointer (some p2), .pointer (some p3)]
abbrev fEven (p1 p2 p3 : Addr) : Value := .func (.func 44) #[] #[.pointer (some p1), .pointer (some p2), .pointer (some p3)]
abbrev num (n : Int) : DataW Unit := .lit (.int .i64 n)
open Classical in
/-- How the map's values read. -/
noncomputable def Rr (p1 p2 p3 : Addr) (v : Value) : Option (DataW Unit × List MemPlace) :=
  if v = fDown then some (num 1, []) else if v = fUp p1 p2 then some (num 2, []) else if v = fHalf p1 p2 p3 then some (num 3, [])
  else if v = fEven p1 p2 p3 then some (num 4, []) else if v = .nilFunc then some (num 0, []) else none
theorem rr_1 (p1 p2 p3 : Addr) : Rr p1 p2 p3 fDown = some (num 1, []) := by unfold Rr; simp
theorem rr_2 (p1 p2 p3 : Addr) : Rr p1 p2 p3 (fUp p1 p2) = some (num 2, []) := by unfold Rr; simp
theorem rr_3 (p1 p2 p3 : Addr) : Rr p1 p2 p3 (fHalf p1 p2 p3) = some (num 3, []) := by unfold Rr; simp
theorem rr_4 (p1 p2 p3 : Addr) : Rr p1 p2 p3 (fEven p1 p2 p3) = some (num 4, []) := by unfold Rr; simp
theorem rr_0 (p1 p2 p3 : Addr) : Rr p1 p2 p3 .nilFunc = some (num 0, []) := by unfold Rr; simp
theorem rr_inv {p1 p2 p3 : Addr} {v : Value} {n : Int} {ps : List MemPlace} (h : Rr p1 p2 p3 v = some (num n, ps)) :
    (n = 1 → v = fDown) ∧ (n = 2 → v = fUp p1 p2) ∧ (n = 3 → v = fHalf p1 p2 p3) ∧ (n = 4 → v = fEven p1 p2 p3) := by
  unfold Rr at h
  split at h
  · rename_i e
    have : n = 1 := by simp at h; omega
    subst this; exact ⟨fun _ => e, fun x => by omega, fun x => by omega, fun x => by omega⟩
  split at h
  · rename_i e
    have : n = 2 := by simp at h; omega
    subst this; exact ⟨fun x => by omega, fun _ => e, fun x => by omega, fun x => by omega⟩
  split at h
  · rename_i e
    have : n = 3 := by simp at h; omega
    subst this; exact ⟨fun x => by omega, fun x => by omega, fun _ => e, fun x => by omega⟩
  split at h
  · rename_i e
    have : n = 4 := by simp at h; omega
    subst this; exact ⟨fun x => by omega, fun x => by omega, fun x => by omega, fun _ => e⟩
  split at h
  · have : n = 0 := by simp at h; omega
    subst this; exact ⟨fun x => by omega, fun x => by omega, fun x => by omega, fun x => by omega⟩
  · cases h
/-- What the map holds. -/
def Dm : DataW Unit := .map [(.int .u8 1, num 1), (.int .u8 2, num 2), (.int .u8 3, num 3), (.int .u8 4, num 4)]
theorem dm_put : ((((DataW.map (H := Unit) []).put (.int .u8 1) (num 1)).put (.int .u8 2) (num 2)).put (.int .u8 3) (num 3)).put (.int .u8 4) (num 4) = Dm := rfl
theorem dm_no (x : Int) (h : x < 1 ∨ 4 < x) : Go.Maps.has Dm (.int .u8 x) = false := by
  unfold Dm
  rw [Go.Maps.has_eq]
  simp [Lit.sameKey]
  omega
theorem dm_yes (x : Int) (h : 1 ≤ x ∧ x ≤ 4) : Go.Maps.has Dm (.int .u8 x) = true ∧ Dm.atKey (.int .u8 x) (num 0) = num x := by
  have : x = 1 ∨ x = 2 ∨ x = 3 ∨ x = 4 := by omega
  rcases this with rfl | rfl | rfl | rfl
  all_goals exact ⟨rfl, rfl⟩
theorem keyU8 : Keyed Tryd.prog 5 := Go.Maps.int_keyed Tryd.underlying5
theorem zeroF (w : World) : (zeroValue 66).run Tryd.prog w = .ok .nilFunc w := by kernel_rfl
/-- An entry of a map's literal. -/
theorem wpList_insert_at {H : Type} {P : Program} (w : World) {ops : Array Oper} {rest : List Oper} {o : Oper} {a : Act} {Q : Exit → Act → World → Prop}
    (hg : o.guard = none) (m x v : Operand) (t : TypeId) (hop : o.op = Op.insert t m x v)
    (k e : TypeId) (K : Keyed P k) (ht : P.underlying t = some (.map k e)) (R : Value → Option (DataW H × List MemPlace)) (b n : Nat) (D : DataW H)
    (hm : a.eval m = .map (some b)) (hown : w.ownsMap P k R b n D) (hn : n < maxLen) (key val : Value) (kl : Lit) (hx : a.eval x = key) (hv : a.eval v = val) (hkey : keyOf P k key = some kl)
    (d : DataW H) (ps : List MemPlace) (hval : R val = some (d, ps))
    (hK : ∀ w', w'.ownsMap P k R b (n + 1) (D.put kl d) → w.grownBy w' (some b) → wpList P ops Q rest (a.put o.dst undef) w') :
    wpList P ops Q (o :: rest) a w :=
  wpList_plain hg fun K' hK' => by
    obtain ⟨w', hrun, s1, s2⟩ := hown.update K ht hn hkey hval
    unfold Oper.wp
    simp [execOp, hop, hm, hx, hv, hrun, Result.andThen]
    exact hK' _ _ (hK w' s1 s2)
end Go.Proofs.YthdmgnlemmpjkaaDoor
