/- A region that draws its order, by one fact for each of its operations: whatever order is picked, what each operation leaves holds of its slot, and goes on to hold. -/
import Derived.Orders
import Derived.Tactics
namespace Go.Proofs.Ytalldnnegofdkaa
open Go

section
variable {P : Program} {ops : Array Oper} {Q : Exit → Act → World → Prop} {md : Region.Mode}

/-- How many of the first are left. -/
def left (l : Array Bool) : Nat → Nat
  | 0 => 0
  | n + 1 => left l n + (if l.getD n true = true then 0 else 1)
theorem getD_set {l : Array Bool} {i j : Nat} (h : i ≠ j) (d : Bool) : (l.setIfInBounds i true).getD j d = l.getD j d := by
  simp [Array.getD_eq_getD_getElem?, Array.getElem?_setIfInBounds_ne h]
theorem getD_same {l : Array Bool} {i : Nat} : (l.setIfInBounds i true).getD i true = true := by
  by_cases h : i < l.size
  · simp [Array.getD_eq_getD_getElem?, h]
  · simp [Array.getD_eq_getD_getElem?, h]
theorem left_set (l : Array Bool) (i : Nat) (hi : l.getD i true = false) : ∀ n, i < n → left (l.setIfInBounds i true) n + 1 ≤ left l n
  | 0, h => by omega
  | n + 1, h => by
    unfold left
    by_cases e : i = n
    · subst e
      rw [getD_same, hi, if_pos rfl, if_neg (by simp)]
      have : ∀ m, m ≤ i → left (l.setIfInBounds i true) m = left l m := by
        intro m
        induction m with
        | zero => intro _; rfl
        | succ m ih =>
          intro hm
          unfold left
          rw [ih (by omega), getD_set (by omega)]
      rw [this i (Nat.le_refl _)]
      omega
    · have := left_set l i hi n (by omega)
      rw [getD_set e]
      omega
theorem left_zero (l : Array Bool) : ∀ n, left l n = 0 → ∀ i, i < n → l.getD i true = true
  | 0, _, i, h => by omega
  | n + 1, h, i, hi => by
    unfold left at h
    by_cases e : i = n
    · subst e
      cases hl : l.getD i true with
      | true => rfl
      | false => rw [hl, if_neg (by simp)] at h; omega
    · exact left_zero l n (by omega) i (by omega)
theorem ready_lt {l : Array Bool} {i : Nat} (h : i ∈ Region.ready md ops l) : i < ops.size ∧ l.getD i true = false := by
  unfold Region.ready at h
  rw [List.mem_filter, List.mem_range] at h
  refine ⟨h.1, ?_⟩
  have := h.2
  cases e : l.getD i true with
  | false => rfl
  | true => rw [e] at this; simp at this
/-- The law: an invariant that each operation carries on. -/
theorem wpAny_inv (I : Array Bool → Act → World → Prop)
    (step : ∀ l a w i, I l a w → i ∈ Region.ready md ops l → wpOp P ops Q i (fun a' w' => I (l.setIfInBounds i true) a' w') a w)
    (done : ∀ l a w, I l a w → Region.ready md ops l = [] → Q .normal a w) :
    ∀ fuel l a w, I l a w → left l ops.size ≤ fuel → wpAny P md ops Q fuel l a w
  | 0, l, a, w, h, hf => by
    have hr : Region.ready md ops l = [] := by
      cases e : Region.ready md ops l with
      | nil => rfl
      | cons i r =>
        obtain ⟨h1, h2⟩ := ready_lt (md := md) (ops := ops) (l := l) (i := i) (by rw [e]; exact List.mem_cons_self)
        rw [left_zero l ops.size (by omega) i h1] at h2
        cases h2
    exact ⟨hr, done l a w h hr⟩
  | fuel + 1, l, a, w, h, hf => by
    refine ⟨done l a w h, fun i hi => ?_⟩
    obtain ⟨h1, h2⟩ := ready_lt hi
    have := left_set l i h2 ops.size h1
    exact wpOp_mono (fun a' w' h' => wpAny_inv I step done fuel _ a' w' h' (by omega)) (step l a w i h hi)
/-- What binds, as a Bool: each operation waits only for operations ahead of it. -/
def ahead (md : Region.Mode) (ops : Array Oper) : Bool :=
  (List.range ops.size).all fun i => ((ops[i]?).map (·.after.all fun e => !Region.binds md e || decide (e.on < i))).getD true
theorem done_all (ha : ahead md ops = true) {l : Array Bool} (hs : l.size = ops.size) (h : Region.ready md ops l = []) : ∀ i, i < ops.size → l.getD i true = true := by
  intro i
  induction i using Nat.strongRecOn with
  | _ i ih =>
    intro hi
    cases e : l.getD i true with
    | true => rfl
    | false =>
      exfalso
      have hm : i ∈ Region.ready md ops l := by
        unfold Region.ready
        rw [List.mem_filter, List.mem_range]
        refine ⟨hi, ?_⟩
        rw [e]
        unfold ahead at ha
        rw [List.all_eq_true] at ha
        have h1 := ha i (List.mem_range.2 hi)
        rw [Array.getElem?_eq_getElem hi] at h1 ⊢
        simp only [Option.map_some, Option.getD_some, Bool.not_false, Bool.true_and, Array.all_eq_true] at h1 ⊢
        intro j hj
        have h2 := h1 j hj
        cases hb : Region.binds md (ops[i].after[j]) with
        | false => simp
        | true =>
          rw [hb] at h2
          simp at h2
          have h3 := ih _ h2 (by omega)
          rw [Bool.not_true, Bool.false_or]
          have hlt : (ops[i].after[j]).on < l.size := by omega
          rw [Array.getD_eq_getD_getElem?, Array.getElem?_eq_getElem hlt] at h3
          rw [Array.getD_eq_getD_getElem?, Array.getElem?_eq_getElem hlt]
          exact h3
      rw [h] at hm
      cases hm
/-- K at the normal end, Q at others. -/
def atN (K : Act → World → Prop) (Q : Exit → Act → World → Prop) : Exit → Act → World → Prop
  | .normal, a, w => K a w
  | e, a, w => Q e a w
theorem wpOp_of_list {i : Nat} {o : Oper} {K : Act → World → Prop} {a : Act} {w : World} (hi : ops[i]? = some o) (h : wpList P ops (atN K Q) [o] a w) : wpOp P ops Q i K a w := by
  unfold wpOp
  simp only [hi]
  unfold wpList at h
  split
  · rename_i hw
    rw [if_pos hw] at h
    rcases h with h | h
    · refine Or.inl ?_
      unfold Oper.wp at *
      generalize (execOp a.eval o).run P w = r at *
      cases r with
      | ok n w' =>
        cases n <;> simp only [Oper.upon] at h ⊢ <;>
          first
            | exact h
            | exact Calls.mono h (fun e w'' he => by cases e <;> exact he)
            | exact Rows.mono h (fun _ _ he => he)
      | halt x w' => cases x <;> simp only [Oper.upon] at h ⊢ <;> exact h
    · exact Or.inr h
  · rename_i hw
    rw [if_neg hw] at h
    exact h
end
end Go.Proofs.Ytalldnnegofdkaa
