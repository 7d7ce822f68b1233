/- Plain mathematics of holidays and working days: nothing of any program stands here. -/
import Derived.Test.YtcnnfgigpjbcpaaDoorCal
namespace Go.Proofs.YtcnnfgigpjbcpaaDoor
namespace Hol
/-- A day of the first five of a week. -/
def wk (d : Int) : Bool := decide (d % 7 < 5)
/-- Days in strictly increasing order, all above one, none beyond the last day. -/
def inc : Int → List Int → Bool
  | _, [] => true
  | a, d :: r => decide (a < d ∧ d ≤ 730484) && inc d r
/-- A list of holidays. -/
def right (l : List Int) : Bool := decide (l.length ≤ 1000) && inc (-1) l
/-- Holidays ahead of a day that take away a working day. -/
def lost (l : List Int) (d : Int) : Nat := l.countP fun h => decide (h < d) && wk h
/-- Working days ahead of a day. -/
def wb (l : List Int) (d : Int) : Int := d / 7 * 5 + min (d % 7) 5 - (lost l d : Int)
/-- A working day. -/
def works (l : List Int) (d : Int) : Bool := wk d && !l.contains d

theorem inc_cons (a d : Int) (r : List Int) : inc a (d :: r) = true ↔ (a < d ∧ d ≤ 730484) ∧ inc d r = true := by
  show (decide (a < d ∧ d ≤ 730484) && inc d r) = true ↔ _
  rw [Bool.and_eq_true, decide_eq_true_iff]
theorem inc_lt : ∀ (l : List Int) (a : Int), inc a l = true → ∀ x ∈ l, a < x ∧ x ≤ 730484
  | [], _, _, x, hx => by cases hx
  | d :: r, a, h, x, hx => by
    rw [inc_cons] at h
    rcases List.mem_cons.1 hx with e | hr
    · subst e; exact h.1
    · have := inc_lt r d h.2 x hr; omega
theorem inc_pw : ∀ (l : List Int) (a : Int), inc a l = true → l.Pairwise (· < ·)
  | [], _, _ => List.Pairwise.nil
  | d :: r, a, h => by
    rw [inc_cons] at h
    exact List.Pairwise.cons (fun x hx => (inc_lt r d h.2 x hx).1) (inc_pw r d h.2)
/-- Taken element by element from the left: what a loop does. -/
theorem inc_snoc : ∀ (l : List Int) (a x : Int), inc a (l ++ [x]) = true ↔ inc a l = true ∧ l.getLastD a < x ∧ x ≤ 730484
  | [], a, x => by simp [inc]
  | d :: r, a, x => by
    rw [List.cons_append, inc_cons, inc_cons, inc_snoc r d x]
    have : (d :: r).getLastD a = r.getLastD d := by cases r <;> rfl
    rw [this]
    exact ⟨fun ⟨h, i, j⟩ => ⟨⟨h, i⟩, j⟩, fun ⟨⟨h, i⟩, j⟩ => ⟨h, i, j⟩⟩
theorem inc_take : ∀ (l : List Int) (a : Int) (k : Nat), inc a l = true → inc a (l.take k) = true
  | [], _, _, _ => by simp [inc]
  | d :: r, a, 0, _ => by simp [inc]
  | d :: r, a, k + 1, h => by
    rw [inc_cons] at h
    rw [List.take_succ_cons, inc_cons]
    exact ⟨h.1, inc_take r d k h.2⟩
theorem take_snoc (l : List Int) (k : Nat) (h : k < l.length) : l.take (k + 1) = l.take k ++ [l.getD k 0] := by
  rw [List.take_succ_eq_append_getElem h, List.getD_eq_getElem?_getD, List.getElem?_eq_getElem h]; rfl
theorem last_take (l : List Int) (k : Nat) (h : k < l.length) (a : Int) : (l.take (k + 1)).getLastD a = l.getD k 0 := by
  rw [take_snoc l k h]; simp [List.getLastD_eq_getLast?]
/-- The list is refused where an element is not above the one before, or beyond the last day. -/
theorem inc_bad (l : List Int) (k : Nat) (hk : k < l.length) (h : ¬ ((l.take k).getLastD (-1) < l.getD k 0 ∧ l.getD k 0 ≤ 730484)) : inc (-1) l = false := by
  rw [← Bool.not_eq_true]
  intro hi
  have := inc_take l (-1) (k + 1) hi
  rw [take_snoc l k hk, inc_snoc] at this
  exact h this.2
theorem right_iff (l : List Int) : right l = true ↔ l.length ≤ 1000 ∧ inc (-1) l = true := by
  unfold right; rw [Bool.and_eq_true, decide_eq_true_iff]
theorem right_long {l : List Int} (h : 1000 < l.length) : right l = false := by
  unfold right; rw [decide_eq_false (by omega)]; rfl
theorem right_short {l : List Int} (h : l.length ≤ 1000) : right l = inc (-1) l := by
  unfold right; rw [decide_eq_true h]; rfl

theorem lost_le (l : List Int) (d : Int) : lost l d ≤ l.length := List.countP_le_length
theorem lost_at : ∀ (l : List Int) (d : Int), l.Pairwise (· < ·) → lost l (d + 1) = lost l d + if wk d = true ∧ l.contains d = true then 1 else 0
  | [], d, _ => by simp [lost]
  | h :: r, d, hp => by
    have ih := lost_at r d (List.pairwise_cons.1 hp).2
    have hh := (List.pairwise_cons.1 hp).1
    unfold lost at ih ⊢
    rw [List.countP_cons, List.countP_cons, ih]
    by_cases e : h = d
    · subst e
      have nr : r.contains h = false := by
        rw [← Bool.not_eq_true, List.contains_iff_mem]
        intro hm; have := hh h hm; omega
      have c1 : (h :: r).contains h = true := by simp
      rw [nr, c1]
      by_cases w : wk h = true
      · have : (decide (h < h + 1) && wk h) = true := by rw [w, decide_eq_true (by omega)]; rfl
        have t : (decide (h < h) && wk h) = false := by rw [decide_eq_false (by omega)]; rfl
        rw [this, t, w]; simp
      · have : (decide (h < h + 1) && wk h) = false := by rw [Bool.not_eq_true] at w; rw [w, Bool.and_false]
        have t : (decide (h < h) && wk h) = false := by rw [decide_eq_false (by omega)]; rfl
        rw [this, t]; simp [w]
    · have c1 : (h :: r).contains d = r.contains d := by
        rw [List.contains_cons]
        have : (d == h) = false := by rw [beq_eq_false_iff_ne]; exact fun x => e x.symm
        rw [this]; rfl
      have t : (decide (h < d + 1) && wk h) = (decide (h < d) && wk h) := by
        congr 1; rw [decide_eq_decide]; omega
      rw [c1, t]; omega
/-- From a day to the next one there is a working day more, if the day is one. -/
theorem wb_succ (l : List Int) (d : Int) (hp : l.Pairwise (· < ·)) : wb l (d + 1) = wb l d + if works l d = true then 1 else 0 := by
  have h := lost_at l d hp
  unfold wb works
  rw [h]
  have e : (d + 1) / 7 * 5 + min ((d + 1) % 7) 5 = d / 7 * 5 + min (d % 7) 5 + if wk d = true then 1 else 0 := by
    unfold wk
    by_cases c : d % 7 < 5
    · rw [if_pos (by simpa using c)]; omega
    · rw [if_neg (by simpa using c)]; omega
  rw [e]
  cases w : wk d <;> cases c : l.contains d <;> simp <;> omega
theorem wb_step (l : List Int) (d : Int) (hp : l.Pairwise (· < ·)) : wb l d ≤ wb l (d + 1) ∧ wb l (d + 1) ≤ wb l d + 1 := by
  have := wb_succ l d hp
  rcases Cal.b2i (works l d) with h | h <;> rw [h] at this <;> omega
theorem wb_mono (l : List Int) (hp : l.Pairwise (· < ·)) (a b : Int) (h : a ≤ b) : wb l a ≤ wb l b := by
  obtain ⟨k, rfl⟩ : ∃ k : Nat, b = a + k := ⟨(b - a).toNat, by omega⟩
  clear h
  induction k with
  | zero => simp
  | succ k ih =>
    have := wb_step l (a + k) hp
    have e : a + ((k + 1 : Nat) : Int) = a + k + 1 := by omega
    rw [e]; omega
theorem wb_dist (l : List Int) (hp : l.Pairwise (· < ·)) (a b : Int) (h : a ≤ b) : wb l b - wb l a ≤ b - a := by
  obtain ⟨k, rfl⟩ : ∃ k : Nat, b = a + k := ⟨(b - a).toNat, by omega⟩
  clear h
  induction k with
  | zero => simp
  | succ k ih =>
    have := wb_step l (a + k) hp
    have e : a + ((k + 1 : Nat) : Int) = a + k + 1 := by omega
    rw [e]; omega
theorem lost_0 (l : List Int) (h : inc (-1) l = true) : lost l 0 = 0 := by
  unfold lost
  rw [List.countP_eq_zero]
  intro x hx
  have := (inc_lt l _ h x hx).1
  rw [decide_eq_false (by omega)]; simp
theorem wb_0 (l : List Int) (h : inc (-1) l = true) : wb l 0 = 0 := by unfold wb; rw [lost_0 l h]; decide
theorem lost_take_succ (l : List Int) (d : Int) (k : Nat) (h : k < l.length) : lost (l.take (k + 1)) d = lost (l.take k) d + if (decide (l.getD k 0 < d) && wk (l.getD k 0)) = true then 1 else 0 := by
  unfold lost; rw [take_snoc l k h, List.countP_append]; simp [List.countP_cons, List.countP_nil]
/-- Where an element is no longer ahead of the day, all behind it are not, too. -/
theorem lost_done (l : List Int) (d : Int) (k : Nat) (h : k < l.length) (hp : l.Pairwise (· < ·)) (hd : d ≤ l.getD k 0) : lost (l.take k) d = lost l d := by
  have e : lost l d = lost (l.take k) d + lost (l.drop k) d := by unfold lost; rw [← List.countP_append, List.take_append_drop]
  have z : lost (l.drop k) d = 0 := by
    unfold lost
    rw [List.countP_eq_zero]
    intro x hx
    rw [List.drop_eq_getElem_cons h] at hx
    have hg : l.getD k 0 = l[k] := by rw [List.getD_eq_getElem?_getD, List.getElem?_eq_getElem h]; rfl
    have hx2 : l[k] ≤ x := by
      rcases List.mem_cons.1 hx with e | hr
      · omega
      · have hp' : (l.drop k).Pairwise (· < ·) := hp.sublist (List.drop_sublist k l)
        rw [List.drop_eq_getElem_cons h] at hp'
        have := (List.pairwise_cons.1 hp').1 x hr
        omega
    rw [decide_eq_false (by omega)]; simp
  omega

/-- How many days from a day on have no more than n working days ahead of the next one. -/
def ahead (l : List Int) (d n : Int) (m : Nat) : Nat := (List.range m).countP fun (i : Nat) => !decide (n < wb l (d + i + 1) - wb l d)
theorem cnt_mono (p : Nat → Bool) (hp : ∀ a b, a ≤ b → p a = true → p b = true) : ∀ m, (List.range m).countP (fun i => !p i) ≤ m ∧ (∀ i, i < (List.range m).countP (fun i => !p i) → p i = false) ∧ ((List.range m).countP (fun i => !p i) < m → p ((List.range m).countP (fun i => !p i)) = true)
  | 0 => by simp
  | m + 1 => by
    obtain ⟨h1, h2, h3⟩ := cnt_mono p hp m
    rw [List.range_succ, List.countP_append]
    simp only [List.countP_cons, List.countP_nil]
    cases hm : p m
    · have e : (List.range m).countP (fun i => !p i) = m := by
        rcases Nat.lt_or_ge ((List.range m).countP (fun i => !p i)) m with c | c
        · have := hp _ m (Nat.le_of_lt c) (h3 c); rw [hm] at this; cases this
        · omega
      rw [e] at h2 ⊢
      simp only [Bool.not_false, if_true]
      refine ⟨by omega, fun i hi => ?_, fun h => by omega⟩
      by_cases c : i = m
      · subst c; exact hm
      · exact h2 i (by omega)
    · simp only [Bool.not_true, Bool.false_eq_true, if_false, Nat.add_zero]
      refine ⟨by omega, h2, fun _ => ?_⟩
      rcases Nat.lt_or_ge ((List.range m).countP (fun i => !p i)) m with c | c
      · exact h3 c
      · have : (List.range m).countP (fun i => !p i) = m := by omega
        rw [this]; exact hm
theorem ahead_spec (l : List Int) (d n : Int) (m : Nat) (hp : l.Pairwise (· < ·)) (hn : 0 ≤ n) : ahead l d n m ≤ m ∧ (ahead l d n m < m → works l (d + ahead l d n m) = true ∧ wb l (d + ahead l d n m) - wb l d = n) ∧ (ahead l d n m = m → wb l (d + m) - wb l d ≤ n) := by
  have h := cnt_mono (fun i => decide (n < wb l (d + i + 1) - wb l d)) (fun a b hab ha => by
    have := of_decide_eq_true ha
    have m := wb_mono l hp (d + a + 1) (d + b + 1) (by omega)
    exact decide_eq_true (by omega)) m
  obtain ⟨h1, h2, h3⟩ := h
  have prev : ∀ k : Nat, k ≤ ahead l d n m → wb l (d + k) - wb l d ≤ n := by
    intro k hk
    cases k with
    | zero => simp; omega
    | succ k =>
      have := of_decide_eq_false (h2 k hk)
      have e : d + ((k + 1 : Nat) : Int) = d + k + 1 := by omega
      rw [e]; omega
  refine ⟨h1, fun hlt => ?_, fun he => ?_⟩
  · have a := of_decide_eq_true (h3 hlt)
    have b := prev _ (Nat.le_refl _)
    have s := wb_succ l (d + ahead l d n m) hp
    change n < wb l (d + (ahead l d n m : Nat) + 1) - wb l d at a
    cases hw : works l (d + ahead l d n m)
    · rw [hw] at s; simp at s; omega
    · rw [hw] at s; simp at s; exact ⟨rfl, by omega⟩
  · have := prev m (by omega); exact this
end Hol
end Go.Proofs.YtcnnfgigpjbcpaaDoor
