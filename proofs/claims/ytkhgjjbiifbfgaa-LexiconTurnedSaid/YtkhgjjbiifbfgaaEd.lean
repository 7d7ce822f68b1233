/- Distances of texts, scripts and paths, as lists of bytes. -/
import Derived.WalkKit
namespace Go.Proofs.Ytkhgjjbiifbfgaa
namespace Ed
abbrev Bs := List UInt8
structure Cs where
  ins : Int
  del : Int
  chg : Int
  swp : Int
structure Op where
  k : Nat
  b : UInt8
def Rc (c : Cs) : Prop := (1 ≤ c.ins ∧ c.ins ≤ 1000) ∧ (1 ≤ c.del ∧ c.del ≤ 1000) ∧ (1 ≤ c.chg ∧ c.chg ≤ 1000) ∧ (1 ≤ c.swp ∧ c.swp ≤ 1000)
/-- How many bytes a step takes, and writes; its cost. -/
def tk (k : Nat) : Nat := match k with | 1 => 1 | 2 => 1 | 3 => 2 | 4 => 1 | _ => 0
def wr (k : Nat) : Nat := match k with | 1 => 1 | 2 => 1 | 3 => 2 | 4 => 0 | _ => 1
def co (c : Cs) (k : Nat) : Int := match k with | 1 => 0 | 2 => c.chg | 3 => c.swp | 4 => c.del | _ => c.ins
/-- Whether a step fits what is left of two texts. -/
def ft : Nat → Bs → Bs → Bool
  | 1, a :: _, b :: _ => a == b
  | 2, a :: _, b :: _ => a != b
  | 3, a :: x :: _, b :: y :: _ => (a == y && x == b) && a != x
  | 4, _ :: _, _ => true
  | 5, _, _ :: _ => true
  | _, _, _ => false
def top : Int := 120001
def ini (as bs : Bs) : Int := match as, bs with | [], [] => 0 | _, _ => top
def opt (c : Cs) (D : Bs → Bs → Int) (k : Nat) (as bs : Bs) (x : Int) : Int := if ft k as bs = true then min x (co c k + D (as.drop (tk k)) (bs.drop (wr k))) else x
/-- The least of some kinds. -/
def st (c : Cs) (D : Bs → Bs → Int) : Nat → Bs → Bs → Int
  | 0, as, bs => ini as bs
  | n + 1, as, bs => opt c D (n + 1) as bs (st c D n as bs)
def dsF (c : Cs) : Nat → Bs → Bs → Int
  | 0, _, _ => 0
  | n + 1, as, bs => st c (dsF c n) 5 as bs
/-- The distance. -/
def ds (c : Cs) (as bs : Bs) : Int := dsF c (as.length + bs.length + 1) as bs
theorem ft_kind {k : Nat} {as bs : Bs} (h : ft k as bs = true) : 1 ≤ k ∧ k ≤ 5 := by
  unfold ft at h
  split at h <;> first | omega | cases h
theorem ft_len {k : Nat} {as bs : Bs} (h : ft k as bs = true) : tk k ≤ as.length ∧ wr k ≤ bs.length := by
  unfold ft at h
  split at h <;> first | (simp [tk, wr]; done) | cases h
theorem ft_less {k : Nat} {as bs : Bs} (h : ft k as bs = true) : (as.drop (tk k)).length + (bs.drop (wr k)).length < as.length + bs.length := by
  unfold ft at h
  split at h <;> first | (simp [tk, wr] <;> omega) | cases h
theorem opt_congr {c : Cs} {D D' : Bs → Bs → Int} {k : Nat} {as bs : Bs} {x : Int} (h : ft k as bs = true → D (as.drop (tk k)) (bs.drop (wr k)) = D' (as.drop (tk k)) (bs.drop (wr k))) : opt c D k as bs x = opt c D' k as bs x := by
  unfold opt
  split
  · rename_i e; rw [h e]
  · rfl
theorem st_congr {c : Cs} {D D' : Bs → Bs → Int} {as bs : Bs} (h : ∀ k, ft k as bs = true → D (as.drop (tk k)) (bs.drop (wr k)) = D' (as.drop (tk k)) (bs.drop (wr k))) : ∀ n, st c D n as bs = st c D' n as bs
  | 0 => rfl
  | n + 1 => by
    show opt c D (n + 1) as bs (st c D n as bs) = opt c D' (n + 1) as bs (st c D' n as bs)
    rw [st_congr h n]; exact opt_congr (h _)
theorem fuel (c : Cs) : ∀ (n m : Nat) (as bs : Bs), as.length + bs.length < n → as.length + bs.length < m → dsF c n as bs = dsF c m as bs
  | 0, _, _, _, h, _ => by omega
  | _, 0, _, _, _, h => by omega
  | n + 1, m + 1, as, bs, h1, h2 => by
    show st c (dsF c n) 5 as bs = st c (dsF c m) 5 as bs
    refine st_congr (fun k hk => ?_) 5
    have := ft_less hk
    exact fuel c n m _ _ (by omega) (by omega)
theorem ds_eq (c : Cs) (as bs : Bs) : ds c as bs = st c (ds c) 5 as bs := by
  show st c (dsF c (as.length + bs.length)) 5 as bs = _
  refine st_congr (fun k hk => ?_) 5
  have := ft_less hk
  exact fuel c _ _ _ _ (by omega) (by omega)
theorem st_le {c : Cs} {D : Bs → Bs → Int} {as bs : Bs} {k : Nat} (h : ft k as bs = true) : ∀ n, k ≤ n → st c D n as bs ≤ co c k + D (as.drop (tk k)) (bs.drop (wr k))
  | 0, hk => by have := ft_kind h; omega
  | n + 1, hk => by
    show opt c D (n + 1) as bs (st c D n as bs) ≤ _
    unfold opt
    by_cases e : k = n + 1
    · subst e; rw [if_pos h]; omega
    · have := st_le (c := c) (D := D) h n (by omega)
      split <;> omega
theorem ds_le {c : Cs} {as bs : Bs} {k : Nat} (h : ft k as bs = true) : ds c as bs ≤ co c k + ds c (as.drop (tk k)) (bs.drop (wr k)) := by
  rw [ds_eq]; exact st_le h 5 (ft_kind h).2
theorem st_one {c : Cs} {D : Bs → Bs → Int} {as bs : Bs} : ∀ n, st c D n as bs = ini as bs ∨ ∃ k, ft k as bs = true ∧ st c D n as bs = co c k + D (as.drop (tk k)) (bs.drop (wr k))
  | 0 => Or.inl rfl
  | n + 1 => by
    have ih := st_one (c := c) (D := D) (as := as) (bs := bs) n
    show opt c D (n + 1) as bs (st c D n as bs) = _ ∨ ∃ k, _ ∧ opt c D (n + 1) as bs (st c D n as bs) = _
    by_cases e : ft (n + 1) as bs = true
    · have eo : opt c D (n + 1) as bs (st c D n as bs) = min (st c D n as bs) (co c (n + 1) + D (as.drop (tk (n + 1))) (bs.drop (wr (n + 1)))) := by unfold opt; rw [if_pos e]
      rw [eo]
      by_cases hm : st c D n as bs ≤ co c (n + 1) + D (as.drop (tk (n + 1))) (bs.drop (wr (n + 1)))
      · rw [Int.min_eq_left hm]; exact ih
      · exact Or.inr ⟨n + 1, e, Int.min_eq_right (by omega)⟩
    · have eo : opt c D (n + 1) as bs (st c D n as bs) = st c D n as bs := by unfold opt; rw [if_neg e]
      rw [eo]; exact ih
theorem ds_nil (c : Cs) : ds c [] [] = 0 := rfl
theorem co_nonneg {c : Cs} (h : Rc c) (k : Nat) : 0 ≤ co c k ∧ co c k ≤ 1000 := by
  obtain ⟨h1, h2, h3, h4⟩ := h
  unfold co; split <;> omega
theorem st_nonneg {c : Cs} {D : Bs → Bs → Int} (h : Rc c) (as bs : Bs) (hD : ∀ k, ft k as bs = true → 0 ≤ D (as.drop (tk k)) (bs.drop (wr k))) (n : Nat) : 0 ≤ st c D n as bs := by
  rcases st_one (c := c) (D := D) (as := as) (bs := bs) n with e | ⟨k, hk, e⟩
  · rw [e]; unfold ini; split <;> simp [top]
  · rw [e]; have := hD k hk; have := co_nonneg h k; omega
theorem dsF_nonneg {c : Cs} (h : Rc c) : ∀ n as bs, 0 ≤ dsF c n as bs
  | 0, _, _ => Int.le_refl 0
  | n + 1, as, bs => st_nonneg h as bs (fun _ _ => dsF_nonneg h n _ _) 5
theorem ds_nonneg {c : Cs} (h : Rc c) (as bs : Bs) : 0 ≤ ds c as bs := dsF_nonneg h _ _ _
theorem ds_del (c : Cs) (a : UInt8) (as bs : Bs) : ds c (a :: as) bs ≤ c.del + ds c as bs := ds_le (k := 4) (as := a :: as) (bs := bs) rfl
theorem ds_ins (c : Cs) (b : UInt8) (as bs : Bs) : ds c as (b :: bs) ≤ c.ins + ds c as bs := ds_le (k := 5) (as := as) (bs := b :: bs) (by cases as <;> rfl)
theorem ds_up (c : Cs) : ∀ (as bs : Bs), ds c as bs ≤ as.length * c.del + bs.length * c.ins
  | [], [] => by rw [ds_nil]; simp
  | [], b :: bs => by
    have := ds_ins c b [] bs
    have := ds_up c [] bs
    simp only [List.length_cons, Int.natCast_add, Int.add_mul] at *
    simp at *
    omega
  | a :: as, bs => by
    have := ds_del c a as bs
    have := ds_up c as bs
    simp only [List.length_cons, Int.natCast_add, Int.add_mul] at *
    simp at *
    omega
theorem mul_le60 {n : Nat} {x : Int} (hn : n ≤ 60) (h0 : 1 ≤ x) (h1 : x ≤ 1000) : (n : Int) * x ≤ 60000 := by
  have h := Int.mul_le_mul (a := (n : Int)) (b := x) (c := 60) (d := 1000) (by omega) h1 (by omega) (by omega)
  omega
theorem ds_top {c : Cs} (h : Rc c) {as bs : Bs} (ha : as.length ≤ 60) (hb : bs.length ≤ 60) : ds c as bs ≤ 120000 := by
  have := ds_up c as bs
  have := mul_le60 ha h.2.1.1 h.2.1.2
  have := mul_le60 hb h.1.1 h.1.2
  omega
theorem ds_bd {c : Cs} (h : Rc c) (xs ys : Bs) (ha : xs.length ≤ 60) (hb : ys.length ≤ 60) : 0 ≤ ds c xs ys ∧ ds c xs ys ≤ 120000 := ⟨ds_nonneg h xs ys, ds_top h ha hb⟩
/-- The first step of a cheapest script. -/
theorem ds_some {c : Cs} (h : Rc c) {as bs : Bs} (ha : as.length ≤ 60) (hb : bs.length ≤ 60) (hn : as ≠ [] ∨ bs ≠ []) : ∃ k, ft k as bs = true ∧ ds c as bs = co c k + ds c (as.drop (tk k)) (bs.drop (wr k)) := by
  have ht := ds_top h ha hb
  rw [ds_eq] at ht
  rcases st_one (c := c) (D := ds c) (as := as) (bs := bs) 5 with e | ⟨k, hk, e⟩
  · exfalso
    have : ini as bs = top := by
      cases as <;> cases bs <;> first | rfl | simp at hn
    rw [e, this] at ht
    unfold top at ht; omega
  · exact ⟨k, hk, by rw [ds_eq]; exact e⟩
/-- The step of a kind that writes some bytes. -/
def opO (k : Nat) (bs : Bs) : Op := ⟨k, if k = 2 ∨ k = 5 then bs.headD 0 else 0⟩
/-- A script turns a text into another one. -/
inductive Tn : List Op → Bs → Bs → Prop
  | nil : Tn [] [] []
  | cons (k : Nat) (as bs : Bs) (l : List Op) : ft k as bs = true → Tn l (as.drop (tk k)) (bs.drop (wr k)) → Tn (opO k bs :: l) as bs
def cost (c : Cs) : List Op → Int
  | [] => 0
  | o :: l => co c o.k + cost c l
theorem cost_app (c : Cs) : ∀ l m : List Op, cost c (l ++ m) = cost c l + cost c m
  | [], m => by simp [cost]
  | o :: l, m => by
    have := cost_app c l m
    simp only [List.cons_append, cost]; omega
theorem least {c : Cs} {l : List Op} {as bs : Bs} (h : Tn l as bs) : ds c as bs ≤ cost c l := by
  induction h with
  | nil => exact Int.le_refl _
  | cons k as bs l hf _ ih =>
    have := ds_le (c := c) hf
    show _ ≤ co c k + cost c l
    omega
def go (c : Cs) (as bs : Bs) (k : Nat) : Bool := ft k as bs && (co c k + ds c (as.drop (tk k)) (bs.drop (wr k)) == ds c as bs)
/-- The kind of the path's first step; 0 if there is none. -/
def nx (c : Cs) (as bs : Bs) : Nat := if go c as bs 1 then 1 else if go c as bs 2 then 2 else if go c as bs 3 then 3 else if go c as bs 4 then 4 else if go c as bs 5 then 5 else 0
def pathF (c : Cs) : Nat → Bs → Bs → List Op
  | 0, _, _ => []
  | n + 1, as, bs => if nx c as bs = 0 then [] else opO (nx c as bs) bs :: pathF c n (as.drop (tk (nx c as bs))) (bs.drop (wr (nx c as bs)))
def path (c : Cs) (as bs : Bs) : List Op := pathF c (as.length + bs.length) as bs
theorem nx_go {c : Cs} {as bs : Bs} (h : nx c as bs ≠ 0) : go c as bs (nx c as bs) = true := by
  unfold nx at *
  repeat' split at h
  all_goals first
    | (simp only [*, if_true, if_false, Bool.false_eq_true]; done)
    | (exact absurd rfl h)
theorem nx_first {c : Cs} {as bs : Bs} {k : Nat} (h : go c as bs k = true) : nx c as bs ≤ k ∧ nx c as bs ≠ 0 := by
  have hf : ft k as bs = true := by unfold go at h; exact (Bool.and_eq_true_iff.1 h).1
  have hk := ft_kind hf
  unfold nx
  have : k = 1 ∨ k = 2 ∨ k = 3 ∨ k = 4 ∨ k = 5 := by omega
  rcases this with rfl | rfl | rfl | rfl | rfl
  all_goals
    repeat' split
    all_goals first | omega | (exfalso; simp_all; done)
theorem go_iff {c : Cs} {as bs : Bs} {k : Nat} : go c as bs k = true ↔ ft k as bs = true ∧ ds c as bs = co c k + ds c (as.drop (tk k)) (bs.drop (wr k)) := by
  unfold go
  rw [Bool.and_eq_true_iff, beq_iff_eq]
  exact ⟨fun h => ⟨h.1, h.2.symm⟩, fun h => ⟨h.1, h.2.symm⟩⟩
theorem nx_nil (c : Cs) : nx c [] [] = 0 := rfl
theorem nx_ne {c : Cs} (h : Rc c) {as bs : Bs} (ha : as.length ≤ 60) (hb : bs.length ≤ 60) (hn : as ≠ [] ∨ bs ≠ []) : nx c as bs ≠ 0 := by
  obtain ⟨k, h1, h2⟩ := ds_some h ha hb hn
  exact (nx_first (go_iff.2 ⟨h1, h2⟩)).2
theorem path_tn {c : Cs} (h : Rc c) : ∀ (n : Nat) (as bs : Bs), as.length + bs.length ≤ n → as.length ≤ 60 → bs.length ≤ 60 → Tn (pathF c n as bs) as bs ∧ cost c (pathF c n as bs) = ds c as bs
  | 0, as, bs, hl, _, _ => by
    obtain rfl : as = [] := List.eq_nil_of_length_eq_zero (by omega)
    obtain rfl : bs = [] := List.eq_nil_of_length_eq_zero (by omega)
    exact ⟨Tn.nil, rfl⟩
  | n + 1, as, bs, hl, ha, hb => by
    by_cases hn : as ≠ [] ∨ bs ≠ []
    · have hx := nx_ne h ha hb hn
      obtain ⟨hf, hd⟩ := go_iff.1 (nx_go hx)
      have hs := ft_less hf
      have h1 : (as.drop (tk (nx c as bs))).length ≤ as.length := by rw [List.length_drop]; omega
      have h2 : (bs.drop (wr (nx c as bs))).length ≤ bs.length := by rw [List.length_drop]; omega
      obtain ⟨i1, i2⟩ := path_tn h n _ _ (by omega) (Nat.le_trans h1 ha) (Nat.le_trans h2 hb)
      unfold pathF
      rw [if_neg hx]
      exact ⟨Tn.cons _ _ _ _ hf i1, by rw [hd, ← i2]; rfl⟩
    · obtain ⟨rfl, rfl⟩ : as = [] ∧ bs = [] := by
        constructor
        · exact Classical.byContradiction fun e => hn (Or.inl e)
        · exact Classical.byContradiction fun e => hn (Or.inr e)
      exact ⟨Tn.nil, rfl⟩
theorem pathF_nil (c : Cs) : ∀ n, pathF c n [] [] = []
  | 0 => rfl
  | _ + 1 => rfl
theorem pathF_fuel (c : Cs) : ∀ (n m : Nat) (as bs : Bs), as.length + bs.length ≤ n → as.length + bs.length ≤ m → pathF c n as bs = pathF c m as bs
  | 0, m, as, bs, h, _ => by
    obtain rfl : as = [] := List.eq_nil_of_length_eq_zero (by omega)
    obtain rfl : bs = [] := List.eq_nil_of_length_eq_zero (by omega)
    rw [pathF_nil, pathF_nil]
  | n + 1, 0, as, bs, _, h => by
    obtain rfl : as = [] := List.eq_nil_of_length_eq_zero (by omega)
    obtain rfl : bs = [] := List.eq_nil_of_length_eq_zero (by omega)
    rw [pathF_nil, pathF_nil]
  | n + 1, m + 1, as, bs, h1, h2 => by
    unfold pathF
    by_cases e : nx c as bs = 0
    · rw [if_pos e, if_pos e]
    · rw [if_neg e, if_neg e]
      have := ft_less (go_iff.1 (nx_go e)).1
      rw [pathF_fuel c n m _ _ (by omega) (by omega)]
theorem path_end {c : Cs} {xs ys : Bs} (h : nx c xs ys = 0) : path c xs ys = [] := by
  unfold path
  cases hn : xs.length + ys.length with
  | zero => rfl
  | succ n => unfold pathF; rw [if_pos h]
theorem path_step {c : Cs} {xs ys : Bs} (h : nx c xs ys ≠ 0) : path c xs ys = opO (nx c xs ys) ys :: path c (xs.drop (tk (nx c xs ys))) (ys.drop (wr (nx c xs ys))) := by
  have hl := ft_less (go_iff.1 (nx_go h)).1
  unfold path
  cases hn : xs.length + ys.length with
  | zero => omega
  | succ n =>
    show (if nx c xs ys = 0 then [] else _ :: pathF c n _ _) = _
    rw [if_neg h, pathF_fuel c n _ _ _ (by omega) (Nat.le_refl _)]
theorem nx_is {c : Cs} {xs ys : Bs} {k : Nat} (h1 : ∀ k', 1 ≤ k' → k' < k → go c xs ys k' = false) (h2 : go c xs ys k = true) : nx c xs ys = k := by
  obtain ⟨h3, h4⟩ := nx_first h2
  by_cases e : nx c xs ys = k
  · exact e
  · have h5 := nx_go h4
    rw [h1 _ (by omega) (by omega)] at h5
    cases h5
theorem nx_none {c : Cs} {xs ys : Bs} (h1 : ∀ k', 1 ≤ k' → k' < 6 → go c xs ys k' = false) : nx c xs ys = 0 := by
  unfold nx
  rw [h1 1 (by omega) (by omega), h1 2 (by omega) (by omega), h1 3 (by omega) (by omega), h1 4 (by omega) (by omega), h1 5 (by omega) (by omega)]
  rfl
theorem path_len (c : Cs) : ∀ (n : Nat) (as bs : Bs), (pathF c n as bs).length ≤ n
  | 0, _, _ => Nat.le_refl 0
  | n + 1, as, bs => by
    unfold pathF
    split
    · exact Nat.zero_le _
    · exact Nat.succ_le_succ (path_len c n _ _)
/-- The kinds of a script come before those of another one, or are the same. -/
def bef : List Op → List Op → Bool
  | [], _ => true
  | _ :: _, [] => false
  | o :: l, p :: m => if o.k = p.k then bef l m else decide (o.k < p.k)
theorem path_first {c : Cs} {l : List Op} {as bs : Bs} (ht : Tn l as bs) : ∀ n, cost c l = ds c as bs → bef (pathF c n as bs) l = true := by
  induction ht with
  | nil => intro n _; cases n <;> rfl
  | cons k as bs l hf ht ih =>
    intro n hc
    cases n with
    | zero => rfl
    | succ n =>
      have h1 := ds_le (c := c) hf
      have h2 := least (c := c) ht
      have hc' : co c k + cost c l = ds c as bs := hc
      have hg : go c as bs k = true := go_iff.2 ⟨hf, by omega⟩
      obtain ⟨h3, h4⟩ := nx_first hg
      unfold pathF
      rw [if_neg h4]
      unfold bef
      by_cases e : nx c as bs = k
      · rw [e, if_pos rfl]
        exact ih n (by omega)
      · rw [if_neg (by exact e)]
        exact decide_eq_true (by show nx c as bs < k; omega)
/-- Scripts behind one another, backwards, and the other way round. -/
theorem ft_app {k : Nat} {as bs xs ys : Bs} (h : ft k as bs = true) : ft k (as ++ xs) (bs ++ ys) = true := by
  unfold ft at h
  split at h
  · simpa [ft] using h
  · simpa [ft] using h
  · simpa [ft] using h
  · simp [ft]
  · simp [ft]
  · cases h
theorem opO_app {k : Nat} {as bs xs : Bs} (h : ft k as bs = true) : opO k (bs ++ xs) = opO k bs := by
  unfold ft at h
  split at h <;> first | (simp [opO]; done) | cases h
theorem Tn.app {l m : List Op} {as bs xs ys : Bs} (h : Tn l as bs) (k : Tn m xs ys) : Tn (l ++ m) (as ++ xs) (bs ++ ys) := by
  induction h with
  | nil => exact k
  | cons k as bs l hf _ ih =>
    have hl := ft_len hf
    rw [List.cons_append, ← opO_app (xs := ys) hf]
    refine Tn.cons k _ _ _ (ft_app hf) ?_
    rw [List.drop_append_of_le_length hl.1, List.drop_append_of_le_length hl.2]
    exact ih
theorem Tn.one {k : Nat} {as bs : Bs} (h : ft k as bs = true) (ha : as.length = tk k) (hb : bs.length = wr k) : Tn [opO k bs] as bs :=
  Tn.cons k as bs [] h (by rw [List.drop_of_length_le (by omega), List.drop_of_length_le (by omega)]; exact Tn.nil)
theorem tn_rev {c : Cs} {l : List Op} {as bs : Bs} (h : Tn l as bs) : ∃ m, Tn m as.reverse bs.reverse ∧ cost c m = cost c l := by
  induction h with
  | nil => exact ⟨[], Tn.nil, rfl⟩
  | cons k as bs l hf _ ih =>
    obtain ⟨m, hm, hc⟩ := ih
    have hl := ft_len hf
    have ea : as.reverse = (as.drop (tk k)).reverse ++ (as.take (tk k)).reverse := by rw [← List.reverse_append, List.take_append_drop]
    have eb : bs.reverse = (bs.drop (wr k)).reverse ++ (bs.take (wr k)).reverse := by rw [← List.reverse_append, List.take_append_drop]
    have hr : ft k (as.take (tk k)).reverse (bs.take (wr k)).reverse = true := by
      unfold ft at hf
      split at hf
      · simpa [ft, tk, wr] using hf
      · simpa [ft, tk, wr] using hf
      · simp only [Bool.and_eq_true, beq_iff_eq, bne_iff_ne] at hf
        obtain ⟨⟨h1, h2⟩, h3⟩ := hf
        simp [ft, tk, wr, h1, h2]
        rw [← h1, ← h2]; exact fun e => h3 e.symm
      · simp [ft, tk, wr]
      · simp [ft, tk, wr]
      · cases hf
    refine ⟨m ++ [opO k (bs.take (wr k)).reverse], ?_, ?_⟩
    · rw [ea, eb]
      exact hm.app (Tn.one hr (by simp; omega) (by simp; omega))
    · rw [cost_app, hc]; show _ + (co c k + 0) = co c k + _; omega
/-- Insert and Delete exchanged. -/
def Cs.tw (c : Cs) : Cs := ⟨c.del, c.ins, c.chg, c.swp⟩
theorem tw_rc {c : Cs} (h : Rc c) : Rc c.tw := ⟨h.2.1, h.1, h.2.2.1, h.2.2.2⟩
def fl (k : Nat) : Nat := if k = 4 then 5 else if k = 5 then 4 else k
theorem tn_flip {c : Cs} {l : List Op} {as bs : Bs} (h : Tn l as bs) : ∃ m, Tn m bs as ∧ cost c.tw m = cost c l := by
  induction h with
  | nil => exact ⟨[], Tn.nil, rfl⟩
  | cons k as bs l hf _ ih =>
    obtain ⟨m, hm, hc⟩ := ih
    have hr : ft (fl k) bs as = true ∧ tk (fl k) = wr k ∧ wr (fl k) = tk k ∧ co c.tw (fl k) = co c k := by
      unfold ft at hf
      split at hf
      · rename_i a s b t; rw [beq_iff_eq] at hf; subst hf; exact ⟨by simp [ft, fl], rfl, rfl, rfl⟩
      · rename_i a s b t; rw [bne_iff_ne] at hf; exact ⟨by simp [ft, fl]; exact fun e => hf e.symm, rfl, rfl, rfl⟩
      · simp only [Bool.and_eq_true, beq_iff_eq, bne_iff_ne] at hf
        obtain ⟨⟨h1, h2⟩, h3⟩ := hf
        refine ⟨?_, rfl, rfl, rfl⟩
        simp [ft, fl, h1, h2]
        rw [← h1, ← h2]; exact fun e => h3 e.symm
      · exact ⟨by cases bs <;> rfl, rfl, rfl, rfl⟩
      · exact ⟨rfl, rfl, rfl, rfl⟩
      · cases hf
    obtain ⟨h1, h2, h3, h4⟩ := hr
    refine ⟨opO (fl k) as :: m, Tn.cons (fl k) bs as m h1 (by rw [h2, h3]; exact hm), ?_⟩
    show co c.tw (fl k) + _ = co c k + _
    rw [h4, hc]
/-- Apply. -/
def wn (k : Nat) (t : Bs) (b : UInt8) : Bs := match k with | 1 => t | 2 => [b] | 3 => t.drop 1 ++ t.take 1 | 4 => [] | _ => [b]
def opEq (o p : Op) : Bool := (o.k == p.k) && (o.b == p.b)
/-- What a step writes, and what it leaves. -/
def bg (o : Op) (s : Bs) : Option (Bs × Bs) :=
  if (1 ≤ o.k ∧ o.k ≤ 5) ∧ tk o.k ≤ s.length then (if ft o.k (s.take (tk o.k)) (wn o.k (s.take (tk o.k)) o.b) && opEq o (opO o.k (wn o.k (s.take (tk o.k)) o.b)) then some (wn o.k (s.take (tk o.k)) o.b, s.drop (tk o.k)) else none) else none
def ap : List Op → Bs → Option Bs
  | [], s => if s = [] then some [] else none
  | o :: l, s => match bg o s with | none => none | some (u, r) => (match ap l r with | none => none | some t => some (u ++ t))
theorem opEq_iff {o p : Op} : opEq o p = true ↔ o = p := by
  unfold opEq
  rw [Bool.and_eq_true_iff, beq_iff_eq, beq_iff_eq]
  constructor
  · intro h; cases o; cases p; simp_all
  · rintro rfl; exact ⟨rfl, rfl⟩
theorem bg_some {o : Op} {s u r : Bs} (h : bg o s = some (u, r)) (t : Bs) : ft o.k s (u ++ t) = true ∧ r = s.drop (tk o.k) ∧ (u ++ t).drop (wr o.k) = t ∧ o = opO o.k (u ++ t) := by
  unfold bg at h
  split at h
  · rename_i hk
    split at h
    · rename_i hf
      rw [Bool.and_eq_true_iff, opEq_iff] at hf
      obtain ⟨hf, ho⟩ := hf
      cases h
      have h1 := ft_app (xs := s.drop (tk o.k)) (ys := t) hf
      rw [List.take_append_drop] at h1
      refine ⟨h1, rfl, ?_, ?_⟩
      · have hk5 := hk.1
        obtain ⟨k, b⟩ := o
        have : k = 1 ∨ k = 2 ∨ k = 3 ∨ k = 4 ∨ k = 5 := by simp at hk5; omega
        have hl := hk.2
        rcases this with rfl | rfl | rfl | rfl | rfl
        · have : 1 ≤ s.length := hl
          match s, this with | x :: s, _ => simp [wn, tk, wr]
        · simp [wn, wr]
        · have : 2 ≤ s.length := hl
          match s, this with | x :: y :: s, _ => simp [wn, tk, wr]
        · simp [wn, wr]
        · simp [wn, wr]
      · rw [opO_app hf]; exact ho
    · cases h
  · cases h
theorem ap_tn : ∀ {l : List Op} {s t : Bs}, ap l s = some t → Tn l s t
  | [], s, t, h => by
    unfold ap at h
    split at h
    · rename_i e; subst e; cases h; exact Tn.nil
    · cases h
  | o :: l, s, t, h => by
    unfold ap at h
    split at h
    · cases h
    · rename_i u r hb
      split at h
      · cases h
      · rename_i x hx
        cases h
        obtain ⟨h1, rfl, h3, h4⟩ := bg_some hb x
        rw [h4]
        exact Tn.cons _ _ _ _ h1 (by rw [h3]; exact ap_tn hx)
theorem tn_ap {l : List Op} {s t : Bs} (h : Tn l s t) : ap l s = some t := by
  induction h with
  | nil => rfl
  | cons k as bs l hf _ ih =>
    have hl := ft_len hf
    have hk := ft_kind hf
    have hw : wn k (as.take (tk k)) (opO k bs).b = bs.take (wr k) := by
      unfold ft at hf
      split at hf
      · rename_i a s b t; rw [beq_iff_eq] at hf; subst hf; simp [wn, tk, wr]
      · simp [wn, wr, opO]
      · simp only [Bool.and_eq_true, beq_iff_eq, bne_iff_ne] at hf
        obtain ⟨⟨h1, h2⟩, h3⟩ := hf
        simp [wn, tk, wr, h1, h2]
      · simp [wn, wr]
      · simp [wn, wr, opO]
      · cases hf
    have hf2 : ft k (as.take (tk k)) (bs.take (wr k)) = true := by
      unfold ft at hf
      split at hf
      · simpa [ft, tk, wr] using hf
      · simpa [ft, tk, wr] using hf
      · simpa [ft, tk, wr] using hf
      · simp [ft, tk]
      · simp [ft, wr]
      · cases hf
    have ho : opO k (bs.take (wr k)) = opO k bs := by
      have := opO_app (xs := bs.drop (wr k)) hf2
      rw [List.take_append_drop] at this; exact this.symm
    have hb : bg (opO k bs) as = some (bs.take (wr k), as.drop (tk k)) := by
      unfold bg
      rw [if_pos ⟨hk, hl.1⟩]
      show (if ft k (as.take (tk k)) (wn k (as.take (tk k)) (opO k bs).b) && opEq (opO k bs) (opO k (wn k (as.take (tk k)) (opO k bs).b)) then some (wn k (as.take (tk k)) (opO k bs).b, as.drop (tk k)) else none) = _
      rw [hw, hf2, ho, opEq_iff.2 rfl]; rfl
    unfold ap
    rw [hb]
    show (match ap l (as.drop (tk k)) with | none => none | some t => some (bs.take (wr k) ++ t)) = _
    rw [ih]
    show some (bs.take (wr k) ++ bs.drop (wr k)) = some bs
    rw [List.take_append_drop]
/-- The consequences. -/
theorem ds_path {c : Cs} (h : Rc c) {as bs : Bs} (ha : as.length ≤ 60) (hb : bs.length ≤ 60) : Tn (path c as bs) as bs ∧ cost c (path c as bs) = ds c as bs ∧ (path c as bs).length ≤ 120 := by
  obtain ⟨h1, h2⟩ := path_tn h _ as bs (Nat.le_refl _) ha hb
  exact ⟨h1, h2, by have := path_len c (as.length + bs.length) as bs; unfold path; omega⟩
theorem ds_rev {c : Cs} (h : Rc c) {as bs : Bs} (ha : as.length ≤ 60) (hb : bs.length ≤ 60) : ds c as.reverse bs.reverse = ds c as bs := by
  obtain ⟨h1, h2, _⟩ := ds_path h ha hb
  obtain ⟨k1, k2, _⟩ := ds_path h (as := as.reverse) (bs := bs.reverse) (by simpa using ha) (by simpa using hb)
  obtain ⟨m, m1, m2⟩ := tn_rev (c := c) h1
  obtain ⟨n, n1, n2⟩ := tn_rev (c := c) k1
  rw [List.reverse_reverse, List.reverse_reverse] at n1
  have := least (c := c) m1
  have := least (c := c) n1
  omega
theorem ds_tw {c : Cs} (h : Rc c) {as bs : Bs} (ha : as.length ≤ 60) (hb : bs.length ≤ 60) : ds c.tw bs as = ds c as bs := by
  obtain ⟨h1, h2, _⟩ := ds_path h ha hb
  obtain ⟨k1, k2, _⟩ := ds_path (tw_rc h) hb ha
  obtain ⟨m, m1, m2⟩ := tn_flip (c := c) h1
  obtain ⟨n, n1, n2⟩ := tn_flip (c := c.tw) k1
  have := least (c := c.tw) m1
  have := least (c := c.tw.tw) n1
  have e : c.tw.tw = c := rfl
  rw [e] at this n2
  omega
theorem ds_app {c : Cs} (h : Rc c) {as bs xs ys : Bs} (ha : as.length ≤ 30) (hb : bs.length ≤ 30) (hx : xs.length ≤ 30) (hy : ys.length ≤ 30) : ds c (as ++ xs) (bs ++ ys) ≤ ds c as bs + ds c xs ys := by
  obtain ⟨h1, h2, _⟩ := ds_path h (as := as) (bs := bs) (by omega) (by omega)
  obtain ⟨k1, k2, _⟩ := ds_path h (as := xs) (bs := ys) (by omega) (by omega)
  have := least (c := c) (h1.app k1)
  rw [cost_app] at this
  omega
theorem ds_self {c : Cs} (h : Rc c) : ∀ as : Bs, ds c as as = 0
  | [] => rfl
  | a :: as => by
    have h1 := ds_le (c := c) (k := 1) (as := a :: as) (bs := a :: as) (by simp [ft])
    have h2 := ds_self h as
    have h3 := ds_nonneg h (a :: as) (a :: as)
    have e : co c 1 + ds c ((a :: as).drop (tk 1)) ((a :: as).drop (wr 1)) = 0 + ds c as as := rfl
    omega
theorem cost_nonneg {c : Cs} (h : Rc c) : ∀ l, 0 ≤ cost c l
  | [] => Int.le_refl 0
  | o :: l => by
    have := cost_nonneg h l
    have := co_nonneg h o.k
    show 0 ≤ co c o.k + cost c l
    omega
theorem tn_zero {c : Cs} (h : Rc c) {l : List Op} {as bs : Bs} (ht : Tn l as bs) : cost c l = 0 → as = bs := by
  induction ht with
  | nil => exact fun _ => rfl
  | cons k as bs l hf ht ih =>
    intro hc
    have hc' : co c k + cost c l = 0 := hc
    have h1 := cost_nonneg h l
    have h2 := co_nonneg h k
    have ih' := ih (by omega)
    have h3 : co c k = 0 := by omega
    obtain ⟨g1, g2, g3, g4⟩ := h
    unfold ft at hf
    split at hf
    · rename_i a s b t; rw [beq_iff_eq] at hf; subst hf
      have : s = t := ih'
      rw [this]
    · have : co c 2 = c.chg := rfl
      omega
    · have : co c 3 = c.swp := rfl
      omega
    · have : co c 4 = c.del := rfl
      omega
    · have : co c 5 = c.ins := rfl
      omega
    · cases hf
theorem ds_zero {c : Cs} (h : Rc c) {as bs : Bs} (ha : as.length ≤ 60) (hb : bs.length ≤ 60) : ds c as bs = 0 ↔ as = bs := by
  constructor
  · intro e
    obtain ⟨h1, h2, _⟩ := ds_path h ha hb
    exact tn_zero h h1 (by omega)
  · rintro rfl; exact ds_self h as
end Ed
end Go.Proofs.Ytkhgjjbiifbfgaa
