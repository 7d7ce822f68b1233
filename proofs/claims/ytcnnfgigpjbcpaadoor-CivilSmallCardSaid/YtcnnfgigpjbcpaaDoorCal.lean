/- Plain mathematics of days and dates: nothing of any program stands here. -/
namespace Go.Proofs.YtcnnfgigpjbcpaaDoor
namespace Cal

/-- How many days of an ordinary year are ahead of each month. -/
def tab : List Int := [0, 31, 59, 90, 120, 151, 181, 212, 243, 273, 304, 334, 365]
/-- A leap year. -/
def lp (y : Int) : Bool := decide (y % 4 = 0 ∧ (¬ y % 100 = 0 ∨ y % 400 = 0))
/-- How many days of a year are ahead of a month. -/
def ms (m : Int) (l : Bool) : Int := tab.getD (m - 1).toNat 0 + if l = true ∧ 2 < m then 1 else 0
/-- The first day of the year that so many years follow the first one. -/
def ys (k : Int) : Int := 365 * k + k / 4 - k / 100 + k / 400
/-- How many days a month has. -/
def dim (l : Bool) (m : Int) : Int := ms (m + 1) l - ms m l
/-- A number, and the date of it. -/
structure IsDate (n y m d : Int) : Prop where
  y1 : 2001 ≤ y
  y2 : y ≤ 4000
  m1 : 1 ≤ m
  m2 : m ≤ 12
  d1 : 1 ≤ d
  d2 : d ≤ dim (lp y) m
  eq : n = ys (y - 2001) + ms m (lp y) + d - 1

theorem b2i (b : Bool) : (if b = true then (1 : Int) else 0) = 0 ∨ (if b = true then (1 : Int) else 0) = 1 := by cases b <;> simp
theorem lp_iff (y : Int) : lp y = true ↔ (y % 4 = 0 ∧ (¬ y % 100 = 0 ∨ y % 400 = 0)) := by unfold lp; exact decide_eq_true_iff
theorem ys_succ (k : Int) : ys (k + 1) = ys k + 365 + if lp (2001 + k) = true then 1 else 0 := by
  have h := lp_iff (2001 + k)
  unfold ys
  by_cases c : lp (2001 + k) = true
  · rw [if_pos c]; have := h.1 c; omega
  · rw [if_neg c]; have : ¬ _ := fun x => c (h.2 x); omega
theorem ys_mono (a b : Int) (h : a ≤ b) : ys a ≤ ys b := by
  unfold ys
  by_cases e : a = b
  · subst e; omega
  · omega
theorem ys_bd (k : Int) (h0 : 0 ≤ k) (h : k ≤ 2000) : 0 ≤ ys k ∧ ys k ≤ 730485 := by unfold ys; omega
theorem ys_0 : ys 0 = 0 := by decide
theorem ys_2000 : ys 2000 = 730485 := by decide

theorem ms_tab : ∀ (a : Fin 14) (l : Bool), 1 ≤ a.val → 0 ≤ ms (a.val : Int) l ∧ ms (a.val : Int) l ≤ 366 := by decide
theorem ms_step : ∀ (a : Fin 13) (l : Bool), 1 ≤ a.val → 28 ≤ dim l (a.val : Int) ∧ dim l (a.val : Int) ≤ 31 := by decide
theorem ms_mon : ∀ (a b : Fin 14) (l : Bool), 1 ≤ a.val → a.val ≤ b.val → ms (a.val : Int) l ≤ ms (b.val : Int) l := by decide
theorem ms_bd (m : Int) (l : Bool) (h1 : 1 ≤ m) (h2 : m ≤ 13) : 0 ≤ ms m l ∧ ms m l ≤ 366 := by
  obtain ⟨k, rfl⟩ : ∃ k : Nat, m = k := ⟨m.toNat, by omega⟩
  exact ms_tab ⟨k, by omega⟩ l (by show 1 ≤ k; omega)
theorem dim_bd (m : Int) (l : Bool) (h1 : 1 ≤ m) (h2 : m ≤ 12) : 28 ≤ dim l m ∧ dim l m ≤ 31 := by
  obtain ⟨k, rfl⟩ : ∃ k : Nat, m = k := ⟨m.toNat, by omega⟩
  exact ms_step ⟨k, by omega⟩ l (by show 1 ≤ k; omega)
theorem ms_mono (a b : Int) (l : Bool) (h1 : 1 ≤ a) (h : a ≤ b) (h2 : b ≤ 13) : ms a l ≤ ms b l := by
  obtain ⟨k, rfl⟩ : ∃ k : Nat, a = k := ⟨a.toNat, by omega⟩
  obtain ⟨j, rfl⟩ : ∃ j : Nat, b = j := ⟨b.toNat, by omega⟩
  exact ms_mon ⟨k, by omega⟩ ⟨j, by omega⟩ l (by show 1 ≤ k; omega) (by show k ≤ j; omega)
theorem ms_1 (l : Bool) : ms 1 l = 0 := by cases l <;> decide
theorem ms_13 (l : Bool) : ms 13 l = 365 + if l = true then 1 else 0 := by cases l <;> decide
theorem ms_succ (m : Int) (l : Bool) : ms (m + 1) l = ms m l + dim l m := by unfold dim; omega

theorem IsDate.rng {n y m d : Int} (h : IsDate n y m d) : ys (y - 2001) ≤ n ∧ n < ys (y - 2001 + 1) := by
  obtain ⟨y1, y2, m1, m2, d1, d2, rfl⟩ := h
  have a := ms_bd m (lp y) m1 (by omega)
  have b := ms_mono (m + 1) 13 (lp y) (by omega) (by omega) (by omega)
  have c := ms_13 (lp y)
  have s := ys_succ (y - 2001)
  rw [show 2001 + (y - 2001) = y by omega] at s
  have t := ms_succ m (lp y)
  constructor <;> omega
theorem IsDate.bd {n y m d : Int} (h : IsDate n y m d) : 0 ≤ n ∧ n ≤ 730484 := by
  have r := h.rng
  have a := ys_bd (y - 2001) (by have := h.y1; omega) (by have := h.y2; omega)
  have b := ys_bd (y - 2001 + 1) (by have := h.y1; omega) (by have := h.y2; omega)
  omega
/-- A number has one date. -/
theorem IsDate.uniq {n y m d y' m' d' : Int} (h : IsDate n y m d) (h' : IsDate n y' m' d') : y = y' ∧ m = m' ∧ d = d' := by
  have r := h.rng
  have r' := h'.rng
  have e : y = y' := by
    by_cases c : y < y'
    · have := ys_mono (y - 2001 + 1) (y' - 2001) (by omega); omega
    · by_cases c' : y' < y
      · have := ys_mono (y' - 2001 + 1) (y - 2001) (by omega); omega
      · omega
  subst e
  obtain ⟨_, _, m1, m2, d1, d2, e⟩ := h
  obtain ⟨_, _, m1', m2', d1', d2', e'⟩ := h'
  have s := ms_succ m (lp y)
  have s' := ms_succ m' (lp y)
  have em : m = m' := by
    by_cases c : m < m'
    · have := ms_mono (m + 1) m' (lp y) (by omega) (by omega) (by omega); omega
    · by_cases c' : m' < m
      · have := ms_mono (m' + 1) m (lp y) (by omega) (by omega) (by omega); omega
      · omega
  subst em
  exact ⟨rfl, rfl, by omega⟩
/-- Where the search of the year and of the month ends there is the date. -/
theorem mk {n k m : Int} (hk0 : 0 ≤ k) (hk : k < 2000) (_h1 : ys k ≤ n) (hm1 : 1 ≤ m) (hm2 : m ≤ 12) (h3 : ms m (lp (2001 + k)) ≤ n - ys k) (h4 : n - ys k < ms (m + 1) (lp (2001 + k))) : IsDate n (2001 + k) m (n - ys k - ms m (lp (2001 + k)) + 1) :=
  ⟨by omega, by omega, hm1, hm2, by omega, by unfold dim; omega, by rw [show 2001 + k - 2001 = k by omega]; omega⟩

/-- The year that holds a day. -/
theorem year_ex (n : Int) (h0 : 0 ≤ n) (h : n ≤ 730484) : ∃ k : Int, 0 ≤ k ∧ k < 2000 ∧ ys k ≤ n ∧ n < ys (k + 1) := by
  have : ∀ f : Nat, ∀ k : Int, 0 ≤ k → k < 2000 → 2000 - k ≤ f → ys k ≤ n → ∃ k : Int, 0 ≤ k ∧ k < 2000 ∧ ys k ≤ n ∧ n < ys (k + 1) := by
    intro f
    induction f with
    | zero => intro k _ h2 h3 _; omega
    | succ f ih =>
      intro k h1 h2 h3 h4
      by_cases c : n < ys (k + 1)
      · exact ⟨k, h1, h2, h4, c⟩
      · by_cases e : k = 1999
        · subst e; have : ys (1999 + 1) = 730485 := ys_2000; omega
        · exact ih (k + 1) (by omega) (by omega) (by omega) (by omega)
  exact this 2000 0 (by omega) (by omega) (by omega) (by rw [ys_0]; omega)
theorem month_ex (r : Int) (l : Bool) (h0 : 0 ≤ r) (h : r < ms 13 l) : ∃ m : Int, 1 ≤ m ∧ m ≤ 12 ∧ ms m l ≤ r ∧ r < ms (m + 1) l := by
  have : ∀ f : Nat, ∀ m : Int, 1 ≤ m → m ≤ 12 → 13 - m ≤ f → ms m l ≤ r → ∃ m : Int, 1 ≤ m ∧ m ≤ 12 ∧ ms m l ≤ r ∧ r < ms (m + 1) l := by
    intro f
    induction f with
    | zero => intro k _ h2 h3 _; omega
    | succ f ih =>
      intro m h1 h2 h3 h4
      by_cases c : r < ms (m + 1) l
      · exact ⟨m, h1, h2, h4, c⟩
      · by_cases e : m = 12
        · subst e; exact absurd h c
        · exact ih (m + 1) (by omega) (by omega) (by omega) (by omega)
  exact this 13 1 (by omega) (by omega) (by omega) (by rw [ms_1]; omega)
theorem date_ex (n : Int) (h0 : 0 ≤ n) (h : n ≤ 730484) : ∃ p : Int × Int × Int, IsDate n p.1 p.2.1 p.2.2 := by
  obtain ⟨k, k0, k1, k2, k3⟩ := year_ex n h0 h
  have s := ys_succ k
  have c := ms_13 (lp (2001 + k))
  obtain ⟨m, m1, m2, m3, m4⟩ := month_ex (n - ys k) (lp (2001 + k)) (by omega) (by omega)
  exact ⟨(_, m, _), mk k0 k1 k2 m1 m2 m3 m4⟩
/-- The date of a day. -/
noncomputable def date (n : Int) : Int × Int × Int := if h : 0 ≤ n ∧ n ≤ 730484 then Classical.choose (date_ex n h.1 h.2) else (0, 0, 0)
noncomputable def yOf (n : Int) : Int := (date n).1
noncomputable def mOf (n : Int) : Int := (date n).2.1
noncomputable def dOf (n : Int) : Int := (date n).2.2
theorem date_is (n : Int) (h0 : 0 ≤ n) (h : n ≤ 730484) : IsDate n (yOf n) (mOf n) (dOf n) := by
  unfold yOf mOf dOf date
  rw [dif_pos ⟨h0, h⟩]
  exact Classical.choose_spec (date_ex n h0 h)
theorem IsDate.of {n y m d : Int} (h : IsDate n y m d) : yOf n = y ∧ mOf n = m ∧ dOf n = d := (date_is n h.bd.1 h.bd.2).uniq h
/-- A bool that three numbers are a date. -/
def ok (y m d : Int) : Bool := decide (2001 ≤ y ∧ y ≤ 4000 ∧ 1 ≤ m ∧ m ≤ 12 ∧ 1 ≤ d ∧ d ≤ dim (lp y) m)
/-- The day of a date. -/
def num (y m d : Int) : Int := ys (y - 2001) + ms m (lp y) + d - 1
theorem ok_iff (y m d : Int) : ok y m d = true ↔ IsDate (num y m d) y m d := by
  unfold ok
  rw [decide_eq_true_iff]
  exact ⟨fun ⟨a, b, c, d, e, f⟩ => ⟨a, b, c, d, e, f, rfl⟩, fun h => ⟨h.1, h.2, h.3, h.4, h.5, h.6⟩⟩
theorem IsDate.num_eq {n y m d : Int} (h : IsDate n y m d) : num y m d = n := h.eq.symm
theorem IsDate.isok {n y m d : Int} (h : IsDate n y m d) : ok y m d = true := (ok_iff y m d).2 (by rw [h.num_eq]; exact h)
end Cal
end Go.Proofs.YtcnnfgigpjbcpaaDoor
