/- 'search': the least cost by trying all scripts. -/
import Derived.Test.YtalldnnegofdkaaEo
import Derived.Laws.IdiomStrings
namespace Go.Proofs.Ytalldnnegofdkaa
namespace Ed
/-- The running least over the kinds up to n. -/
def mn (c : Cs) (D : Bs → Bs → Int) : Nat → Bs → Bs → Int
  | 0, _, _ => 1073741824
  | n + 1, us, vs => opt c D (n + 1) us vs (mn c D n us vs)
theorem mn_le {c : Cs} {D : Bs → Bs → Int} {us vs : Bs} {k : Nat} (h : ft k us vs = true) : ∀ n, k ≤ n → mn c D n us vs ≤ co c k + D (us.drop (tk k)) (vs.drop (wr k))
  | 0, hk => by have := ft_kind h; omega
  | n + 1, hk => by
    show opt c D (n + 1) us vs (mn c D n us vs) ≤ _
    unfold opt
    by_cases e : k = n + 1
    · subst e; rw [if_pos h]; omega
    · have := mn_le (c := c) (D := D) h n (by omega)
      split <;> omega
theorem mn_one {c : Cs} {D : Bs → Bs → Int} {us vs : Bs} : ∀ n, mn c D n us vs = 1073741824 ∨ ∃ k, ft k us vs = true ∧ mn c D n us vs = co c k + D (us.drop (tk k)) (vs.drop (wr k))
  | 0 => Or.inl rfl
  | n + 1 => by
    have ih := mn_one (c := c) (D := D) (us := us) (vs := vs) n
    show opt c D (n + 1) us vs (mn c D n us vs) = _ ∨ ∃ k, _ ∧ opt c D (n + 1) us vs (mn c D n us vs) = _
    by_cases e : ft (n + 1) us vs = true
    · have eo : opt c D (n + 1) us vs (mn c D n us vs) = min (mn c D n us vs) (co c (n + 1) + D (us.drop (tk (n + 1))) (vs.drop (wr (n + 1)))) := by unfold opt; rw [if_pos e]
      rw [eo]
      by_cases hm : mn c D n us vs ≤ co c (n + 1) + D (us.drop (tk (n + 1))) (vs.drop (wr (n + 1)))
      · rw [Int.min_eq_left hm]; exact ih
      · exact Or.inr ⟨n + 1, e, Int.min_eq_right (by omega)⟩
    · have eo : opt c D (n + 1) us vs (mn c D n us vs) = mn c D n us vs := by unfold opt; rw [if_neg e]
      rw [eo]; exact ih
theorem mn_ds {c : Cs} (h : Rc c) {us vs : Bs} (ha : us.length ≤ 60) (hb : vs.length ≤ 60) (hn : us ≠ [] ∨ vs ≠ []) : mn c (ds c) 5 us vs = ds c us vs := by
  obtain ⟨k, hk, e⟩ := ds_some h ha hb hn
  have h1 := mn_le (c := c) (D := ds c) hk 5 (ft_kind hk).2
  have h2 := ds_top h ha hb
  rcases mn_one (c := c) (D := ds c) (us := us) (vs := vs) 5 with e' | ⟨k', hk', e'⟩
  · omega
  · have := ds_le (c := c) hk'; omega
theorem mn_yes {c : Cs} {D : Bs → Bs → Int} {n : Nat} {us vs : Bs} (h : ft (n + 1) us vs = true) : mn c D (n + 1) us vs = min (mn c D n us vs) (co c (n + 1) + D (us.drop (tk (n + 1))) (vs.drop (wr (n + 1)))) := by
  show opt c D (n + 1) us vs (mn c D n us vs) = _
  unfold opt; rw [if_pos h]
theorem mn_no {c : Cs} {D : Bs → Bs → Int} {n : Nat} {us vs : Bs} (h : ft (n + 1) us vs = false) : mn c D (n + 1) us vs = mn c D n us vs := by
  show opt c D (n + 1) us vs (mn c D n us vs) = _
  unfold opt; rw [if_neg (by rw [h]; exact Bool.false_ne_true)]
theorem mn_2 (c : Cs) (D : Bs → Bs → Int) (a : UInt8) (x : Bs) (b : UInt8) (y : Bs) : mn c D 2 (a :: x) (b :: y) = min (1073741824 : Int) ((if a = b then 0 else c.chg) + D x y) := by
  by_cases hab : a = b
  · rw [mn_no (by show (a != b) = false; rw [bne, beq_iff_eq.2 hab]; rfl), mn_yes (by exact beq_iff_eq.2 hab), if_pos hab]; rfl
  · rw [mn_yes (by exact bne_iff_ne.2 hab), mn_no (by exact beq_eq_false_iff_ne.2 hab), if_neg hab]; rfl
theorem mn_3 (c : Cs) (D : Bs → Bs → Int) (a : UInt8) (x : Bs) (b : UInt8) (y : Bs) (h : ft 3 (a :: x) (b :: y) = true) : min (mn c D 2 (a :: x) (b :: y)) (c.swp + D (x.drop 1) (y.drop 1)) = mn c D 3 (a :: x) (b :: y) := (mn_yes (n := 2) h).symm
theorem mn_3n (c : Cs) (D : Bs → Bs → Int) (us vs : Bs) (h : ft 3 us vs = false) : mn c D 3 us vs = mn c D 2 us vs := mn_no (n := 2) h
theorem mn_4 (c : Cs) (D : Bs → Bs → Int) (a : UInt8) (x vs : Bs) : min (mn c D 3 (a :: x) vs) (c.del + D x vs) = mn c D 4 (a :: x) vs := (mn_yes (n := 3) rfl).symm
theorem mn_5 (c : Cs) (D : Bs → Bs → Int) (a : UInt8) (x : Bs) (b : UInt8) (y : Bs) : min (mn c D 4 (a :: x) (b :: y)) (c.ins + D (a :: x) y) = mn c D 5 (a :: x) (b :: y) := (mn_yes (n := 4) rfl).symm
theorem mn_bd {c : Cs} (h : Rc c) {us vs : Bs} (n : Nat) : 0 ≤ mn c (ds c) n us vs ∧ mn c (ds c) n us vs ≤ 1073741824 := by
  induction n with
  | zero => exact ⟨by show (0 : Int) ≤ 1073741824; omega, Int.le_refl _⟩
  | succ n ih =>
    show 0 ≤ opt c (ds c) (n + 1) us vs (mn c (ds c) n us vs) ∧ opt c (ds c) (n + 1) us vs (mn c (ds c) n us vs) ≤ 1073741824
    unfold opt
    have := (co_nonneg h (n + 1)).1
    have := ds_nonneg h (us.drop (tk (n + 1))) (vs.drop (wr (n + 1)))
    split <;> omega
theorem tail_is (l : Bs) (a : ByteArray) (n : Nat) (h : a = ⟨l.toArray⟩) : a.extract n a.size = ⟨(l.drop n).toArray⟩ := by
  rw [extract_is, h, size_is]
  show (⟨((l.drop n).take (l.length - n)).toArray⟩ : ByteArray) = _
  rw [List.take_of_length_le (by rw [List.length_drop]; exact Nat.le_refl _)]
theorem ne_empty (a : UInt8) (x : Bs) : ¬ ((⟨(a :: x).toArray⟩ : ByteArray) = ⟨#[]⟩) := fun e => by
  have := congrArg ByteArray.size e
  rw [size_is] at this
  have h : x.length + 1 = 0 := this
  omega
end Ed
end Go.Proofs.Ytalldnnegofdkaa
