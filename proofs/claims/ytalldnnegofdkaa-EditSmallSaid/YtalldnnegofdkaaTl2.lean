/- The reference's fits for all kinds; its running least. -/
import Derived.Test.YtalldnnegofdkaaTl1
namespace Go.Proofs.Ytalldnnegofdkaa
open Go.RowKit Go.Shelf

theorem rfits_any (k : Nat) (hk : 1 ≤ k ∧ k ≤ 5) (xs ys : Ed.Bs) (c : Ed.Cs) (w : World) : Calls Try.prog 47 #[.int .u8 (k : Nat), sb xs, sb ys, cv c] w fun e w' => e = .returned (.tuple #[.bool (Ed.ft k xs ys), .int .i64 (Ed.tk k), .int .i64 (Ed.wr k), .int .i64 (Ed.co c k)]) ∧ Below w.heap.size w w' := by
  have : k = 1 ∨ k = 2 ∨ k = 3 ∨ k = 4 ∨ k = 5 := by omega
  rcases this with rfl | rfl | rfl | rfl | rfl
  · match xs, ys with
    | [], ys => rw [show Ed.ft 1 [] ys = false from rfl]; exact rfits1_1 ys c w
    | a :: x, [] => rw [show Ed.ft 1 (a :: x) [] = false from rfl]; exact rfits1_2 a x c w
    | a :: x, b :: y =>
      by_cases h : a = b
      · rw [show Ed.ft 1 (a :: x) (b :: y) = true from beq_iff_eq.2 h]; exact rfits1_3 a b x y c w h
      · rw [show Ed.ft 1 (a :: x) (b :: y) = false from beq_eq_false_iff_ne.2 h]; exact rfits1_4 a b x y c w h
  · match xs, ys with
    | [], ys => rw [show Ed.ft 2 [] ys = false from rfl]; exact rfits2_5 ys c w
    | a :: x, [] => rw [show Ed.ft 2 (a :: x) [] = false from rfl]; exact rfits2_6 a x c w
    | a :: x, b :: y =>
      by_cases h : a = b
      · rw [show Ed.ft 2 (a :: x) (b :: y) = false from by show (a != b) = false; rw [bne, beq_iff_eq.2 h]; rfl]; exact rfits2_7 a b x y c w h
      · rw [show Ed.ft 2 (a :: x) (b :: y) = true from bne_iff_ne.2 h]; exact rfits2_8 a b x y c w h
  · match xs, ys with
    | [], ys => rw [show Ed.ft 3 [] ys = false from rfl]; exact rfits3_9 ys c w
    | [a], ys => rw [show Ed.ft 3 [a] ys = false from rfl]; exact rfits3_10 a ys c w
    | a :: a' :: x, [] => rw [show Ed.ft 3 (a :: a' :: x) [] = false from rfl]; exact rfits3_11 a a' x [] c w (by simp)
    | a :: a' :: x, [b] => rw [show Ed.ft 3 (a :: a' :: x) [b] = false from rfl]; exact rfits3_11 a a' x [b] c w (by simp)
    | a :: a' :: x, b :: b' :: y =>
      have E : Ed.ft 3 (a :: a' :: x) (b :: b' :: y) = ((a == b' && a' == b) && a != a') := rfl
      by_cases h : a = a'
      · rw [show Ed.ft 3 (a :: a' :: x) (b :: b' :: y) = false from by rw [E, bne, beq_iff_eq.2 h]; simp]; exact rfits3_13 a a' b b' x y c w h
      · by_cases h1 : a = b'
        · by_cases h2 : a' = b
          · rw [show Ed.ft 3 (a :: a' :: x) (b :: b' :: y) = true from by rw [E, beq_iff_eq.2 h1, beq_iff_eq.2 h2, bne_iff_ne.2 h]; rfl]; exact rfits3_16 a a' b b' x y c w h h1 h2
          · rw [show Ed.ft 3 (a :: a' :: x) (b :: b' :: y) = false from by rw [E, beq_eq_false_iff_ne.2 h2]; simp]; exact rfits3_15 a a' b b' x y c w h h1 h2
        · rw [show Ed.ft 3 (a :: a' :: x) (b :: b' :: y) = false from by rw [E, beq_eq_false_iff_ne.2 h1]; simp]; exact rfits3_14 a a' b b' x y c w h h1
  · match xs with
    | [] => rw [show Ed.ft 4 [] ys = false from by cases ys <;> rfl]; exact rfits4_17 ys c w
    | a :: x => rw [show Ed.ft 4 (a :: x) ys = true from rfl]; exact rfits4_18 a x ys c w
  · match ys with
    | [] => rw [show Ed.ft 5 xs [] = false from by cases xs <;> rfl]; exact rfits5_19 xs c w
    | b :: y => rw [show Ed.ft 5 xs (b :: y) = true from by cases xs <;> rfl]; exact rfits5_20 b xs y c w
namespace Ed
def rini (us vs : Bs) : Int := match us, vs with | [], [] => 0 | _, _ => -1
/-- The reference's running least; -1 if nothing fits. -/
def rb (c : Cs) (D : Bs → Bs → Int) : Nat → Bs → Bs → Int
  | 0, us, vs => rini us vs
  | n + 1, us, vs => if ft (n + 1) us vs = true ∧ (rb c D n us vs < 0 ∨ co c (n + 1) + D (us.drop (tk (n + 1))) (vs.drop (wr (n + 1))) < rb c D n us vs) then co c (n + 1) + D (us.drop (tk (n + 1))) (vs.drop (wr (n + 1))) else rb c D n us vs
theorem rb_inv {c : Cs} {D : Bs → Bs → Int} {us vs : Bs} (hD : ∀ k, ft k us vs = true → 0 ≤ co c k + D (us.drop (tk k)) (vs.drop (wr k))) (hn : us ≠ [] ∨ vs ≠ []) : ∀ n,
    (rb c D n us vs = -1 ∧ ∀ k, k ≤ n → ft k us vs = false) ∨
    (0 ≤ rb c D n us vs ∧ (∃ k, ft k us vs = true ∧ rb c D n us vs = co c k + D (us.drop (tk k)) (vs.drop (wr k))) ∧ ∀ k, k ≤ n → ft k us vs = true → rb c D n us vs ≤ co c k + D (us.drop (tk k)) (vs.drop (wr k)))
  | 0 => by
    refine Or.inl ⟨?_, fun k hk => ?_⟩
    · cases us <;> cases vs <;> first | rfl | simp at hn
    · cases e : ft k us vs with
      | false => rfl
      | true => have := ft_kind e; omega
  | n + 1 => by
    have ih := rb_inv (c := c) (D := D) hD hn n
    have E : rb c D (n + 1) us vs = if ft (n + 1) us vs = true ∧ (rb c D n us vs < 0 ∨ co c (n + 1) + D (us.drop (tk (n + 1))) (vs.drop (wr (n + 1))) < rb c D n us vs) then co c (n + 1) + D (us.drop (tk (n + 1))) (vs.drop (wr (n + 1))) else rb c D n us vs := rfl
    rw [E]
    cases hf : ft (n + 1) us vs with
    | false =>
      rw [if_neg (fun h => by cases h.1)]
      rcases ih with ⟨h1, h2⟩ | ⟨h1, h2, h3⟩
      · refine Or.inl ⟨h1, fun k hk => ?_⟩
        by_cases e : k = n + 1
        · rw [e, hf]
        · exact h2 k (by omega)
      · refine Or.inr ⟨h1, h2, fun k hk hk2 => ?_⟩
        by_cases e : k = n + 1
        · rw [e, hf] at hk2; cases hk2
        · exact h3 k (by omega) hk2
    | true =>
      have h0 := hD (n + 1) hf
      by_cases hl : rb c D n us vs < 0 ∨ co c (n + 1) + D (us.drop (tk (n + 1))) (vs.drop (wr (n + 1))) < rb c D n us vs
      · rw [if_pos ⟨rfl, hl⟩]
        refine Or.inr ⟨h0, ⟨n + 1, hf, rfl⟩, fun k hk hk2 => ?_⟩
        by_cases e : k = n + 1
        · rw [e]; exact Int.le_refl _
        · rcases ih with ⟨h1, h2⟩ | ⟨h1, h2, h3⟩
          · rw [h2 k (by omega)] at hk2; cases hk2
          · have := h3 k (by omega) hk2; omega
      · rw [if_neg (fun h => hl h.2)]
        rcases ih with ⟨h1, h2⟩ | ⟨h1, h2, h3⟩
        · exact absurd (Or.inl (by omega)) hl
        · refine Or.inr ⟨h1, h2, fun k hk hk2 => ?_⟩
          by_cases e : k = n + 1
          · rw [e]; omega
          · exact h3 k (by omega) hk2
theorem rb_ds {c : Cs} (h : Rc c) {us vs : Bs} (ha : us.length ≤ 60) (hb : vs.length ≤ 60) : rb c (ds c) 5 us vs = ds c us vs := by
  by_cases hn : us ≠ [] ∨ vs ≠ []
  · have hD : ∀ k, ft k us vs = true → 0 ≤ co c k + ds c (us.drop (tk k)) (vs.drop (wr k)) := fun k _ => by
      have := (co_nonneg h k).1
      have := ds_nonneg h (us.drop (tk k)) (vs.drop (wr k))
      omega
    obtain ⟨k, hk, e⟩ := ds_some h ha hb hn
    rcases rb_inv hD hn 5 with ⟨h1, h2⟩ | ⟨h1, ⟨k', hk', e'⟩, h3⟩
    · rw [h2 k (ft_kind hk).2] at hk; cases hk
    · have h4 := h3 k (ft_kind hk).2 hk
      have h5 := ds_le (c := c) hk'
      omega
  · obtain ⟨rfl, rfl⟩ : us = [] ∧ vs = [] := by
      constructor
      · exact Classical.byContradiction fun e => hn (Or.inl e)
      · exact Classical.byContradiction fun e => hn (Or.inr e)
    rfl
theorem rb_zero (c : Cs) (D : Bs → Bs → Int) (xs ys : Bs) (i j : Nat) (hi : i ≤ xs.length) (hj : j ≤ ys.length) : rb c D 0 (xs.drop i) (ys.drop j) = if i = xs.length ∧ j = ys.length then 0 else -1 := by
  by_cases h1 : i = xs.length
  · by_cases h2 : j = ys.length
    · rw [if_pos ⟨h1, h2⟩, h1, h2, List.drop_length, List.drop_length]; rfl
    · rw [if_neg (fun e => h2 e.2), h1, List.drop_length, List.drop_eq_getElem_cons (by omega)]; rfl
  · rw [if_neg (fun e => h1 e.1), List.drop_eq_getElem_cons (i := i) (by omega)]
    show rini _ _ = _; unfold rini; rfl
end Ed
end Go.Proofs.Ytalldnnegofdkaa
