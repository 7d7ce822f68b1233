/- Amounts, shares and splits as numbers and lists. -/
import Derived.WalkKit
namespace Go.Proofs.Ytljfbdiiecohpaa
namespace Mny
/-- Whether a number is an amount. -/
def rt (c : Int) : Bool := decide (-1000000000000000 ≤ c ∧ c ≤ 1000000000000000)
theorem rt_iff (c : Int) : rt c = true ↔ -1000000000000000 ≤ c ∧ c ≤ 1000000000000000 := by unfold rt; simp
theorem rt_no (c : Int) : rt c = false ↔ (c < -1000000000000000 ∨ 1000000000000000 < c) := by unfold rt; rw [decide_eq_false_iff_not]; omega
/-- Division towards 0, turned into division downwards. -/
theorem fl_neg (c w : Int) (hw : 1 ≤ w) (h : c.tmod w < 0) : c.tdiv w - 1 = c / w ∧ c.tmod w + w = c % w := by
  have e1 := Int.tdiv_eq_ediv (a := c) (b := w)
  have e2 := Int.tmod_eq_emod (a := c) (b := w)
  have l := Int.emod_nonneg c (show w ≠ 0 by omega)
  have hs : w.sign = 1 := Int.sign_eq_one_of_pos (by omega)
  have hn : (w.natAbs : Int) = w := by omega
  by_cases q : 0 ≤ c ∨ w ∣ c
  · rw [if_pos q] at e2; omega
  · rw [if_neg q] at e1 e2; omega
theorem fl_pos (c w : Int) (hw : 1 ≤ w) (h : 0 ≤ c.tmod w) : c.tdiv w = c / w ∧ c.tmod w = c % w := by
  have e1 := Int.tdiv_eq_ediv (a := c) (b := w)
  have e2 := Int.tmod_eq_emod (a := c) (b := w)
  have u := Int.emod_lt_of_pos c (show 0 < w by omega)
  have hn : (w.natAbs : Int) = w := by omega
  by_cases q : 0 ≤ c ∨ w ∣ c
  · rw [if_pos q] at e1 e2; omega
  · rw [if_neg q] at e1 e2; omega
/-- A product divided: what divides is taken out first. -/
theorem part_eq (c n w : Int) (hw : 1 ≤ w) : (c / w) * n + (c % w) * n / w = c * n / w ∧ (c % w) * n % w = c * n % w := by
  have e := Int.mul_ediv_add_emod c w
  have h : c * n = (c % w) * n + ((c / w) * n) * w := by
    conv => lhs; rw [← e]
    rw [Int.add_mul, Int.add_comm, Int.mul_comm w (c / w), Int.mul_assoc, Int.mul_comm w n, ← Int.mul_assoc]
  constructor
  · rw [h, Int.add_mul_ediv_right _ _ (by omega)]; omega
  · rw [h, Int.add_mul_emod_self_right]
/-- Bounds of a quotient of a product. -/
theorem q_bd {c n w m : Int} (hw : 1 ≤ w) (hn : 0 ≤ n) (hnw : n ≤ w) (h1 : -m ≤ c) (h2 : c ≤ m) (hm : 0 ≤ m) : -m ≤ c * n / w ∧ c * n / w ≤ m := by
  have a1 : -m * w ≤ c * n := by
    have s1 : -m * w ≤ -m * n := by
      have := Int.mul_le_mul_of_nonneg_left hnw hm
      rw [Int.neg_mul, Int.neg_mul]; omega
    exact Int.le_trans s1 (Int.mul_le_mul_of_nonneg_right h1 hn)
  have a2 : c * n ≤ m * w := Int.le_trans (Int.mul_le_mul_of_nonneg_right h2 hn) (Int.mul_le_mul_of_nonneg_left hnw hm)
  exact ⟨(Int.le_ediv_iff_mul_le (by omega)).2 a1, Int.ediv_le_of_le_mul (by omega) a2⟩
/-- A share, rounded. -/
def ad (way q r : Int) : Int :=
  if way = 1 then 0 else if way = 2 then (if 0 < r then 1 else 0)
  else if way = 3 then (if 5000 < r ∨ r = 5000 ∧ 0 ≤ q then 1 else 0) else (if 5000 < r ∨ r = 5000 ∧ q % 2 ≠ 0 then 1 else 0)
def rnd (P way : Int) : Int := P / 10000 + ad way (P / 10000) (P % 10000)
theorem ad_bd (way q r : Int) : 0 ≤ ad way q r ∧ ad way q r ≤ 1 := by
  unfold ad; (repeat' split) <;> omega
theorem rnd_1 (P : Int) : rnd P 1 = P / 10000 := by unfold rnd ad; simp
theorem rnd_2 (P : Int) : rnd P 2 = P / 10000 + if 0 < P % 10000 then 1 else 0 := by unfold rnd ad; simp
theorem rnd_3 (P : Int) : rnd P 3 = P / 10000 + if 5000 < P % 10000 ∨ P % 10000 = 5000 ∧ 0 ≤ P / 10000 then 1 else 0 := by unfold rnd ad; simp
theorem rnd_4 (P : Int) : rnd P 4 = P / 10000 + if 5000 < P % 10000 ∨ P % 10000 = 5000 ∧ P / 10000 % 2 ≠ 0 then 1 else 0 := by unfold rnd ad; simp
theorem rnd_bd {c s : Int} (way : Int) (h1 : -1000000000000000 ≤ c) (h2 : c ≤ 1000000000000000) (h3 : 0 ≤ s) (h4 : s ≤ 10000) : -1000000000000000 ≤ rnd (c * s) way ∧ rnd (c * s) way ≤ 1000000000000001 := by
  have := q_bd (c := c) (n := s) (w := 10000) (m := 1000000000000000) (by omega) h3 h4 h1 h2 (by omega)
  have := ad_bd way (c * s / 10000) (c * s % 10000)
  unfold rnd; omega
/-- The sum of a list. -/
def sm : List Int → Int
  | [] => 0
  | x :: l => x + sm l
theorem sm_app (l m : List Int) : sm (l ++ m) = sm l + sm m := by
  induction l with
  | nil => simp [sm]
  | cons x l ih => simp [sm, ih]; omega
theorem sm_one (x : Int) : sm [x] = x := by simp [sm]
theorem take_snoc (l : List Int) (k : Nat) (h : k < l.length) : l.take (k + 1) = l.take k ++ [l.getD k 0] := by
  rw [List.take_add_one, List.getElem?_eq_getElem h, List.getD_eq_getElem?_getD, List.getElem?_eq_getElem h]; rfl
theorem sm_take (l : List Int) (k : Nat) (h : k < l.length) : sm (l.take (k + 1)) = sm (l.take k) + l.getD k 0 := by
  rw [take_snoc l k h, sm_app, sm_one]
theorem sm_bd (l : List Int) (a b : Int) (h : ∀ x ∈ l, a ≤ x ∧ x ≤ b) : a * l.length ≤ sm l ∧ sm l ≤ b * l.length := by
  induction l with
  | nil => simp [sm]
  | cons x l ih =>
    have h1 := h x (by simp)
    have h2 := ih (fun y hy => h y (by simp [hy]))
    simp only [sm, List.length_cons]
    rw [Int.natCast_add, Int.mul_add, Int.mul_add]
    simp only [Int.natCast_one, Int.mul_one]
    omega
theorem sm_perm {l m : List Int} (h : l.Perm m) : sm l = sm m := by
  induction h with
  | nil => rfl
  | cons x _ ih => simp [sm, ih]
  | swap x y l => simp [sm]; omega
  | trans _ _ a b => omega
/-- What Sum answers. -/
def sumE (l : List Int) : Int := if 4096 < l.length then 5 else if l.all rt = false then 2 else if rt (sm l) = false then 3 else 0
def sumV (l : List Int) : Int := if sumE l = 0 then sm l else 0
theorem sum_many {l : List Int} (h : 4096 < l.length) : sumE l = 5 ∧ sumV l = 0 := by
  have : sumE l = 5 := by unfold sumE; rw [if_pos h]
  exact ⟨this, by unfold sumV; rw [this, if_neg (by omega)]⟩
theorem sum_arg {l : List Int} (h : l.length ≤ 4096) (h2 : l.all rt = false) : sumE l = 2 ∧ sumV l = 0 := by
  have : sumE l = 2 := by unfold sumE; rw [if_neg (by omega), if_pos h2]
  exact ⟨this, by unfold sumV; rw [this, if_neg (by omega)]⟩
theorem sum_long {l : List Int} (h : l.length ≤ 4096) (h2 : l.all rt = true) (h3 : rt (sm l) = false) : sumE l = 3 ∧ sumV l = 0 := by
  have : sumE l = 3 := by unfold sumE; rw [if_neg (by omega), if_neg (by simp [h2]), if_pos h3]
  exact ⟨this, by unfold sumV; rw [this, if_neg (by omega)]⟩
theorem sum_ok {l : List Int} (h : l.length ≤ 4096) (h2 : l.all rt = true) (h3 : rt (sm l) = true) : sumE l = 0 ∧ sumV l = sm l := by
  have : sumE l = 0 := by unfold sumE; rw [if_neg (by omega), if_neg (by simp [h2]), if_neg (by simp [h3])]
  exact ⟨this, by unfold sumV; rw [this, if_pos rfl]⟩
theorem all_bd {l : List Int} (h : l.all rt = true) : ∀ x ∈ l, -1000000000000000 ≤ x ∧ x ≤ 1000000000000000 := fun x hx => (rt_iff x).1 (List.all_eq_true.1 h x hx)
theorem sm_small {l : List Int} (h : l.length ≤ 4096) (h2 : l.all rt = true) : -4096000000000000000 ≤ sm l ∧ sm l ≤ 4096000000000000000 := by
  have := sm_bd l _ _ (all_bd h2); omega
theorem all_take {l : List Int} {p : Int → Bool} (k : Nat) (h : k < l.length) : (l.take (k + 1)).all p = ((l.take k).all p && p (l.getD k 0)) := by
  rw [take_snoc l k h, List.all_append]; simp
theorem all_no {l : List Int} {p : Int → Bool} (k : Nat) (h : k < l.length) (hp : p (l.getD k 0) = false) : l.all p = false := by
  rw [← Bool.not_eq_true, List.all_eq_true]; intro a
  have := a (l.getD k 0) (by rw [List.getD_eq_getElem?_getD, List.getElem?_eq_getElem h]; exact List.getElem_mem _)
  rw [hp] at this; cases this
/-- Weights: what is right, and how many are not 0. -/
def wt (x : Int) : Bool := decide (0 ≤ x ∧ x ≤ 1000000)
theorem wt_iff (x : Int) : wt x = true ↔ 0 ≤ x ∧ x ≤ 1000000 := by unfold wt; simp
theorem wt_no (x : Int) : wt x = false ↔ (x < 0 ∨ 1000000 < x) := by unfold wt; rw [decide_eq_false_iff_not]; omega
theorem wt_bd {l : List Int} (h : l.all wt = true) : ∀ x ∈ l, 0 ≤ x ∧ x ≤ 1000000 := fun x hx => (wt_iff x).1 (List.all_eq_true.1 h x hx)
def tw (l : List Int) : Int := if l.all wt = true then sm l else 0
def nz : List Int → Int
  | [] => 0
  | x :: l => (if 0 < x then 1 else 0) + nz l
theorem nz_nonneg : ∀ l, 0 ≤ nz l
  | [] => by simp [nz]
  | x :: l => by have := nz_nonneg l; simp only [nz]; split <;> omega
/-- Parts, and what is left over given to the first ones. -/
def give (f : Int → Int) : Int → List Int → List Int
  | _, [] => []
  | k, x :: l => if 0 < k ∧ 0 < x then (f x + 1) :: give f (k - 1) l else f x :: give f k l
theorem give_len (f : Int → Int) : ∀ (l : List Int) (k : Int), (give f k l).length = l.length
  | [], _ => rfl
  | x :: l, k => by simp only [give]; split <;> simp [give_len f l]
theorem give_yes (f : Int → Int) (k x : Int) (l : List Int) (h : 0 < k) (hx : 0 < x) : give f k (x :: l) = (f x + 1) :: give f (k - 1) l := by simp only [give]; rw [if_pos ⟨h, hx⟩]
theorem give_no (f : Int → Int) (k x : Int) (l : List Int) (h : ¬ (0 < k ∧ 0 < x)) : give f k (x :: l) = f x :: give f k l := by simp only [give]; rw [if_neg h]
theorem give_sum (f : Int → Int) : ∀ (l : List Int) (k : Int), 0 ≤ k → k ≤ nz l → sm (give f k l) = sm (l.map f) + k
  | [], k, h0, h => by simp [nz] at h; simp [give, sm]; omega
  | x :: l, k, h0, h => by
    by_cases c : 0 < k ∧ 0 < x
    · rw [give_yes f k x l c.1 c.2]
      simp only [nz] at h; rw [if_pos c.2] at h
      simp only [List.map_cons, sm]
      rw [give_sum f l (k - 1) (by omega) (by omega)]; omega
    · rw [give_no f k x l c]
      have := nz_nonneg l
      have hk : k ≤ nz l := by
        simp only [nz] at h
        by_cases x0 : 0 < x
        · omega
        · rw [if_neg x0] at h; omega
      simp only [List.map_cons, sm]
      rw [give_sum f l k h0 hk]; omega
theorem give_zero (f : Int → Int) : ∀ (l : List Int) (k : Int), k ≤ 0 → give f k l = l.map f
  | [], _, _ => rfl
  | x :: l, k, h => by rw [give_no f k x l (by omega), give_zero f l k h]; rfl
/-- What is left over after the parts. -/
theorem left_eq (c W : Int) (hW : 1 ≤ W) : ∀ l : List Int, sm (l.map fun x => c * x / W) * W = c * sm l - sm (l.map fun x => c * x % W)
  | [] => by simp [sm]
  | x :: l => by
    have ih := left_eq c W hW l
    have e := Int.mul_ediv_add_emod (c * x) W
    simp only [List.map_cons, sm]
    rw [Int.add_mul, ih, Int.mul_add, Int.mul_comm (c * x / W) W]; omega
theorem rests (c W : Int) (hW : 1 ≤ W) : ∀ l : List Int, l.all wt = true → 0 ≤ sm (l.map fun x => c * x % W) ∧ sm (l.map fun x => c * x % W) ≤ (W - 1) * nz l
  | [], _ => by simp [sm, nz]
  | x :: l, h => by
    have hx := wt_bd h x (by simp)
    have ih := rests c W hW l (by simp at h ⊢; exact h.2)
    have a := Int.emod_nonneg (c * x) (show W ≠ 0 by omega)
    have b := Int.emod_lt_of_pos (c * x) (show 0 < W by omega)
    simp only [List.map_cons, sm, nz]
    by_cases x0 : 0 < x
    · rw [if_pos x0, Int.mul_add]; omega
    · obtain rfl : x = 0 := by omega
      rw [if_neg x0, Int.mul_zero, Int.zero_emod, Int.mul_add]; omega
/-- Cents that are left over: from 0 to the number of weights that are not 0. -/
theorem left_bd (c : Int) (l : List Int) (h : l.all wt = true) (h0 : 1 ≤ sm l) : 0 ≤ c - sm (l.map fun x => c * x / sm l) ∧ c - sm (l.map fun x => c * x / sm l) ≤ nz l := by
  have e := left_eq c (sm l) h0 l
  have r := rests c (sm l) h0 l h
  obtain ⟨W, hW⟩ : ∃ W, W = sm l := ⟨_, rfl⟩
  rw [← hW] at e r h0 ⊢
  obtain ⟨S, hS⟩ : ∃ S, S = sm (l.map fun x => c * x / W) := ⟨_, rfl⟩
  obtain ⟨R, hR⟩ : ∃ R, R = sm (l.map fun x => c * x % W) := ⟨_, rfl⟩
  rw [← hS, ← hR] at e
  rw [← hR] at r
  rw [← hS]
  have n0 := nz_nonneg l
  have k : (c - S) * W = R := by rw [Int.sub_mul]; omega
  constructor
  · by_cases q : 0 ≤ c - S
    · exact q
    · have : (c - S) * W ≤ (-1) * W := Int.mul_le_mul_of_nonneg_right (by omega) (by omega)
      omega
  · by_cases q : c - S ≤ nz l
    · exact q
    · have a : (nz l + 1) * W ≤ (c - S) * W := Int.mul_le_mul_of_nonneg_right (by omega) (by omega)
      have b : (W - 1) * nz l ≤ W * nz l := Int.mul_le_mul_of_nonneg_right (by omega) n0
      rw [Int.add_mul, Int.mul_comm] at a
      omega
/-- What Split answers. -/
def okS (c : Int) (l : List Int) : Bool := l.all wt && decide (1 ≤ sm l) && rt c
def split (c : Int) (l : List Int) : List Int := give (fun x => c * x / sm l) (c - sm (l.map fun x => c * x / sm l)) l
theorem split_len (c : Int) (l : List Int) : (split c l).length = l.length := give_len _ _ _
theorem split_sum (c : Int) (l : List Int) (h : l.all wt = true) (h0 : 1 ≤ sm l) : sm (split c l) = c := by
  have := left_bd c l h h0
  unfold split; rw [give_sum _ _ _ this.1 this.2]; omega
theorem sm_nonneg {l : List Int} (h : l.all wt = true) : 0 ≤ sm l := by have := sm_bd l _ _ (wt_bd h); omega
theorem sm_le {l : List Int} (h : l.all wt = true) (hl : l.length ≤ 4096) : sm l ≤ 4096000000 := by have := sm_bd l _ _ (wt_bd h); omega
theorem mem_le {l : List Int} (h : l.all wt = true) : ∀ x ∈ l, x ≤ sm l := by
  induction l with
  | nil => simp
  | cons y l ih =>
    intro x hx
    have hy := wt_bd h y (by simp)
    have ht : l.all wt = true := by simp at h ⊢; exact h.2
    have := sm_nonneg ht
    simp only [sm]
    rcases List.mem_cons.1 hx with rfl | hx
    · omega
    · have := ih ht x hx; omega
end Mny
end Go.Proofs.Ytljfbdiiecohpaa
namespace Go.Proofs.Ytljfbdiiecohpaa
namespace Mny
theorem drop_cons (l : List Int) (k : Nat) (h : k < l.length) : l.drop k = l.getD k 0 :: l.drop (k + 1) := by
  rw [List.drop_eq_getElem_cons h, List.getD_eq_getElem?_getD, List.getElem?_eq_getElem h]; rfl
/-- One weight more. -/
theorem give_step {f : Int → Int} {out ws : List Int} {k : Nat} {L : Int} (hl : out.length = ws.length) (hk : k < ws.length) (h : out.drop k = give f L (ws.drop k)) :
    (0 < L ∧ 0 < ws.getD k 0 ∧ out.getD k 0 = f (ws.getD k 0) + 1 ∧ out.drop (k + 1) = give f (L - 1) (ws.drop (k + 1))) ∨
    (¬ (0 < L ∧ 0 < ws.getD k 0) ∧ out.getD k 0 = f (ws.getD k 0) ∧ out.drop (k + 1) = give f L (ws.drop (k + 1))) := by
  rw [drop_cons out k (by omega), drop_cons ws k hk] at h
  by_cases c : 0 < L ∧ 0 < ws.getD k 0
  · rw [give_yes _ _ _ _ c.1 c.2] at h
    exact Or.inl ⟨c.1, c.2, (List.cons.inj h).1, (List.cons.inj h).2⟩
  · rw [give_no _ _ _ _ c] at h
    exact Or.inr ⟨c, (List.cons.inj h).1, (List.cons.inj h).2⟩
theorem nz_drop (l : List Int) (k : Nat) (h : k < l.length) : nz (l.drop k) = (if 0 < l.getD k 0 then 1 else 0) + nz (l.drop (k + 1)) := by
  rw [drop_cons l k h]; rfl
/-- What is left over behind some weights. -/
def rem : Int → List Int → Int
  | k, [] => k
  | k, x :: l => rem (if 0 < k ∧ 0 < x then k - 1 else k) l
theorem give_app (f : Int → Int) : ∀ (l m : List Int) (k : Int), give f k (l ++ m) = give f k l ++ give f (rem k l) m
  | [], _, _ => rfl
  | x :: l, m, k => by
    by_cases c : 0 < k ∧ 0 < x
    · rw [List.cons_append, give_yes f k x _ c.1 c.2, give_yes f k x l c.1 c.2, give_app f l m]
      simp only [rem]; rw [if_pos c]; rfl
    · rw [List.cons_append, give_no f k x _ c, give_no f k x l c, give_app f l m]
      simp only [rem]; rw [if_neg c]; rfl
theorem rem_app : ∀ (l m : List Int) (k : Int), rem k (l ++ m) = rem (rem k l) m
  | [], _, _ => rfl
  | x :: l, m, k => by simp only [List.cons_append, rem]; exact rem_app l m _
/-- Weights that are all multiplied. -/
theorem sm_mul (k : Int) : ∀ l : List Int, sm (l.map fun x => k * x) = k * sm l
  | [] => by simp [sm]
  | x :: l => by simp only [List.map_cons, sm]; rw [sm_mul k l, Int.mul_add]
theorem give_map (f g : Int → Int) (k : Int) (hk : 1 ≤ k) (hf : ∀ x, f (k * x) = g x) : ∀ (l : List Int) (L : Int), give f L (l.map fun x => k * x) = give g L l
  | [], _ => rfl
  | x :: l, L => by
    have hx : 0 < k * x ↔ 0 < x := ⟨fun h => by
      by_cases c : 0 < x
      · exact c
      · have := Int.mul_nonpos_of_nonneg_of_nonpos (show 0 ≤ k by omega) (show x ≤ 0 by omega); omega, fun h => Int.mul_pos (by omega) h⟩
    by_cases c : 0 < L ∧ 0 < x
    · rw [List.map_cons, give_yes f _ _ _ c.1 (hx.2 c.2), give_yes g _ _ _ c.1 c.2, hf, give_map f g k hk hf]
    · rw [List.map_cons, give_no f _ _ _ (by rw [hx]; exact c), give_no g _ _ _ c, hf, give_map f g k hk hf]
theorem map_map_q (c k W : Int) (hk : 1 ≤ k) (l : List Int) : (l.map fun x => k * x).map (fun x => c * x / (k * W)) = l.map fun x => c * x / W := by
  rw [List.map_map]
  apply List.map_congr_left
  intro x _
  show c * (k * x) / (k * W) = c * x / W
  rw [← Int.mul_assoc, Int.mul_comm c k, Int.mul_assoc]
  exact Int.mul_ediv_mul_of_pos _ _ (by omega)
theorem split_mul (c k : Int) (hk : 1 ≤ k) (l : List Int) : split c (l.map fun x => k * x) = split c l := by
  unfold split
  rw [sm_mul, map_map_q c k _ hk]
  apply give_map _ _ k hk
  intro x
  rw [← Int.mul_assoc, Int.mul_comm c k, Int.mul_assoc]
  exact Int.mul_ediv_mul_of_pos _ _ (by omega)
/-- Weights with zeros between them, and where the weights stand. -/
def gpn (b : Nat → Bool) (ws : List Int) : Nat → List Int
  | 0 => []
  | k + 1 => gpn b ws k ++ (if b k = true then [0, ws.getD k 0] else [ws.getD k 0])
def atn (b : Nat → Bool) (ws : List Int) : Nat → List Int
  | 0 => []
  | k + 1 => atn b ws k ++ [((gpn b ws k).length : Int) + if b k = true then 1 else 0]
theorem atn_len (b : Nat → Bool) (ws : List Int) : ∀ k, (atn b ws k).length = k
  | 0 => rfl
  | k + 1 => by show (atn b ws k ++ [_]).length = _; rw [List.length_append, atn_len b ws k]; rfl
theorem gpn_len (b : Nat → Bool) (ws : List Int) : ∀ k, k ≤ (gpn b ws k).length ∧ (gpn b ws k).length ≤ 2 * k
  | 0 => by simp [gpn]
  | k + 1 => by
    have := gpn_len b ws k
    show k + 1 ≤ (gpn b ws k ++ _).length ∧ (gpn b ws k ++ _).length ≤ _
    rw [List.length_append]
    split <;> simp <;> omega
theorem gpn_sm (b : Nat → Bool) (ws : List Int) : ∀ k, k ≤ ws.length → sm (gpn b ws k) = sm (ws.take k)
  | 0, _ => by simp [gpn, sm]
  | k + 1, h => by
    show sm (gpn b ws k ++ _) = _
    rw [sm_app, sm_take ws k (by omega), gpn_sm b ws k (by omega)]
    split <;> simp [sm]
theorem gpn_wt (b : Nat → Bool) (ws : List Int) (h : ws.all wt = true) : ∀ k, k ≤ ws.length → (gpn b ws k).all wt = true
  | 0, _ => rfl
  | k + 1, hk => by
    show (gpn b ws k ++ _).all wt = true
    rw [List.all_append, gpn_wt b ws h k (by omega)]
    have : wt (ws.getD k 0) = true := List.all_eq_true.1 h _ (by rw [List.getD_eq_getElem?_getD, List.getElem?_eq_getElem (by omega)]; exact List.getElem_mem _)
    have z : wt 0 = true := rfl
    split <;> simp only [List.all_cons, List.all_nil, this, z, Bool.and_true]
theorem gpn_map (f : Int → Int) (f0 : f 0 = 0) (b : Nat → Bool) (ws : List Int) : ∀ k, k ≤ ws.length → sm ((gpn b ws k).map f) = sm ((ws.take k).map f)
  | 0, _ => by simp [gpn, sm]
  | k + 1, h => by
    show sm ((gpn b ws k ++ _).map f) = _
    rw [List.map_append, sm_app, take_snoc ws k (by omega), List.map_append, sm_app, gpn_map f f0 b ws k (by omega)]
    split <;> simp [sm, f0]
theorem gpn_rem (L : Int) (b : Nat → Bool) (ws : List Int) : ∀ k, k ≤ ws.length → rem L (gpn b ws k) = rem L (ws.take k)
  | 0, _ => rfl
  | k + 1, h => by
    show rem L (gpn b ws k ++ _) = _
    rw [rem_app, gpn_rem L b ws k (by omega), take_snoc ws k (by omega), rem_app]
    split
    · show rem (rem _ [0]) [_] = rem _ [_]
      simp [rem]
    · rfl
theorem getD_app_left (l m : List Int) (i : Nat) (h : i < l.length) : (l ++ m).getD i 0 = l.getD i 0 := by
  rw [List.getD_eq_getElem?_getD, List.getD_eq_getElem?_getD, List.getElem?_append_left h]
theorem getD_app_at (l m : List Int) (x : Int) : (l ++ x :: m).getD l.length 0 = x := by
  rw [List.getD_eq_getElem?_getD, List.getElem?_append_right (by omega)]; simp
theorem at_bd (b : Nat → Bool) (ws : List Int) : ∀ k i, i < k → 0 ≤ (atn b ws k).getD i 0 ∧ (atn b ws k).getD i 0 < (gpn b ws k).length
  | 0, i, h => by omega
  | k + 1, i, h => by
    have e : (gpn b ws (k + 1)).length = (gpn b ws k).length + (if b k = true then 2 else 1) := by
      show (gpn b ws k ++ _).length = _
      rw [List.length_append]; split <;> rfl
    by_cases c : i < k
    · have ih := at_bd b ws k i c
      show 0 ≤ (atn b ws k ++ [_]).getD i 0 ∧ (atn b ws k ++ [_]).getD i 0 < _
      rw [getD_app_left _ _ _ (by rw [atn_len]; exact c), e]; split <;> omega
    · obtain rfl : i = k := by omega
      show 0 ≤ (atn b ws i ++ [_]).getD i 0 ∧ (atn b ws i ++ [_]).getD i 0 < _
      have := getD_app_at (atn b ws i) [] (((gpn b ws i).length : Int) + if b i = true then 1 else 0)
      rw [atn_len] at this
      rw [this, e]; split <;> omega
/-- The weights get the same with zeros between them. -/
theorem gpn_at (f : Int → Int) (L : Int) (b : Nat → Bool) (ws : List Int) : ∀ k, k ≤ ws.length → ∀ i, i < k → (give f L (gpn b ws k)).getD ((atn b ws k).getD i 0).toNat 0 = (give f L (ws.take k)).getD i 0
  | 0, _, i, h => by omega
  | k + 1, hk, i, h => by
    have hk' : (ws.take k).length = k := by rw [List.length_take]; omega
    have hg : give f L (gpn b ws (k + 1)) = give f L (gpn b ws k) ++ give f (rem L (gpn b ws k)) (if b k = true then [0, ws.getD k 0] else [ws.getD k 0]) := give_app f _ _ _
    have hw : give f L (ws.take (k + 1)) = give f L (ws.take k) ++ give f (rem L (ws.take k)) [ws.getD k 0] := by rw [take_snoc ws k (by omega), give_app]
    rw [hg, hw, gpn_rem L b ws k (by omega)]
    by_cases c : i < k
    · have bd := at_bd b ws k i c
      have ea : (atn b ws (k + 1)).getD i 0 = (atn b ws k).getD i 0 := getD_app_left _ _ _ (by rw [atn_len]; exact c)
      rw [ea, getD_app_left _ _ _ (by rw [give_len]; omega), getD_app_left _ _ _ (by rw [give_len, hk']; exact c)]
      exact gpn_at f L b ws k (by omega) i c
    · obtain rfl : i = k := by omega
      have ea : (atn b ws (i + 1)).getD i 0 = ((gpn b ws i).length : Int) + if b i = true then 1 else 0 := by
        have := getD_app_at (atn b ws i) [] (((gpn b ws i).length : Int) + if b i = true then 1 else 0)
        rw [atn_len] at this; exact this
      rw [ea]
      obtain ⟨M, hM⟩ : ∃ M, M = rem L (ws.take i) := ⟨_, rfl⟩
      rw [← hM]
      obtain ⟨y, m, hy⟩ : ∃ y m, give f M [ws.getD i 0] = y :: m := by
        cases e : give f M [ws.getD i 0] with
        | nil => have := give_len f [ws.getD i 0] M; rw [e] at this; simp at this
        | cons y m => exact ⟨y, m, rfl⟩
      have r := getD_app_at (give f L (ws.take i)) m y
      rw [give_len, hk'] at r
      by_cases q : b i = true
      · rw [if_pos q, if_pos q]
        have : give f M [0, ws.getD i 0] = f 0 :: (y :: m) := by rw [give_no f M 0 _ (by omega), hy]
        rw [this, hy, r]
        have p := getD_app_at (give f L (gpn b ws i) ++ [f 0]) m y
        rw [List.append_assoc, List.length_append, give_len] at p
        have e2 : (((gpn b ws i).length : Int) + 1).toNat = (gpn b ws i).length + [f 0].length := by simp only [List.length_singleton]; omega
        rw [e2]; exact p
      · rw [if_neg q, if_neg q, hy, r]
        have p := getD_app_at (give f L (gpn b ws i)) m y
        rw [give_len] at p
        have e2 : (((gpn b ws i).length : Int) + 0).toNat = (gpn b ws i).length := by omega
        rw [e2]; exact p
/-- A weight 0 gets nothing. -/
theorem give_at0 (f : Int → Int) (f0 : f 0 = 0) : ∀ (l : List Int) (L : Int) (i : Nat), l.getD i 0 = 0 → (give f L l).getD i 0 = 0
  | [], _, i, _ => by simp [give]
  | x :: l, L, 0, h => by
    have hx : x = 0 := by simpa using h
    subst hx; rw [give_no f L 0 l (by omega)]; simpa using f0
  | x :: l, L, i + 1, h => by
    have h' : l.getD i 0 = 0 := by simpa using h
    by_cases c : 0 < L ∧ 0 < x
    · rw [give_yes f L x l c.1 c.2]; simpa using give_at0 f f0 l (L - 1) i h'
    · rw [give_no f L x l c]; simpa using give_at0 f f0 l L i h'
end Mny
end Go.Proofs.Ytljfbdiiecohpaa
namespace Go.Proofs.Ytljfbdiiecohpaa
namespace Mny
theorem set_mid (A B : List Int) (x y : Int) (k : Nat) (h : A.length = k) : (A ++ x :: B).set k y = A ++ y :: B := by
  subst h; rw [List.set_append_right _ _ (by omega)]; simp
/-- The parts while they are reckoned, and while cents are given. -/
def st1 (f : Int → Int) (ws : List Int) (k : Nat) : List Int := (ws.take k).map f ++ List.replicate (ws.length - k) 0
def st2 (f : Int → Int) (out ws : List Int) (k : Nat) : List Int := out.take k ++ (ws.drop k).map f
theorem st1_len (f : Int → Int) (ws : List Int) (k : Nat) (h : k ≤ ws.length) : (st1 f ws k).length = ws.length := by simp [st1]; omega
theorem st1_0 (f : Int → Int) (ws : List Int) : st1 f ws 0 = List.replicate ws.length 0 := by simp [st1]
theorem st1_n (f : Int → Int) (ws : List Int) : st1 f ws ws.length = ws.map f := by simp [st1]
theorem st1_set (f : Int → Int) (ws : List Int) (k : Nat) (h : k < ws.length) : (st1 f ws k).set k (f (ws.getD k 0)) = st1 f ws (k + 1) := by
  obtain ⟨m, hm⟩ : ∃ m, ws.length - k = m + 1 := ⟨ws.length - k - 1, by omega⟩
  have e : ws.length - (k + 1) = m := by omega
  unfold st1
  rw [hm, e, List.replicate_succ, set_mid _ _ _ _ _ (by simp; omega), take_snoc ws k h, List.map_append, List.append_assoc]; rfl
theorem st2_len (f : Int → Int) (out ws : List Int) (k : Nat) (hl : out.length = ws.length) (h : k ≤ ws.length) : (st2 f out ws k).length = ws.length := by simp [st2]; omega
theorem st2_0 (f : Int → Int) (out ws : List Int) : st2 f out ws 0 = ws.map f := by simp [st2]
theorem st2_n (f : Int → Int) (out ws : List Int) (hl : out.length = ws.length) : st2 f out ws ws.length = out := by
  unfold st2; rw [List.take_of_length_le (by omega)]; simp
theorem st2_at (f : Int → Int) (out ws : List Int) (k : Nat) (hl : out.length = ws.length) (h : k < ws.length) : (st2 f out ws k)[k]? = some (f (ws.getD k 0)) := by
  unfold st2
  have e : (out.take k).length = k := by rw [List.length_take]; omega
  rw [drop_cons ws k h, List.map_cons, List.getElem?_append_right (by omega), e]
  simp
theorem st2_set (f : Int → Int) (out ws : List Int) (k : Nat) (hl : out.length = ws.length) (h : k < ws.length) : (st2 f out ws k).set k (out.getD k 0) = st2 f out ws (k + 1) := by
  unfold st2
  rw [drop_cons ws k h, List.map_cons, set_mid _ _ _ _ _ (by simp; omega), take_snoc out k (by omega), List.append_assoc]; rfl
theorem st2_keep (f : Int → Int) (out ws : List Int) (k : Nat) (hl : out.length = ws.length) (h : k < ws.length) (e : out.getD k 0 = f (ws.getD k 0)) : st2 f out ws k = st2 f out ws (k + 1) := by
  rw [← st2_set f out ws k hl h, e]
  unfold st2
  rw [drop_cons ws k h, List.map_cons, set_mid _ _ _ _ _ (by simp; omega)]
theorem sum_map_take (f : Int → Int) (ws : List Int) (k : Nat) (h : k < ws.length) : sm ((ws.take (k + 1)).map f) = sm ((ws.take k).map f) + f (ws.getD k 0) := by
  rw [take_snoc ws k h, List.map_append, sm_app]; simp [sm]
theorem part_bd {c : Int} {ws : List Int} (h : ws.all wt = true) (h0 : 1 ≤ sm ws) (hl : ws.length ≤ 4096) (h1 : -1000000000000000 ≤ c) (h2 : c ≤ 1000000000000000) (k : Nat) :
    -4096000000000000000 ≤ sm ((ws.take k).map fun x => c * x / sm ws) ∧ sm ((ws.take k).map fun x => c * x / sm ws) ≤ 4096000000000000000 := by
  have b := sm_bd ((ws.take k).map fun x => c * x / sm ws) (-1000000000000000) 1000000000000000 (fun y hy => by
    obtain ⟨x, hx, rfl⟩ := List.mem_map.1 hy
    have hm := List.mem_of_mem_take hx
    have w := wt_bd h x hm
    exact q_bd h0 w.1 (mem_le h x hm) h1 h2 (by omega))
  have : ((ws.take k).map fun x => c * x / sm ws).length ≤ 4096 := by rw [List.length_map, List.length_take]; omega
  omega
theorem getD_mem {l : List Int} {k : Nat} (h : k < l.length) : l.getD k 0 ∈ l := by
  rw [List.getD_eq_getElem?_getD, List.getElem?_eq_getElem h]; exact List.getElem_mem _
/-- What Split answers, in words of its arguments. -/
def splE (c : Int) (l : List Int) : Int := if 4096 < l.length then 5 else if okS c l = true then 0 else 2
def splV (c : Int) (l : List Int) : List Int := if splE c l = 0 then split c l else []
theorem spl_many {c : Int} {l : List Int} (h : 4096 < l.length) : splE c l = 5 ∧ splV c l = [] := by
  have : splE c l = 5 := by unfold splE; rw [if_pos h]
  exact ⟨this, by unfold splV; rw [this, if_neg (by omega)]⟩
theorem spl_bad {c : Int} {l : List Int} (h : l.length ≤ 4096) (h2 : okS c l = false) : splE c l = 2 ∧ splV c l = [] := by
  have : splE c l = 2 := by unfold splE; rw [if_neg (by omega), if_neg (by simp [h2])]
  exact ⟨this, by unfold splV; rw [this, if_neg (by omega)]⟩
theorem spl_ok {c : Int} {l : List Int} (h : l.length ≤ 4096) (h2 : okS c l = true) : splE c l = 0 ∧ splV c l = split c l := by
  have : splE c l = 0 := by unfold splE; rw [if_neg (by omega), if_pos h2]
  exact ⟨this, by unfold splV; rw [this, if_pos rfl]⟩
theorem okS_iff (c : Int) (l : List Int) : okS c l = true ↔ l.all wt = true ∧ 1 ≤ sm l ∧ rt c = true := by
  unfold okS; simp [and_assoc]
theorem tw_no {l : List Int} (h : l.all wt = false) : tw l = 0 := by unfold tw; rw [if_neg (by simp [h])]
theorem tw_yes {l : List Int} (h : l.all wt = true) : tw l = sm l := by unfold tw; rw [if_pos h]
end Mny
end Go.Proofs.Ytljfbdiiecohpaa
