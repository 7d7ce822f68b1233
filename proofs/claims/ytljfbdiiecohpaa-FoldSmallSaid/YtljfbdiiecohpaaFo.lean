/- Folded texts and words as lists of bytes. -/
import Derived.WalkKit
namespace Go.Proofs.Ytljfbdiiecohpaa
namespace Fo
abbrev Bs := List UInt8
/-- A byte that stays. -/
def kpt (c : UInt8) : Bool := (decide (65 ≤ c.toNat) && decide (c.toNat ≤ 90)) || (decide (48 ≤ c.toNat) && decide (c.toNat ≤ 57)) || decide (c.toNat = 45) || decide (c.toNat = 47)
/-- A small letter. -/
def sml (c : UInt8) : Bool := decide (97 ≤ c.toNat) && decide (c.toNat ≤ 122)
/-- What one byte becomes. -/
def one (c : UInt8) : UInt8 := if kpt c then c else if sml c then c - 32 else 32
/-- The letters behind C3. -/
def c3 (b : Nat) : Bs :=
  if b = 128 ∨ b = 129 ∨ b = 130 ∨ b = 131 ∨ b = 133 ∨ b = 160 ∨ b = 161 ∨ b = 162 ∨ b = 163 ∨ b = 165 then [65]
  else if b = 132 ∨ b = 134 ∨ b = 164 ∨ b = 166 then [65, 69]
  else if b = 135 ∨ b = 167 then [67]
  else if b = 136 ∨ b = 137 ∨ b = 138 ∨ b = 139 ∨ b = 168 ∨ b = 169 ∨ b = 170 ∨ b = 171 then [69]
  else if b = 140 ∨ b = 141 ∨ b = 142 ∨ b = 143 ∨ b = 172 ∨ b = 173 ∨ b = 174 ∨ b = 175 then [73]
  else if b = 144 ∨ b = 176 then [68]
  else if b = 145 ∨ b = 177 then [78]
  else if b = 146 ∨ b = 147 ∨ b = 148 ∨ b = 149 ∨ b = 152 ∨ b = 178 ∨ b = 179 ∨ b = 180 ∨ b = 181 ∨ b = 184 then [79]
  else if b = 150 ∨ b = 182 then [79, 69]
  else if b = 153 ∨ b = 154 ∨ b = 155 ∨ b = 185 ∨ b = 186 ∨ b = 187 then [85]
  else if b = 156 ∨ b = 188 then [85, 69]
  else if b = 157 ∨ b = 189 ∨ b = 191 then [89]
  else if b = 158 ∨ b = 190 then [84, 72]
  else if b = 159 then [83, 83]
  else []
/-- The letters behind C5. -/
def c5 (b : Nat) : Bs :=
  if b = 146 ∨ b = 147 then [79, 69]
  else if b = 160 ∨ b = 161 then [83]
  else if b = 189 ∨ b = 190 then [90]
  else []
/-- The letters of two bytes. -/
def two (a b : UInt8) : Bs := if a.toNat = 195 then c3 b.toNat else if a.toNat = 197 then c5 b.toNat else []
/-- All bytes converted. -/
def conv : Bs → Bs
  | [] => []
  | [a] => [one a]
  | a :: b :: r => if kpt a || sml a then one a :: conv (b :: r) else if two a b = [] then 32 :: conv (b :: r) else two a b ++ conv r
/-- Words, one byte after the other. -/
def wds : Bs → Bs → List Bs
  | [], cur => if cur = [] then [] else [cur]
  | c :: r, cur => if c = 32 then (if cur = [] then wds r [] else cur :: wds r []) else wds r (cur ++ [c])
def words (x : Bs) : List Bs := wds x []
def join : List Bs → Bs
  | [] => []
  | [w] => w
  | w :: v :: r => w ++ 32 :: join (v :: r)
/-- The folded text. -/
def fold (x : Bs) : Bs := join (words (conv x))
/-- A word of bytes that stay. -/
def Wd (w : Bs) : Prop := w ≠ [] ∧ ∀ c ∈ w, kpt c = true
/-- A word: some bytes, none a blank. -/
def Wn (w : Bs) : Prop := w ≠ [] ∧ ∀ c ∈ w, c ≠ 32

theorem kpt_ne {c : UInt8} (h : kpt c = true) : c ≠ 32 := by rintro rfl; revert h; decide
theorem Wd.n {w : Bs} (h : Wd w) : Wn w := ⟨h.1, fun c hc => kpt_ne (h.2 c hc)⟩
theorem all8 {p : UInt8 → Prop} (h : ∀ i : Fin 256, p (UInt8.ofNat i.val)) (c : UInt8) : p c := by
  have := h ⟨c.toNat, c.toNat_lt⟩
  simpa using this
theorem one_kpt : ∀ c : UInt8, one c = 32 ∨ kpt (one c) = true := all8 (by decide +kernel)
theorem one_small : ∀ c : UInt8, 128 ≤ c.toNat → one c = 32 := all8 (by decide +kernel)
theorem one_of_kpt {c : UInt8} (h : kpt c = true) : one c = c := by unfold one; rw [if_pos h]
theorem one_id : ∀ c : UInt8, (kpt c = true ∨ c = 32) → one c = c := all8 (by decide +kernel)
theorem one_ks : ∀ c : UInt8, (kpt c || sml c) = true → kpt (one c) = true := all8 (by decide +kernel)
theorem one_nks : ∀ c : UInt8, ¬ (kpt c || sml c) = true → one c = 32 := all8 (by decide +kernel)
theorem ks_low : ∀ c : UInt8, (kpt c || sml c) = true → c.toNat < 128 := all8 (by decide +kernel)
theorem one_blank : one 32 = 32 := by decide
theorem c3_ok : ∀ b : UInt8, (c3 b.toNat = [] ∨ (128 ≤ b.toNat ∧ (c3 b.toNat).length ≤ 2 ∧ ∀ c ∈ c3 b.toNat, kpt c = true)) := all8 (by decide +kernel)
theorem c5_ok : ∀ b : UInt8, (c5 b.toNat = [] ∨ (128 ≤ b.toNat ∧ (c5 b.toNat).length ≤ 2 ∧ ∀ c ∈ c5 b.toNat, kpt c = true)) := all8 (by decide +kernel)
theorem two_ok (a b : UInt8) : two a b = [] ∨ (128 ≤ a.toNat ∧ 128 ≤ b.toNat ∧ (two a b).length ≤ 2 ∧ ∀ c ∈ two a b, kpt c = true) := by
  unfold two
  split
  · rename_i h; rcases c3_ok b with e | ⟨e1, e2, e3⟩
    · exact Or.inl e
    · exact Or.inr ⟨by omega, e1, e2, e3⟩
  · split
    · rename_i h; rcases c5_ok b with e | ⟨e1, e2, e3⟩
      · exact Or.inl e
      · exact Or.inr ⟨by omega, e1, e2, e3⟩
    · exact Or.inl rfl
theorem two_low {a b : UInt8} (h : a.toNat < 128 ∨ b.toNat < 128) : two a b = [] := by
  rcases two_ok a b with e | ⟨e1, e2, _⟩
  · exact e
  · omega
theorem two_ks {a b : UInt8} (h : two a b ≠ []) : ¬ (kpt a || sml a) = true := fun e => h (two_low (Or.inl (ks_low a e)))
/-- One byte more ahead. -/
theorem conv_one {a b : UInt8} (r : Bs) (h : two a b = []) : conv (a :: b :: r) = one a :: conv (b :: r) := by
  rw [conv]
  by_cases hk : (kpt a || sml a) = true
  · rw [if_pos hk]
  · rw [if_neg hk, if_pos h, one_nks a hk]
theorem conv_two {a b : UInt8} (r : Bs) (h : two a b ≠ []) : conv (a :: b :: r) = two a b ++ conv r := by
  rw [conv, if_neg (two_ks h), if_neg h]
theorem conv_low {a : UInt8} (r : Bs) (h : a.toNat < 128) : conv (a :: r) = one a :: conv r := by
  cases r with
  | nil => rfl
  | cons b r => exact conv_one r (two_low (Or.inl h))
/-- Induction in steps of one byte or of two. -/
theorem conv_ind {P : Bs → Prop} (h0 : P []) (h1 : ∀ a, P [a]) (h2 : ∀ a b r, two a b = [] → P (b :: r) → P (a :: b :: r)) (h3 : ∀ a b r, two a b ≠ [] → P r → P (a :: b :: r)) : ∀ n (l : Bs), l.length ≤ n → P l
  | _, [], _ => h0
  | _, [a], _ => h1 a
  | 0, _ :: _ :: _, h => by simp at h
  | n + 1, a :: b :: r, h => by
    simp only [List.length_cons] at h
    by_cases e : two a b = []
    · exact h2 a b r e (conv_ind h0 h1 h2 h3 n (b :: r) (by simp only [List.length_cons]; omega))
    · exact h3 a b r e (conv_ind h0 h1 h2 h3 n r (by omega))
theorem conv_kept (l : Bs) : ∀ c ∈ conv l, kpt c = true ∨ c = 32 := by
  refine conv_ind (P := fun l => ∀ c ∈ conv l, kpt c = true ∨ c = 32) (by simp [conv]) ?_ ?_ ?_ l.length l (Nat.le_refl _)
  · intro a c hc
    simp only [conv, List.mem_singleton] at hc
    subst hc
    exact (one_kpt a).symm
  · intro a b r h ih c hc
    rw [conv_one r h] at hc
    rcases List.mem_cons.1 hc with rfl | hc
    · exact (one_kpt a).symm
    · exact ih c hc
  · intro a b r h ih c hc
    rw [conv_two r h] at hc
    rcases List.mem_append.1 hc with hc | hc
    · rcases two_ok a b with e | ⟨_, _, _, e⟩
      · exact absurd e h
      · exact Or.inl (e c hc)
    · exact ih c hc
theorem conv_len (l : Bs) : (conv l).length ≤ l.length := by
  refine conv_ind (P := fun l => (conv l).length ≤ l.length) (by simp [conv]) (by intro a; simp [conv]) ?_ ?_ l.length l (Nat.le_refl _)
  · intro a b r h ih
    rw [conv_one r h]
    simp only [List.length_cons] at ih ⊢
    omega
  · intro a b r h ih
    rw [conv_two r h, List.length_append]
    simp only [List.length_cons] at ih ⊢
    rcases two_ok a b with e | ⟨_, _, e, _⟩
    · exact absurd e h
    · omega
theorem conv_id : ∀ l : Bs, (∀ c ∈ l, kpt c = true ∨ c = 32) → conv l = l
  | [], _ => rfl
  | a :: r, h => by
    have ha := h a (by simp)
    have hl : a.toNat < 128 := by
      rcases ha with e | rfl
      · exact ks_low a (by rw [e]; rfl)
      · decide
    rw [conv_low r hl, one_id a ha, conv_id r fun c hc => h c (by simp [hc])]
/-- Bytes that are converted alike. -/
theorem conv_map (f : UInt8 → UInt8) (h1 : ∀ a, one (f a) = one a) (h2 : ∀ a, 128 ≤ a.toNat → f a = a) (h3 : ∀ a, a.toNat < 128 → (f a).toNat < 128) (l : Bs) : conv (l.map f) = conv l := by
  have ht : ∀ a b, two (f a) (f b) = two a b := by
    intro a b
    by_cases ha : a.toNat < 128
    · rw [two_low (Or.inl ha), two_low (Or.inl (h3 a ha))]
    · by_cases hb : b.toNat < 128
      · rw [two_low (Or.inr hb), two_low (Or.inr (h3 b hb))]
      · rw [h2 a (by omega), h2 b (by omega)]
  refine conv_ind (P := fun l => conv (l.map f) = conv l) rfl ?_ ?_ ?_ l.length l (Nat.le_refl _)
  · intro a; simp [conv, h1]
  · intro a b r h ih
    rw [List.map_cons] at ih ⊢
    rw [List.map_cons, conv_one r h, conv_one _ (by rw [ht]; exact h), h1, ih]
  · intro a b r h ih
    rw [List.map_cons, List.map_cons, conv_two r h, conv_two _ (by rw [ht]; exact h), ht, ih]
/-- A low byte parts what is converted. -/
theorem conv_app (c : UInt8) (hc : c.toNat < 128) (r : Bs) (l : Bs) : conv (l ++ c :: r) = conv l ++ one c :: conv r := by
  refine conv_ind (P := fun l => conv (l ++ c :: r) = conv l ++ one c :: conv r) ?_ ?_ ?_ ?_ l.length l (Nat.le_refl _)
  · exact conv_low r hc
  · intro a
    rw [List.cons_append, List.nil_append, conv_one r (two_low (Or.inr hc)), conv_low r hc]; rfl
  · intro a b r' h ih
    rw [List.cons_append] at ih
    rw [List.cons_append, List.cons_append, conv_one _ h, conv_one _ h, ih]; rfl
  · intro a b r' h ih
    rw [List.cons_append, List.cons_append, conv_two _ h, conv_two _ h, ih, List.append_assoc]

theorem wds_cons (c : UInt8) (r cur : Bs) : wds (c :: r) cur = if c = 32 then (if cur = [] then wds r [] else cur :: wds r []) else wds r (cur ++ [c]) := rfl
/-- What holds of a text's bytes holds of those of its words. -/
theorem wds_all (p : UInt8 → Prop) : ∀ (x cur : Bs), (∀ c ∈ x, p c ∨ c = 32) → (∀ c ∈ cur, p c ∧ c ≠ 32) → ∀ w ∈ wds x cur, w ≠ [] ∧ ∀ c ∈ w, p c ∧ c ≠ 32
  | [], cur, _, hc, w, hw => by
    unfold wds at hw
    split at hw
    · simp at hw
    · simp only [List.mem_singleton] at hw; subst hw; exact ⟨by assumption, hc⟩
  | c :: r, cur, hx, hc, w, hw => by
    have hr : ∀ d ∈ r, p d ∨ d = 32 := fun d hd => hx d (by simp [hd])
    rw [wds_cons] at hw
    split at hw
    · split at hw
      · exact wds_all p r [] hr (by simp) w hw
      · rcases List.mem_cons.1 hw with rfl | hw
        · exact ⟨by assumption, hc⟩
        · exact wds_all p r [] hr (by simp) w hw
    · rename_i hn
      refine wds_all p r (cur ++ [c]) hr ?_ w hw
      intro d hd
      rcases List.mem_append.1 hd with h | h
      · exact hc d h
      · simp only [List.mem_singleton] at h; subst h
        exact ⟨(hx d (by simp)).resolve_right hn, hn⟩
theorem words_all (p : UInt8 → Prop) (x : Bs) (h : ∀ c ∈ x, p c ∨ c = 32) : ∀ w ∈ words x, w ≠ [] ∧ ∀ c ∈ w, p c ∧ c ≠ 32 := wds_all p x [] h (by simp)
theorem words_wn (x : Bs) : ∀ w ∈ words x, Wn w := fun w hw => by
  have := words_all (fun _ => True) x (fun _ _ => Or.inl trivial) w hw
  exact ⟨this.1, fun c hc => (this.2 c hc).2⟩
theorem words_conv (l : Bs) : ∀ w ∈ words (conv l), Wd w := fun w hw => by
  have := words_all (fun c => kpt c = true) (conv l) (conv_kept l) w hw
  exact ⟨this.1, fun c hc => (this.2 c hc).1⟩
theorem wds_skip : ∀ (w r cur : Bs), (∀ c ∈ w, c ≠ 32) → wds (w ++ r) cur = wds r (cur ++ w)
  | [], r, cur, _ => by simp
  | c :: w, r, cur, h => by
    rw [List.cons_append, wds_cons, if_neg (h c (by simp)), wds_skip w r _ fun d hd => h d (by simp [hd]), List.append_assoc]; rfl
/-- The words of joined words. -/
theorem words_join : ∀ ws : List Bs, (∀ w ∈ ws, Wn w) → words (join ws) = ws
  | [], _ => rfl
  | [w], h => by
    have hw := h w (by simp)
    have := wds_skip w [] [] hw.2
    rw [List.append_nil, List.nil_append] at this
    unfold words join
    rw [this, wds, if_neg hw.1]
  | w :: v :: r, h => by
    have hw := h w (by simp)
    have ih := words_join (v :: r) fun x hx => h x (by simp at hx ⊢; exact Or.inr hx)
    unfold words at ih ⊢
    rw [join, wds_skip w _ [] hw.2, List.nil_append, wds_cons, if_pos rfl, if_neg hw.1, ih]
theorem join_mem : ∀ (ws : List Bs) (c : UInt8), c ∈ join ws → c = 32 ∨ ∃ w ∈ ws, c ∈ w
  | [], c, h => by simp [join] at h
  | [w], c, h => Or.inr ⟨w, by simp, h⟩
  | w :: v :: r, c, h => by
    rw [join] at h
    rcases List.mem_append.1 h with h | h
    · exact Or.inr ⟨w, by simp, h⟩
    · rcases List.mem_cons.1 h with h | h
      · exact Or.inl h
      · rcases join_mem (v :: r) c h with h | ⟨x, hx, hc⟩
        · exact Or.inl h
        · exact Or.inr ⟨x, by simp at hx ⊢; exact Or.inr hx, hc⟩
theorem conv_join (ws : List Bs) (h : ∀ w ∈ ws, Wd w) : conv (join ws) = join ws := by
  refine conv_id _ fun c hc => ?_
  rcases join_mem ws c hc with h' | ⟨w, hw, hcw⟩
  · exact Or.inr h'
  · exact Or.inl ((h w hw).2 c hcw)
theorem fold_join (ws : List Bs) (h : ∀ w ∈ ws, Wd w) : fold (join ws) = join ws := by
  unfold fold
  rw [conv_join ws h, words_join ws fun w hw => (h w hw).n]
/-- A folded text is folded to itself. -/
theorem fold_fold (l : Bs) : fold (fold l) = fold l := fold_join _ (words_conv l)
theorem words_fold (l : Bs) : words (fold l) = words (conv l) := words_join _ fun w hw => (words_conv l w hw).n
theorem fold_word {w : Bs} (h : Wd w) : fold w = w := fold_join [w] (by intro x hx; simp only [List.mem_singleton] at hx; subst hx; exact h)
theorem join_wds_len : ∀ (x cur : Bs), (join (wds x cur)).length ≤ cur.length + x.length
  | [], cur => by
    unfold wds
    split <;> simp [join]
  | c :: r, cur => by
    rw [wds_cons]
    split
    · split
      · have := join_wds_len r []
        simp only [List.length_cons, List.length_nil] at this ⊢; omega
      · have := join_wds_len r []
        cases hr : wds r [] with
        | nil => simp [join]
        | cons v t =>
          rw [hr] at this
          rw [join, List.length_append, List.length_cons]
          simp only [List.length_cons, List.length_nil] at this ⊢; omega
    · have := join_wds_len r (cur ++ [c])
      simp only [List.length_append, List.length_cons, List.length_nil] at this ⊢; omega
theorem fold_len (l : Bs) : (fold l).length ≤ l.length := by
  have h1 := join_wds_len (conv l) []
  have h2 := conv_len l
  unfold fold words
  simp only [List.length_nil] at h1; omega
/-- A text of words with one blank between two; 'f': whether a blank, or nothing, lies ahead. -/
def pl : Bool → Bs → Bool
  | _, [] => true
  | f, c :: r => if c = 32 then !f && !r.isEmpty && pl true r else kpt c && pl false r
theorem pl_app : ∀ (w r : Bs) (f : Bool), (∀ c ∈ w, kpt c = true) → w ≠ [] → pl f (w ++ r) = pl false r
  | [], _, _, _, h => absurd rfl h
  | [c], r, f, h, _ => by
    have hk := h c (by simp)
    rw [List.cons_append, List.nil_append, pl, if_neg (kpt_ne hk), hk, Bool.true_and]
  | c :: d :: w, r, f, h, _ => by
    have hk := h c (by simp)
    rw [List.cons_append, pl, if_neg (kpt_ne hk), hk, Bool.true_and]
    exact pl_app (d :: w) r false (fun x hx => h x (by simp at hx ⊢; exact Or.inr hx)) (by simp)
theorem pl_join : ∀ (ws : List Bs), (∀ w ∈ ws, Wd w) → ∀ f, pl f (join ws) = true
  | [], _, f => by simp [join, pl]
  | [w], h, f => by
    have hw := h w (by simp)
    have := pl_app w [] f hw.2 hw.1
    rw [List.append_nil] at this
    rw [join, this, pl]
  | w :: v :: r, h, f => by
    have hw := h w (by simp)
    have hv := h v (by simp)
    have ih := pl_join (v :: r) (fun x hx => h x (by simp at hx ⊢; exact Or.inr hx)) true
    rw [join, pl_app w _ f hw.2 hw.1, pl, if_pos rfl, ih]
    have : (join (v :: r)).isEmpty = false := by
      cases r with
      | nil => rw [join]; cases hv' : v with
        | nil => exact absurd hv' hv.1
        | cons a t => rfl
      | cons u t => rw [join]; cases hv' : v with
        | nil => exact absurd hv' hv.1
        | cons a t' => rfl
    rw [this]; rfl
theorem wds_nil (cur : Bs) : wds [] cur = if cur = [] then [] else [cur] := rfl
theorem wds_ne : ∀ (r cur : Bs), cur ≠ [] → wds r cur ≠ []
  | [], cur, h => by unfold wds; rw [if_neg h]; simp
  | c :: r, cur, h => by
    rw [wds_cons]
    split
    · simp [h]
    · exact wds_ne r _ (by simp)
theorem join_wds : ∀ (r cur : Bs) (f : Bool), (f = true ↔ cur = []) → pl f r = true → join (wds r cur) = cur ++ r
  | [], cur, f, _, _ => by
    unfold wds
    split
    · rename_i h; subst h; rfl
    · simp [join]
  | c :: r, cur, f, hf, h => by
    rw [pl] at h
    rw [wds_cons]
    split at h
    · rename_i hc
      subst hc
      simp only [Bool.and_eq_true, Bool.not_eq_true', List.isEmpty_eq_false_iff] at h
      obtain ⟨⟨h1, h2⟩, h3⟩ := h
      subst h1
      have hcur : cur ≠ [] := fun e => by have := hf.2 e; exact absurd this (by simp)
      rw [if_pos rfl, if_neg hcur]
      have ih := join_wds r [] true (by simp) h3
      cases hr : r with
      | nil => exact absurd hr h2
      | cons d t =>
        subst hr
        have hd : d ≠ 32 := by
          rintro rfl
          rw [pl, if_pos rfl] at h3
          simp at h3
        cases hw : wds (d :: t) [] with
        | nil => rw [wds_cons, if_neg hd] at hw; exact absurd hw (wds_ne _ _ (by simp))
        | cons v s => rw [hw] at ih; rw [join, ih, List.nil_append]
    · rename_i hc
      simp only [Bool.and_eq_true] at h
      rw [if_neg hc, join_wds r (cur ++ [c]) false (by simp) h.2, List.append_assoc]; rfl
theorem pl_kept : ∀ (l : Bs) (f : Bool), pl f l = true → ∀ c ∈ l, kpt c = true ∨ c = 32
  | [], _, _, c, hc => by simp at hc
  | d :: r, f, h, c, hc => by
    rw [pl] at h
    rcases List.mem_cons.1 hc with rfl | hc
    · split at h
      · exact Or.inr (by assumption)
      · simp only [Bool.and_eq_true] at h; exact Or.inl h.1
    · split at h
      · simp only [Bool.and_eq_true] at h; exact pl_kept r _ h.2 c hc
      · simp only [Bool.and_eq_true] at h; exact pl_kept r _ h.2 c hc
/-- A text is folded exactly if it is plain. -/
theorem plain_iff (l : Bs) : pl true l = true ↔ fold l = l := by
  constructor
  · intro h
    unfold fold words
    rw [conv_id l (pl_kept l true h), join_wds l [] true (by simp) h, List.nil_append]
  · intro h
    rw [← h]
    exact pl_join _ (words_conv l) true
theorem plain_fold (l : Bs) : pl true (fold l) = true := (plain_iff _).2 (fold_fold l)

theorem wds_app (y : Bs) : ∀ (x cur : Bs), wds (x ++ 32 :: y) cur = wds x cur ++ words y
  | [], cur => by
    rw [List.nil_append, wds_cons, if_pos rfl, wds_nil]
    split <;> rfl
  | c :: r, cur => by
    rw [List.cons_append, wds_cons, wds_cons]
    split
    · split
      · exact wds_app y r []
      · rw [wds_app y r []]; rfl
    · exact wds_app y r _
theorem words_app (x y : Bs) : words (x ++ 32 :: y) = words x ++ words y := wds_app y x []
theorem join_ne {ws : List Bs} (h : ∀ w ∈ ws, Wn w) (hn : ws ≠ []) : join ws ≠ [] := by
  match ws, hn with
  | [w], _ => rw [join]; exact (h w (by simp)).1
  | w :: v :: r, _ => rw [join]; simp
theorem join_app : ∀ (ws vs : List Bs), ws ≠ [] → vs ≠ [] → join (ws ++ vs) = join ws ++ 32 :: join vs
  | [], _, h, _ => absurd rfl h
  | [w], v :: vs, _, _ => rfl
  | w :: v :: r, vs, _, hv => by
    have ih := join_app (v :: r) vs (by simp) hv
    rw [List.cons_append] at ih
    rw [List.cons_append, List.cons_append, join, ih, join, List.append_assoc]; rfl
/-- Two texts with a blank between them, or the one that is not empty. -/
def joined (a b : Bs) : Bs := if a = [] ∨ b = [] then a ++ b else a ++ 32 :: b
theorem joined_join (ws vs : List Bs) (hw : ∀ w ∈ ws, Wn w) (hv : ∀ w ∈ vs, Wn w) : joined (join ws) (join vs) = join (ws ++ vs) := by
  unfold joined
  by_cases h1 : ws = []
  · subst h1; simp [join]
  · by_cases h2 : vs = []
    · subst h2; simp [join]
    · rw [if_neg, join_app ws vs h1 h2]
      rintro (h | h)
      · exact join_ne hw h1 h
      · exact join_ne hv h2 h
theorem fold_app (c : UInt8) (hc : c.toNat < 128) (h32 : one c = 32) (s t : Bs) : fold (s ++ c :: t) = joined (fold s) (fold t) := by
  unfold fold
  rw [conv_app c hc t s, h32, words_app, joined_join]
  · exact fun w hw => (words_conv s w hw).n
  · exact fun w hw => (words_conv t w hw).n
theorem fold_byte (c : UInt8) : fold [c] = [] ↔ one c = 32 := by
  have : fold [c] = if one c = 32 then [] else [one c] := by
    unfold fold words conv
    rw [wds_cons]
    split
    · rfl
    · rfl
  rw [this]
  split
  · simp [*]
  · simp [*]
/-- The words of two folded texts that are joined. -/
theorem words_joined (s t : Bs) : words (joined (fold s) (fold t)) = words (conv s) ++ words (conv t) := by
  unfold fold
  rw [joined_join]
  · refine words_join _ fun w hw => ?_
    rcases List.mem_append.1 hw with h | h
    · exact (words_conv s w h).n
    · exact (words_conv t w h).n
  · exact fun w hw => (words_conv s w hw).n
  · exact fun w hw => (words_conv t w hw).n
/-- A small letter as a capital one. -/
def upc (c : UInt8) : UInt8 := if sml c then c - 32 else c
/-- A byte of which nothing is kept as a comma. -/
def cmc (c : UInt8) : UInt8 := if c.toNat < 128 ∧ one c = 32 then 44 else c
theorem fold_up (l : Bs) : fold (l.map upc) = fold l := by
  unfold fold
  rw [conv_map upc (all8 (by decide +kernel)) (all8 (by decide +kernel)) (all8 (by decide +kernel))]
theorem fold_commas (l : Bs) : fold (l.map cmc) = fold l := by
  unfold fold
  rw [conv_map cmc (all8 (by decide +kernel)) (all8 (by decide +kernel)) (all8 (by decide +kernel))]

/-- The program's way: what is folded so far, and whether a blank waits. -/
def sq : Bs → Bs → Bool → Bs
  | [], out, _ => out
  | c :: r, out, ap => if c = 32 then sq r out (!out.isEmpty) else sq r (out ++ (if ap then [32] else []) ++ [c]) false
theorem sq_cons (c : UInt8) (r out : Bs) (ap : Bool) : sq (c :: r) out ap = if c = 32 then sq r out (!out.isEmpty) else sq r (out ++ (if ap then [32] else []) ++ [c]) false := rfl
theorem sq_more : ∀ (t r out : Bs) (ap : Bool), (∀ c ∈ t, c ≠ 32) → t ≠ [] → sq (t ++ r) out ap = sq r (out ++ (if ap then [32] else []) ++ t) false
  | [], _, _, _, _, h => absurd rfl h
  | [c], r, out, ap, h, _ => by
    rw [List.cons_append, List.nil_append, sq_cons, if_neg (h c (by simp))]
  | c :: d :: t, r, out, ap, h, _ => by
    rw [List.cons_append, sq_cons, if_neg (h c (by simp)), sq_more (d :: t) r _ false (fun x hx => h x (by simp at hx ⊢; exact Or.inr hx)) (by simp)]
    simp
theorem join_snoc : ∀ (ws : List Bs) (w x : Bs), join (ws ++ [w ++ x]) = join (ws ++ [w]) ++ x
  | [], w, x => rfl
  | [u], w, x => by simp [join]
  | u :: v :: r, w, x => by
    have ih := join_snoc (v :: r) w x
    rw [List.cons_append] at ih
    have ih2 : join (u :: v :: (r ++ [w])) = u ++ 32 :: join (v :: (r ++ [w])) := rfl
    rw [List.cons_append, List.cons_append, join, ih, List.cons_append, List.cons_append, List.cons_append, ih2]
    simp
theorem join_ne' {ws : List Bs} (h : ∀ w ∈ ws, w ≠ []) (hn : ws ≠ []) : join ws ≠ [] := by
  match ws, hn with
  | [w], _ => rw [join]; exact h w (by simp)
  | w :: v :: r, _ => rw [join]; simp
theorem sq_words : ∀ (r : Bs),
    (∀ (ws : List Bs) (cur : Bs), cur ≠ [] → (∀ w ∈ ws, w ≠ []) → sq r (join (ws ++ [cur])) false = join (ws ++ wds r cur)) ∧
    (∀ (ws : List Bs), ws ≠ [] → (∀ w ∈ ws, w ≠ []) → sq r (join ws) true = join (ws ++ wds r [])) ∧ (sq r [] false = join (wds r []))
  | [] => by
    refine ⟨fun ws cur h _ => ?_, fun ws _ _ => ?_, rfl⟩
    · unfold sq wds; rw [if_neg h]
    · unfold sq wds; rw [if_pos rfl, List.append_nil]
  | c :: r => by
    obtain ⟨h1, h2, h3⟩ := sq_words r
    refine ⟨fun ws cur h hw => ?_, fun ws hn hw => ?_, ?_⟩
    · rw [sq_cons, wds_cons]
      have hw' : ∀ w ∈ ws ++ [cur], w ≠ [] := by
        intro w hm
        rcases List.mem_append.1 hm with hm | hm
        · exact hw w hm
        · simp only [List.mem_singleton] at hm; subst hm; exact h
      split
      · have hne : (join (ws ++ [cur])).isEmpty = false := by simpa using join_ne' hw' (by simp)
        rw [hne, Bool.not_false, h2 (ws ++ [cur]) (by simp) hw', List.append_assoc]; rfl
      · have := h1 ws (cur ++ [c]) (by simp) hw
        rw [join_snoc] at this
        rw [← this]; simp
    · rw [sq_cons, wds_cons]
      split
      · rw [if_pos rfl]
        have hne : (join ws).isEmpty = false := by simpa using join_ne' hw hn
        rw [hne, Bool.not_false]
        exact h2 ws hn hw
      · have := h1 ws [c] (by simp) hw
        rw [join_app ws [[c]] hn (by simp)] at this
        rw [List.nil_append, ← this]
        simp [join]
    · rw [sq_cons, wds_cons]
      split
      · rw [if_pos rfl]; exact h3
      · have := h1 [] [c] (by simp) (by simp)
        simpa [join] using this
theorem sq_fold (l : Bs) : sq (conv l) [] false = fold l := (sq_words (conv l)).2.2
/-- What the bytes ahead become, and how many they are. -/
def pcd : Bs → Bs × Nat
  | [] => ([], 0)
  | [a] => ([one a], 1)
  | a :: b :: _ => if two a b = [] then ([one a], 1) else (two a b, 2)
theorem pcd_two (a b : UInt8) (r : Bs) : pcd (a :: b :: r) = if two a b = [] then ([one a], 1) else (two a b, 2) := rfl
theorem pcd_conv : ∀ l : Bs, conv l = (pcd l).1 ++ conv (l.drop (pcd l).2)
  | [] => rfl
  | [a] => rfl
  | a :: b :: r => by
    rw [pcd_two]
    split
    · rename_i h; rw [conv_one r h]; rfl
    · rename_i h; rw [conv_two r h]; rfl
theorem pcd_pos : ∀ l : Bs, l ≠ [] → 1 ≤ (pcd l).2 ∧ (pcd l).2 ≤ l.length
  | [], h => absurd rfl h
  | [a], _ => ⟨Nat.le_refl _, Nat.le_refl _⟩
  | a :: b :: r, _ => by
    rw [pcd_two]
    split
    · simp
    · simp
theorem pcd_text : ∀ l : Bs, l ≠ [] → (pcd l).1.length ≤ 2 ∧ ((pcd l).1 = [32] ∨ ((pcd l).1 ≠ [] ∧ ∀ c ∈ (pcd l).1, c ≠ 32))
  | [], h => absurd rfl h
  | [a], _ => by
    show [one a].length ≤ 2 ∧ ([one a] = [32] ∨ ([one a] ≠ [] ∧ ∀ c ∈ [one a], c ≠ 32))
    refine ⟨by simp, ?_⟩
    rcases one_kpt a with e | e
    · exact Or.inl (by rw [e])
    · exact Or.inr ⟨by simp, fun c hc => by simp only [List.mem_singleton] at hc; subst hc; exact kpt_ne e⟩
  | a :: b :: r, _ => by
    rw [pcd_two]
    split
    · show [one a].length ≤ 2 ∧ ([one a] = [32] ∨ ([one a] ≠ [] ∧ ∀ c ∈ [one a], c ≠ 32))
      refine ⟨by simp, ?_⟩
      rcases one_kpt a with e | e
      · exact Or.inl (by rw [e])
      · exact Or.inr ⟨by simp, fun c hc => by simp only [List.mem_singleton] at hc; subst hc; exact kpt_ne e⟩
    · rename_i h
      rcases two_ok a b with e | ⟨_, _, e1, e2⟩
      · exact absurd e h
      · exact ⟨e1, Or.inr ⟨h, fun c hc => kpt_ne (e2 c hc)⟩⟩
end Fo
end Go.Proofs.Ytljfbdiiecohpaa
