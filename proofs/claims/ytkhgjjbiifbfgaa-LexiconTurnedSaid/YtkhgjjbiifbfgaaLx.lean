/- Words with numbers: those that begin with a text, and those near it, as lists. -/
import Derived.Test.YtkhgjjbiifbfgaaEd
namespace Go.Proofs.Ytkhgjjbiifbfgaa
namespace Lx
open Ed (Bs Cs)

/-- Words that a lexicon may have. -/
structure Good (ws : List Bs) : Prop where
  nd : ws.Nodup
  ne : ∀ x ∈ ws, x ≠ []
  le : ∀ x ∈ ws, x.length ≤ 40
theorem Good.snoc {ws : List Bs} {x : Bs} (h : Good ws) (h1 : x ∉ ws) (h2 : x ≠ []) (h3 : x.length ≤ 40) : Good (ws ++ [x]) where
  nd := List.nodup_append.2 ⟨h.nd, by simp, fun a ha b hb => by rw [List.mem_singleton] at hb; subst hb; exact fun e => h1 (e ▸ ha)⟩
  ne := fun y hy => by
    rcases List.mem_append.1 hy with hy | hy
    · exact h.ne y hy
    · rw [List.mem_singleton] at hy; rw [hy]; exact h2
  le := fun y hy => by
    rcases List.mem_append.1 hy with hy | hy
    · exact h.le y hy
    · rw [List.mem_singleton] at hy; rw [hy]; exact h3
theorem Good.nil : Good [] := ⟨List.nodup_nil, by simp, by simp⟩
/-- The first error of words, from the k-th one on. -/
def wrong (ws : List Bs) : List Bs → Int
  | [] => 0
  | x :: r => if x = [] then 2 else if 40 < x.length then 3 else if x ∈ ws then 70 else wrong (ws ++ [x]) r
theorem wrong_good : ∀ (r ws : List Bs), Good ws → (wrong ws r = 0 ↔ Good (ws ++ r))
  | [], ws, h => by simp [wrong, h]
  | x :: r, ws, h => by
    unfold wrong
    by_cases h1 : x = []
    · rw [if_pos h1]
      refine ⟨fun e => by omega, fun g => absurd h1 (g.ne x (by simp))⟩
    · rw [if_neg h1]
      by_cases h2 : 40 < x.length
      · rw [if_pos h2]
        refine ⟨fun e => by omega, fun g => ?_⟩
        have := g.le x (by simp)
        omega
      · rw [if_neg h2]
        by_cases h3 : x ∈ ws
        · rw [if_pos h3]
          refine ⟨fun e => by omega, fun g => ?_⟩
          exact absurd rfl ((List.nodup_append.1 g.nd).2.2 x h3 x (by simp))
        · rw [if_neg h3, wrong_good r (ws ++ [x]) (h.snoc h3 h1 (by omega))]
          simp
theorem wrong_vals : ∀ (r ws : List Bs), wrong ws r = 0 ∨ wrong ws r = 2 ∨ wrong ws r = 3 ∨ wrong ws r = 70
  | [], ws => Or.inl rfl
  | x :: r, ws => by
    unfold wrong
    split
    · simp
    · split
      · simp
      · split
        · simp
        · exact wrong_vals r _
/-- The numbers of words, as a function. -/
structure Nums (ws : List Bs) (nm : Bs → Int) : Prop where
  at' : ∀ i (h : i < ws.length), nm ws[i] = i
  no : ∀ p, p ∉ ws → nm p = -1
theorem Nums.nil : Nums [] (fun _ => -1) := ⟨fun _ h => absurd h (by simp), fun _ _ => rfl⟩
theorem Nums.snoc {ws : List Bs} {nm : Bs → Int} {x : Bs} (h : Nums ws nm) (hx : x ∉ ws) : Nums (ws ++ [x]) (fun p => if p = x then (ws.length : Int) else nm p) where
  at' := fun i hi => by
    by_cases hl : i < ws.length
    · rw [List.getElem_append_left hl, if_neg (fun e => hx (by rw [← e]; exact List.getElem_mem hl)), h.at' i hl]
    · have : i = ws.length := by rw [List.length_append] at hi; simp at hi; omega
      subst this
      rw [List.getElem_append_right (Nat.le_refl _)]
      simp
  no := fun p hp => by
    rw [if_neg (fun e => hp (by simp [e])), h.no p (fun hm => hp (by simp [hm]))]
theorem Nums.yes {ws : List Bs} {nm : Bs → Int} {x : Bs} (h : Nums ws nm) (hx : x ∈ ws) : ∃ i, ∃ h : i < ws.length, ws[i] = x ∧ nm x = i := by
  obtain ⟨i, hi, e⟩ := List.getElem_of_mem hx
  exact ⟨i, hi, e, by rw [← e]; exact h.at' i hi⟩
theorem Nums.neg_iff {ws : List Bs} {nm : Bs → Int} {x : Bs} (h : Nums ws nm) : nm x = -1 ↔ x ∉ ws := by
  refine ⟨fun e hx => ?_, h.no x⟩
  obtain ⟨i, _, _, e2⟩ := h.yes hx
  omega
/-- A text with which a word begins. -/
def Begun (ws : List Bs) (p : Bs) : Prop := p = [] ∨ ∃ x ∈ ws, p <+: x
theorem Begun.short {ws : List Bs} {p q : Bs} (h : Begun ws q) (hp : p <+: q) : Begun ws p := by
  rcases h with rfl | ⟨x, hx, h⟩
  · exact Or.inl (List.prefix_nil.1 hp)
  · exact Or.inr ⟨x, hx, hp.trans h⟩
/-- What is told of the numbers of words that begin with a text. -/
structure Pre (ws : List Bs) (p : Bs) (l : List Int) : Prop where
  nd : l.Nodup
  iff : ∀ x, x ∈ l ↔ ∃ i, ∃ h : i < ws.length, x = (i : Int) ∧ p <+: ws[i]
/-- The same in increasing order. -/
def preN (ws : List Bs) (p : Bs) : Nat → List Int
  | 0 => []
  | k + 1 => preN ws p k ++ (if p.isPrefixOf (ws.getD k []) = true then [(k : Int)] else [])
theorem getD_is {ws : List Bs} {k : Nat} (h : k < ws.length) : ws.getD k [] = ws[k] := by
  rw [List.getD_eq_getElem?_getD, List.getElem?_eq_getElem h]; rfl
theorem preN_mem (ws : List Bs) (p : Bs) : ∀ k, k ≤ ws.length → ∀ x, x ∈ preN ws p k ↔ ∃ i, ∃ h : i < ws.length, i < k ∧ x = (i : Int) ∧ p <+: ws[i]
  | 0, _, x => by simp [preN]
  | k + 1, hk, x => by
    have hkl : k < ws.length := by omega
    unfold preN
    rw [List.mem_append, preN_mem ws p k (by omega) x, getD_is hkl]
    constructor
    · rintro (⟨i, h, h1, h2, h3⟩ | h)
      · exact ⟨i, h, by omega, h2, h3⟩
      · split at h
        · rename_i hp
          rw [List.mem_singleton] at h
          exact ⟨k, hkl, by omega, h, List.isPrefixOf_iff_prefix.1 hp⟩
        · cases h
    · rintro ⟨i, h, h1, h2, h3⟩
      by_cases e : i < k
      · exact Or.inl ⟨i, h, e, h2, h3⟩
      · have : i = k := by omega
        subst this
        refine Or.inr ?_
        rw [if_pos (List.isPrefixOf_iff_prefix.2 h3)]
        simp [h2]
theorem preN_inc (ws : List Bs) (p : Bs) : ∀ k, k ≤ ws.length → (preN ws p k).Pairwise (· < ·)
  | 0, _ => List.Pairwise.nil
  | k + 1, hk => by
    unfold preN
    rw [List.pairwise_append]
    refine ⟨preN_inc ws p k (by omega), by split <;> simp, fun a ha b hb => ?_⟩
    obtain ⟨i, h, h1, h2, h3⟩ := (preN_mem ws p k (by omega) a).1 ha
    split at hb
    · rw [List.mem_singleton] at hb; omega
    · cases hb
theorem preN_len (ws : List Bs) (p : Bs) : ∀ k, (preN ws p k).length ≤ k
  | 0 => Nat.le_refl _
  | k + 1 => by
    have := preN_len ws p k
    unfold preN
    rw [List.length_append]
    split <;> simp <;> omega
/-- A list is known by its members and a strict order. -/
theorem same_list {α : Type} {lt : α → α → Prop} (irr : ∀ x, ¬ lt x x) (asym : ∀ x y, lt x y → ¬ lt y x) : ∀ (l m : List α), l.Pairwise lt → m.Pairwise lt → (∀ x, x ∈ l ↔ x ∈ m) → l = m
  | [], [], _, _, _ => rfl
  | [], y :: m, _, _, h => absurd ((h y).2 (by simp)) (by simp)
  | x :: l, [], _, _, h => absurd ((h x).1 (by simp)) (by simp)
  | x :: l, y :: m, h1, h2, h => by
    rw [List.pairwise_cons] at h1 h2
    have e : x = y := by
      rcases List.mem_cons.1 ((h x).1 (by simp)) with e | hx
      · exact e
      · rcases List.mem_cons.1 ((h y).2 (by simp)) with e | hy
        · exact e.symm
        · exact absurd (h1.1 y hy) (asym _ _ (h2.1 x hx))
    subst e
    congr 1
    refine same_list irr asym l m h1.2 h2.2 (fun z => ⟨fun hz => ?_, fun hz => ?_⟩)
    · rcases List.mem_cons.1 ((h z).1 (by simp [hz])) with e | hm
      · subst e; exact absurd (h1.1 z hz) (irr z)
      · exact hm
    · rcases List.mem_cons.1 ((h z).2 (by simp [hz])) with e | hm
      · subst e; exact absurd (h2.1 z hz) (irr z)
      · exact hm
theorem pre_sorted {ws : List Bs} {p : Bs} {l m : List Int} (h : Pre ws p l) (hp : m.Perm l) (hs : m.Pairwise (· ≤ ·)) : m = preN ws p ws.length := by
  refine same_list (lt := fun a b : Int => a < b) (fun x => by omega) (fun x y => by omega) _ _ ?_ (preN_inc ws p _ (Nat.le_refl _)) (fun x => ?_)
  · have nd : m.Pairwise (· ≠ ·) := hp.nodup_iff.2 h.nd
    exact (hs.and nd).imp (fun {a b} ⟨h1, h2⟩ => by omega)
  · rw [hp.mem_iff, h.iff, preN_mem ws p _ (Nat.le_refl _)]
    exact ⟨fun ⟨i, a, b, c⟩ => ⟨i, a, a, b, c⟩, fun ⟨i, a, _, b, c⟩ => ⟨i, a, b, c⟩⟩
theorem preN_all (ws : List Bs) : ∀ k, (preN ws [] k).length = k
  | 0 => rfl
  | k + 1 => by
    unfold preN
    rw [List.length_append, preN_all ws k, if_pos (by simp)]; rfl
theorem Pre.len {ws : List Bs} {p : Bs} {l : List Int} (h : Pre ws p l) : l.length = (preN ws p ws.length).length := by
  have hp := List.mergeSort_perm l (fun a b => decide (a ≤ b))
  rw [← hp.length_eq]
  congr 1
  refine pre_sorted h hp ?_
  have := List.pairwise_mergeSort (le := fun a b : Int => decide (a ≤ b)) (fun a b c h1 h2 => by simp at *; omega) (fun a b => by simp; omega) l
  exact this.imp (fun h => by simpa using h)
/-- The numbers at a node and behind it: the node's own number, and those behind each byte. -/
structure Part (ws : List Bs) (p : Bs) (done : UInt8 → Bool) (l : List Int) : Prop where
  nd : l.Nodup
  iff : ∀ x, x ∈ l ↔ ∃ i, ∃ h : i < ws.length, x = (i : Int) ∧ (ws[i] = p ∨ ∃ c, done c = true ∧ (p ++ [c]) <+: ws[i])
theorem Part.start {ws : List Bs} {p : Bs} {nm : Bs → Int} (hn : Nums ws nm) (hg : Good ws) {done : UInt8 → Bool} (hd : ∀ c, done c = false) : Part ws p done (if nm p = -1 then [] else [nm p]) := by
  by_cases h : nm p = -1
  · rw [if_pos h]
    refine ⟨List.nodup_nil, fun x => ⟨fun hx => absurd hx (by simp), ?_⟩⟩
    rintro ⟨i, hi, _, e | ⟨c, hc, _⟩⟩
    · exact absurd (List.getElem_mem hi) (e ▸ hn.neg_iff.1 h)
    · rw [hd] at hc; cases hc
  · rw [if_neg h]
    have hp : p ∈ ws := by
      by_cases e : p ∈ ws
      · exact e
      · exact absurd (hn.no p e) h
    obtain ⟨i, hi, e, e2⟩ := hn.yes hp
    refine ⟨by simp, fun x => ?_⟩
    rw [List.mem_singleton, e2]
    constructor
    · rintro rfl; exact ⟨i, hi, rfl, Or.inl e⟩
    · rintro ⟨j, hj, rfl, e3 | ⟨c, hc, _⟩⟩
      · have : i = j := (List.getElem_inj hg.nd).1 (e.trans e3.symm)
        rw [this]
      · rw [hd] at hc; cases hc
theorem pre_len {p : Bs} {c : UInt8} {x : Bs} (h : (p ++ [c]) <+: x) : x ≠ p := by
  have := h.length_le
  intro e
  rw [e, List.length_append] at this
  simp only [List.length_singleton] at this
  omega
theorem pre_one {p : Bs} {c d : UInt8} {x : Bs} (h : (p ++ [c]) <+: x) (h' : (p ++ [d]) <+: x) : c = d := by
  obtain ⟨r, rfl⟩ := h
  rw [List.append_assoc, List.prefix_append_right_inj] at h'
  simp at h'
  exact h'.symm
theorem Part.step {ws : List Bs} {p : Bs} {done done' : UInt8 → Bool} {l m : List Int} {c : UInt8} (h : Part ws p done l) (hc : done c = false) (hd : ∀ d, done' d = (done d || d == c)) (hm : Pre ws (p ++ [c]) m) : Part ws p done' (l ++ m) where
  nd := by
    refine List.nodup_append.2 ⟨h.nd, hm.nd, fun a ha b hb e => ?_⟩
    subst e
    obtain ⟨i, hi, e1, h1⟩ := (h.iff a).1 ha
    obtain ⟨j, hj, e2, h2⟩ := (hm.iff a).1 hb
    have : i = j := by omega
    subst this
    rcases h1 with h1 | ⟨d, hd1, h1⟩
    · exact pre_len h2 h1
    · rw [pre_one h1 h2, hc] at hd1; cases hd1
  iff := fun x => by
    rw [List.mem_append, h.iff, hm.iff]
    constructor
    · rintro (⟨i, hi, e, h1 | ⟨d, h1, h2⟩⟩ | ⟨i, hi, e, h1⟩)
      · exact ⟨i, hi, e, Or.inl h1⟩
      · exact ⟨i, hi, e, Or.inr ⟨d, by rw [hd, h1]; rfl, h2⟩⟩
      · exact ⟨i, hi, e, Or.inr ⟨c, by rw [hd]; simp, h1⟩⟩
    · rintro ⟨i, hi, e, h1 | ⟨d, h1, h2⟩⟩
      · exact Or.inl ⟨i, hi, e, Or.inl h1⟩
      · rw [hd, Bool.or_eq_true] at h1
        rcases h1 with h1 | h1
        · exact Or.inl ⟨i, hi, e, Or.inr ⟨d, h1, h2⟩⟩
        · have : d = c := by simpa using h1
          subst this
          exact Or.inr ⟨i, hi, e, h2⟩
theorem Part.all {ws : List Bs} {p : Bs} {done : UInt8 → Bool} {l : List Int} (h : Part ws p done l) (hd : ∀ c, (∃ x ∈ ws, (p ++ [c]) <+: x) → done c = true) : Pre ws p l where
  nd := h.nd
  iff := fun x => by
    rw [h.iff]
    constructor
    · rintro ⟨i, hi, e, h1 | ⟨d, _, h2⟩⟩
      · exact ⟨i, hi, e, by rw [h1]; exact List.prefix_rfl⟩
      · exact ⟨i, hi, e, (List.prefix_append p [d]).trans h2⟩
    · rintro ⟨i, hi, e, h1⟩
      obtain ⟨r, hr⟩ := h1
      cases r with
      | nil => exact ⟨i, hi, e, Or.inl (by rw [← hr]; simp)⟩
      | cons c r =>
        have hp : (p ++ [c]) <+: ws[i] := ⟨r, by rw [← hr]; simp⟩
        exact ⟨i, hi, e, Or.inr ⟨c, hd c ⟨_, List.getElem_mem hi, hp⟩, hp⟩⟩
theorem pre_none {ws : List Bs} {p : Bs} (h : ¬ Begun ws p) : Pre ws p [] :=
  ⟨List.nodup_nil, fun x => ⟨fun hx => absurd hx (by simp), fun ⟨i, hi, _, hp⟩ => absurd (Or.inr ⟨_, List.getElem_mem hi, hp⟩) h⟩⟩
end Lx
end Go.Proofs.Ytkhgjjbiifbfgaa
