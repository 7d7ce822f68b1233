/- Facts of hits in order. -/
import Derived.Test.YtkhgjjbiifbfgaaLg7
namespace Go.Proofs.Ytkhgjjbiifbfgaa
open Go.RowKit Go.Shelf

namespace Lx
open Ed (Bs Cs)
theorem lt_irr (x : Hit) : ¬ ltH x x = true := fun h => by unfold ltH at h; simp at h
theorem lt_asym (x y : Hit) (h1 : ltH x y = true) : ¬ ltH y x = true := fun h2 => by unfold ltH at h1 h2; simp at h1 h2; omega
theorem lt_le {x y : Hit} (h : ltH x y = true) : x.2 ≤ y.2 := by unfold ltH at h; simp at h; omega
theorem near_cost (c : Cs) (s : Bs) (ws : List Bs) (most : Int) : (near c s ws most).Pairwise (fun x y => x.2 ≤ y.2) := (near_inc c s ws most).imp lt_le
theorem cut (m : Int) : ∀ L : List Hit, L.Pairwise (fun x y => x.2 ≤ y.2) → L.take (L.filter fun x => decide (x.2 ≤ m)).length = (L.filter fun x => decide (x.2 ≤ m)) ∧ ∀ x ∈ L.drop (L.filter fun x => decide (x.2 ≤ m)).length, m < x.2
  | [], _ => by simp
  | a :: L, h => by
    rw [List.pairwise_cons] at h
    obtain ⟨i1, i2⟩ := cut m L h.2
    by_cases ha : a.2 ≤ m
    · rw [List.filter_cons_of_pos (by simpa using ha)]
      simp only [List.length_cons, List.take_succ_cons, List.drop_succ_cons]
      exact ⟨by rw [i1], i2⟩
    · have e : (a :: L).filter (fun x => decide (x.2 ≤ m)) = [] := by
        rw [List.filter_eq_nil_iff]
        intro x hx
        rcases List.mem_cons.1 hx with rfl | hx
        · simpa using ha
        · have := h.1 x hx; simp; omega
      rw [e]
      refine ⟨rfl, fun x hx => ?_⟩
      simp only [List.length_nil, List.drop_zero] at hx
      rcases List.mem_cons.1 hx with rfl | hx
      · omega
      · have := h.1 x hx; omega
/-- The hits for a limit are those of a greater one that cost no more. -/
theorem near_filter (c : Cs) (s : Bs) (ws : List Bs) {m m' : Int} (h : m ≤ m') : (near c s ws m').filter (fun x => decide (x.2 ≤ m)) = near c s ws m := by
  refine same_list (lt := fun x y => ltH x y = true) lt_irr lt_asym _ _ ((near_inc c s ws m').sublist (List.filter_sublist)) (near_inc c s ws m) (fun x => ?_)
  rw [List.mem_filter, near_mem, near_mem, decide_eq_true_iff]
  constructor
  · rintro ⟨⟨i, hi, rfl, _⟩, h2⟩; exact ⟨i, hi, rfl, h2⟩
  · rintro ⟨i, hi, rfl, h2⟩; exact ⟨⟨i, hi, rfl, by omega⟩, h2⟩
theorem near_more (c : Cs) (s : Bs) (ws : List Bs) {m m' : Int} (h : m ≤ m') : (near c s ws m').take (near c s ws m).length = near c s ws m ∧ ∀ x ∈ (near c s ws m').drop (near c s ws m).length, m < x.2 := by
  have := cut m (near c s ws m') (near_cost c s ws m')
  rwa [near_filter c s ws h] at this
theorem near_more_len (c : Cs) (s : Bs) (ws : List Bs) {m m' : Int} (h : m ≤ m') : (near c s ws m).length ≤ (near c s ws m').length := by
  rw [← near_filter c s ws h]; exact List.length_filter_le _ _
theorem near_zero_no {c : Cs} (hc : Ed.Rc c) {s : Bs} (hs : s.length ≤ 60) {ws : List Bs} (hg : Good ws) (h : s ∉ ws) : near c s ws 0 = [] := by
  rw [List.eq_nil_iff_forall_not_mem]
  intro x hx
  obtain ⟨i, hi, _, h2⟩ := (near_mem c s ws 0 x).1 hx
  have hw := hg.le _ (List.getElem_mem hi)
  have h0 := Ed.ds_nonneg hc s ws[i]
  have := (Ed.ds_zero hc hs (show (ws[i]).length ≤ 60 by omega)).1 (by omega)
  exact h (by rw [this]; exact List.getElem_mem hi)
theorem near_zero_yes {c : Cs} (hc : Ed.Rc c) {ws : List Bs} (hg : Good ws) {n : Nat} (hn : n < ws.length) : near c ws[n] ws 0 = [((n : Int), 0)] := by
  have hwn := hg.le _ (List.getElem_mem hn)
  refine same_list (lt := fun x y => ltH x y = true) lt_irr lt_asym _ _ (near_inc c _ ws 0) (by simp) (fun x => ?_)
  rw [near_mem, List.mem_singleton]
  constructor
  · rintro ⟨i, hi, rfl, h2⟩
    have hw := hg.le _ (List.getElem_mem hi)
    have h0 := Ed.ds_nonneg hc ws[n] ws[i]
    have e0 : Ed.ds c ws[n] ws[i] = 0 := by omega
    have e := (Ed.ds_zero hc (show (ws[n]).length ≤ 60 by omega) (show (ws[i]).length ≤ 60 by omega)).1 e0
    have e2 : n = i := (List.getElem_inj hg.nd).1 e
    subst e2
    rw [e0]
  · rintro rfl
    exact ⟨n, hn, by rw [Ed.ds_self hc], by rw [Ed.ds_self hc]; omega⟩
/-- The best hits are the first ones. -/
theorem bst_take (L : List Hit) (h : L.Pairwise (fun x y => x.2 ≤ y.2)) : L.take (bst L).length = bst L := by
  cases L with
  | nil => rfl
  | cons a L =>
    have e : bst (a :: L) = (a :: L).filter (fun x => decide (x.2 ≤ a.2)) := by
      unfold bst
      refine List.filter_congr (fun x hx => ?_)
      have ha : a.2 ≤ x.2 := by
        rw [List.pairwise_cons] at h
        rcases List.mem_cons.1 hx with rfl | hx
        · omega
        · exact h.1 x hx
      simp only [List.getD_cons_zero]
      rw [Bool.eq_iff_iff, beq_iff_eq, decide_eq_true_iff]
      omega
    rw [e]
    exact (cut a.2 (a :: L) h).1
end Lx
theorem Hl.take {w : World} {a : Option Addr} {c : Nat} {l : List Hit} (h : Hl w (.slice a l.length c) l) (k : Nat) (hk : k ≤ l.length) : Hl w (.slice a k c) (l.take k) := by
  obtain ⟨a', c', e, hc, h⟩ := h
  obtain ⟨rfl, rfl⟩ : a' = a ∧ c' = c := by cases e; exact ⟨rfl, rfl⟩
  have el : (l.take k).length = k := by rw [List.length_take]; omega
  refine ⟨a', c', by rw [el], by omega, ?_⟩
  rcases h with h | ⟨b, off, ha, h⟩
  · subst h; exact Or.inl (by simp)
  · refine Or.inr ⟨b, off, ha, fun j hj => ?_⟩
    rw [el] at hj
    have := h j (by omega)
    rwa [List.getElem_take]
theorem Hl.at' {w : World} {a : Option Addr} {n c : Nat} {l : List Hit} (h : Hl w (.slice a n c) l) (hn : n = l.length) {k : Nat} (hk : k < l.length) : ∃ b off, a = some ⟨b, off, none⟩ ∧ w.cell? ⟨b, off + k * 2, none⟩ = some (.int .i64 l[k].1) ∧ w.cell? ⟨b, off + k * 2 + 1, none⟩ = some (.int .i64 l[k].2) := by
  obtain ⟨a', c', e, _, h⟩ := h
  obtain ⟨rfl, rfl⟩ : a' = a ∧ c' = c := by cases e; exact ⟨rfl, rfl⟩
  obtain ⟨b, off, ha, h⟩ := h.resolve_left (by intro e; rw [e] at hk; simp at hk)
  exact ⟨b, off, ha, h k hk⟩
end Go.Proofs.Ytkhgjjbiifbfgaa
