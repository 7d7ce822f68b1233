/- Facts of hits, counted. -/
import Derived.Test.YtkhgjjbiifbfgaaLi7
namespace Go.Proofs.Ytkhgjjbiifbfgaa
open Go.RowKit Go.Shelf

namespace Lx
open Ed (Bs Cs)
theorem near_one (c : Cs) (s : Bs) {ws : List Bs} (most : Int) {i : Nat} (hi : i < ws.length) : (near c s ws most).filter (fun x => x.1 == (i : Int)) = if Ed.ds c s ws[i] ≤ most then [((i : Int), Ed.ds c s ws[i])] else [] := by
  refine same_list (lt := fun x y => ltH x y = true) lt_irr lt_asym _ _ ((near_inc c s ws most).sublist List.filter_sublist) (by split <;> simp) (fun x => ?_)
  rw [List.mem_filter, near_mem, beq_iff_eq]
  constructor
  · rintro ⟨⟨j, hj, rfl, h2⟩, h3⟩
    have : j = i := by simp at h3; omega
    subst this
    rw [if_pos h2]; simp
  · intro h
    split at h
    · rename_i h2
      rw [List.mem_singleton] at h
      subst h
      exact ⟨⟨i, hi, rfl, h2⟩, rfl⟩
    · cases h
theorem near_at (c : Cs) (s : Bs) {ws : List Bs} (most : Int) {q : Nat} (hq : q < (near c s ws most).length) {i : Nat} (hi : i < ws.length) (h : (near c s ws most)[q].1 = (i : Int)) : (near c s ws most)[q].2 = Ed.ds c s ws[i] := by
  obtain ⟨j, hj, e, _⟩ := (near_mem c s ws most _).1 (List.getElem_mem hq)
  rw [e] at h ⊢
  have : j = i := by simp at h; omega
  subst this
  rfl
theorem near_all (c : Cs) (s : Bs) (ws : List Bs) (most : Int) : (rawN c s ws most ws.length).length = (near c s ws most).length := by unfold near; rw [srtH_len]
/-- Two neighbours in order. -/
theorem near_next (c : Cs) (s : Bs) {ws : List Bs} (most : Int) {q : Nat} (hq : q + 1 < (near c s ws most).length) : (near c s ws most)[q].2 ≤ (near c s ws most)[q + 1].2 ∧ ((near c s ws most)[q + 1].2 = (near c s ws most)[q].2 → (near c s ws most)[q].1 < (near c s ws most)[q + 1].1) := by
  have h := List.pairwise_iff_getElem.1 (near_inc c s ws most) q (q + 1) (by omega) hq (by omega)
  unfold ltH at h
  simp at h
  omega
end Lx
end Go.Proofs.Ytkhgjjbiifbfgaa
