/- The hits of a text, by numbers; the iterator over them. -/
import Derived.Test.YtkhgjjbiifbfgaaLw
import Derived.Test.YtkhgjjbiifbfgaaLq7
import Derived.Test.YtkhgjjbiifbfgaaLr7
import Derived.Test.YtkhgjjbiifbfgaaRg
namespace Go.Proofs.Ytkhgjjbiifbfgaa
namespace Lx
open Ed (Bs Cs)
/-- The hits among the first k words. -/
def rawN (c : Cs) (s : Bs) (ws : List Bs) (most : Int) : Nat → List Hit
  | 0 => []
  | k + 1 => rawN c s ws most k ++ (if Ed.ds c s (ws.getD k []) ≤ most then [((k : Int), Ed.ds c s (ws.getD k []))] else [])
theorem rawN_mem (c : Cs) (s : Bs) (ws : List Bs) (most : Int) : ∀ k, k ≤ ws.length → ∀ x, x ∈ rawN c s ws most k ↔ ∃ i, ∃ h : i < ws.length, i < k ∧ x = ((i : Int), Ed.ds c s ws[i]) ∧ Ed.ds c s ws[i] ≤ most
  | 0, _, x => by simp [rawN]
  | k + 1, hk, x => by
    have hkl : k < ws.length := by omega
    unfold rawN
    rw [List.mem_append, rawN_mem c s ws most k (by omega) x, getD_is hkl]
    constructor
    · rintro (⟨i, h, h1, h2, h3⟩ | h)
      · exact ⟨i, h, by omega, h2, h3⟩
      · split at h
        · rename_i hp
          rw [List.mem_singleton] at h
          exact ⟨k, hkl, by omega, h, hp⟩
        · cases h
    · rintro ⟨i, h, h1, h2, h3⟩
      by_cases e : i < k
      · exact Or.inl ⟨i, h, e, h2, h3⟩
      · have : i = k := by omega
        subst this
        refine Or.inr ?_
        rw [if_pos h3]
        simp [h2]
theorem rawN_len (c : Cs) (s : Bs) (ws : List Bs) (most : Int) : ∀ k, (rawN c s ws most k).length ≤ k
  | 0 => Nat.le_refl _
  | k + 1 => by
    have := rawN_len c s ws most k
    unfold rawN
    rw [List.length_append]
    split <;> simp <;> omega
theorem rawN_pre (c : Cs) (s : Bs) (ws : List Bs) (most : Int) : ∀ n k, k ≤ n → rawN c s ws most k <+: rawN c s ws most n
  | 0, k, h => by have : k = 0 := by omega
                  subst this; exact List.prefix_rfl
  | n + 1, k, h => by
    by_cases e : k = n + 1
    · subst e; exact List.prefix_rfl
    · refine (rawN_pre c s ws most n k (by omega)).trans ?_
      show rawN c s ws most n <+: rawN c s ws most n ++ _
      exact List.prefix_append _ _
theorem rawN_yes {c : Cs} {s : Bs} {ws : List Bs} {most : Int} {k : Nat} (hk : k < ws.length) (h : Ed.ds c s ws[k] ≤ most) : rawN c s ws most (k + 1) = rawN c s ws most k ++ [((k : Int), Ed.ds c s ws[k])] := by
  show rawN c s ws most k ++ _ = _
  rw [getD_is hk, if_pos h]
theorem rawN_no {c : Cs} {s : Bs} {ws : List Bs} {most : Int} {k : Nat} (hk : k < ws.length) (h : ¬ Ed.ds c s ws[k] ≤ most) : rawN c s ws most (k + 1) = rawN c s ws most k := by
  show rawN c s ws most k ++ _ = _
  rw [getD_is hk, if_neg h, List.append_nil]
theorem rawN_at {c : Cs} {s : Bs} {ws : List Bs} {most : Int} {k n : Nat} (hk : k < ws.length) (hn : k < n) (h : Ed.ds c s ws[k] ≤ most) : (rawN c s ws most n)[(rawN c s ws most k).length]? = some ((k : Int), Ed.ds c s ws[k]) := by
  have h1 := rawN_pre c s ws most n (k + 1) (by omega)
  rw [rawN_yes hk h] at h1
  obtain ⟨r, hr⟩ := h1
  rw [← hr, List.append_assoc, List.getElem?_append_right (Nat.le_refl _)]
  simp
/-- The hits. -/
def near (c : Cs) (s : Bs) (ws : List Bs) (most : Int) : List Hit := srtH (rawN c s ws most ws.length)
theorem near_mem (c : Cs) (s : Bs) (ws : List Bs) (most : Int) (x : Hit) : x ∈ near c s ws most ↔ ∃ i, ∃ h : i < ws.length, x = ((i : Int), Ed.ds c s ws[i]) ∧ Ed.ds c s ws[i] ≤ most := by
  unfold near srtH
  rw [(List.mergeSort_perm _ _).mem_iff, rawN_mem c s ws most _ (Nat.le_refl _)]
  exact ⟨fun ⟨i, a, _, b, c⟩ => ⟨i, a, b, c⟩, fun ⟨i, a, b, c⟩ => ⟨i, a, a, b, c⟩⟩
theorem near_len (c : Cs) (s : Bs) (ws : List Bs) (most : Int) : (near c s ws most).length ≤ ws.length := by
  unfold near; rw [srtH_len]; exact rawN_len _ _ _ _ _
theorem rawN_nodup (c : Cs) (s : Bs) (ws : List Bs) (most : Int) : ∀ k, k ≤ ws.length → (rawN c s ws most k).Nodup
  | 0, _ => List.nodup_nil
  | k + 1, hk => by
    unfold rawN
    refine List.nodup_append.2 ⟨rawN_nodup c s ws most k (by omega), by split <;> simp, fun a ha b hb e => ?_⟩
    subst e
    obtain ⟨i, h, h1, h2, h3⟩ := (rawN_mem c s ws most k (by omega) a).1 ha
    split at hb
    · rw [List.mem_singleton, h2] at hb
      have := congrArg Prod.fst hb
      simp at this
      omega
    · cases hb
theorem near_inc (c : Cs) (s : Bs) (ws : List Bs) (most : Int) : (near c s ws most).Pairwise (fun x y => ltH x y = true) := by
  unfold near srtH
  have hp := List.mergeSort_perm (rawN c s ws most ws.length) (fun x y => !(ltH y x))
  have hs := List.pairwise_mergeSort (le := fun x y : Hit => !(ltH y x)) (fun a b c h1 h2 => by unfold ltH at *; simp at *; omega) (fun a b => by unfold ltH; simp; omega) (rawN c s ws most ws.length)
  have nd : ((rawN c s ws most ws.length).mergeSort (fun x y => !(ltH y x))).Pairwise (· ≠ ·) := hp.nodup_iff.2 (rawN_nodup c s ws most _ (Nat.le_refl _))
  refine (hs.and nd).imp ?_
  rintro ⟨a1, a2⟩ ⟨b1, b2⟩ ⟨h1, h2⟩
  unfold ltH at *
  simp at *
  omega
end Lx
end Go.Proofs.Ytkhgjjbiifbfgaa
