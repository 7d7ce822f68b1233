/- The examples: awake; Few. -/
import Derived.Test.YtkhgjjbiifbfgaaLd7
namespace Go.Proofs.Ytkhgjjbiifbfgaa
open Go.RowKit Go.Shelf

namespace Lx
open Ed (Bs Cs)
def one : Cs := ⟨1, 1, 1, 1⟩
theorem one_right : Ed.Rc one := by refine ⟨?_, ?_, ?_, ?_⟩ <;> exact ⟨by decide, by decide⟩
def w4 : List Bs := [[77, 65, 73, 78], [77, 65, 73, 78, 69], [77, 73, 78, 69], [82, 79, 65, 68]]
theorem near_is {c : Cs} {s : Bs} {ws : List Bs} {most : Int} {r : List Hit} (e : List Hit) (hr : rawN c s ws most ws.length = r) (hs : e.Pairwise (fun x y => ltH x y = true)) (hp : e.Perm r) : near c s ws most = e := by
  refine same_list (lt := fun x y => ltH x y = true) (fun x h => ?_) (fun x y h1 h2 => ?_) _ _ (near_inc c s ws most) hs (fun x => ?_)
  · unfold ltH at h; simp at h
  · unfold ltH at h1 h2; simp at h1 h2; omega
  · unfold near srtH
    rw [(List.mergeSort_perm _ _).mem_iff, hr, hp.mem_iff]
theorem near_1 : near one [77, 65, 73, 78, 69] w4 1 = [(1, 0), (0, 1), (2, 1)] := near_is (r := [(0, 1), (1, 0), (2, 1)]) _ (by kernel_rfl) (by simp [ltH]) (List.isPerm_iff.1 (by decide))
theorem near_2 : near one [77, 65, 78, 73] w4 1 = [(0, 1)] := near_is (r := [(0, 1)]) _ (by kernel_rfl) (by simp) (List.Perm.refl _)
theorem near_3 : near one [77, 65, 73, 78, 83] w4 2 = [(0, 1), (1, 1), (2, 2)] := near_is (r := [(0, 1), (1, 1), (2, 2)]) _ (by kernel_rfl) (by simp [ltH]) (List.Perm.refl _)
theorem near_4 : near one [88] w4 0 = [] := near_is (r := []) _ (by kernel_rfl) (by simp) (List.Perm.refl _)
theorem best_3 : bst (near one [77, 65, 73, 78, 83] w4 2) = [(0, 1), (1, 1)] := by rw [near_3]; rfl
theorem wrong_4 : wrong [] w4 = 0 := by kernel_rfl
theorem wrong_2 : wrong [] [[65], []] = 2 := by kernel_rfl
theorem wrong_3 : wrong [] [[65], [66], [65]] = 70 := by kernel_rfl
theorem pre_4 : preN w4 [77, 65] w4.length = [0, 1] := by kernel_rfl
end Lx
end Go.Proofs.Ytkhgjjbiifbfgaa
