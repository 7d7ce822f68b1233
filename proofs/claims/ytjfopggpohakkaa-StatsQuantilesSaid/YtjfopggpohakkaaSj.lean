/- The library's sorted copy of a slice of ints. -/
import Derived.Test.YtjfopggpohakkaaSh
import Derived.Test.YtjfopggpohakkaaShl
import Derived.Lib.SlKeysI
import Derived.Maps.AppendAt
namespace Go.Proofs.Ytjfopggpohakkaa
open Go.RowKit Go.Shelf Go.Sort
attribute [local go_sem] Oper.semAt_some

def enc1 (_ : Nat) (v : Value) : Array Value := #[v]
def OkV (zs : List Int) (k : Nat) (v : Value) (_ : World) : Prop := k < zs.length ∧ v = .int .i64 (zs.getD k 0)
/-- The slice value lies in blocks below B. -/
def Lie (B : Nat) (w : World) (v : Value) (zs : List Int) : Prop := ∃ (a : Option Addr) (c : Nat), v = .slice a zs.length c ∧ (zs = [] ∨ ∃ b off, a = some ⟨b, off, none⟩ ∧ b < B ∧ ∀ j, j < zs.length → w.cell? ⟨b, off + j, none⟩ = some (.int .i64 (zs.getD j 0)))
theorem Lie.of {w : World} {v : Value} {zs : List Int} (h : Sl w v zs) : Lie w.heap.size w v zs := by
  obtain ⟨a, c, rfl, h⟩ := h
  refine ⟨a, c, rfl, ?_⟩
  rcases h with h | ⟨b, off, rfl, h⟩
  · exact .inl h
  · by_cases z : zs = []
    · exact .inl z
    · have : 0 < zs.length := List.length_pos_iff.2 z
      exact .inr ⟨b, off, rfl, World.block_lt_of_cell? _ _ (h 0 this), h⟩
theorem Lie.below {B : Nat} {w w' : World} {v : Value} {zs : List Int} (h : Lie B w v zs) (hb : Below B w w') : Lie B w' v zs := by
  obtain ⟨a, c, rfl, h⟩ := h
  refine ⟨a, c, rfl, ?_⟩
  rcases h with h | ⟨b, off, rfl, hl, h⟩
  · exact .inl h
  · exact .inr ⟨b, off, rfl, hl, fun j hj => (hb.cell (p := ⟨b, off + j, none⟩) hl).trans (h j hj)⟩
theorem getD_at {zs : List Int} {k : Nat} : zs[k]?.getD 0 = zs.getD k 0 := (List.getD_eq_getElem?_getD ..).symm
set_option maxRecDepth 100000 in
set_option maxHeartbeats 3200000 in
theorem values1_hands (n : Nat) (hn : 1 ≤ n) (Bs B : Nat) (v : Value) (zs : List Int) (hz : zs.length ≤ 100000) (w : World) (hB : B ≤ w.heap.size) (_hs : Bs < B) (hc : w.cell? ⟨Bs, 0, none⟩ = some v) (hl : Lie B w v zs) :
    Hands n Try.prog 90 #[.pointer (some ⟨Bs, 0, none⟩)] enc1 (OkV zs) (Below B) zs.length w := by
  intro l J X W hW hJ hY h0
  have hl1 := hl.below (hW.mono hB)
  have hc1 := kept_cell hW hc
  obtain ⟨a, c, rfl, hcs⟩ := hl1
  have HY := Lib.hid hY
  have HJ := Lib.hid hJ
  obtain ⟨N, hN⟩ : ∃ N, N = zs.length := ⟨_, rfl⟩
  have HC := Lib.hid hcs
  have HN := Lib.hid hN
  rw [← hN] at hc1 hz HY ⊢
  clear hY hJ hcs hN hc hl
  refine callsIn_of_wp Try.func90 rfl trivial ?_ rfl
  simp only [Try.ntmps90, List.size_toArray, List.length_cons, List.length_nil, Nat.reduceAdd, Nat.reduceSub, Array.replicate_succ, Array.replicate_zero, List.push_toArray, List.append_toArray, List.nil_append, List.cons_append]
  gi_wp2
  gi_loopw [7] (fun i wr => ∃ k : Nat, k ≤ N ∧ i = .int .i64 k ∧ Hid (J k wr) ∧ Hid (Below B W wr)) (fun i _ => N - (intOf i).toNat)
  case atStart => exact ⟨0, Nat.zero_le _, rfl, h0, (show Below _ _ _ from Below.refl _ _)⟩
  case round =>
    obtain ⟨k, hk, rfl, JK, BK⟩ := hrel
    by_cases hlt : k < N
    · obtain ⟨fn, tmps, assign, body, hy, hR⟩ := HY.out k (.int .i64 (zs.getD k 0)) wr hlt JK.out ⟨by have := HN.out; omega, rfl⟩
      rcases HC.out with h0 | ⟨b, off, rfl, hbl, hcs⟩
      · exfalso; have e := HN.out; rw [h0, List.length_nil] at e; omega
      have hck : wr.cell? ⟨b, off + k, none⟩ = some (.int .i64 (zs.getD k 0)) := (BK.out.cell (p := ⟨b, off + k, none⟩) hbl).trans (hcs k (by have := HN.out; omega))
      dsimp only [enc1] at hy
      obtain ⟨x, hx⟩ : ∃ x, x = zs.getD k 0 := ⟨_, rfl⟩
      rw [← hx] at hy hck
      clear hx hcs
      gi_wp2
      refine hR.mono ?_
      rintro e W3 (⟨rfl, J3, K3⟩ | ⟨rfl, X3⟩)
      · gi_wp2
        go_roundw
        case rel => exact ⟨k + 1, by omega, by go_num, J3, (show Below _ _ _ from BK.out.trans K3)⟩
        case measure => simp [intOf]; omega
      · gi_wp2
        refine bodyPost_ret (results_none rfl _ _ _) rfl ?_
        exact ⟨⟨_, rfl⟩, .inr ⟨k, hlt, X3⟩⟩
    · obtain rfl : k = N := by omega
      gi_wp2
      go_end0
      exact ⟨⟨_, rfl⟩, .inl JK.out⟩
end Go.Proofs.Ytjfopggpohakkaa
