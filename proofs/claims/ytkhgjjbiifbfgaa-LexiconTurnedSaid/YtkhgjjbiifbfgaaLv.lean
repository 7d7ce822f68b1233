/- New ways in a tree. -/
import Derived.Test.YtkhgjjbiifbfgaaLu
import Derived.StillTailTactics
namespace Go.Proofs.Ytkhgjjbiifbfgaa
open Go.RowKit

/-- A tree that has grown along the first k bytes of a text. -/
structure Gn (B N : Nat) (w wr : World) (M M' : Ed.Bs → Option (Nat × Nat)) (nm : Ed.Bs → Int) (xs : Ed.Bs) (k : Nat) : Prop where
  tr : Tr B wr M' nm (N + k)
  ext : ∀ p x, M p = some x → M' p = some x
  dom : ∀ p, (M' p).isSome = true ↔ (M p).isSome = true ∨ p <+: xs.take k
  new : ∀ p x, M' p = some x → M p = some x ∨ w.heap.size ≤ x.1
  kc : Kc B w wr
theorem pre_take {p xs : Ed.Bs} {k : Nat} (hk : k < xs.length) : p <+: xs.take (k + 1) ↔ p <+: xs.take k ∨ p = xs.take k ++ [xs[k]] := by
  rw [← List.take_append_getElem hk, List.prefix_concat_iff]
  exact ⟨fun h => h.symm, fun h => h.symm⟩
variable {B N k : Nat} {w wr : World} {M M' : Ed.Bs → Option (Nat × Nat)} {nm : Ed.Bs → Int} {xs : Ed.Bs}
theorem Gn.start (h : Tr B w M nm N) (hr : (M []).isSome = true) : Gn B N w w M M nm xs 0 where
  tr := h
  ext := fun _ _ h => h
  dom := fun p => ⟨Or.inl, fun h => h.elim id fun e => by rw [List.take_zero, List.prefix_nil] at e; rw [e]; exact hr⟩
  new := fun _ _ h => Or.inl h
  kc := Kc.refl _ _
theorem Gn.old (h : Gn B N w wr M M' nm xs k) (hk : k < xs.length) {y : Nat × Nat} (hy : M' (xs.take k ++ [xs[k]]) = some y) {W : World} (hb : Below wr.heap.size wr W) : Gn B N w W M M' nm xs (k + 1) where
  tr := (h.tr.mono (by omega)).quiet hb
  ext := h.ext
  dom := fun p => by
    rw [h.dom, pre_take hk]
    constructor
    · rintro (h | h)
      · exact Or.inl h
      · exact Or.inr (Or.inl h)
    · rintro (h1 | h1 | h1)
      · exact Or.inl h1
      · exact Or.inr h1
      · rw [← h.dom, h1, hy]; rfl
  new := h.new
  kc := h.kc.trans (Kc.of_below hb)
theorem Gn.more (h : Gn B N w wr M M' nm xs k) (hk : k < xs.length) (hcl : ∀ p q, (M q).isSome = true → p <+: q → (M p).isSome = true) (hnm : ∀ p, M p = none → nm p = -1) (hB : B ≤ w.heap.size)
    {x : Nat × Nat} (hx : M' (xs.take k) = some x) (hn : M' (xs.take k ++ [xs[k]]) = none) {w1 w2 w3 : World} {b m n : Nat} {D : DataW Unit} (h1 : Below wr.heap.size wr w1) (F : Fresh w1 w2 b m) (hnN : n ≤ N + k) (hkd : Kids M' (xs.take k) D)
    (ho : w3.ownsMap Try.prog 5 Rn x.2 (n + 1) (D.put (kb xs[k]) (nmv b))) {w2' : World} (h2 : Below w2.heap.size w2 w2') (hg : w2'.grownBy w3 (some x.2)) :
    ∃ M'', Gn B N w w3 M M'' nm xs (k + 1) ∧ ∃ y, M'' (xs.take (k + 1)) = some y ∧ y.1 = b := by
  have hl : (xs.take k).length = k := by rw [List.length_take]; omega
  have F' : Fresh w1 w2' b m := ⟨F.lb, F.lm, kept_cell h2 F.c0, kept_cell h2 F.c1, (h2.frozen (p := ⟨b, 0, none⟩) (World.block_lt_of_cell? _ _ F.c0)).trans F.fz, map_keep F.mp (h2.block _ F.mp.lt), F.bl.trans (h2.mono F.bl.size)⟩
  have s1 := h1.size
  have s0 := h.kc.size
  have hM : M (xs.take k ++ [xs[k]]) = none := by
    cases e : M (xs.take k ++ [xs[k]]) with
    | none => rfl
    | some y => rw [h.ext _ _ e] at hn; cases hn
  obtain ⟨T, K⟩ := (h.tr.quiet h1).add hx hn (fun d => by
    cases e : M' (xs.take k ++ [xs[k]] ++ [d]) with
    | none => rfl
    | some y =>
      exfalso
      rcases (h.dom _).1 (by rw [e]; rfl) with e2 | e2
      · have := hcl (xs.take k ++ [xs[k]]) _ e2 (List.prefix_append _ _)
        rw [hM] at this; cases this
      · have := e2.length_le
        simp [hl] at this
        omega) (hnm _ hM) (by omega) F' hnN hkd ho hg
  refine ⟨_, ⟨T, fun p y hy => ?_, fun p => ?_, fun p y hy => ?_, h.kc.trans ((Kc.of_below h1).trans K)⟩, (b, m), ?_, rfl⟩
  · rw [if_neg (fun e => by rw [e, hM] at hy; cases hy)]; exact h.ext p y hy
  · rw [pre_take hk]
    by_cases e : p = xs.take k ++ [xs[k]]
    · rw [if_pos e]; exact ⟨fun _ => Or.inr (Or.inr e), fun _ => rfl⟩
    · rw [if_neg e, h.dom]
      constructor
      · rintro (h | h)
        · exact Or.inl h
        · exact Or.inr (Or.inl h)
      · rintro (h1 | h1 | h1)
        · exact Or.inl h1
        · exact Or.inr h1
        · exact absurd h1 e
  · split at hy
    · cases hy; exact Or.inr (by have := F.lb; dsimp only; omega)
    · exact h.new p y hy
  · rw [← List.take_append_getElem hk, if_pos rfl]
set_option maxRecDepth 100000 in
set_option maxHeartbeats 3200000 in
/-- grow, from the root on. -/
theorem grow_any {r : Nat × Nat} (h : Tr B w M nm N) (hr : M [] = some r) (hcl : ∀ p q, (M q).isSome = true → p <+: q → (M p).isSome = true) (hnm : ∀ p, M p = none → nm p = -1) (hB : B ≤ w.heap.size) (hx : xs.length ≤ 1000) (hN : N ≤ 1000000) :
    Calls Try.prog 35 #[nd r.1, sb xs] w fun e w' => ∃ M' y, e = .returned (nd y.1) ∧ M' xs = some y ∧ Gn B N w w' M M' nm xs xs.length := by
  obtain ⟨a, hxa⟩ : ∃ a : ByteArray, a = ⟨xs.toArray⟩ := ⟨_, rfl⟩
  have LA : a.size = xs.length := by rw [hxa]; exact Ed.size_is xs
  have e1 : sb xs = .string a := by rw [hxa]
  have G0 : Hid (Gn B N w w M M nm xs 0) := Gn.start h (by rw [hr]; rfl)
  rw [e1]
  have HX := Lib.hid hxa
  have HL := Lib.hid LA
  have HR := Lib.hid hr
  have HC := Lib.hid hcl
  have HM := Lib.hid hnm
  have HB := Lib.hid hB
  have HNN : N ≤ 1000000 := hN
  have la : a.size ≤ 1000 := by omega
  clear hxa LA e1 h hcl hx hr hnm hB hN
  go_enter Try.func35, Try.ntmps35
  go_wp2
  go_loopw [0, 9] (fun n i wr => ∃ (k : Nat) (M' : Ed.Bs → Option (Nat × Nat)) (x : Nat × Nat), k ≤ a.size ∧ i = .int .i64 k ∧ n = nd x.1 ∧ Hid (M' (xs.take k) = some x) ∧ Hid (Gn B N w wr M M' nm xs k)) (fun _ i _ => a.size - (intOf i).toNat)
  case atStart => exact ⟨0, M, r, Nat.zero_le _, rfl, rfl, by show _ = _; rw [List.take_zero]; exact HR.out, G0.out⟩
  case round =>
    obtain ⟨k, M', x, hk, rfl, rfl, X, G⟩ := hrel
    by_cases hlt : k < a.size
    · have hk2 : k < xs.length := by rw [← HL.out]; exact hlt
      have hc : xs[k] = a[k] := by have e := HX.out; subst e; rfl
      have TK : Hid (xs.take (k + 1) = xs.take k ++ [a[k]]) := by show _ = _; rw [← hc]; exact (List.take_append_getElem hk2).symm
      have c1 := G.out.tr.c1 _ _ X.out
      have lk := fun n => G.out.tr.next X.out a[k] (wr.drewN n) (below_drewN (Below.refl _ _) n)
      have HCC := Lib.hid hc
      cases hm : M' (xs.take k ++ [a[k]]) with
      | some y =>
        rw [hm] at lk
        have G2 : Hid (∀ n, Gn B N w (wr.drewN n) M M' nm xs (k + 1)) := fun n => G.out.old hk2 (by rw [HCC.out]; exact hm) (below_drewN (Below.refl _ _) n)
        have HY := Lib.hid hm
        clear hm hc
        dsimp only [ptr] at lk
        go_wp2
        go_quiet (fail)
        go_wp2
        go_roundw
        case rel => exact ⟨k + 1, M', y, by omega, by go_num, rfl, by show _ = _; rw [TK.out]; exact HY.out, G2.out _⟩
        case measure => simp [intOf]; omega
      | none =>
        rw [hm] at lk
        have HY := Lib.hid hm
        clear hm hc
        dsimp only [ptr] at lk
        go_wp2
        go_quiet (fail)
        go_wp2_with (go_at_call 22; (with_reducible refine (newNode_any _).mono ?_); rintro e w2 ⟨b, m, rfl, F⟩)
        have c2 := kept_cell F.bl (show (wr.drewN nq).cell? ⟨x.1, 1, none⟩ = _ from by simpa using c1)
        clear c1 lk
        obtain ⟨D, n0, hn0, own0, hkd⟩ := G.out.tr.mp _ _ X.out
        have own1 := map_keep (w' := w2.drew) own0 (show w2.heap[x.2]? = wr.heap[x.2]? from by have e1 := F.bl.block x.2 (by simpa using own0.lt); rw [e1]; simp)
        have HN0 := Lib.hid hn0
        have HKD := Lib.hid hkd
        have HF := Lib.hid F
        clear own0 hn0 hkd F
        go_wp2
        go_still_tail 8, (by kernel_rfl)
        change wpList _ _ _ _ _ w2.drew
        go_wp2_with (at_mapUpdate; refine wpList_mapUpdate_own _ rfl _ _ _ 68 rfl 5 55 keyB Try.underlying68 Rn _ _ _ rfl own1 ?hroom _ _ (kb a[k]) rfl rfl (key_b a[k]) (nmv b) [] (rn_ptr (some (b, m))) ?_)
        case hroom => have := HN0.out; unfold maxLen; omega
        intro w3 own3 gr3
        have ho := own3
        rw [← HCC.out] at ho
        obtain ⟨M'', G2, y, hy, hyb⟩ := G.out.more hk2 HC.out HM.out HB.out X.out (by rw [HCC.out]; exact HY.out) (below_drewN (Below.refl _ _) nq) HF.out HN0.out HKD.out ho (Below.drew (Below.refl _ _)) gr3
        have HG := Lib.hid G2
        have HYY := Lib.hid hy
        subst hyb
        clear own3 gr3 ho G2 hy own1
        go_wp2
        go_roundw
        case rel => exact ⟨k + 1, M'', y, by omega, by go_num, rfl, HYY.out, HG.out⟩
        case measure => simp [intOf]; omega
    · have hke : k = a.size := by omega
      have E : Hid (M' xs = some x) := by show _ = _; have e := X.out; rw [hke, HL.out, List.take_length] at e; exact e
      have G2 : Hid (Gn B N w wr M M' nm xs xs.length) := by show Gn _ _ _ _ _ _ _ _ _; rw [← HL.out, ← hke]; exact G.out
      clear hke
      go_wp2
      go_ret
      exact ⟨M', x, rfl, E.out, G2.out⟩
end Go.Proofs.Ytkhgjjbiifbfgaa
