/- The ways into a lexicon: reach, Len, Word, Find, Prefix. -/
import Derived.Test.YtkhgjjbiifbfgaaLo7
import Derived.Test.YtkhgjjbiifbfgaaShelf
import Derived.Sort.OwnSortedInts
namespace Go.Proofs.Ytkhgjjbiifbfgaa
open Go.RowKit Go.Shelf Go.Sort

variable {B X N : Nat} {w w' : World} {ws : List Ed.Bs} {M : Ed.Bs → Option (Nat × Nat)} {nm : Ed.Bs → Int} {r : Nat × Nat} {v : Value}
theorem Lk.nums_of (h : Lk B X w ws M nm N r v) : Tn B w ws M nm N := ⟨h.tr, h.dom, h.nums, h.good⟩
set_option maxRecDepth 100000 in
set_option maxHeartbeats 1600000 in
theorem xreach_any (h : Lk B X w ws M nm N r v) (p : Ed.Bs) (hp : p.length ≤ 9223372036854775807) : Calls Try.prog 30 #[nd X, sb p] w fun e w' => e = .returned (ptr (M p)) ∧ Below w.heap.size w w' := by
  have R := nreach_any p w h.tr h.closed hp
  rw [h.root, show ptr (some r) = nd r.1 from rfl] at R
  have HR := Lib.hid R
  have x1 := h.x1
  clear R h
  go_enter Try.func30, Try.ntmps30
  go_wp2_with (go_at_call 44; (with_reducible refine HR.out.mono ?_); rintro e w2 ⟨rfl, b2⟩)
  go_ret
  exact ⟨rfl, b2⟩
set_option maxHeartbeats 1600000 in
theorem len_any (h : Lex B X w ws) : Calls Try.prog 31 #[nd X] w fun e w' => e = .returned (.int .i64 ws.length) ∧ w = w' := by
  obtain ⟨M, nm, N, r, v, hN, L⟩ := h
  obtain ⟨p, c, rfl⟩ := own_is L.own
  have x0 := L.x0
  clear L
  go_enter Try.func31, Try.ntmps31
  go_wp2
  go_ret
  exact ⟨rfl, rfl⟩
set_option maxRecDepth 100000 in
set_option maxHeartbeats 1600000 in
theorem word_any (h : Lex B X w ws) (i : Nat) (hi : i < ws.length) (_hn : ws.length ≤ 1000) : Calls Try.prog 16 #[nd X, .int .i64 i] w fun e w' => e = .returned (.tuple #[sb ws[i], .bool true]) ∧ w = w' := by
  have LN := Lib.hid (len_any h)
  obtain ⟨M, nm, N, r, v, hN, L⟩ := h
  have x0 := L.x0
  obtain ⟨p, c, rfl, hc⟩ := own_tx L.own
  obtain ⟨b, off, rfl, h2⟩ := hc.resolve_left (by intro e; rw [e] at hi; simp at hi)
  have f0 := h2 i hi
  obtain ⟨y, hy⟩ : ∃ y, y = ws[i] := ⟨_, rfl⟩
  rw [← hy] at f0 ⊢
  obtain ⟨n, hn'⟩ : ∃ n, n = ws.length := ⟨_, rfl⟩
  rw [← hn'] at x0 LN
  have hi2 : i < n := by omega
  clear L h2 hy hn'
  go_enter Try.func16, Try.ntmps16
  go_wp2_with (go_at_call 31; (with_reducible refine LN.out.mono ?_); rintro e w2 ⟨rfl, rfl⟩)
  go_ret2
  exact ⟨rfl, rfl⟩
set_option maxRecDepth 100000 in
set_option maxHeartbeats 1600000 in
theorem find_yes (h : Lex B X w ws) (i : Nat) (hi : i < ws.length) : Calls Try.prog 15 #[nd X, sb ws[i]] w fun e w' => e = .returned (.tuple #[.int .i64 i, .bool true]) ∧ Below w.heap.size w w' := by
  obtain ⟨M, nm, N, r, v, hN, L⟩ := h
  have hm : ws[i] ∈ ws := List.getElem_mem hi
  have R := xreach_any L ws[i] (by have := L.good.le _ hm; omega)
  obtain ⟨x, hx⟩ := Option.isSome_iff_exists.1 ((L.dom ws[i]).2 (Or.inr ⟨_, hm, List.prefix_rfl⟩))
  rw [hx] at R
  have HR := Lib.hid R
  have c0 := L.tr.c0 _ _ hx
  rw [L.nums.at' i hi] at c0
  have HC := Lib.hid c0
  clear R hx L hm c0
  dsimp only [ptr] at HR
  go_enter Try.func15, Try.ntmps15
  go_wp2_with (go_at_call 30; (with_reducible refine HR.out.mono ?_); rintro e w2 ⟨rfl, b2⟩; have d0 := kept_cell b2 HC.out)
  go_ret2
  exact ⟨rfl, b2⟩
set_option maxRecDepth 100000 in
set_option maxHeartbeats 1600000 in
theorem find_no (h : Lex B X w ws) (p : Ed.Bs) (hp : p ∉ ws) (hl : p.length ≤ 9223372036854775807) : Calls Try.prog 15 #[nd X, sb p] w fun e w' => e = .returned (.tuple #[.int .i64 0, .bool false]) ∧ Below w.heap.size w w' := by
  obtain ⟨M, nm, N, r, v, hN, L⟩ := h
  have R := xreach_any L p hl
  cases hx : M p with
  | none =>
    rw [hx] at R
    have HR := Lib.hid R
    clear R hx L
    dsimp only [ptr] at HR
    go_enter Try.func15, Try.ntmps15
    go_wp2_with (go_at_call 30; (with_reducible refine HR.out.mono ?_); rintro e w2 ⟨rfl, b2⟩)
    go_ret2
    exact ⟨rfl, b2⟩
  | some x =>
    rw [hx] at R
    have HR := Lib.hid R
    have c0 := L.tr.c0 _ _ hx
    rw [L.nums.no p hp] at c0
    have HC := Lib.hid c0
    clear R hx L c0
    dsimp only [ptr] at HR
    go_enter Try.func15, Try.ntmps15
    go_wp2_with (go_at_call 30; (with_reducible refine HR.out.mono ?_); rintro e w2 ⟨rfl, b2⟩; have d0 := kept_cell b2 HC.out)
    go_ret2
    exact ⟨rfl, b2⟩
/-- slices.Sort of ints that the call has built. -/
theorem sort_any (v : Value) (l : List Int) (w0 w : World) (h : Oz w0 w v l) (hl : l.length ≤ 1000000) : Calls Try.prog 34 #[v] w fun e w' => e = .returned (.tuple #[]) ∧ Oz w0 w' v (l.mergeSort fun x y => decide (x ≤ y)) := by
  rcases h.own.2 with ⟨rfl, hn⟩ | ⟨g, cap, cur, rfl, hB, hh, h1, h2, h3, h4⟩
  · have e : l = [] := List.eq_nil_of_length_eq_zero hn
    subst e
    refine (Try.slices_Sort_int_none none 0 w).mono ?_
    rintro e w' ⟨rfl, rfl⟩
    exact ⟨rfl, by rw [show ([] : List Int).mergeSort (fun x y => decide (x ≤ y)) = [] by simp]; exact h⟩
  · have hgl : g < w.heap.size := (Array.getElem?_eq_some_iff.1 hh).1
    have ht : cur.toList.take l.length = l.map (Value.int .i64) := by rw [← h4, Nat.mul_one]
    refine (Try.slices_Sort_int g 0 cap l w (holds_of_blockI hh ht) hgl (by omega)).mono ?_
    rintro e w' ⟨rfl, n, os, rfl⟩
    have ow := ownsRow_sortedI (n := n) (os := os) (ts := l.mergeSort fun x y => decide (x ≤ y)) (ss := l) (List.length_mergeSort _) hB hh h1 h2 h3
    refine ⟨rfl, ?_, h.bl.grown (grownBy_sortedI _) h.bl.size (fun k e => by cases e; exact hB)⟩
    rw [List.length_mergeSort]
    exact ow
set_option maxRecDepth 100000 in
set_option maxHeartbeats 1600000 in
theorem prefix_any (h : Lex B X w ws) (p : Ed.Bs) (hl : p.length ≤ 9223372036854775807) (hn : ws.length ≤ 1000) : Calls Try.prog 19 #[nd X, sb p] w fun e w' => ∃ v, e = .returned v ∧ Oz w w' v (Lx.preN ws p ws.length) := by
  obtain ⟨M, nm, N, r, v, hN, L⟩ := h
  have R := xreach_any L p hl
  have NU : ∀ W, Below w.heap.size w W → Calls Try.prog 33 #[ptr (M p)] W fun e w' => ∃ v l, e = .returned v ∧ Oz W w' v l ∧ Lx.Pre ws p l := by
    intro W hb
    cases hx : M p with
    | none =>
      refine (numbers_none W).mono ?_
      rintro e w' ⟨rfl, rfl⟩
      exact ⟨_, [], rfl, Oz.nil (Below.refl _ _), Lx.pre_none (fun hbg => by have := (L.dom p).2 hbg; rw [hx] at this; cases this)⟩
    | some x => exact numbers_any 41 B N p ws M nm W x hx (by omega) (L.nums_of.quiet hb) hn
  have HR := Lib.hid R
  have HNU := Lib.hid NU
  obtain ⟨y, hy⟩ : ∃ y, y = ptr (M p) := ⟨_, rfl⟩
  rw [← hy] at HR HNU
  have HS := Lib.hid (fun (v : Value) (l : List Int) (w0 w : World) (h : Oz w0 w v l) (hl : l.length ≤ 1000000) => sort_any v l w0 w h hl)
  clear R NU L hy
  go_enter Try.func19, Try.ntmps19
  go_wp2_with (first
    | (go_at_call 30; (with_reducible refine HR.out.mono ?_); rintro e w2 ⟨rfl, b2⟩; have B2 := Lib.hid b2; clear b2)
    | (go_at_call 33; (with_reducible refine (HNU.out _ B2.out).mono ?_); rintro e w3 ⟨v3, l3, rfl, O3, P3⟩; have HO := Lib.hid (O3.weak B2.out); have HP := Lib.hid P3; have ll := P3.len_le; clear O3 P3)
    | (go_at_call 34; (with_reducible refine (HS.out _ _ _ _ HO.out (by omega)).mono ?_); rintro e w4 ⟨rfl, O4⟩; have HO4 := Lib.hid O4; clear O4))
  go_ret
  refine ⟨_, rfl, ?_⟩
  have hs := List.pairwise_mergeSort (le := fun a b : Int => decide (a ≤ b)) (fun a b c h1 h2 => by simp at *; omega) (fun a b => by simp; omega) l3
  rw [← Lx.pre_sorted HP.out (List.mergeSort_perm l3 _) (hs.imp (fun h => by simpa using h))]
  exact HO4.out
end Go.Proofs.Ytkhgjjbiifbfgaa
