/- Lexicons in memory; add. -/
import Derived.Test.YtkhgjjbiifbfgaaLv
namespace Go.Proofs.Ytkhgjjbiifbfgaa
open Go.RowKit

/-- A lexicon in memory, all of it from block B on, with what its tree is. -/
structure Lk (B X : Nat) (w : World) (ws : List Ed.Bs) (M : Ed.Bs → Option (Nat × Nat)) (nm : Ed.Bs → Int) (N : Nat) (r : Nat × Nat) (v : Value) : Prop where
  tr : Tr B w M nm N
  root : M [] = some r
  dom : ∀ p, (M p).isSome = true ↔ Lx.Begun ws p
  nums : Lx.Nums ws nm
  good : Lx.Good ws
  x0 : w.cell? ⟨X, 0, none⟩ = some v
  x1 : w.cell? ⟨X, 1, none⟩ = some (nd r.1)
  fx : w.frozen? ⟨X, 0, none⟩ = false
  hX : B ≤ X
  own : w.ownsRow B 9 1 v ws.length (tcs ws)
  sX : ∀ p x, M p = some x → x.1 ≠ X
  sv : ∀ g, v.ownBlock = some g → g ≠ X ∧ ∀ p x, M p = some x → x.1 ≠ g
/-- A lexicon in memory. -/
def Lex (B X : Nat) (w : World) (ws : List Ed.Bs) : Prop := ∃ M nm N r v, N ≤ 40 * ws.length ∧ Lk B X w ws M nm N r v
variable {B X N : Nat} {w w' : World} {ws : List Ed.Bs} {M : Ed.Bs → Option (Nat × Nat)} {nm : Ed.Bs → Int} {r : Nat × Nat} {v : Value}
theorem Lk.closed (h : Lk B X w ws M nm N r v) : ∀ p q, (M q).isSome = true → p <+: q → (M p).isSome = true := fun p q hq hp => (h.dom p).2 (((h.dom q).1 hq).short hp)
theorem Lk.neg (h : Lk B X w ws M nm N r v) : ∀ p, M p = .none → nm p = -1 := fun p hp => h.nums.no p fun hm => by
  have := (h.dom p).2 (Or.inr ⟨p, hm, List.prefix_rfl⟩)
  rw [hp] at this; cases this
theorem Lk.quiet (h : Lk B X w ws M nm N r v) (hb : Below w.heap.size w w') : Lk B X w' ws M nm N r v :=
  { h with tr := h.tr.quiet hb, x0 := kept_cell hb h.x0, x1 := kept_cell hb h.x1, fx := (hb.frozen (p := ⟨X, 0, Option.none⟩) (World.block_lt_of_cell? _ _ h.x0)).trans h.fx, own := own_quiet h.own hb }
theorem Lex.quiet (h : Lex B X w ws) (hb : Below w.heap.size w w') : Lex B X w' ws := by
  obtain ⟨M, nm, N, r, v, hN, h⟩ := h
  exact ⟨M, nm, N, r, v, hN, h.quiet hb⟩
theorem own_ne {e size n : Nat} {xs : List Value} (h : w.ownsRow B e size v n xs) {g : Nat} (hg : v.ownBlock = some g) : B ≤ g ∧ g < w.heap.size := by
  rcases h.2 with ⟨rfl, _⟩ | ⟨g', cap, cur, rfl, hB, hh, _⟩
  · cases hg
  · cases hg; exact ⟨hB, (Array.getElem?_eq_some_iff.1 hh).1⟩
/-- A world in which one cell of a block has changed. -/
theorem own_set {e size n : Nat} {xs : List Value} (h : w.ownsRow B e size v n xs) {b j : Nat} {u : Value} (hg : ∀ g, v.ownBlock = some g → g ≠ b) : (w.setCell ⟨b, j, none⟩ u).ownsRow B e size v n xs := by
  rcases h with ⟨h1, h2⟩
  refine ⟨h1, ?_⟩
  rcases h2 with h2 | ⟨g, cap, cur, hv, hB, hh, h3⟩
  · exact Or.inl h2
  · exact Or.inr ⟨g, cap, cur, hv, hB, (Below.heap_setCell w ⟨b, j, Option.none⟩ u g (hg g (by rw [hv]; rfl))).trans hh, h3⟩
theorem set_other {b j : Nat} {u : Value} {p : Addr} (hp : p.block ≠ b) : (w.setCell ⟨b, j, none⟩ u).cell? p = w.cell? p := World.cell?_of_block (Below.heap_setCell w ⟨b, j, Option.none⟩ u p.block hp)
/-- A node's number is set. -/
theorem Tr.number (h : Tr B w M nm N) {q : Ed.Bs} {y : Nat × Nat} (hy : M q = some y) (z : Int) : Tr B (w.setCell ⟨y.1, 0, none⟩ (.int .i64 z)) M (fun p => if p = q then z else nm p) N where
  apart := h.apart
  ge := h.ge
  c0 := fun p x hx => by
    by_cases e : p = q
    · subst e
      rw [hy] at hx; cases hx
      rw [if_pos rfl]
      exact World.cell?_setCell_same' _ _ _ (by rw [h.c0 p y hy]; rfl)
    · rw [if_neg e, set_other (fun e2 => e (h.apart p q x y hx hy (Or.inl e2)))]
      exact h.c0 p x hx
  c1 := fun p x hx => by
    by_cases e : p = q
    · subst e
      rw [hy] at hx; cases hx
      have := h.c1 p y hy
      rw [World.cell?_setCell_other _ _ _ _ (by simp)]
      exact this
    · rw [set_other (fun e2 => e (h.apart p q x y hx hy (Or.inl e2)))]
      exact h.c1 p x hx
  fz := fun p x hx => by rw [World.frozen?_setCell]; exact h.fz p x hx
  mp := fun p x hx => by
    obtain ⟨D, n, h1, h2, h3⟩ := h.mp p x hx
    refine ⟨D, n, h1, map_keep h2 (Below.heap_setCell w ⟨y.1, 0, Option.none⟩ _ x.2 ?_), h3⟩
    intro e
    obtain ⟨o, ho, hc⟩ := cells_of_cell (h.c0 q y hy)
    obtain ⟨es, clock, hh, _⟩ := h2
    rw [e] at hh
    rw [hh] at ho; cases ho; cases hc
theorem Tr.map_ne (h : Tr B w M nm N) {p : Ed.Bs} {x : Nat × Nat} (hx : M p = some x) {g : Nat} {o : Obj} (hg : w.heap[g]? = some o) (ho : isC o = true) : x.2 ≠ g := by
  intro e
  obtain ⟨D, n, h1, ⟨es, clock, hh, _⟩, h3⟩ := h.mp p x hx
  rw [e, hg] at hh
  cases hh; cases ho
theorem Tr.grown (h : Tr B w M nm N) {row : Option Nat} (hg : w.grownBy w' row) (hr : ∀ g, row = some g → ∀ p x, M p = some x → x.1 ≠ g ∧ x.2 ≠ g) : Tr B w' M nm N where
  apart := h.apart
  ge := h.ge
  c0 := fun p x hx => (World.cell?_of_block (a := ⟨x.1, 0, Option.none⟩) (hg.block x.1 (h.lt hx).1 (fun e => (hr _ e.symm p x hx).1 rfl))).trans (h.c0 p x hx)
  c1 := fun p x hx => (World.cell?_of_block (a := ⟨x.1, 1, Option.none⟩) (hg.block x.1 (h.lt hx).1 (fun e => (hr _ e.symm p x hx).1 rfl))).trans (h.c1 p x hx)
  fz := fun p x hx => (World.frozen?_of_block (a := ⟨x.1, 0, Option.none⟩) (hg.block x.1 (h.lt hx).1 (fun e => (hr _ e.symm p x hx).1 rfl))).trans (h.fz p x hx)
  mp := fun p x hx => by
    obtain ⟨D, n, h1, h2, h3⟩ := h.mp p x hx
    exact ⟨D, n, h1, map_keep h2 (hg.block x.2 (h.lt hx).2 (fun e => (hr _ e.symm p x hx).2 rfl)), h3⟩
theorem grown_set (w : World) (b j : Nat) (u : Value) : w.grownBy (w.setCell ⟨b, j, none⟩ u) (some b) :=
  ⟨rfl, rfl, rfl, by simp, fun k _ hk => Below.heap_setCell w ⟨b, j, Option.none⟩ u k (by simpa using hk)⟩
/-- What lies apart while a word is added. -/
structure Sep (B X : Nat) (w w1 : World) (M' : Ed.Bs → Option (Nat × Nat)) (v : Value) : Prop where
  x : ∀ p x, M' p = some x → x.1 ≠ X ∧ x.2 ≠ X
  v : ∀ g, v.ownBlock = some g → g ≠ X ∧ ∀ p x, M' p = some x → x.1 ≠ g ∧ x.2 ≠ g
theorem Lk.sep (h : Lk B X w ws M nm N r v) {w1 : World} {M' : Ed.Bs → Option (Nat × Nat)} {xs : Ed.Bs} {k : Nat} (G : Gn B N w w1 M M' nm xs k) : Sep B X w w1 M' v where
  x := fun p x hx => by
    refine ⟨?_, ?_⟩
    · rcases G.new p x hx with h1 | h1
      · exact h.sX p x h1
      · have := World.block_lt_of_cell? _ _ h.x0
        intro e; rw [e] at h1; exact absurd this (by simpa using h1)
    · obtain ⟨o, ho, hc⟩ := cells_of_cell (G.kc.cell h.x0)
      exact G.tr.map_ne hx ho hc
  v := fun g hg => by
    have hl := own_ne h.own hg
    refine ⟨(h.sv g hg).1, fun p x hx => ⟨?_, ?_⟩⟩
    · rcases G.new p x hx with h1 | h1
      · exact (h.sv g hg).2 p x h1
      · omega
    · rcases (G.kc.own h.own).2 with ⟨rfl, _⟩ | ⟨g', cap, cur, rfl, hB, hh, _⟩
      · cases hg
      · cases hg; exact G.tr.map_ne hx hh rfl
theorem Lk.added (h : Lk B X w ws M nm N r v) (hBw : B ≤ w.heap.size) {xs : Ed.Bs} (h1 : xs ∉ ws) (h2 : xs ≠ []) (h3 : xs.length ≤ 40) {w1 w3 : World} {M' : Ed.Bs → Option (Nat × Nat)} {y : Nat × Nat} (hy : M' xs = some y) (G : Gn B N w w1 M M' nm xs xs.length) {o : Obj} {u : Value}
    (own3 : w3.ownsRow B 9 1 u (ws.length + 1) (tcs ws ++ [.string ⟨xs.toArray⟩])) (hg : ((w1.setCell ⟨y.1, 0, none⟩ (.int .i64 ws.length)).alloc o).grownBy w3 v.ownBlock)
    (hat : u.ownBlock = v.ownBlock ∨ u.ownBlock = some ((w1.setCell ⟨y.1, 0, none⟩ (.int .i64 ws.length)).alloc o).heap.size) :
    (w3.cell? ⟨X, 0, none⟩ = some v ∧ w3.frozen? ⟨X, 0, none⟩ = false ∧ Below B w (w3.setCell ⟨X, 0, none⟩ u)) ∧ Lk B X (w3.setCell ⟨X, 0, none⟩ u) (ws ++ [xs]) M' (fun p => if p = xs then (ws.length : Int) else nm p) (N + xs.length) r u := by
  have S := h.sep G
  have TA := (G.tr.number hy ws.length).quiet ((Below.refl _ _).alloc (Nat.le_refl _) o)
  have T3 := TA.grown hg (fun g e => (S.v g e).2)
  have T4 := T3.grown (grown_set w3 X 0 u) (fun g e => by cases e; exact S.x)
  have hX1 := World.block_lt_of_cell? _ _ (G.kc.cell h.x0)
  have sz : ((w1.setCell ⟨y.1, 0, none⟩ (.int .i64 ws.length)).alloc o).heap.size = w1.heap.size + 1 := by simp
  have hvX : some X ≠ v.ownBlock := fun e => (S.v X e.symm).1 rfl
  have bX : w3.heap[X]? = w1.heap[X]? := by
    rw [hg.block X (by rw [sz]; simp at hX1; omega) hvX, Below.heap_alloc _ _ _ (by simp; simp at hX1; exact hX1)]
    exact Below.heap_setCell w1 ⟨y.1, 0, Option.none⟩ _ X (fun e => (S.x xs y hy).1 e.symm)
  have c3 : ∀ j z, w.cell? ⟨X, j, Option.none⟩ = some z → w3.cell? ⟨X, j, Option.none⟩ = some z := fun j z hz => (World.cell?_of_block (a := ⟨X, j, Option.none⟩) bX).trans (G.kc.cell hz)
  have f3 : w3.frozen? ⟨X, 0, Option.none⟩ = false := (World.frozen?_of_block (a := ⟨X, 0, Option.none⟩) bX).trans ((G.kc.frozen h.x0).trans h.fx)
  have uX : ∀ g, u.ownBlock = some g → g ≠ X ∧ ∀ p x, M' p = some x → x.1 ≠ g := fun g e => by
    rcases hat with e2 | e2
    · have := S.v g (e2.symm.trans e)
      exact ⟨this.1, fun p x hx => (this.2 p x hx).1⟩
    · rw [e2] at e
      cases e
      refine ⟨fun e3 => ?_, fun p x hx e3 => ?_⟩
      · rw [sz] at e3; simp at hX1; omega
      · have := (G.tr.lt hx).1; rw [sz] at e3; omega
  have bl1 : Below B w w1 := G.kc.below hBw
  have hB1 : B ≤ w1.heap.size := Nat.le_trans hBw bl1.size
  have bl2 := (bl1.setCell (p := ⟨y.1, 0, Option.none⟩) (G.tr.ge _ _ hy).1 (.int .i64 ws.length)).alloc (by simp; exact hB1) o
  have bl3 := (bl2.grown hg (Nat.le_trans hBw bl2.size) (fun g e => (own_ne h.own e).1)).setCell (p := ⟨X, 0, Option.none⟩) h.hX u
  refine ⟨⟨c3 0 v h.x0, f3, bl3⟩, ?_⟩
  exact {
    tr := T4
    root := G.ext _ _ h.root
    dom := fun p => by
      rw [G.dom, h.dom, List.take_length]
      unfold Lx.Begun
      constructor
      · rintro ((e | ⟨x, hx, hp⟩) | hp)
        · exact Or.inl e
        · exact Or.inr ⟨x, List.mem_append_left _ hx, hp⟩
        · exact Or.inr ⟨xs, by simp, hp⟩
      · rintro (e | ⟨x, hx, hp⟩)
        · exact Or.inl (Or.inl e)
        · rcases List.mem_append.1 hx with hx | hx
          · exact Or.inl (Or.inr ⟨x, hx, hp⟩)
          · rw [List.mem_singleton] at hx; rw [hx] at hp; exact Or.inr hp
    nums := h.nums.snoc h1
    good := h.good.snoc h1 h2 h3
    x0 := World.cell?_setCell_same' _ _ _ (by rw [c3 0 v h.x0]; rfl)
    x1 := by rw [World.cell?_setCell_other _ _ _ _ (by simp)]; exact c3 1 _ h.x1
    fx := by rw [World.frozen?_setCell]; exact f3
    hX := h.hX
    own := by
      rw [List.length_append, tcs_app]
      exact own_set own3 (fun g e => (uX g e).1)
    sX := fun p x hx => (S.x p x hx).1
    sv := uX }
theorem one_new (W : World) (b : Nat) (hb : b = W.heap.size) (x : Value) (t : TypeId) : ∀ j u, [x][j]? = some u → (W.alloc (.cells #[x] t)).cell? ((⟨b, 0, none⟩ : Addr).add j) = some u := by
  subst hb; exact cell_one_new _ _ _
theorem own_is {e : TypeId} {n : Nat} {xs : List Value} (h : w.ownsRow B e 1 v n xs) : ∃ p c, v = .slice p n c := by
  rcases h.2 with ⟨rfl, rfl⟩ | ⟨g, cap, cur, rfl, _⟩
  · exact ⟨_, _, rfl⟩
  · exact ⟨_, _, rfl⟩
set_option maxRecDepth 100000 in
set_option maxHeartbeats 3200000 in
theorem add_ok (h : Lex B X w ws) (xs : Ed.Bs) (h1 : xs ∉ ws) (h2 : xs ≠ []) (h3 : xs.length ≤ 40) (hB : B ≤ w.heap.size) (hn : ws.length ≤ 1000) :
    Calls Try.prog 23 #[nd X, sb xs] w fun e w' => e = .returned (.int .i64 0) ∧ Lex B X w' (ws ++ [xs]) ∧ Below B w w' := by
  obtain ⟨M, nm, N, r, v, hN, L⟩ := h
  obtain ⟨p, c, rfl⟩ := own_is L.own
  obtain ⟨n, hn'⟩ : ∃ n, n = ws.length := ⟨_, rfl⟩
  have HW := Lib.hid hn'
  have hN0 := Lib.hid hN
  have GR := Lib.hid (grow_any (xs := xs) L.tr L.root L.closed L.neg hB (by omega) (by omega))
  have ne : xs.isEmpty = false := by simpa using h2
  have HB := Lib.hid hB
  obtain ⟨i0, hi, hz0, hz1, hz2⟩ := info_parts info_str
  have x1 := L.x1
  have HLk := Lib.hid L
  have HNM := Lib.hid (L.nums.no xs h1)
  have H1 := Lib.hid h1
  have H2 := Lib.hid h2
  have H3 := Lib.hid h3
  rw [← hn'] at hn HLk
  clear L h1 h2 hB hn' hN
  go_enter Try.func23, Try.ntmps23
  go_wp2_with (first
    | (go_at_call 35; (with_reducible refine GR.out.mono ?_); rintro e w1 ⟨M', y, rfl, hy, G⟩; have y0 := G.tr.c0 _ _ hy; rw [HNM.out] at y0;  have S := HLk.out.sep G; have yf := G.tr.fz _ _ hy; have k0 := G.kc.cell HLk.out.x0; have k1 := G.kc.cell HLk.out.x1; have kf := (G.kc.frozen HLk.out.x0).trans HLk.out.fx; have ny : X ≠ y.1 := fun e => (S.x xs y hy).1 e.symm;  have own1 := own_set (u := .int .i64 n) (j := 0) (G.kc.own HLk.out.own) (fun g e => ((S.v g e).2 xs y hy).1.symm); have hsz : B ≤ w1.heap.size := Nat.le_trans HB.out G.kc.size; rw [← HW.out] at own1; have HG := Lib.hid G; have HY := Lib.hid hy; clear S G hy)
    | (at_builtin; refine wpList_append_own_at _ rfl _ _ 22 rfl B 9 i0 _ 1 16 Try.underlying22 hi hz0 hz1 hz2 rfl (by decide) _ n (tcs ws) rfl (own1.alloc _) ⟨_, 0, none⟩ 1 1 [.string ⟨xs.toArray⟩] rfl rfl (one_new _ _ (by simp) _ _) (by simp [Value.oneCell']) ?c1 ?c2 ?c3 ?_))
  case c1 => unfold maxLen; omega
  case c2 => omega
  case c3 => simp; omega
  intro u w3 own3 gr3 _ hat
  obtain ⟨p3, c3, rfl⟩ := own_is own3
  have HH := HW.out
  subst HH
  obtain ⟨⟨d0, df, bl⟩, LL⟩ := HLk.out.added HB.out H1.out H2.out H3.out HY.out HG.out own3 gr3 (by simpa using hat)
  have HLL := Lib.hid LL
  have HBL := Lib.hid bl
  clear LL bl own3 gr3 hat own1 k0 k1 y0 yf kf
  go_wp2
  go_ret
  exact ⟨rfl, ⟨M', _, _, r, _, by have := hN0.out; rw [List.length_append]; simp; omega, HLL.out⟩, HBL.out⟩
end Go.Proofs.Ytkhgjjbiifbfgaa
