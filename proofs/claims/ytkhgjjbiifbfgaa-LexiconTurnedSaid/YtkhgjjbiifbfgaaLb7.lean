/- The iterator over the hits. -/
import Derived.Test.YtkhgjjbiifbfgaaLa7
namespace Go.Proofs.Ytkhgjjbiifbfgaa
open Go.RowKit Go.Shelf
attribute [local go_sem] Oper.semAt_some

/-- All cells of blocks below B, but those of block g, are as they were. -/
def Kb (B g : Nat) (V V' : World) : Prop := ∀ (p : Addr) (v : Value), p.block < B → p.block ≠ g → V.cell? p = some v → V'.cell? p = some v
theorem Kb.trans {B g : Nat} {A C D : World} (h : Kb B g A C) (k : Kb B g C D) : Kb B g A D := fun p v h1 h2 h3 => k p v h1 h2 (h p v h1 h2 h3)
theorem Kb.of_below {B g : Nat} {V V' : World} (h : Below V.heap.size V V') : Kb B g V V' := fun _ _ _ _ h3 => kept_cell h h3
/-- What the iterator reads. -/
structure It (B g Bx Bs Bc Bm X : Nat) (c : Ed.Cs) (s : Ed.Bs) (ws : List Ed.Bs) (most : Int) (p : Option Addr) (n cp : Nat) (w : World) : Prop where
  hx : Bx < B ∧ Bx ≠ g
  hs : Bs < B ∧ Bs ≠ g
  hc : Bc < B ∧ Bc ≠ g
  hm : Bm < B ∧ Bm ≠ g
  hX : X < B ∧ X ≠ g
  hn : n = ws.length
  cx : w.cell? ⟨Bx, 0, none⟩ = some (nd X)
  cs : w.cell? ⟨Bs, 0, none⟩ = some (sb s)
  c0 : w.cell? ⟨Bc, 0, none⟩ = some (.int .i64 c.ins)
  c1 : w.cell? ⟨Bc, 1, none⟩ = some (.int .i64 c.del)
  c2 : w.cell? ⟨Bc, 2, none⟩ = some (.int .i64 c.chg)
  c3 : w.cell? ⟨Bc, 3, none⟩ = some (.int .i64 c.swp)
  cm : w.cell? ⟨Bm, 0, none⟩ = some (.int .i64 most)
  cX : w.cell? ⟨X, 0, none⟩ = some (.slice p n cp)
  ww : ws = [] ∨ ∃ b off, p = some ⟨b, off, none⟩ ∧ b < B ∧ b ≠ g ∧ ∀ j (hj : j < ws.length), w.cell? ⟨b, off + j, none⟩ = some (sb ws[j])
theorem It.keep {B g Bx Bs Bc Bm X : Nat} {c : Ed.Cs} {s : Ed.Bs} {ws : List Ed.Bs} {most : Int} {p : Option Addr} {n cp : Nat} {w w' : World} (h : It B g Bx Bs Bc Bm X c s ws most p n cp w) (k : Kb B g w w') : It B g Bx Bs Bc Bm X c s ws most p n cp w' where
  hx := h.hx
  hs := h.hs
  hc := h.hc
  hm := h.hm
  hX := h.hX
  hn := h.hn
  cx := k _ _ h.hx.1 h.hx.2 h.cx
  cs := k _ _ h.hs.1 h.hs.2 h.cs
  c0 := k _ _ h.hc.1 h.hc.2 h.c0
  c1 := k _ _ h.hc.1 h.hc.2 h.c1
  c2 := k _ _ h.hc.1 h.hc.2 h.c2
  c3 := k _ _ h.hc.1 h.hc.2 h.c3
  cm := k _ _ h.hm.1 h.hm.2 h.cm
  cX := k _ _ h.hX.1 h.hX.2 h.cX
  ww := by
    rcases h.ww with h1 | ⟨b, off, h1, h2, h3, h4⟩
    · exact Or.inl h1
    · exact Or.inr ⟨b, off, h1, h2, h3, fun j hj => k _ _ h2 h3 (h4 j hj)⟩
def enc1 (_ : Nat) (v : Value) : Array Value := #[v]
/-- The k-th of some hits. -/
def OkH (l : List Hit) (k : Nat) (v : Value) (_ : World) : Prop := ∃ x, l[k]? = some x ∧ v = .agg #[.int .i64 x.1, .int .i64 x.2]
set_option maxRecDepth 100000 in
set_option maxHeartbeats 3200000 in
theorem hits1_hands (F : Nat) (hF : 1 ≤ F) (B g Bx Bs Bc Bm X : Nat) (c : Ed.Cs) (hc : Ed.Rc c) (s : Ed.Bs) (hs : s.length ≤ 60) (ws : List Ed.Bs) (hn : ws.length ≤ 1000) (hw : ∀ x ∈ ws, x.length ≤ 60) (most : Int) (p : Option Addr) (n cp : Nat) (w : World) (h : It B g Bx Bs Bc Bm X c s ws most p n cp w) :
    Hands F Try.prog 36 #[.pointer (some ⟨Bx, 0, none⟩), .pointer (some ⟨Bs, 0, none⟩), .pointer (some ⟨Bc, 0, none⟩), .pointer (some ⟨Bm, 0, none⟩)] enc1 (OkH (Lx.rawN c s ws most ws.length)) (Kb B g) (Lx.rawN c s ws most ws.length).length w := by
  intro l J X' W hW hJ hY h0
  have I0 := h.keep (Kb.of_below hW)
  have HI := Lib.hid I0
  have HY := Lib.hid hY
  have HJ := Lib.hid hJ
  have HC := Lib.hid hc
  have HS := Lib.hid hs
  have HW := Lib.hid hw
  have i1 := I0.cx
  have i2 := I0.cX
  have n1 : n ≤ 1000 := by rw [I0.hn]; exact hn
  have H0 := Lib.hid h0
  have FW : Fence.wide.fn 37 := trivial
  clear hY hJ h I0 hc hs hw hW h0 hn
  refine callsIn_of_wp Try.func36 rfl trivial ?_ rfl
  simp only [Try.ntmps36, List.size_toArray, List.length_cons, List.length_nil, Nat.reduceAdd, Nat.reduceSub, Array.replicate_succ, Array.replicate_zero, List.push_toArray, List.append_toArray, List.nil_append, List.cons_append]
  gi_wp2
  gi_loopw [16] (fun i wr => ∃ k : Nat, k ≤ n ∧ i = .int .i64 k ∧ Hid (J (Lx.rawN c s ws most k).length wr) ∧ Hid (It B g Bx Bs Bc Bm X c s ws most p n cp wr)) (fun i _ => n - (intOf i).toNat)
  case atStart => exact ⟨0, Nat.zero_le _, rfl, H0.out, HI.out⟩
  case round =>
    obtain ⟨k, hk, rfl, JK, I⟩ := hrel
    clear i1 i2 H0
    by_cases hlt : k < n
    · have hkl : k < ws.length := by rw [← I.out.hn]; exact hlt
      obtain ⟨b, off, rfl, hb1, hb2, hb3⟩ := I.out.ww.resolve_left (by intro e; rw [e] at hkl; simp at hkl)
      have f0 := hb3 k hkl
      have f1 := I.out.cs
      have f2 := I.out.c0
      have f3 := I.out.c1
      have f4 := I.out.c2
      have f5 := I.out.c3
      have f6 := I.out.cm
      have WI := within_ok c HC.out s ws[k] HS.out (HW.out _ (List.getElem_mem hkl)) most
      obtain ⟨y, hy0⟩ : ∃ y, y = ws[k] := ⟨_, rfl⟩
      obtain ⟨d, hd⟩ : ∃ d, d = Ed.ds c s ws[k] := ⟨_, rfl⟩
      by_cases hm : d ≤ most
      · have RY := Lx.rawN_yes (c := c) (s := s) (most := most) hkl (by rw [← hd]; exact hm)
        have RA := Lx.rawN_at (c := c) (s := s) (most := most) (n := ws.length) hkl hkl (by rw [← hd]; exact hm)
        rw [← hd] at WI RY RA
        rw [if_pos hm, decide_eq_true hm] at WI
        rw [← hy0] at f0 WI
        have hlen := (List.getElem?_eq_some_iff.1 RA).1
        have HRY := Lib.hid RY
        have HRA := Lib.hid RA
        have HWI := Lib.hid WI
        have HLN := Lib.hid hlen
        clear hy0 hd hkl hb3 hm WI RY RA hlen
        gi_wp2_with (gi_at_call 37; refine (callsIn_wide.2 (HWI.out _)).mono ?_; rintro e w2 ⟨rfl, b2⟩; obtain ⟨fn, tmps, assign, body, hy, hR⟩ := HY.out _ (.agg #[.int .i64 k, .int .i64 d]) w2 HLN.out (HJ.out _ wr w2 none JK.out (below_grown b2) (fun r e => by cases e)) ⟨_, HRA.out, rfl⟩; dsimp only [enc1] at hy; have I2 := Lib.hid (I.out.keep (Kb.of_below b2)); clear b2)
        refine hR.mono ?_
        rintro e W3 (⟨rfl, J3, K3⟩ | ⟨rfl, X3⟩)
        · have I3 := Lib.hid (I2.out.keep K3)
          have J4 : Hid (J (Lx.rawN c s ws most (k + 1)).length W3) := by show J _ _; rw [HRY.out, List.length_append]; exact J3
          clear J3 K3 hR hy
          gi_wp2
          go_roundw
          case rel => exact ⟨k + 1, by omega, by go_num, J4, I3⟩
          case measure => simp [intOf]; omega
        · gi_wp2
          refine bodyPost_ret (results_none rfl _ _ _) rfl ?_
          exact ⟨⟨_, rfl⟩, .inr ⟨_, HLN.out, X3⟩⟩
      · have RY := Lx.rawN_no (c := c) (s := s) (most := most) hkl (by rw [← hd]; exact hm)
        rw [← hd] at WI
        rw [if_neg hm, decide_eq_false hm] at WI
        rw [← hy0] at f0 WI
        have HRY := Lib.hid RY
        have HWI := Lib.hid WI
        clear hy0 hd hkl hb3 hm WI RY
        gi_wp2_with (gi_at_call 37; refine (callsIn_wide.2 (HWI.out _)).mono ?_; rintro e w2 ⟨rfl, b2⟩; have J2 := Lib.hid (HJ.out _ wr w2 none JK.out (below_grown b2) (fun r e => by cases e)); have I2 := Lib.hid (I.out.keep (Kb.of_below b2)); clear b2)
        refine ⟨fun _ h => (by cases h), ?_⟩
        have J4 : Hid (J (Lx.rawN c s ws most (k + 1)).length w2) := by show J _ _; rw [HRY.out]; exact J2.out
        clear J2
        gi_wp2
        go_roundw
        case rel => exact ⟨k + 1, by omega, by go_num, J4, I2⟩
        case measure => simp [intOf]; omega
    · have hke : k = n := by omega
      have J2 : Hid (J (Lx.rawN c s ws most ws.length).length wr) := by show J _ _; rw [← I.out.hn, ← hke]; exact JK.out
      clear hke
      gi_wp2
      go_end0
      exact ⟨⟨_, rfl⟩, .inl J2.out⟩
end Go.Proofs.Ytkhgjjbiifbfgaa
