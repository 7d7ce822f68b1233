/- The reference's divmod: its walk. -/
import Derived.Test.YtlmigbfpdbkkjaaDoorBi
import Derived.Deep.OwnRows
namespace Go.Proofs.YtlmigbfpdbkkjaaDoor
open Go.RowKit

namespace Nt
theorem len_up {r p y : Nat} (hr : r < y) (hp : p < 2) (k : Nat) (hk : (bd y).length ≤ k) : (bd (p + 2 * r)).length ≤ k + 1 := by
  rw [bd_len] at hk ⊢
  rw [Nat.pow_succ]
  generalize 2 ^ k = P at *
  omega
theorem len_less {r y : Nat} (hr : r < y) (k : Nat) (hk : (bd y).length ≤ k) : (bd r).length ≤ k := by
  rw [bd_len] at hk ⊢
  exact Nat.lt_trans hr hk
end Nt
/-- What is known of the quotient's bits when so many are left. -/
def Qd (n t : Nat) (Q : List Nat) (V : Nat) : Prop := Q.length = n ∧ Nt.Bits Q ∧ (∀ i, i < t → Q.getD i 0 = 0) ∧ Pos.val 2 (Q.drop t) = V
theorem Qd.start (n : Nat) : Qd n n (List.replicate n 0) 0 := by
  refine ⟨List.length_replicate, fun x hx => by obtain ⟨_, rfl⟩ := List.mem_replicate.1 hx; decide, fun i _ => ?_, by rw [List.drop_of_length_le (by rw [List.length_replicate]; exact Nat.le_refl _)]; rfl⟩
  rw [List.getD_eq_getElem?_getD, List.getElem?_replicate]; split <;> rfl
theorem Qd.one {n j V W : Nat} {Q : List Nat} (h : Qd n (j + 1) Q V) (hj : j < n) (hW : W = 1 + 2 * V) : Qd n j (Q.set j 1) W := by
  obtain ⟨h1, h2, h3, h4⟩ := h
  refine ⟨by rw [List.length_set]; exact h1, Nt.bits_put h2 j 1 (by decide), fun i hi => ?_, ?_⟩
  · rw [Nt.getD_set_ne _ _ _ _ (by omega)]; exact h3 i (by omega)
  · rw [Nt.drop_put _ _ _ (by omega), h4, hW]
theorem Qd.none {n j V W : Nat} {Q : List Nat} (h : Qd n (j + 1) Q V) (hW : W = 2 * V) : Qd n j Q W := by
  obtain ⟨h1, h2, h3, h4⟩ := h
  exact ⟨h1, h2, fun i hi => h3 i (by omega), by rw [Nt.drop_none _ _ (h3 j (by omega)), h4, hW]⟩
/-- The quotient's bits in memory. -/
def Qr (w : World) (g n : Nat) (Q : List Nat) : Prop := w.rowIs g 3 n (fun j => .int .i64 (Q.getD j 0 : Nat))
theorem Qr.start (w : World) (n : Nat) : Qr (w.alloc (.cells (madeCells #[.int .i64 0] n) 3)) w.heap.size n (List.replicate n 0) := by
  refine (World.rowIs_made w (.int .i64 0) n 3).congr fun i _ => ?_
  rw [List.getD_eq_getElem?_getD, List.getElem?_replicate]; split <;> rfl
theorem Qr.keep {w w' : World} {g n : Nat} {Q : List Nat} (h : Qr w g n Q) (hb : Below w.heap.size w w') : Qr w' g n Q := World.rowIs.of_block h (hb.block g (World.rowIs.lt h))
theorem Qr.put {w : World} {g n j : Nat} {Q : List Nat} (h : Qr w g n Q) (hj : j < Q.length) : Qr (w.setCell ⟨g, j, none⟩ (.int .i64 1)) g n (Q.set j 1) := by
  refine (World.rowIs.set h j (.int .i64 1)).congr fun i _ => ?_
  show (if i = j then _ else _) = _
  by_cases e : i = j
  · subst e; rw [if_pos rfl, Nt.getD_set_eq _ _ _ hj]; rfl
  · rw [if_neg e, Nt.getD_set_ne _ _ _ _ e]
theorem Qr.bt {w : World} {g n : Nat} {Q : List Nat} (h : Qr w g n Q) (hq : Nt.Bits Q) (hn : Q.length = n) : Bt w (.slice (some ⟨g, 0, none⟩) n n) Q :=
  ⟨_, n, by rw [hn], hq, fun e => (by cases e), by omega, Or.inr ⟨g, 0, rfl, fun j hj => by rw [Nat.zero_add]; exact World.rowIs.cell h (by omega)⟩⟩
theorem Bt.store {w : World} {g j B n c : Nat} {a : Option Addr} {v : Value} {l : List Nat} (h : Bt w (.slice a n c) l) (hf : Fr B a) (hg : g < B) : Bt (w.setCell ⟨g, j, none⟩ v) (.slice a n c) l := by
  obtain ⟨a', c', e, h1, h2, h3, h4⟩ := h
  obtain ⟨rfl, _, rfl⟩ := Value.slice.inj e
  refine ⟨a, c, e, h1, h2, h3, ?_⟩
  rcases h4 with h4 | ⟨b, off, rfl, h4⟩
  · exact Or.inl h4
  · refine Or.inr ⟨b, off, rfl, fun i hi => ?_⟩
    rw [← h4 i hi]
    have := hf _ rfl
    exact World.cell?_of_block (Below.heap_setCell w _ v b (by show b ≠ g; simp at this; omega))
theorem Fr.mono {B B' : Nat} {a : Option Addr} (h : Fr B a) (hb : B' ≤ B) : Fr B' a := fun ad e => Nat.le_trans hb (h ad e)

set_option maxRecDepth 100000 in
set_option maxHeartbeats 3200000 in
theorem rdivmod_any (v u : Value) (x y : Nat) (w : World) (h : Bt w v (Nt.bd x)) (h' : Bt w u (Nt.bd y)) (hl : (Nt.bd x).length ≤ 50000) (hm : (Nt.bd y).length ≤ 50000) (hy : 0 < y) :
    Calls Tryd.prog 51 #[v, u] w fun e w' => ∃ a n c a' n' c', e = .returned (.tuple #[.slice a n c, .slice a' n' c']) ∧ Bt w' (.slice a n c) (Nt.bd (x / y)) ∧ Bt w' (.slice a' n' c') (Nt.bd (x % y)) ∧ Below w.heap.size w w' := by
  have U := Lib.hid (fun w' (b : Below w.heap.size w w') => h'.below b)
  obtain ⟨a, c, rfl, -, -, hcap, h⟩ := h
  have BL := Lib.hid (Nt.bits_bd x)
  have EX := Lib.hid (Nt.bv_bd x)
  have RL := Lib.hid (fun r p (hr : r < y) (hp : p < 2) => Nt.len_up hr hp 50000 hm)
  have RL2 := Lib.hid (fun r (hr : r < y) => Nt.len_less hr 50000 hm)
  obtain ⟨l, el⟩ : ∃ l, l = Nt.bd x := ⟨_, rfl⟩
  rw [← el] at h hcap hl BL EX ⊢
  clear el h'
  obtain ⟨n, hn⟩ : ∃ n, n = l.length := ⟨_, rfl⟩
  rw [← hn] at h hcap hl ⊢
  have HN := Lib.hid hn
  have H := Lib.hid h
  have HM := Lib.hid hm
  clear h hn hm
  have MI := Lib.hid (run_make_row' (P := Tryd.prog) 78 3 (.int .i64 0) 8 Tryd.underlying78 info_i64 rfl .i64 .i64 n (by omega) (by omega))
  go_enter Tryd.func51, Tryd.ntmps51
  have mi := MI.out
  go_wp2
  clear mi
  go_loopw [7, 8] (fun rest i wr => ∃ (t : Nat) (a : Option Addr) (k c : Nat) (Q : List Nat), t ≤ n ∧ i = .int .i64 ((t : Int) - 1) ∧ rest = .slice a k c ∧ Hid (Bt wr (.slice a k c) (Nt.bd (Nt.bv (l.drop t) % y))) ∧ Hid (Fr (w.heap.size + 1) a) ∧ Hid (Qd n t Q (Nt.bv (l.drop t) / y)) ∧ Hid (Qr wr w.heap.size n Q) ∧ Hid (Below w.heap.size w wr)) (fun _ i _ => (intOf i + 1).toNat)
  case atStart =>
    have e : Nt.bv (l.drop n) = 0 := by rw [List.drop_of_length_le (by rw [HN.out]; exact Nat.le_refl _)]; rfl
    refine ⟨n, none, 0, 0, List.replicate n 0, Nat.le_refl _, rfl, rfl, ?_, ?_, ?_, ?_, ?_⟩
    · show Bt _ _ _; rw [e, Nat.zero_mod]; exact Bt.nil _
    · intro ad e; cases e
    · show Qd _ _ _ _; rw [e, Nat.zero_div]; exact Qd.start n
    · exact Qr.start w n
    · exact (Below.refl _ _).alloc (Nat.le_refl _) _
  case round =>
    obtain ⟨t, ao, ko, co, Q, ht, rfl, rfl, RB, RF, QD, QR, B⟩ := hrel
    by_cases t0 : t = 0
    · subst t0
      have QB := Lib.hid (QR.out.bt QD.out.2.1 QD.out.1)
      have e1 : Hid (Nt.bv Q = x / y) := by
        have := QD.out.2.2.2
        show _ = _
        rw [← EX.out]
        exact this
      have e2 : Hid (Nt.bv (l.drop 0) % y = x % y) := by show Nt.bv l % y = _; rw [EX.out]
      have LB : Q.length ≤ 1000000000 := by rw [QD.out.1]; omega
      go_wp2_with (go_at_call 71; (with_reducible refine (rtrim_b2 _ Q _ QB.out LB).mono ?_); rintro e w1 ⟨a1, n1, c1, rfl, t1, b1, hv⟩; have HV := Lib.hid hv; clear hv)
      go_ret2
      exact ⟨_, _, _, _, _, _, rfl, by rw [← e1.out]; exact t1, by rw [← e2.out]; exact RB.out.below b1, B.out.trans (b1.mono B.out.size)⟩
    · obtain ⟨j, rfl⟩ : ∃ j, t = j + 1 := ⟨t - 1, by omega⟩
      have ej : ((j + 1 : Nat) : Int) - 1 = (j : Int) := by omega
      rw [ej]
      clear ej
      rcases H.out with h0 | ⟨b, off, rfl, hc⟩
      · exfalso; have := HN.out; rw [h0] at this; simp at this; omega
      have hck := (B.out.cell (World.block_lt_of_cell? _ _ (hc j (by have := HN.out; omega)))).trans (hc j (by have := HN.out; omega))
      have P1 := Nt.bit_at BL.out j
      have HV : Hid (Nt.bv (l.drop j) = l.getD j 0 + 2 * Nt.bv (l.drop (j + 1))) := Pos.val_drop 2 l j
      obtain ⟨p, hp⟩ : ∃ p, p = l.getD j 0 := ⟨_, rfl⟩
      rw [← hp] at hck P1 HV
      clear hc hp
      obtain ⟨r, hr⟩ : ∃ r, r = Nt.bv (l.drop (j + 1)) % y := ⟨_, rfl⟩
      have RB' : Hid (Bt wr (.slice ao ko co) (Nt.bd r)) := by show Bt _ _ _; rw [hr]; exact RB.out
      have ry : Hid (r < y) := by show r < y; rw [hr]; exact Nat.mod_lt _ hy
      obtain ⟨D1, D2⟩ := Nt.dm_step (H := Nt.bv (l.drop (j + 1))) hy P1 (show p + 2 * r = p + 2 * (Nt.bv (l.drop (j + 1)) % y) by rw [hr])
      rw [← HV.out] at D1 D2
      have RV : Hid (Nt.bv (p :: Nt.bd r) = p + 2 * r) := by
        show Pos.val 2 (p :: Nt.bd r) = _
        rw [Pos.val_cons]
        have := Nt.bv_bd r
        unfold Nt.bv at this
        rw [this]
      have RLL := Lib.hid (RL.out r p ry.out P1)
      have RL1 : Hid ((Nt.bd r).length ≤ 50000) := RL2.out r ry.out
      obtain ⟨R, eR⟩ : ∃ R, R = p + 2 * r := ⟨_, rfl⟩
      rw [← eR] at D1 D2 RV RLL
      have LC : Hid ((p :: Nt.bd r).length ≤ 1000000000) := by show (p :: Nt.bd r).length ≤ _; rw [List.length_cons]; have := RL1.out; omega
      have LC1 : Hid ((Nt.bd r).length ≤ 1000000) := by show (Nt.bd r).length ≤ _; have := RL1.out; omega
      have LR : Hid ((Nt.bd R).length ≤ 100000) := by show (Nt.bd R).length ≤ _; have := RLL.out; omega
      have LY : Hid ((Nt.bd y).length ≤ 100000) := by show (Nt.bd y).length ≤ _; have := HM.out; omega
      have TR := Lib.hid (fun v w' (h : Bt w' v (p :: Nt.bd r)) => rtrim_b2 v (p :: Nt.bd r) w' h LC.out)
      rw [RV.out] at TR
      obtain ⟨K, hK⟩ : ∃ K, K = Nt.ord R y := ⟨_, rfl⟩
      have CP := Lib.hid (fun v u w' (h : Bt w' v (Nt.bd R)) (h' : Bt w' u (Nt.bd y)) => rcmp_any v u R y w' h h' LR.out LY.out)
      rw [← hK] at CP
      clear hr eR
      by_cases c1 : y ≤ R
      · have k0 : 0 ≤ K := by rw [hK]; unfold Nt.ord; split <;> (try split) <;> omega
        obtain ⟨d1, d2⟩ := D1 c1
        have D1' := Lib.hid d1
        have D2' := Lib.hid d2
        have QD' : Hid (Qd n j (Q.set j 1) (Nt.bv (l.drop j) / y)) := QD.out.one (by omega) (by rw [D1'.out])
        have SB := Lib.hid (fun v u w' (h : Bt w' v (Nt.bd R)) (h' : Bt w' u (Nt.bd y)) => rsub_any v u R y w' h h' LR.out c1)
        clear D1 D2 d1 d2 hK c1
        have jn : j < n := by omega
        go_wp2_with (first
          | (at_builtin; refine wp_cons rfl _ _ rfl p P1 rfl _ _ _ _ rfl RB'.out LC1.out ?_; intro a5 k5 c5 w5 hk5 t5 f5 b5; have HK5 := Lib.hid hk5; have F5 := Lib.hid (f5.mono (World.rowIs.lt QR.out)); have B5 := Lib.hid (B.out.trans (b5.mono B.out.size)); have Q5 := Lib.hid (QR.out.keep b5); clear hk5 f5 b5)
          | (go_at_call 71; (with_reducible refine (TR.out _ _ t5).mono ?_); rintro e w6 ⟨a6, n6, c6, rfl, t6, b6, hv⟩; have F6 : Hid (Fr (w.heap.size + 1) a6) := (by obtain ⟨rfl, _, _⟩ := Value.slice.inj hv; exact F5.out); have B6 := Lib.hid (B5.out.trans (b6.mono B5.out.size)); have Q6 := Lib.hid (Q5.out.keep b6); clear hv b6)
          | (go_at_call 72; (with_reducible refine (CP.out _ _ _ t6 (U.out _ B6.out)).mono ?_); rintro e w7 ⟨rfl, b7⟩; have t7 := t6.below b7; have B7 := Lib.hid (B6.out.trans (b7.mono B6.out.size)); have Q7 := Lib.hid (Q6.out.keep b7); clear b7)
          | (go_at_call 73; (with_reducible refine (SB.out _ _ _ t7 (U.out _ B7.out)).mono ?_); rintro e w8 ⟨a8, n8, c8, rfl, t8, b8, f8⟩; have B8 := Lib.hid (B7.out.trans (b8.mono B7.out.size)); have Q8 := Lib.hid (Q7.out.keep b8); have F8 := Lib.hid (f8.mono (World.rowIs.lt Q7.out)); have qc := World.rowIs.cell Q8.out jn; have qf := World.rowIs.frozen Q8.out j; clear b8 f8))
        have RB9 : Hid (Bt (w8.setCell ⟨w.heap.size, j, none⟩ (.int .i64 1)) (.slice a8 n8 c8) (Nt.bd (Nt.bv (l.drop j) % y))) := by
          show Bt _ _ _
          rw [D2'.out]
          exact t8.store F8.out (Nat.lt_succ_self _)
        have Q9 := Lib.hid (Q8.out.put (j := j) (by rw [QD.out.1]; exact jn))
        have B9 := Lib.hid (B8.out.setCell (p := ⟨w.heap.size, j, none⟩) (Nat.le_refl _) (.int .i64 1))
        go_roundw
        case rel => exact ⟨j, a8, n8, c8, Q.set j 1, by omega, by go_num, rfl, RB9, F8, QD', Q9, B9⟩
        case measure => simp [intOf]
      · have k0 : K < 0 := by rw [hK]; unfold Nt.ord; rw [if_pos (by omega)]; decide
        obtain ⟨d1, d2⟩ := D2 c1
        have D1' := Lib.hid d1
        have D2' := Lib.hid d2
        have QD' : Hid (Qd n j Q (Nt.bv (l.drop j) / y)) := QD.out.none (by rw [D1'.out])
        clear D1 D2 d1 d2 hK c1
        go_wp2_with (first
          | (at_builtin; refine wp_cons rfl _ _ rfl p P1 rfl _ _ _ _ rfl RB'.out LC1.out ?_; intro a5 k5 c5 w5 hk5 t5 f5 b5; have HK5 := Lib.hid hk5; have F5 := Lib.hid (f5.mono (World.rowIs.lt QR.out)); have B5 := Lib.hid (B.out.trans (b5.mono B.out.size)); have Q5 := Lib.hid (QR.out.keep b5); clear hk5 f5 b5)
          | (go_at_call 71; (with_reducible refine (TR.out _ _ t5).mono ?_); rintro e w6 ⟨a6, n6, c6, rfl, t6, b6, hv⟩; have F6 : Hid (Fr (w.heap.size + 1) a6) := (by obtain ⟨rfl, _, _⟩ := Value.slice.inj hv; exact F5.out); have B6 := Lib.hid (B5.out.trans (b6.mono B5.out.size)); have Q6 := Lib.hid (Q5.out.keep b6); clear hv b6)
          | (go_at_call 72; (with_reducible refine (CP.out _ _ _ t6 (U.out _ B6.out)).mono ?_); rintro e w7 ⟨rfl, b7⟩; have t7 := t6.below b7; have B7 := Lib.hid (B6.out.trans (b7.mono B6.out.size)); have Q7 := Lib.hid (Q6.out.keep b7); clear b7))
        have RB9 : Hid (Bt w7 (.slice a6 n6 c6) (Nt.bd (Nt.bv (l.drop j) % y))) := by
          show Bt _ _ _
          rw [D2'.out]
          exact t7
        go_roundw
        case rel => exact ⟨j, a6, n6, c6, Q, by omega, by go_num, rfl, RB9, F6, QD', Q7, B7⟩
        case measure => simp [intOf]
end Go.Proofs.YtlmigbfpdbkkjaaDoor
