/- CivilWorks: its walk. -/
import Derived.Test.YtcnnfgigpjbcpaaDoorWr
import Derived.Test.YtcnnfgigpjbcpaaDoorF
namespace Go.Proofs.YtcnnfgigpjbcpaaDoor
open Go.RowKit

theorem quiet_qt {P : Program} {f : FuncId} {args : Array Value} {w : World} {n : Nat} {v : Value}
    (h : Calls P f args (w.drewN n) fun e w' => e = .returned v ∧ Qt (w.drewN n) w') : Calls P f args (w.drewN n) fun e w'' => e = .returned v ∧ ∃ m, w'' = w.drewN m :=
  h.mono fun _ _ ⟨he, hq⟩ => ⟨he, by obtain ⟨q, rfl⟩ := hq; exact ⟨n + q, World.drewN_drewN _ _ _⟩⟩
set_option maxHeartbeats 800000 in
theorem few_any (a : Option Addr) (c n : Nat) (f t k x : Int) (w : World) (hx : IntKind.i64.wrap (f + 4000) = x) :
    Calls Tryd.prog 52 #[.slice a n c, .int .i64 f, .int .i64 t, .int .i64 k] w fun e w' => e = .returned (.bool (decide (n ≤ 60 ∧ t ≤ x ∧ k ≤ 1000))) ∧ w = w' := by
  by_cases c1 : n ≤ 60 <;> by_cases c2 : t ≤ x <;> by_cases c3 : k ≤ 1000
  all_goals
    go_enter Tryd.func52, Tryd.ntmps52
    go_wp2
    go_ret
    exact ⟨ret_bool (by simp [c1, c2, c3]), rfl⟩
set_option maxRecDepth 100000 in
set_option maxHeartbeats 6400000 in
theorem civilWorks_any (a : Option Addr) (c n : Nat) (zs : List Int) (f t k p q : Int) (k2 : k ≤ 9223372036854775807) (p1 : -9223372036854775808 ≤ p) (p2 : p ≤ 9223372036854775807) (q1 : -9223372036854775808 ≤ q) (q2 : q ≤ 9223372036854775807) (w0 w : World) (S : St w0 w)
    (hn : n = zs.length) (h : zs = [] ∨ ∃ b off, a = some ⟨b, off, none⟩ ∧ ∀ j, j < zs.length → w.cell? ⟨b, off + j, none⟩ = some (.int .i64 (zs.getD j 0))) (hnone : a = none → c = 0) :
    Calls Tryd.prog 24 #[.slice a n c, .int .i64 f, .int .i64 t, .int .i64 k, .int .i64 p, .int .i64 q] w fun e w' => e = .returned (.bool true) ∧ St w0 w' := by
  obtain ⟨x, hx⟩ : ∃ x, IntKind.i64.wrap (f + 4000) = x := ⟨_, rfl⟩
  have FW := Lib.hid (fun w => few_any a c n f t k x w hx)
  clear hx
  by_cases hf : n ≤ 60 ∧ t ≤ x ∧ k ≤ 1000
  · rw [decide_eq_true hf] at FW
    have hn60 := hf.1
    have hz : zs.length ≤ 1000000 := by omega
    have LT := Lib.hid (lent_any a n c zs w w (St.refl S.gl) hn h hnone (by omega))
    have CA := Lib.hid (fun w' (b : Below w.heap.size w w') => carry h b)
    obtain ⟨b1, e1, r1, A1, B1⟩ := works_pair f zs hz
    obtain ⟨b2, e2, r2, A2, B2⟩ := between_pair f t zs hz
    obtain ⟨b3, e3, r3, A3, B3⟩ := ahead_pair f k k2 zs hz
    obtain ⟨b4, e4, r4, A4, B4⟩ := yearly_pair f p q p1 p2 q1 q2
    have A1 := Lib.hid A1
    have B1 := Lib.hid B1
    have A2 := Lib.hid A2
    have B2 := Lib.hid B2
    have A3 := Lib.hid A3
    have B3 := Lib.hid B3
    have A4 := Lib.hid A4
    have B4 := Lib.hid B4
    have HN := Lib.hid hn
    have HZ := Lib.hid hz
    clear hf hz h hnone hn
    go_enter Tryd.func24, Tryd.ntmps24
    go_wp2_with (first | (go_at_call 52; refine (FW.out _).mono ?_; rintro e w' ⟨rfl, rfl⟩)  | (go_at_call 53; refine LT.out.mono ?_; rintro e w1 ⟨g, rfl, hL, S1, hg⟩;  have SLl : Hid (∀ w', St w1 w' → Sl w' (.slice (some ⟨g, 0, none⟩) n (n + 12)) zs) := (fun w' b => (hL.below b.bl).sl);  have SLh : Hid (∀ w', St w1 w' → Sl w' (.slice a n c) zs) := (fun w' b => ⟨a, c, by rw [HN.out], CA.out w' (S1.bl.trans (b.bl.mono S1.bl.size))⟩);  have KP : Hid (∀ w', St w1 w' → Calls Tryd.prog 59 #[.slice (some ⟨g, 0, none⟩) n (n + 12), .slice a n c] w' fun e w'' => e = .returned (.bool true) ∧ Qt w' w'') := (fun w' b => kept_any a g n c zs w' (hL.below b.bl) (CA.out w' (S1.bl.trans (b.bl.mono S1.bl.size))) (by omega));  have SC := St.refl S1.gl; clear hL hg)  | (go_at_call 35; refine (A1.out _ w1 _ SC (SLl.out _ SC)).mono ?_; rintro e w2 ⟨rfl, SC⟩)  | (go_at_call 54; refine (B1.out _ w1 _ SC (SLh.out _ SC)).mono ?_; rintro e w3 ⟨rfl, SC⟩)  | (go_at_call 40; refine (right_any _ zs _ (SLl.out _ SC)).mono ?_; rintro e w' ⟨rfl, rfl⟩)  | (go_at_call 55; refine (rright_any _ zs _ (SLh.out _ SC) HZ.out).mono ?_; rintro e w' ⟨rfl, hq⟩; have SC := hq.st SC; clear hq)  | (go_at_call 34; refine (A2.out _ w1 _ SC (SLl.out _ SC)).mono ?_; rintro e w4 ⟨rfl, SD⟩)  | (go_at_call 56; refine (B2.out _ w1 _ SD (SLh.out _ SD)).mono ?_; rintro e w5 ⟨rfl, SE⟩)  | (go_at_call 36; refine (A3.out _ w1 _ SE (SLl.out _ SE)).mono ?_; rintro e w6 ⟨rfl, SF⟩)  | (go_at_call 57; refine (B3.out _ w1 _ SF (SLh.out _ SF)).mono ?_; rintro e w7 ⟨rfl, SG⟩)  | (go_at_call 38; refine (A4.out _ SG.gl).mono ?_; rintro e w' ⟨rfl, rfl⟩)  | (go_at_call 58; refine (B4.out _).mono ?_; rintro e w' ⟨rfl, rfl⟩)  | (go_at_call 59; refine (KP.out _ SG).mono ?_; rintro e w8 ⟨rfl, hq⟩; have SH := hq.st SG; clear hq))
    go_ret
    exact ⟨rfl, S.step (S1.bl.trans (SH.bl.mono S1.bl.size))⟩
  · rw [decide_eq_false hf] at FW
    clear hf hn h hnone
    go_enter Tryd.func24, Tryd.ntmps24
    go_wp2_with (go_at_call 52; refine (FW.out _).mono ?_; rintro e w' ⟨rfl, rfl⟩)
    go_ret
    exact ⟨rfl, S⟩
theorem row_none {k : IntKind} {w : World} {a : Option Addr} {len cap : Nat} {zs : List Int} (h : IsRow k w a len cap zs) : a = none → cap = 0 := by
  rcases h with ⟨_, _, h, _⟩ | ⟨x, rfl, _⟩
  · intro _; exact h
  · intro e; cases e
set_option maxRecDepth 100000 in
set_option maxHeartbeats 800000 in
theorem walk_civilWorks (w : World) (G : Gl w) (a0 : Option Addr) (len cap : Nat) (zs : List Int) (h : IsRow .i64 w a0 len cap zs) (f : Int) (_f1 : -9223372036854775808 ≤ f) (_f2 : f ≤ 9223372036854775807) (t : Int) (_t1 : -9223372036854775808 ≤ t) (_t2 : t ≤ 9223372036854775807) (k : Int) (_k1 : -9223372036854775808 ≤ k) (k2 : k ≤ 9223372036854775807) (p : Int) (p1 : -9223372036854775808 ≤ p) (p2 : p ≤ 9223372036854775807) (q : Int) (q1 : -9223372036854775808 ≤ q) (q2 : q ≤ 9223372036854775807) :
    Calls Tryd.prog 5 #[.slice a0 len cap, .int .i64 f, .int .i64 t, .int .i64 k, .int .i64 p, .int .i64 q] w fun e w' => e = .returned (.bool true) ∧ Below w.heap.size w w' := by
  obtain ⟨e, _, hc, _⟩ := row_at h
  have W := Lib.hid (fun w' (S : St w w') => civilWorks_any a0 cap len (zs.take len) f t k p q k2 p1 p2 q1 q2 w w' S e.symm (carry hc S.bl) (row_none h))
  have S0 := St.refl G
  clear e hc h
  go_enter Tryd.func5, Tryd.ntmps5
  go_wp2_with (first | (go_at_call 19; refine (awake_any w _ S0).mono ?_; rintro e w1 ⟨rfl, S1⟩) | (go_at_call 24; refine (W.out _ S1).mono ?_; rintro e w2 ⟨rfl, S2⟩))
  go_ret
  exact ⟨rfl, S2.bl⟩
end Go.Proofs.YtcnnfgigpjbcpaaDoor
