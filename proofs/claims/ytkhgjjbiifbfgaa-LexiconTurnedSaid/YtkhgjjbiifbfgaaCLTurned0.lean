/- LexiconTurned's walk: what it does not examine. -/
import Derived.Test.YtkhgjjbiifbfgaaLk7
namespace Go.Proofs.Ytkhgjjbiifbfgaa
open Go.RowKit Go.Shelf
set_option maxRecDepth 100000 in
set_option maxHeartbeats 6400000 in
theorem turned_no (v : Value) (ws : List Ed.Bs) (s : Ed.Bs) (c : Ed.Cs) (most : Int) (mo : Ed.Bs) (w : World) (h : Tx w v ws) (hn : ws.length ≤ 9223372036854775807) (hs : s.length ≤ 9223372036854775807) (hb : Lx.few ws = false ∨ 60 < s.length) :
    Calls Try.prog 5 #[v, sb mo, sb s, cv c, .int .i64 most] w fun e w' => e = .returned (.bool true) ∧ Below w.heap.size w w' := by
  have AW := Lib.hid awake_any
  have B0 := Lib.hid (show Below w.heap.size w (w.alloc (.cells #[.int .i64 c.ins, .int .i64 c.del, .int .i64 c.chg, .int .i64 c.swp] 24)) from (Below.refl _ _).alloc (Nat.le_refl _) _)
  have K0 := Lib.hid (Bxc.made w c)
  have FW := Lib.hid (fun W (hb : Below w.heap.size w W) => few_any v ws W (h.below hb) hn)
  obtain ⟨f, hf⟩ : ∃ f, f = Lx.few ws := ⟨_, rfl⟩
  rw [← hf] at FW hb
  clear h hn hf
  cases f with
  | false =>
    clear hb
    go_enter Try.func5, Try.ntmps5
    go_wp2_with (first
      | (go_at_call 7; (with_reducible refine (AW.out _).mono ?_); rintro e w1 ⟨rfl, b1⟩; have K1 := Lib.hid (K0.out.below b1); have B1 := Lib.hid (B0.out.trans (b1.mono B0.out.size)); obtain ⟨x0, x1, x2, x3⟩ := K1.out; clear b1)
      | (go_at_call 8; (with_reducible refine (FW.out _ B1.out).mono ?_); rintro e w2 ⟨rfl, rfl⟩))
    go_ret
    exact ⟨rfl, B1.out⟩
  | true =>
    have h60 : (60 : Int) < s.length := by rcases hb with h | h <;> first | cases h | omega
    clear hb
    go_enter Try.func5, Try.ntmps5
    go_wp2_with (first
      | (go_at_call 7; (with_reducible refine (AW.out _).mono ?_); rintro e w1 ⟨rfl, b1⟩; have K1 := Lib.hid (K0.out.below b1); have B1 := Lib.hid (B0.out.trans (b1.mono B0.out.size)); obtain ⟨x0, x1, x2, x3⟩ := K1.out; clear b1)
      | (go_at_call 8; (with_reducible refine (FW.out _ B1.out).mono ?_); rintro e w2 ⟨rfl, rfl⟩))
    go_ret
    exact ⟨rfl, B1.out⟩
set_option maxRecDepth 100000 in
set_option maxHeartbeats 6400000 in
theorem turned_bad (v : Value) (ws : List Ed.Bs) (s : Ed.Bs) (c : Ed.Cs) (most : Int) (mo : Ed.Bs) (w : World) (h : Tx w v ws) (hn : ws.length ≤ 9223372036854775807) (hs : s.length ≤ 60) (hf : Lx.few ws = true) (hc : ¬ Ed.Rc c) :
    Calls Try.prog 5 #[v, sb mo, sb s, cv c, .int .i64 most] w fun e w' => e = .returned (.bool true) ∧ Below w.heap.size w w' := by
  have AW := Lib.hid awake_any
  have B0 := Lib.hid (show Below w.heap.size w (w.alloc (.cells #[.int .i64 c.ins, .int .i64 c.del, .int .i64 c.chg, .int .i64 c.swp] 24)) from (Below.refl _ _).alloc (Nat.le_refl _) _)
  have K0 := Lib.hid (Bxc.made w c)
  have FW := Lib.hid (fun W (hb : Below w.heap.size w W) => few_any v ws W (h.below hb) hn)
  rw [hf] at FW
  have RI := Lib.hid (right_any c)
  rw [rcb_no hc] at RI
  clear h hn hf hc
  go_enter Try.func5, Try.ntmps5
  go_wp2_with (first
    | (go_at_call 7; (with_reducible refine (AW.out _).mono ?_); rintro e w1 ⟨rfl, b1⟩; have K1 := Lib.hid (K0.out.below b1); have B1 := Lib.hid (B0.out.trans (b1.mono B0.out.size)); obtain ⟨x0, x1, x2, x3⟩ := K1.out; clear b1)
    | (go_at_call 8; (with_reducible refine (FW.out _ B1.out).mono ?_); rintro e w2 ⟨rfl, rfl⟩)
    | (go_at_call 9; (with_reducible refine (RI.out _).mono ?_); rintro e w3 ⟨rfl, b3⟩; have K2 := Lib.hid (K1.out.below b3); have B2 := Lib.hid (B1.out.trans (b3.mono B1.out.size)); clear x0 x1 x2 x3; obtain ⟨x0, x1, x2, x3⟩ := K2.out; clear b3))
  go_ret
  exact ⟨rfl, B2.out⟩
set_option maxRecDepth 100000 in
set_option maxHeartbeats 6400000 in
theorem turned_wrong (v : Value) (ws : List Ed.Bs) (s : Ed.Bs) (c : Ed.Cs) (most : Int) (mo : Ed.Bs) (w : World) (h : Tx w v ws) (hn : ws.length ≤ 9223372036854775807) (hs : s.length ≤ 60) (hf : Lx.few ws = true) (hc : Ed.Rc c) (hz : Lx.wrong [] ws ≠ 0) :
    Calls Try.prog 5 #[v, sb mo, sb s, cv c, .int .i64 most] w fun e w' => e = .returned (.bool true) ∧ Below w.heap.size w w' := by
  have AW := Lib.hid awake_any
  have B0 := Lib.hid (show Below w.heap.size w (w.alloc (.cells #[.int .i64 c.ins, .int .i64 c.del, .int .i64 c.chg, .int .i64 c.swp] 24)) from (Below.refl _ _).alloc (Nat.le_refl _) _)
  have K0 := Lib.hid (Bxc.made w c)
  have FW := Lib.hid (fun W (hb : Below w.heap.size w W) => few_any v ws W (h.below hb) hn)
  rw [hf] at FW
  have RI := Lib.hid (right_any c)
  rw [rcb_yes hc] at RI
  have NW := Lib.hid (fun W (hb : Below w.heap.size w W) => new_wrong v ws W (h.below hb) hf hz)
  clear h hn hf hc hz
  go_enter Try.func5, Try.ntmps5
  go_wp2_with (first
    | (go_at_call 7; (with_reducible refine (AW.out _).mono ?_); rintro e w1 ⟨rfl, b1⟩; have K1 := Lib.hid (K0.out.below b1); have B1 := Lib.hid (B0.out.trans (b1.mono B0.out.size)); obtain ⟨x0, x1, x2, x3⟩ := K1.out; clear b1)
    | (go_at_call 8; (with_reducible refine (FW.out _ B1.out).mono ?_); rintro e w2 ⟨rfl, rfl⟩)
    | (go_at_call 9; (with_reducible refine (RI.out _).mono ?_); rintro e w3 ⟨rfl, b3⟩; have K2 := Lib.hid (K1.out.below b3); have B2 := Lib.hid (B1.out.trans (b3.mono B1.out.size)); clear x0 x1 x2 x3; obtain ⟨x0, x1, x2, x3⟩ := K2.out; clear b3)
    | (go_at_call 10; (with_reducible refine (NW.out _ B2.out).mono ?_); rintro e w4 ⟨z, hz, rfl, b4⟩; have zz : (z != 0) = true := (by simpa using hz); have B4 := Lib.hid (B2.out.trans (b4.mono B2.out.size)); clear b4))
  go_ret
  exact ⟨rfl, B4.out⟩
end Go.Proofs.Ytkhgjjbiifbfgaa
