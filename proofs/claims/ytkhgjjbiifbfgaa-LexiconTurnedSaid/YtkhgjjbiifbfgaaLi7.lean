/- What the walks of LexiconAll, LexiconMore and LexiconTurned share. -/
import Derived.Test.YtkhgjjbiifbfgaaLh7
namespace Go.Proofs.Ytkhgjjbiifbfgaa
open Go.RowKit Go.Shelf

theorem rcb_no {c : Ed.Cs} (h : ¬ Ed.Rc c) : Ed.Rcb c = false := by
  cases e : Ed.Rcb c with
  | false => rfl
  | true => exact absurd ((Ed.rc_iff c).1 e) h
theorem rcb_yes {c : Ed.Cs} (h : Ed.Rc c) : Ed.Rcb c = true := (Ed.rc_iff c).2 h
/-- A box that holds costs. -/
structure Bxc (W : World) (B : Nat) (c : Ed.Cs) : Prop where
  x0 : W.cell? ⟨B, 0, none⟩ = some (.int .i64 c.ins)
  x1 : W.cell? ⟨B, 1, none⟩ = some (.int .i64 c.del)
  x2 : W.cell? ⟨B, 2, none⟩ = some (.int .i64 c.chg)
  x3 : W.cell? ⟨B, 3, none⟩ = some (.int .i64 c.swp)
theorem Bxc.made (w : World) (c : Ed.Cs) : Bxc (w.alloc (.cells #[.int .i64 c.ins, .int .i64 c.del, .int .i64 c.chg, .int .i64 c.swp] 24)) w.heap.size c := ⟨c0_of w c, c1_of w c, c2_of w c, c3_of w c⟩
theorem Bxc.below {W W' : World} {B : Nat} {c : Ed.Cs} (h : Bxc W B c) (b : Below W.heap.size W W') : Bxc W' B c := ⟨kept_cell b h.x0, kept_cell b h.x1, kept_cell b h.x2, kept_cell b h.x3⟩
theorem new_wrong (v : Value) (ws : List Ed.Bs) (w : World) (h : Tx w v ws) (hf : Lx.few ws = true) (hz : Lx.wrong [] ws ≠ 0) :
    Calls Try.prog 10 #[v] w fun e w' => ∃ z, z ≠ 0 ∧ e = .returned (.tuple #[.pointer none, .int .i64 z]) ∧ Below w.heap.size w w' := by
  obtain ⟨h1, h2⟩ := (Lx.few_iff ws).1 hf
  refine (new_any v ws w h (by omega) (fun x hx => by have := h1 x hx; omega)).mono ?_
  rintro e w' ⟨hb, ⟨h0, _⟩ | ⟨hn, he⟩⟩
  · exact absurd h0 hz
  · exact ⟨_, hn, he, hb⟩
theorem new_right (v : Value) (ws : List Ed.Bs) (w : World) (h : Tx w v ws) (hl : ws.length ≤ 1000) (h1 : ∀ x ∈ ws, x.length ≤ 70) (hz : Lx.wrong [] ws = 0) :
    Calls Try.prog 10 #[v] w fun e w' => ∃ B X, e = .returned (.tuple #[nd X, .int .i64 0]) ∧ Lex B X w' ws ∧ Below w.heap.size w w' := by
  refine (new_any v ws w h hl (fun x hx => by have := h1 x hx; omega)).mono ?_
  rintro e w' ⟨hb, ⟨_, X, he, hL⟩ | ⟨hn, _⟩⟩
  · exact ⟨_, X, he, hL, hb⟩
  · exact absurd hz hn
end Go.Proofs.Ytkhgjjbiifbfgaa
