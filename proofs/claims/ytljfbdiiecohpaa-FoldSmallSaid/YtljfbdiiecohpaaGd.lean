/- The reference's rows: of, in. -/
import Derived.Test.YtljfbdiiecohpaaFq
namespace Go.Proofs.Ytljfbdiiecohpaa
open Go.RowKit Go.Lib

set_option maxRecDepth 100000 in
theorem rof_any (r : Fo.Rd) (k : Nat) (x : Fo.Bs) (w : World) : Calls Try.prog 51 #[.agg #[.int .u8 r.k, .string ⟨r.lg.toArray⟩, .string ⟨r.sh.toArray⟩], .int .u8 k, .string ⟨x.toArray⟩] w fun e w' => e = .returned (.bool (Fo.isR k x r)) ∧ Below w.heap.size w w' := by
  have c3 : ∀ a b : Fo.Bs, (a == b) = (b == a) := fun a b => by rw [Bool.eq_iff_iff, beq_iff_eq, beq_iff_eq]; exact eq_comm
  obtain ⟨q, hq⟩ : ∃ q, q = Fo.isK k r := ⟨_, rfl⟩
  have E : Hid (Fo.isR k x r = (q && (x == r.lg || x == r.sh))) := by show _ = _; rw [hq, c3 x, c3 x]; rfl
  clear c3
  by_cases h0 : k = 0
  · subst h0
    obtain rfl : q = true := hq
    cases hl : x == r.lg with
    | true =>
      go_enter Try.func51, Try.ntmps51
      go_wp2
      go_ret
      rw [E.out, hl]
      exact ⟨rfl, (Below.refl _ _).alloc (Nat.le_refl _) _⟩
    | false =>
      go_enter Try.func51, Try.ntmps51
      go_wp2
      go_ret
      rw [E.out, hl]
      exact ⟨rfl, (Below.refl _ _).alloc (Nat.le_refl _) _⟩
  · have e0 : ((k : Int) == 0) = false := beq_eq_false_iff_ne.2 (by omega)
    have e1 : q = ((r.k : Int) == (k : Int)) := by
      rw [hq]
      unfold Fo.isK
      rw [beq_eq_false_iff_ne.2 h0, Bool.false_or, Bool.eq_iff_iff, beq_iff_eq, beq_iff_eq]
      omega
    clear hq h0
    cases q with
    | false =>
      have e2 := e1.symm
      clear e1
      go_enter Try.func51, Try.ntmps51
      go_wp2
      go_ret
      rw [E.out]
      exact ⟨rfl, (Below.refl _ _).alloc (Nat.le_refl _) _⟩
    | true =>
      have e2 := e1.symm
      clear e1
      cases hl : x == r.lg with
      | true =>
        go_enter Try.func51, Try.ntmps51
        go_wp2
        go_ret
        rw [E.out, hl]
        exact ⟨rfl, (Below.refl _ _).alloc (Nat.le_refl _) _⟩
      | false =>
        go_enter Try.func51, Try.ntmps51
        go_wp2
        go_ret
        rw [E.out, hl]
        exact ⟨rfl, (Below.refl _ _).alloc (Nat.le_refl _) _⟩
set_option maxRecDepth 100000 in
set_option maxHeartbeats 1600000 in
theorem rin_any (u : Value) (l : List Fo.Bs) (x : Fo.Bs) (w : World) (h : Tx w u l) (hl : l.length ≤ 1000000) : Calls Try.prog 52 #[u, .string ⟨x.toArray⟩] w fun e w' => e = .returned (.bool (l.contains x)) ∧ Below w.heap.size w w' := by
  have HR := Lib.hid h
  obtain ⟨a, c, rfl, -⟩ := h
  obtain ⟨n, hn⟩ : ∃ n, n = l.length := ⟨_, rfl⟩
  rw [← hn] at hl HR ⊢
  have HN := Lib.hid hn
  obtain ⟨q, hq⟩ : ∃ q, q = l.contains x := ⟨_, rfl⟩
  rw [← hq]
  have HQ := Lib.hid hq
  clear hn hq
  go_enter Try.func52, Try.ntmps52
  go_wp2
  go_loopw [5] (fun i wr => ∃ k : Nat, k ≤ n ∧ i = .int .i64 k ∧ Hid ((l.take k).contains x = false) ∧ Hid (Below w.heap.size w wr)) (fun i _ => n - (intOf i).toNat)
  case atStart => exact ⟨0, Nat.zero_le _, rfl, rfl, Below.refl _ _⟩
  case round =>
    obtain ⟨k, hk, rfl, AN, B⟩ := hrel
    by_cases hlt : k < n
    · have k1 : k < l.length := by rw [← HN.out]; exact hlt
      obtain ⟨b1, o1, rfl, c1⟩ := Tx.at (HR.out.below B.out) k1
      obtain ⟨y, hy⟩ : ∃ y, y = l[k] := ⟨_, rfl⟩
      rw [← hy] at c1
      by_cases hxy : y = x
      · have E : Hid (q = true) := by
          show _ = _
          rw [HQ.out]
          exact Fo.contains_of (by rw [← hxy, hy]; exact List.getElem_mem k1)
        subst hxy
        clear hy
        go_wp2
        go_ret
        rw [E.out]
        exact ⟨rfl, B.out⟩
      · have AN2 : Hid ((l.take (k + 1)).contains x = false) := by
          have an := AN.out
          show _ = _
          rw [List.take_succ_eq_append_getElem k1, ← hy]
          simp only [List.contains_eq_mem, decide_eq_false_iff_not, List.mem_append, List.mem_singleton] at an ⊢
          rintro (h | h)
          · exact an h
          · exact hxy h.symm
        have nb : (y == x) = false := beq_eq_false_iff_ne.2 hxy
        clear hy hxy
        go_wp2
        go_roundw
        case rel => exact ⟨k + 1, by omega, by go_num, AN2, B.out⟩
        case measure => simp [intOf]; omega
    · have E : Hid (q = false) := by
        have an := AN.out
        rw [List.take_of_length_le (by rw [← HN.out]; omega)] at an
        show _ = _
        rw [HQ.out, an]
      go_wp2
      go_ret
      rw [E.out]
      exact ⟨rfl, B.out⟩
end Go.Proofs.Ytljfbdiiecohpaa
