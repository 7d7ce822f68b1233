/- The words of rows as lists; the statement's own 'has'. -/
import Derived.Test.YtljfbdiiecohpaaFy
namespace Go.Proofs.Ytljfbdiiecohpaa
open Go.RowKit Go.Lib

namespace Fo
theorem ded_mem (x : Bs) : ∀ (l acc : List Bs), x ∈ ded acc l ↔ x ∈ acc ∨ x ∈ l
  | [], acc => by simp [ded]
  | y :: t, acc => by
    unfold ded
    split
    · rename_i h
      rw [ded_mem x t acc, List.mem_cons]
      have hy : y ∈ acc := by simpa using h
      constructor
      · rintro (h | h)
        · exact Or.inl h
        · exact Or.inr (Or.inr h)
      · rintro (h | h | h)
        · exact Or.inl h
        · subst h; exact Or.inl hy
        · exact Or.inr h
    · rw [ded_mem x t, List.mem_append, List.mem_singleton, List.mem_cons, or_assoc]
theorem longs_mem {k : Nat} {x : Bs} {r : Rd} (hr : r ∈ tbl) (h : isR k x r = true) : r.lg ∈ longs k x := by
  unfold longs
  rw [ded_mem]
  exact Or.inr (List.mem_map.2 ⟨r, List.mem_filter.2 ⟨hr, h⟩, rfl⟩)
theorem contains_of {x : Bs} {l : List Bs} (h : x ∈ l) : l.contains x = true := by simpa using h
theorem same_of {k : Nat} {a b x : Bs} (h1 : x ∈ longs k a) (h2 : x ∈ longs k b) : same k a b = true := by
  unfold same
  rw [Bool.or_eq_true]
  exact Or.inr (List.any_eq_true.2 ⟨x, h1, contains_of h2⟩)
theorem same_iff (k : Nat) (a b : Bs) : same k a b = true ↔ a = b ∨ ∃ x, x ∈ longs k a ∧ x ∈ longs k b := by
  unfold same
  rw [Bool.or_eq_true, beq_iff_eq, List.any_eq_true]
  constructor
  · rintro (h | ⟨x, h1, h2⟩)
    · exact Or.inl h
    · exact Or.inr ⟨x, h1, by simpa using h2⟩
  · rintro (h | ⟨x, h1, h2⟩)
    · exact Or.inl h
    · exact Or.inr ⟨x, h1, contains_of h2⟩
theorem same_symm (k : Nat) (a b : Bs) : same k a b = same k b a := by
  rw [Bool.eq_iff_iff, same_iff, same_iff]
  constructor
  · rintro (h | ⟨x, h1, h2⟩)
    · exact Or.inl h.symm
    · exact Or.inr ⟨x, h2, h1⟩
  · rintro (h | ⟨x, h1, h2⟩)
    · exact Or.inl h.symm
    · exact Or.inr ⟨x, h2, h1⟩
theorem same_self (k : Nat) (a : Bs) : same k a a = true := (same_iff k a a).2 (Or.inl rfl)
theorem same_far {k : Nat} (a b : Bs) (h : 5 < k) : same k a b = (a == b) := by
  have : rowsOf k a = [] := by
    unfold rowsOf
    rw [List.filter_eq_nil_iff]
    intro r hr
    have := tbl_k r hr
    unfold isR isK
    simp only [Bool.and_eq_true, Bool.or_eq_true, beq_iff_eq]
    omega
  unfold same longs
  rw [this]
  simp [ded]
theorem isK_own (r : Rd) : isK r.k r = true := by unfold isK; simp
theorem isK_any (r : Rd) : isK 0 r = true := rfl
theorem isR_lg {k : Nat} {r : Rd} (h : isK k r = true) : isR k r.lg r = true := by unfold isR; rw [h]; simp
theorem isR_sh {k : Nat} {r : Rd} (h : isK k r = true) : isR k r.sh r = true := by unfold isR; rw [h]; simp
/-- What holds of each row. -/
theorem row_has {k : Nat} {r : Rd} (hr : r ∈ tbl) (h : isK k r = true) : (longs k r.sh).contains r.lg = true ∧ (longs k r.lg).contains r.lg = true ∧ same k r.lg r.sh = true ∧ same k r.sh r.lg = true :=
  ⟨contains_of (longs_mem hr (isR_sh h)), contains_of (longs_mem hr (isR_lg h)), same_of (longs_mem hr (isR_lg h)) (longs_mem hr (isR_sh h)), same_of (longs_mem hr (isR_sh h)) (longs_mem hr (isR_lg h))⟩
theorem row_kinds : ∀ r ∈ tbl, ((((kinds r.lg : Nat) : Int) / 2 ^ min r.k 8).tmod 2 != 1) = false ∧ ((((kinds r.sh : Nat) : Int) / 2 ^ min r.k 8).tmod 2 != 1) = false := by decide +kernel
theorem row_right : ∀ r ∈ tbl, fold r.lg = r.lg ∧ fold r.sh = r.sh ∧ r.lg.length ≤ 100 ∧ r.sh.length ≤ 100 := by decide +kernel
theorem short_none {k : Nat} {a : Bs} (h : (short k a).2 = false) : (short k a).1 = [] := by
  unfold short at h ⊢
  cases hf : tbl.filter (isL k a) with
  | nil => rfl
  | cons r l => rw [hf] at h; exact absurd h (by simp [shortR])
theorem short_some {k : Nat} {a : Bs} (h : (short k a).2 = true) : (longs k (short k a).1).contains a = true ∧ same k (short k a).1 a = true := by
  unfold short at h ⊢
  cases hf : tbl.filter (isL k a) with
  | nil => rw [hf] at h; exact absurd h (by simp [shortR])
  | cons r l =>
    have hm : r ∈ tbl.filter (isL k a) := by rw [hf]; simp
    obtain ⟨hr, hl⟩ := List.mem_filter.1 hm
    unfold isL at hl
    rw [Bool.and_eq_true, beq_iff_eq] at hl
    obtain ⟨hk, rfl⟩ := hl
    have := row_has hr hk
    exact ⟨this.1, this.2.2.2⟩
end Fo
set_option maxRecDepth 100000 in
set_option maxHeartbeats 1600000 in
theorem has_any (u : Value) (l : List Fo.Bs) (x : Fo.Bs) (w : World) (h : Tx w u l) (hl : l.length ≤ 1000000) : Calls Try.prog 21 #[u, .string ⟨x.toArray⟩] w fun e w' => e = .returned (.bool (l.contains x)) ∧ Below w.heap.size w w' := by
  have HR := Lib.hid h
  obtain ⟨a, c, rfl, -⟩ := h
  obtain ⟨n, hn⟩ : ∃ n, n = l.length := ⟨_, rfl⟩
  rw [← hn] at hl HR ⊢
  have HN := Lib.hid hn
  obtain ⟨q, hq⟩ : ∃ q, q = l.contains x := ⟨_, rfl⟩
  rw [← hq]
  have HQ := Lib.hid hq
  clear hn hq
  go_enter Try.func21, Try.ntmps21
  go_wp2
  go_loopw [5] (fun i wr => ∃ k : Nat, k ≤ n ∧ i = .int .i64 k ∧ Hid ((l.take k).contains x = false) ∧ Hid (Below w.heap.size w wr)) (fun i _ => n - (intOf i).toNat)
  case atStart => exact ⟨0, Nat.zero_le _, rfl, rfl, Below.refl _ _⟩
  case round =>
    obtain ⟨k, hk, rfl, AN, B⟩ := hrel
    by_cases hlt : k < n
    · have k1 : k < l.length := by rw [← HN.out]; exact hlt
      obtain ⟨b1, o1, rfl, c1⟩ := Tx.at (HR.out.below B.out) k1
      obtain ⟨y, hy⟩ : ∃ y, y = l[k] := ⟨_, rfl⟩
      rw [← hy] at c1
      by_cases hxy : y = x
      · have E : Hid (q = true) := by
          show _ = _
          rw [HQ.out]
          exact Fo.contains_of (by rw [← hxy, hy]; exact List.getElem_mem k1)
        subst hxy
        clear hy
        go_wp2
        go_ret
        rw [E.out]
        exact ⟨rfl, B.out⟩
      · have AN2 : Hid ((l.take (k + 1)).contains x = false) := by
          have an := AN.out
          show _ = _
          rw [List.take_succ_eq_append_getElem k1, ← hy]
          simp only [List.contains_eq_mem, decide_eq_false_iff_not, List.mem_append, List.mem_singleton] at an ⊢
          rintro (h | h)
          · exact an h
          · exact hxy h.symm
        have nb : (y == x) = false := beq_eq_false_iff_ne.2 hxy
        clear hy hxy
        go_wp2
        go_roundw
        case rel => exact ⟨k + 1, by omega, by go_num, AN2, B.out⟩
        case measure => simp [intOf]; omega
    · have E : Hid (q = false) := by
        have an := AN.out
        rw [List.take_of_length_le (by rw [← HN.out]; omega)] at an
        show _ = _
        rw [HQ.out, an]
      go_wp2
      go_ret
      rw [E.out]
      exact ⟨rfl, B.out⟩
end Go.Proofs.Ytljfbdiiecohpaa
