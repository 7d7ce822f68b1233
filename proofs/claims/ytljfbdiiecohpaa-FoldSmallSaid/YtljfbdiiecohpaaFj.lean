/- Contracts of joined, Join and Contains. -/
import Derived.Test.YtljfbdiiecohpaaCFTwice
import Derived.Test.YtljfbdiiecohpaaBy
namespace Go.Proofs.Ytljfbdiiecohpaa
open Go.RowKit Go.Lib

namespace Fo
theorem lib_join : ∀ ws : List Bs, Lib.join ws [32] = join ws
  | [] => rfl
  | [w] => Lib.join_one w [32]
  | w :: v :: r => by
    have ih := lib_join (v :: r)
    rw [Lib.join_cons] at ih ⊢
    rw [join, ← ih]
    simp [Lib.joinTail]
theorem index_no {l : Bs} (h : ∀ c ∈ l, c ≠ 32) : decide (0 ≤ Lib.indexByte l 32) = false := by
  rw [decide_eq_false_iff_not]
  intro h0
  obtain ⟨o, ho⟩ : ∃ o : Nat, Lib.indexByte l 32 = o := ⟨(Lib.indexByte l 32).toNat, by omega⟩
  have := (Lib.indexByte_some ho).1
  exact h 32 (List.mem_of_getElem? this) rfl
theorem joined_words {s t x : Bs} (h : x ∈ words (joined (fold s) (fold t))) : Wd x := by
  rw [words_joined] at h
  rcases List.mem_append.1 h with h | h
  · exact words_conv s x h
  · exact words_conv t x h
theorem joined_join_words (s t : Bs) : join (words (joined (fold s) (fold t))) = joined (fold s) (fold t) := by
  rw [words_joined]
  unfold fold
  rw [joined_join]
  · exact fun w hw => (words_conv s w hw).n
  · exact fun w hw => (words_conv t w hw).n
theorem join_count : ∀ (ws : List Bs), (∀ w ∈ ws, w ≠ []) → ws.length ≤ (join ws).length
  | [], _ => Nat.zero_le _
  | [w], h => by
    have : 0 < w.length := List.length_pos_iff.2 (h w (by simp))
    rw [join, List.length_singleton]; exact this
  | w :: v :: r, h => by
    have ih := join_count (v :: r) (fun x hx => h x (by simp at hx ⊢; exact Or.inr hx))
    rw [join, List.length_append]
    simp only [List.length_cons] at ih ⊢
    omega
theorem word_len : ∀ (ws : List Bs) (x : Bs), x ∈ ws → x.length ≤ (join ws).length
  | [], x, h => by simp at h
  | [w], x, h => by simp only [List.mem_singleton] at h; subst h; exact Nat.le_refl _
  | w :: v :: r, x, h => by
    rw [join, List.length_append, List.length_cons]
    rcases List.mem_cons.1 h with rfl | h
    · omega
    · have := word_len (v :: r) x h; omega
theorem joined_len (a b : Bs) : (joined a b).length ≤ a.length + b.length + 1 := by
  unfold joined
  split
  · simp
  · simp; omega
end Fo
theorem containsB_any (l : Fo.Bs) (w : World) (h : ∀ c ∈ l, c ≠ 32) : Calls Try.prog 18 #[.string ⟨l.toArray⟩, .string ⟨#[32]⟩] w fun e w' => e = .returned (.bool false) ∧ Below w.heap.size w w' := by
  refine (Try.strings_Contains_one ⟨l.toArray⟩ 32 w).mono ?_
  rintro e w' ⟨rfl, rfl⟩
  rw [Fo.index_no h]
  exact ⟨rfl, Below.refl _ _⟩
theorem joinw_any (w0 w : World) (v : Value) (ws : List Fo.Bs) (h : Otx w0 w v ws) (hl : ws.length ≤ 1000000) (hj : (Fo.join ws).length ≤ 1000000) : Calls Try.prog 19 #[v, .string ⟨#[32]⟩] w fun e w' => e = .returned (.string ⟨(Fo.join ws).toArray⟩) ∧ Below w.heap.size w w' := by
  have T := h.tx
  rcases h.own.2 with ⟨rfl, hn⟩ | ⟨g, cap, cur, rfl, _, hg, hcap, _⟩
  · have : ws = [] := List.eq_nil_of_length_eq_zero hn
    subst this
    refine (Try.strings_Join_none none 0 ⟨#[32]⟩ w).mono ?_
    rintro e w' ⟨rfl, rfl⟩
    exact ⟨rfl, Below.refl _ _⟩
  · have e : ((ws.map fun x => (⟨x.toArray⟩ : ByteArray)).map (·.data.toList)) = ws := by
      rw [List.map_map]
      exact List.map_id ws
    have J := Try.strings_Join g 0 cap (ws.map fun x => ⟨x.toArray⟩) ⟨#[32]⟩ w (by
        intro j x hx
        rw [List.getElem?_map] at hx
        obtain ⟨y, hy, rfl⟩ := Option.map_eq_some_iff.1 hx
        obtain ⟨hj, rfl⟩ := List.getElem?_eq_some_iff.1 hy
        obtain ⟨b, off, e1, c1⟩ := T.at hj
        cases e1
        exact c1) (Array.getElem?_eq_some_iff.1 hg).1 (by rw [List.length_map]; omega) (by rw [List.length_map]; exact hcap) (by
        rw [e, show (⟨#[32]⟩ : ByteArray).data.toList = [32] from rfl, Fo.lib_join]; omega)
    rw [e, show (⟨#[32]⟩ : ByteArray).data.toList = [32] from rfl, Fo.lib_join, List.length_map] at J
    exact J
theorem app_end (a : List UInt8) : (⟨a.toArray⟩ : ByteArray) ++ ⟨#[]⟩ = ⟨a.toArray⟩ := by
  have := app a []
  rw [List.append_nil] at this
  exact this
theorem app_mid (a b : List UInt8) (c : UInt8) : (⟨a.toArray⟩ : ByteArray) ++ ⟨#[c]⟩ ++ ⟨b.toArray⟩ = ⟨(a ++ c :: b).toArray⟩ := by
  have h1 := app a [c]
  have h2 := app (a ++ [c]) b
  rw [← h1, List.append_assoc] at h2
  exact h2
set_option maxRecDepth 100000 in
theorem joined_any (a b : Fo.Bs) (w : World) (ha : a.length ≤ 1000000) (hb : b.length ≤ 1000000) : Calls Try.prog 16 #[.string ⟨a.toArray⟩, .string ⟨b.toArray⟩] w fun e w' => e = .returned (.string ⟨(Fo.joined a b).toArray⟩) ∧ Below w.heap.size w w' := by
  by_cases h1 : a = []
  · have E : Hid (Fo.joined a b = b) := by show _ = _; rw [h1]; unfold Fo.joined; rw [if_pos (Or.inl rfl)]; rfl
    go_enter Try.func16, Try.ntmps16
    go_wp2
    go_ret
    rw [E.out]
    exact ⟨by rw [app_nil]; rfl, Below.refl _ _⟩
  · have i1 : a.isEmpty = false := by simpa using h1
    by_cases h2 : b = []
    · have i2 : b.isEmpty = true := by rw [h2]; rfl
      have E : Hid (Fo.joined a b = a) := by show _ = _; unfold Fo.joined; rw [if_pos (Or.inr h2), h2, List.append_nil]
      go_enter Try.func16, Try.ntmps16
      go_wp2
      go_ret
      rw [E.out]
      exact ⟨by rw [app_end]; rfl, Below.refl _ _⟩
    · have i2 : b.isEmpty = false := by simpa using h2
      have E : Hid (Fo.joined a b = a ++ 32 :: b) := by show _ = _; unfold Fo.joined; rw [if_neg (by rintro (h | h); exact h1 h; exact h2 h)]
      clear h2
      go_enter Try.func16, Try.ntmps16
      go_wp2
      go_ret
      rw [E.out]
      exact ⟨by rw [app_mid]; rfl, Below.refl _ _⟩
end Go.Proofs.Ytljfbdiiecohpaa
