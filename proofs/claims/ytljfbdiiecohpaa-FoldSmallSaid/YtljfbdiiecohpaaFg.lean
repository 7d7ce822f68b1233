/- The words of a text by runes are those by bytes. -/
import Derived.Test.YtljfbdiiecohpaaFb
import Derived.Lib.FieldsP
import Derived.Laws.RangeAny
namespace Go.Proofs.Ytljfbdiiecohpaa
namespace Fo
open Go.Lib

/-- A blank. -/
def isB (r : Nat) : Bool := decide (r = 32)
theorem extract_is (s : ByteArray) (a b : Nat) : s.extract a b = ⟨((s.data.toList.drop a).take (b - a)).toArray⟩ := by
  apply ByteArray.ext
  rw [ByteArray.data_extract]
  apply Array.ext'
  rw [Array.toList_extract, List.extract_eq_take_drop]
theorem get_is {s : ByteArray} {j : Nat} (h : j < s.size) : s.get! j = s[j] := by
  simp [ByteArray.get!, getElem!_pos, h]
  rfl
theorem high_bytes {s : ByteArray} {pos : Nat} (h : pos < s.size) (hc : 128 ≤ s[pos].toNat) : pos + (Utf8.decode s pos).2 ≤ s.size ∧ ∀ j (hj : j < s.size), pos ≤ j → j < pos + (Utf8.decode s pos).2 → 128 ≤ s[j].toNat := by
  rw [decode_at]
  have h1 : pos + (decodeN (s.size - pos) (s.get! pos).toNat (s.get! (pos + 1)).toNat (s.get! (pos + 2)).toNat (s.get! (pos + 3)).toNat).2 ≤ s.size := by
    have := decodeN_le_n' (s.size - pos) (s.get! pos).toNat (s.get! (pos + 1)).toNat (s.get! (pos + 2)).toNat (s.get! (pos + 3)).toNat (by omega)
    omega
  refine ⟨h1, fun j hj h2 h3 => ?_⟩
  have hj' := get_is hj
  have c : ∀ n b0 b1 b2 b3, (2 ≤ (decodeN n b0 b1 b2 b3).2 → b1 / 64 = 2) ∧ (3 ≤ (decodeN n b0 b1 b2 b3).2 → b2 / 64 = 2) ∧ (4 ≤ (decodeN n b0 b1 b2 b3).2 → b3 / 64 = 2) ∧ (decodeN n b0 b1 b2 b3).2 ≤ 4 := by
    intro n b0 b1 b2 b3
    unfold decodeN
    repeat' split
    all_goals (simp only; omega)
  obtain ⟨c1, c2, c3, c4⟩ := c (s.size - pos) (s.get! pos).toNat (s.get! (pos + 1)).toNat (s.get! (pos + 2)).toNat (s.get! (pos + 3)).toNat
  rw [← hj']
  rcases Nat.lt_or_ge j (pos + 1) with e | e
  · obtain rfl : j = pos := by omega
    rw [hj']; exact hc
  · rcases Nat.lt_or_ge j (pos + 2) with e | e
    · obtain rfl : j = pos + 1 := by omega
      have := c1 (by omega); omega
    · rcases Nat.lt_or_ge j (pos + 3) with e | e
      · obtain rfl : j = pos + 2 := by omega
        have := c2 (by omega); omega
      · obtain rfl : j = pos + 3 := by omega
        have := c3 (by omega); omega
theorem drop_split (L : Bs) (pos K : Nat) : L.drop pos = (L.drop pos).take K ++ L.drop (pos + K) := by
  rw [← List.drop_drop, List.take_append_drop]
theorem take_more (L : Bs) (a pos K : Nat) (h : a ≤ pos) : (L.drop a).take (pos + K - a) = (L.drop a).take (pos - a) ++ (L.drop pos).take K := by
  rw [show pos + K - a = (pos - a) + K by omega, List.take_add, List.drop_drop, show a + (pos - a) = pos by omega]
/-- The word that is begun. -/
def cur (L : Bs) (pos : Nat) : Option Nat → Bs
  | none => []
  | some a => (L.drop a).take (pos - a)
theorem spans_none {s : ByteArray} {f pos : Nat} {acc : List (Nat × Nat)} (h : pos < s.size) : spansFromP isB s (f + 1) pos none acc =
    if isB (Utf8.decode s pos).1 then spansFromP isB s f (pos + (Utf8.decode s pos).2) none acc else spansFromP isB s f (pos + (Utf8.decode s pos).2) (some pos) acc := by
  simp [spansFromP, h]
theorem spans_some {s : ByteArray} {f pos a : Nat} {acc : List (Nat × Nat)} (h : pos < s.size) : spansFromP isB s (f + 1) pos (some a) acc =
    if isB (Utf8.decode s pos).1 then spansFromP isB s f (pos + (Utf8.decode s pos).2) none (acc ++ [(a, pos)]) else spansFromP isB s f (pos + (Utf8.decode s pos).2) (some a) acc := by
  simp [spansFromP, h]
theorem spans_words (s : ByteArray) : ∀ (f pos : Nat) (st : Option Nat) (acc : List (Nat × Nat)), pos ≤ s.size → s.size ≤ pos + f → (∀ a, st = some a → a < pos) →
    (closeSpans s (spansFromP isB s f pos st acc)).map (fun x => s.extract x.1 x.2) = acc.map (fun x => s.extract x.1 x.2) ++ (wds (s.data.toList.drop pos) (cur s.data.toList pos st)).map (fun w => ⟨w.toArray⟩)
  | f, pos, st, acc, hp, hf, hst => by
    have hlen : s.data.toList.length = s.size := by rw [Array.length_toList]; rfl
    by_cases hlt : pos < s.size
    · obtain ⟨f, rfl⟩ : ∃ g, f = g + 1 := ⟨f - 1, by omega⟩
      by_cases h32 : s[pos] = 32
      · have hd := decode_ascii s pos hlt (by rw [h32]; decide)
        rw [h32] at hd
        have hd1 : (Utf8.decode s pos).1 = 32 := by rw [hd]; rfl
        have hd2 : (Utf8.decode s pos).2 = 1 := by rw [hd]
        rw [drop_at hlt, h32, wds_cons, if_pos rfl]
        cases st with
        | none =>
          rw [spans_none hlt, hd1, hd2, if_pos (by rfl), spans_words s f (pos + 1) none acc (by omega) (by omega) (fun a e => by cases e)]
          show _ = _ ++ List.map _ (if ([] : Bs) = [] then _ else _)
          rw [if_pos rfl]; rfl
        | some a =>
          have ha := hst a rfl
          have hne : cur s.data.toList pos (some a) ≠ [] := by
            intro e
            have := congrArg List.length e
            unfold cur at this
            rw [List.length_take, List.length_drop, hlen, List.length_nil] at this
            omega
          rw [spans_some hlt, hd1, hd2, if_pos (by rfl), spans_words s f (pos + 1) none _ (by omega) (by omega) (fun a e => by cases e), if_neg hne, List.map_append, List.map_cons, List.map_nil, List.append_assoc, extract_is]
          rfl
      · obtain ⟨K, hK⟩ : ∃ K, K = (Utf8.decode s pos).2 := ⟨_, rfl⟩
        have hw : pos + K ≤ s.size ∧ 1 ≤ K ∧ (Utf8.decode s pos).1 ≠ 32 ∧ ∀ c ∈ (s.data.toList.drop pos).take K, c ≠ 32 := by
          by_cases hc : s[pos].toNat < 128
          · have hd := decode_ascii s pos hlt hc
            have k1 : K = 1 := by rw [hK, hd]
            refine ⟨by omega, by omega, ?_, ?_⟩
            · rw [hd]
              intro e
              exact h32 (UInt8.toNat_inj.1 e)
            · intro c hm
              rw [k1, drop_at hlt, List.take_succ_cons, List.take_zero, List.mem_singleton] at hm
              subst hm; exact h32
          · obtain ⟨e1, e2⟩ := high_bytes hlt (by omega)
            obtain ⟨e3, e4⟩ := decode_high s pos hlt (by omega)
            rw [← hK] at e1 e2 e4
            refine ⟨e1, e4, by omega, ?_⟩
            intro c hm
            obtain ⟨i, hi, rfl⟩ := List.getElem_of_mem hm
            rw [List.length_take, List.length_drop, hlen] at hi
            rw [List.getElem_take, List.getElem_drop]
            have := e2 (pos + i) (by omega) (by omega) (by omega)
            intro e
            have e' : s[pos + i]'(by omega) = 32 := e
            rw [e'] at this
            revert this; decide
        obtain ⟨w1, w2, w3, w4⟩ := hw
        have w5 : ¬ isB (Utf8.decode s pos).1 = true := by unfold isB; rw [decide_eq_true_eq]; exact w3
        rw [drop_split _ pos K, wds_skip _ _ _ w4]
        cases st with
        | none =>
          rw [spans_none hlt, if_neg w5, ← hK, spans_words s f (pos + K) (some pos) acc w1 (by omega) (fun a e => by cases e; omega)]
          congr 4
          show (s.data.toList.drop pos).take (pos + K - pos) = [] ++ _
          rw [show pos + K - pos = K by omega]; rfl
        | some a =>
          have ha := hst a rfl
          rw [spans_some hlt, if_neg w5, ← hK, spans_words s f (pos + K) (some a) acc w1 (by omega) (fun b e => by cases e; omega)]
          congr 4
          exact take_more _ a pos K (by omega)
    · rw [spansFromP_end _ _ _ _ _ _ hlt, drop_end hlt, wds_nil]
      cases st with
      | none => simp [closeSpans, cur]
      | some a =>
        have ha := hst a rfl
        have hne : cur s.data.toList pos (some a) ≠ [] := by
          intro e
          have := congrArg List.length e
          unfold cur at this
          rw [List.length_take, List.length_drop, hlen, List.length_nil] at this
          omega
        rw [if_neg hne]
        obtain rfl : pos = s.size := by omega
        show (acc ++ [(a, s.size)]).map _ = _
        rw [List.map_append, List.map_cons, List.map_nil, extract_is]
        rfl
theorem fields_words (s : ByteArray) : goFieldsP isB s = (words s.data.toList).map (fun w => ⟨w.toArray⟩) := by
  have := spans_words s s.size 0 none [] (Nat.zero_le _) (by omega) (fun a e => by cases e)
  exact this
end Fo
end Go.Proofs.Ytljfbdiiecohpaa
