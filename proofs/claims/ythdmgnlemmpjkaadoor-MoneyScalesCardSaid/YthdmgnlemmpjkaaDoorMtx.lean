/- Texts of amounts as lists of bytes. -/
import Derived.WalkKit
import Derived.Lib.Atoi
import Derived.Lib.ItoaNum
import Derived.Lib.IndexMore
namespace Go.Proofs.YthdmgnlemmpjkaaDoor
namespace Mtx
open Go.Lib
/-- A digit's sign. -/
def c48 (n : Int) : UInt8 := UInt8.ofNat (48 + n.toNat)
theorem c48_nat (n : Int) (h0 : 0 ≤ n) (h : n < 10) : ((c48 n).toNat : Int) = 48 + n := by
  unfold c48
  rw [UInt8.toNat_ofNat']
  have : (48 + n.toNat) % 2 ^ 8 = 48 + n.toNat := Nat.mod_eq_of_lt (by omega)
  rw [this]; omega
theorem dec_1 (u : Nat) (h : u < 10) : decDigits u = [c48 u] := by rw [decDigits, dif_pos h]; unfold c48; simp
theorem dec_s (u : Nat) (h : ¬ u < 10) : decDigits u = decDigits (u / 10) ++ [c48 ((u : Int) % 10)] := by
  rw [decDigits, dif_neg h]; unfold c48; congr 3
theorem dv_48 (n : Nat) (h : n < 10) : digitVal (c48 n) = some n := by
  have := c48_nat n (by omega) (by omega)
  unfold digitVal
  rw [if_pos (by omega)]; congr 1; omega
theorem decFrom_app : ∀ (l m : List UInt8) (acc : Nat), decFrom acc (l ++ m) = (decFrom acc l).bind fun a => decFrom a m
  | [], _, _ => rfl
  | b :: l, m, acc => by
    simp only [List.cons_append, decFrom]
    cases digitVal b with
    | none => rfl
    | some d => exact decFrom_app l m _
theorem decFrom_one (acc n : Nat) (h : n < 10) : decFrom acc (decDigits n) = some (acc * 10 + n) := by
  rw [dec_1 n h]; simp only [decFrom]; rw [dv_48 n h]
theorem decFrom_dig (u : Nat) : decFrom 0 (decDigits u) = some u := by
  induction u using Nat.strongRecOn with
  | ind u ih =>
    by_cases h : u < 10
    · rw [decFrom_one 0 u h]; simp
    · rw [dec_s u h, decFrom_app, ih (u / 10) (by omega)]
      show decFrom (u / 10) [c48 ((u : Int) % 10)] = _
      simp only [decFrom]
      have e : (u : Int) % 10 = ((u % 10 : Nat) : Int) := by omega
      rw [e, dv_48 (u % 10) (by omega)]
      simp only []; congr 1; omega
theorem dig_ne (u : Nat) : decDigits u ≠ [] := by
  by_cases h : u < 10
  · rw [dec_1 u h]; simp
  · rw [dec_s u h]; simp
theorem dig_byte (u : Nat) : ∀ b ∈ decDigits u, 48 ≤ b.toNat ∧ b.toNat ≤ 57 := by
  induction u using Nat.strongRecOn with
  | ind u ih =>
    intro b hb
    by_cases h : u < 10
    · rw [dec_1 u h] at hb
      obtain rfl := List.mem_singleton.1 hb
      have := c48_nat u (by omega) (by omega); omega
    · rw [dec_s u h] at hb
      rcases List.mem_append.1 hb with hb | hb
      · exact ih _ (by omega) b hb
      · obtain rfl := List.mem_singleton.1 hb
        have := c48_nat ((u : Int) % 10) (by omega) (by omega); omega
theorem dig_len (u k : Nat) (h : u < 10 ^ (k + 1)) : (decDigits u).length ≤ k + 1 := by
  induction k generalizing u with
  | zero => rw [dec_1 u (by simpa using h)]; simp
  | succ k ih =>
    by_cases c : u < 10
    · rw [dec_1 u c]; simp
    · rw [dec_s u c, List.length_append]
      have := ih (u / 10) (by rw [Nat.pow_succ] at h; omega)
      simp; omega
theorem dig_pos (u : Nat) : 1 ≤ (decDigits u).length := by
  cases h : decDigits u with
  | nil => exact absurd h (dig_ne u)
  | cons => simp
/-- The text of an amount: ahead of the point, and behind it. -/
def pre (c : Int) : List UInt8 := (if c < 0 then [45] else []) ++ decDigits (c.natAbs / 100)
def suf (c : Int) : List UInt8 := decDigits (c.natAbs / 10 % 10) ++ decDigits (c.natAbs % 10)
def txt (c : Int) : List UInt8 := pre c ++ 46 :: suf c
theorem app (l m : List UInt8) : (⟨l.toArray⟩ : ByteArray) ++ ⟨m.toArray⟩ = ⟨(l ++ m).toArray⟩ := by
  apply ByteArray.ext; simp
theorem txt_app (s : List UInt8) (u : Nat) : ((((⟨s.toArray⟩ : ByteArray) ++ ⟨(decDigits (u / 100)).toArray⟩) ++ ⟨#[46]⟩) ++ ⟨(decDigits (u / 10 % 10)).toArray⟩) ++ ⟨(decDigits (u % 10)).toArray⟩ = ⟨((s ++ decDigits (u / 100)) ++ 46 :: (decDigits (u / 10 % 10) ++ decDigits (u % 10))).toArray⟩ := by
  rw [show (⟨#[46]⟩ : ByteArray) = ⟨[(46 : UInt8)].toArray⟩ from rfl, app, app, app, app]
  simp [List.append_assoc]
theorem txt_app_text_pos (u : Nat) : ((((⟨#[]⟩ : ByteArray) ++ ⟨(decDigits (u / 100)).toArray⟩) ++ ⟨#[46]⟩) ++ ⟨(decDigits (u / 10 % 10)).toArray⟩) ++ ⟨(decDigits (u % 10)).toArray⟩ = ⟨(txt (u : Int)).toArray⟩ := by
  have := txt_app [] u
  unfold txt pre suf
  rw [if_neg (by omega)]
  have e : (u : Int).natAbs = u := by omega
  rw [e]; exact this
theorem txt_app_text_neg (u : Nat) (h : 1 ≤ u) : ((((⟨#[45]⟩ : ByteArray) ++ ⟨(decDigits (u / 100)).toArray⟩) ++ ⟨#[46]⟩) ++ ⟨(decDigits (u / 10 % 10)).toArray⟩) ++ ⟨(decDigits (u % 10)).toArray⟩ = ⟨(txt (-(u : Int))).toArray⟩ := by
  have := txt_app [45] u
  unfold txt pre suf
  rw [if_pos (by omega)]
  have e : (-(u : Int)).natAbs = u := by omega
  rw [e]; exact this
theorem suf_len (c : Int) : (suf c).length = 2 := by
  unfold suf; rw [dec_1 _ (by omega), dec_1 _ (by omega)]; rfl
theorem txt_len (c : Int) (h1 : -1000000000000000 ≤ c) (h2 : c ≤ 1000000000000000) : (txt c).length ≤ 18 := by
  have a := dig_len (c.natAbs / 100) 13 (by omega)
  have b := suf_len c
  unfold txt pre
  rw [List.length_append, List.length_append, List.length_cons]
  have : (if c < 0 then [(45 : UInt8)] else []).length ≤ 1 := by split <;> simp
  omega
theorem txt_ne (c : Int) : txt c ≠ [] := by unfold txt; simp
theorem index_at : ∀ (l m : List UInt8), (∀ b ∈ l, b ≠ 46) → index (l ++ 46 :: m) [46] = (l.length : Int)
  | [], m, _ => by
    show index (46 :: m) [46] = 0
    unfold index; rw [if_pos (by simp [List.isPrefixOf])]
  | b :: l, m, h => by
    have ih := index_at l m (fun x hx => h x (by simp [hx]))
    have hb := h b (by simp)
    show index (b :: (l ++ 46 :: m)) [46] = _
    unfold index
    rw [if_neg (by simp [List.isPrefixOf]; exact fun e => hb e.symm), ih]
    have : ((l.length : Int) == -1) = false := by rw [beq_eq_false_iff_ne]; omega
    rw [this]; simp
theorem cut_at (l m : List UInt8) (h : ∀ b ∈ l, b ≠ 46) : cut (l ++ 46 :: m) [46] = (l, m, true) := by
  unfold cut
  rw [index_at l m h, if_pos (by omega)]
  have e : (l.length : Int).toNat = l.length := by omega
  rw [e, List.take_left]
  simp
theorem u8_ne {a b : UInt8} (h : a.toNat ≠ b.toNat) : a ≠ b := fun e => h (by rw [e])
theorem pre_byte (c : Int) : ∀ b ∈ pre c, b ≠ 46 := by
  intro b hb
  unfold pre at hb
  rcases List.mem_append.1 hb with hb | hb
  · by_cases h : c < 0
    · rw [if_pos h] at hb; obtain rfl := List.mem_singleton.1 hb; decide
    · rw [if_neg h] at hb; cases hb
  · have := dig_byte _ b hb
    exact u8_ne (by show b.toNat ≠ 46; omega)
theorem cut_txt (c : Int) : cut (txt c) [46] = (pre c, suf c, true) := cut_at _ _ (pre_byte c)
theorem dec_all (u : Nat) : decFrom 0 (decDigits (u / 100) ++ (decDigits (u / 10 % 10) ++ decDigits (u % 10))) = some u := by
  rw [decFrom_app, decFrom_dig]
  show decFrom (u / 100) (_ ++ _) = _
  rw [decFrom_app, decFrom_one _ _ (by omega)]
  show decFrom _ _ = _
  rw [decFrom_one _ _ (by omega)]
  congr 1; omega
theorem atoi_txt (c : Int) : atoi (pre c ++ suf c) = some c := by
  unfold pre suf
  have D := dec_all c.natAbs
  by_cases h : c < 0
  · rw [if_pos h]
    show atoi (45 :: (decDigits _ ++ (decDigits _ ++ decDigits _))) = _
    simp only [atoi]
    rw [if_pos (by decide)]
    unfold decNat
    rw [if_neg (by simp [dig_ne]), D]
    simp; omega
  · rw [if_neg h, List.nil_append]
    have B := dig_byte (c.natAbs / 100)
    cases e : decDigits (c.natAbs / 100) with
    | nil => exact absurd e (dig_ne _)
    | cons b l =>
      rw [e] at B D
      have hb := B b (by simp)
      have n1 : (b == 45) = false := by rw [beq_eq_false_iff_ne]; exact u8_ne (by show b.toNat ≠ 45; omega)
      have n2 : (b == 43) = false := by rw [beq_eq_false_iff_ne]; exact u8_ne (by show b.toNat ≠ 43; omega)
      show atoi (b :: (l ++ (_ ++ _))) = _
      simp only [atoi]
      rw [n1, n2]
      unfold decNat
      rw [if_neg (by simp), if_neg (by simp), if_neg (by simp)]
      rw [show b :: (l ++ (decDigits (c.natAbs / 10 % 10) ++ decDigits (c.natAbs % 10))) = b :: l ++ (decDigits (c.natAbs / 10 % 10) ++ decDigits (c.natAbs % 10)) from rfl, D]
      simp; omega
theorem txt_inj {a b : Int} (h : txt a = txt b) : a = b := by
  have x := cut_txt a
  have y := cut_txt b
  rw [h, y] at x
  have p := atoi_txt a
  have q := atoi_txt b
  have e1 : pre b = pre a := congrArg Prod.fst x
  have e2 : suf b = suf a := congrArg (fun z => z.2.1) x
  rw [e1, e2, p] at q
  exact Option.some.inj q
theorem cut_len (l s : List UInt8) : ((cut l s).1 ++ (cut l s).2.1).length ≤ l.length := by
  unfold cut
  split
  · simp only [List.length_append, List.length_take, List.length_drop]; omega
  · simp
/-- The order of texts. -/
theorem bl_eq (a : UInt8) (s t : List UInt8) : Op.bytesLess (a :: s) (a :: t) = Op.bytesLess s t := by simp [Op.bytesLess]
theorem bl_c48 (a b : Int) (s t : List UInt8) (a0 : 0 ≤ a) (a1 : a < 10) (b0 : 0 ≤ b) (b1 : b < 10) : Op.bytesLess (c48 a :: s) (c48 b :: t) = (decide (a < b) || (decide (a = b) && Op.bytesLess s t)) := by
  have e1 : (c48 a < c48 b) ↔ a < b := by
    rw [UInt8.lt_iff_toNat_lt]; have x := c48_nat a a0 a1; have y := c48_nat b b0 b1; omega
  have e2 : (c48 a = c48 b) ↔ a = b := by
    constructor
    · intro h; have x := c48_nat a a0 a1; have y := c48_nat b b0 b1; rw [h] at x; omega
    · rintro rfl; rfl
  show (decide (c48 a < c48 b) || (c48 a == c48 b && Op.bytesLess s t)) = _
  congr 1
  · rw [decide_eq_decide]; exact e1
  · congr 1; rw [Bool.eq_iff_iff, beq_iff_eq, decide_eq_true_iff]; exact e2
theorem len_eq (u v : Nat) (h : (decDigits u).length = (decDigits v).length) : (u < 10 ↔ v < 10) ∧ (decDigits (u / 10)).length = (decDigits (v / 10)).length ∨ u < 10 ∧ v < 10 := by
  by_cases a : u < 10 <;> by_cases b : v < 10
  · exact Or.inr ⟨a, b⟩
  · rw [dec_1 u a, dec_s v b, List.length_append] at h; have := dig_pos (v / 10); simp only [List.length_singleton] at h; omega
  · rw [dec_s u a, dec_1 v b, List.length_append] at h; have := dig_pos (u / 10); simp only [List.length_singleton] at h; omega
  · rw [dec_s u a, dec_s v b, List.length_append, List.length_append] at h; simp at h; exact Or.inl ⟨by omega, h⟩
theorem bl_dig (u : Nat) : ∀ (v : Nat) (s t : List UInt8), (decDigits u).length = (decDigits v).length → Op.bytesLess (decDigits u ++ s) (decDigits v ++ t) = (decide (u < v) || (decide (u = v) && Op.bytesLess s t)) := by
  induction u using Nat.strongRecOn with
  | ind u ih =>
    intro v s t h
    by_cases a : u < 10
    · by_cases b : v < 10
      · rw [dec_1 u a, dec_1 v b]
        show Op.bytesLess (c48 u :: s) (c48 v :: t) = _
        rw [bl_c48 _ _ _ _ (by omega) (by omega) (by omega) (by omega)]
        have e1 : decide ((u : Int) < v) = decide (u < v) := by rw [decide_eq_decide]; omega
        have e2 : decide ((u : Int) = v) = decide (u = v) := by rw [decide_eq_decide]; omega
        rw [e1, e2]
      · rcases len_eq u v h with c | c <;> omega
    · by_cases b : v < 10
      · rcases len_eq u v h with c | c <;> omega
      · rcases len_eq u v h with c | c
        · rw [dec_s u a, dec_s v b, List.append_assoc, List.append_assoc, ih (u / 10) (by omega) (v / 10) _ _ c.2]
          show (_ || (_ && Op.bytesLess (c48 ((u : Int) % 10) :: s) (c48 ((v : Int) % 10) :: t))) = _
          rw [bl_c48 _ _ _ _ (by omega) (by omega) (by omega) (by omega)]
          cases Op.bytesLess s t
          · simp only [Bool.and_false, Bool.or_false]
            rw [Bool.eq_iff_iff]; simp only [Bool.or_eq_true, Bool.and_eq_true, decide_eq_true_eq]; omega
          · simp only [Bool.and_true]
            rw [Bool.eq_iff_iff]; simp only [Bool.or_eq_true, Bool.and_eq_true, decide_eq_true_eq]; omega
        · omega
theorem txt_less (a b : Int) (a0 : 0 ≤ a) (b0 : 0 ≤ b) (h : (txt a).length = (txt b).length) : Op.bytesLess (txt a) (txt b) = decide (a < b) := by
  unfold txt pre at h ⊢
  have na : ¬ a < 0 := by omega
  have nb : ¬ b < 0 := by omega
  rw [if_neg na, if_neg nb, List.nil_append, List.nil_append] at h ⊢
  rw [List.length_append, List.length_append, List.length_cons, List.length_cons, suf_len, suf_len] at h
  rw [bl_dig _ _ _ _ (by omega), bl_eq]
  unfold suf
  rw [dec_1 (a.natAbs / 10 % 10) (by omega), dec_1 (a.natAbs % 10) (by omega), dec_1 (b.natAbs / 10 % 10) (by omega), dec_1 (b.natAbs % 10) (by omega)]
  simp only [List.cons_append, List.nil_append]
  rw [bl_c48 _ _ _ _ (by omega) (by omega) (by omega) (by omega), bl_c48 _ _ _ _ (by omega) (by omega) (by omega) (by omega)]
  rw [Bool.eq_iff_iff]; simp only [Bool.or_eq_true, Bool.and_eq_true, decide_eq_true_eq, Op.bytesLess, Bool.false_eq_true, and_false, or_false]; omega
/-- What the reference reads: the number that the digits are, and whether there is a sign. -/
def fv (n : Int) : List UInt8 → Int
  | [] => n
  | b :: l => fv (if 48 ≤ (b.toNat : Int) ∧ (b.toNat : Int) ≤ 57 then 10 * n + ((b.toNat : Int) - 48) else n) l
def fm (l : List UInt8) : Bool := l.any fun b => b == 45
theorem fv_app : ∀ (l m : List UInt8) (n : Int), fv n (l ++ m) = fv (fv n l) m
  | [], _, _ => rfl
  | b :: l, m, n => by simp only [List.cons_append, fv]; exact fv_app l m _
theorem fv_snoc (l : List UInt8) (b : UInt8) : fv 0 (l ++ [b]) = if 48 ≤ (b.toNat : Int) ∧ (b.toNat : Int) ≤ 57 then 10 * fv 0 l + ((b.toNat : Int) - 48) else fv 0 l := by
  rw [fv_app]; rfl
theorem fm_snoc (l : List UInt8) (b : UInt8) : fm (l ++ [b]) = (fm l || (b == 45)) := by unfold fm; rw [List.any_append]; simp
theorem fv_bd : ∀ (k : Nat) (l : List UInt8), l.length = k → 0 ≤ fv 0 l ∧ fv 0 l < 10 ^ k := by
  intro k
  induction k with
  | zero => intro l h; rw [List.eq_nil_of_length_eq_zero h]; decide
  | succ k ih =>
    intro l h
    have hne : l ≠ [] := by rintro rfl; simp at h
    rw [← List.dropLast_concat_getLast hne, fv_snoc]
    have a := ih l.dropLast (by rw [List.length_dropLast]; omega)
    rw [Int.pow_succ]
    split <;> omega
theorem fv_dec : ∀ (l : List UInt8) (acc n : Nat), decFrom acc l = some n → fv acc l = n
  | [], acc, n, h => by simp only [decFrom] at h; rw [Option.some.inj h]; rfl
  | b :: l, acc, n, h => by
    simp only [decFrom] at h
    cases e : digitVal b with
    | none => rw [e] at h; cases h
    | some d =>
      rw [e] at h
      have q := digitVal_eq e
      have := fv_dec l _ _ h
      simp only [fv]
      rw [if_pos (by omega)]
      rw [← this]; congr 1; omega
theorem fv_txt (c : Int) : fv 0 (txt c) = (c.natAbs : Int) := by
  have e : fv 0 (txt c) = fv 0 (pre c ++ suf c) := by
    unfold txt
    rw [fv_app, fv_app]
    show fv (fv 0 (pre c)) (46 :: suf c) = _
    simp only [fv]
    rw [if_neg (by decide)]
  have D := fv_dec _ _ _ (dec_all c.natAbs)
  have f : pre c ++ suf c = (if c < 0 then [45] else []) ++ (decDigits (c.natAbs / 100) ++ (decDigits (c.natAbs / 10 % 10) ++ decDigits (c.natAbs % 10))) := by
    unfold pre suf; rw [List.append_assoc]
  rw [e, f, fv_app]
  have z : fv 0 (if c < 0 then [45] else []) = ((0 : Nat) : Int) := by
    split
    · show fv _ [] = _; simp only [fv]; rfl
    · rfl
  rw [z]; exact D
theorem fm_dig (l : List UInt8) (h : ∀ b ∈ l, 48 ≤ b.toNat ∧ b.toNat ≤ 57) : fm l = false := by
  unfold fm; rw [List.any_eq_false]
  intro b hb
  have := h b hb
  have : b ≠ 45 := u8_ne (by show b.toNat ≠ 45; omega)
  simpa using this
theorem fm_txt (c : Int) : fm (txt c) = decide (c < 0) := by
  have a := fm_dig _ (dig_byte (c.natAbs / 100))
  have b : fm (suf c) = false := fm_dig _ (fun x hx => by
    unfold suf at hx
    rcases List.mem_append.1 hx with hx | hx
    · exact dig_byte _ x hx
    · exact dig_byte _ x hx)
  unfold txt pre
  unfold fm at a b ⊢
  rw [List.any_append, List.any_append, a, List.any_cons, b]
  by_cases h : c < 0
  · rw [if_pos h]; simp [h]
  · rw [if_neg h]; simp [h]
/-- The number that the reference reads. -/
def rn (l : List UInt8) : Int := if fm l = true then -fv 0 l else fv 0 l
theorem rn_txt (c : Int) : rn (txt c) = c := by
  unfold rn; rw [fm_txt, fv_txt]
  by_cases h : c < 0
  · rw [if_pos (by simpa using h)]; omega
  · rw [if_neg (by simpa using h)]; omega
end Mtx
end Go.Proofs.YthdmgnlemmpjkaaDoor
