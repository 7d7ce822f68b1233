/- The reference's Kinds. -/
import Derived.Test.YtljfbdiiecohpaaGe
namespace Go.Proofs.Ytljfbdiiecohpaa
open Go.RowKit Go.Lib

namespace Fo
/-- The powers of the kinds up to m that have a word. -/
def ks (x : Bs) : Nat → Nat
  | 0 => 0
  | m + 1 => ks x m + if tbl.any (isR (m + 1) x) then 2 ^ (m + 1) else 0
theorem ks_lt (x : Bs) : ∀ m, ks x m < 2 ^ (m + 1)
  | 0 => by show 0 < 2; omega
  | m + 1 => by
    have := ks_lt x m
    have e : 2 ^ (m + 1 + 1) = 2 ^ (m + 1) + 2 ^ (m + 1) := by rw [Nat.pow_succ (2) (m + 1)]; omega
    unfold ks
    split <;> omega
def mk (b1 b2 b3 b4 b5 : Bool) : Nat := (if b1 then 2 else 0) + (if b2 then 4 else 0) + (if b3 then 8 else 0) + (if b4 then 16 else 0) + (if b5 then 32 else 0)
theorem mk_or : ∀ (b1 b2 b3 b4 b5 : Bool) (k : Fin 5), orK (mk b1 b2 b3 b4 b5) (k.val + 1) = mk (b1 || k.val + 1 == 1) (b2 || k.val + 1 == 2) (b3 || k.val + 1 == 3) (b4 || k.val + 1 == 4) (b5 || k.val + 1 == 5) := by decide +kernel
theorem mk_rows : ∀ (l : List Rd), (∀ r ∈ l, 1 ≤ r.k ∧ r.k ≤ 5) → ∀ b1 b2 b3 b4 b5 : Bool, kindsR (mk b1 b2 b3 b4 b5) l = mk (b1 || l.any fun r => r.k == 1) (b2 || l.any fun r => r.k == 2) (b3 || l.any fun r => r.k == 3) (b4 || l.any fun r => r.k == 4) (b5 || l.any fun r => r.k == 5)
  | [], _, b1, b2, b3, b4, b5 => by simp [kindsR]
  | r :: l, h, b1, b2, b3, b4, b5 => by
    have hr := h r (by simp)
    have e : kindsR (mk b1 b2 b3 b4 b5) (r :: l) = kindsR (orK (mk b1 b2 b3 b4 b5) r.k) l := rfl
    have m := mk_or b1 b2 b3 b4 b5 ⟨r.k - 1, by omega⟩
    rw [show (⟨r.k - 1, by omega⟩ : Fin 5).val + 1 = r.k by show r.k - 1 + 1 = r.k; omega] at m
    rw [e, m, mk_rows l fun x hx => h x (by simp [hx])]
    simp only [List.any_cons, Bool.or_assoc]
theorem any_kind (x : Bs) (j : Nat) (hj : 1 ≤ j) : ((rowsOf 0 x).any fun r => r.k == j) = tbl.any (isR j x) := by
  unfold rowsOf
  rw [List.any_filter]
  congr 1
  funext r
  unfold isR isK
  have : (j == 0) = false := beq_eq_false_iff_ne.2 (by omega)
  rw [this]
  cases (r.k == j) <;> simp
theorem kinds_ks (x : Bs) : kinds x = ks x 5 := by
  have h := mk_rows (rowsOf 0 x) (rowsOf_k) false false false false false
  rw [any_kind x 1 (by omega), any_kind x 2 (by omega), any_kind x 3 (by omega), any_kind x 4 (by omega), any_kind x 5 (by omega)] at h
  have e : kinds x = kindsR (mk false false false false false) (rowsOf 0 x) := rfl
  have k5 : ks x 5 = 0 + (if tbl.any (isR 1 x) = true then 2 else 0) + (if tbl.any (isR 2 x) = true then 4 else 0) + (if tbl.any (isR 3 x) = true then 8 else 0) + (if tbl.any (isR 4 x) = true then 16 else 0) + (if tbl.any (isR 5 x) = true then 32 else 0) := rfl
  rw [e, h, k5, Nat.zero_add]
  unfold mk
  simp only [Bool.false_or]
end Fo
set_option maxRecDepth 100000 in
set_option maxHeartbeats 6400000 in
theorem rkinds_any (x : Fo.Bs) (w : World) : Calls Try.prog 31 #[.string ⟨x.toArray⟩] w fun e w' => e = .returned (.int .u8 (Fo.kinds x)) ∧ Below w.heap.size w w' := by
  have RT := Lib.hid (rtable_any w)
  go_enter Try.func31, Try.ntmps31
  go_wp2_with (go_at_call 28; refine RT.out.mono ?_)
  rintro e w1 ⟨v, rfl, hv, b1⟩
  have HR := Lib.hid hv
  have HB := Lib.hid b1
  obtain ⟨l, hl⟩ : ∃ l, l = Fo.tbl := ⟨_, rfl⟩
  have HL := Lib.hid hl
  have ll : l.length ≤ 40 := by rw [hl, Fo.tbl_len]; omega
  rw [← hl] at HR hv
  obtain ⟨a, c, rfl, -⟩ := hv
  obtain ⟨n, hn⟩ : ∃ n, n = l.length := ⟨_, rfl⟩
  rw [← hn] at HR ll ⊢
  have HN := Lib.hid hn
  have KE := Lib.hid (Fo.kinds_ks x)
  clear hn hl b1 RT
  go_wp2
  go_loopw [4, 5, 6] (fun sv pv kv wr => ∃ m z p : Nat, m ≤ 5 ∧ kv = .int .u8 ((m : Int) + 1) ∧ sv = .int .u8 z ∧ pv = .int .u8 p ∧ z < 64 ∧ p ≤ 64 ∧ Hid (z = Fo.ks x m) ∧ Hid (p = 2 ^ (m + 1)) ∧ Hid (Below w1.heap.size w1 wr)) (fun _ _ i _ => 7 - (intOf i).toNat)
  case atStart => exact ⟨0, 0, 2, by omega, rfl, rfl, rfl, by omega, by omega, rfl, rfl, Below.refl _ _⟩
  case round =>
    obtain ⟨m, z, p, hm, rfl, rfl, rfl, hz, hp, Z, P, K⟩ := hrel
    obtain ⟨wo, rfl⟩ : ∃ wo, wo = wr := ⟨_, rfl⟩
    by_cases hlt : m < 5
    · have hk5 : (m : Int) + 1 ≤ 5 := by omega
      have OFA := Lib.hid (fun (r : Fo.Rd) w => by have h := rof_any r (m + 1) x w; rw [show (((m + 1 : Nat) : Nat) : Int) = (m : Int) + 1 by omega] at h; exact h)
      have AE : Hid (Fo.ks x (m + 1) = z + if l.any (Fo.isR (m + 1) x) then p else 0) := by show _ = _; rw [HL.out, Z.out, P.out]; rfl
      have PE : Hid (2 * p = 2 ^ (m + 1 + 1)) := by show _ = _; rw [P.out, Nat.pow_succ 2 (m + 1)]; omega
      have PL : p ≤ 32 := by rw [P.out]; exact Nat.pow_le_pow_right (by omega) (show m + 1 ≤ 5 by omega)
      have ZL : Hid (z < p) := by have := Fo.ks_lt x m; show _ < _; rw [Z.out, P.out]; exact this
      go_wp2
      go_loopw [7, 8] (fun hv iv wr => ∃ (i : Nat) (q : Bool), i ≤ n ∧ iv = .int .i64 i ∧ hv = .bool q ∧ Hid (q = (l.take i).any (Fo.isR (m + 1) x)) ∧ Hid (Below w1.heap.size w1 wr)) (fun _ i _ => n - (intOf i).toNat)
      case atStart => exact ⟨0, false, Nat.zero_le _, rfl, rfl, rfl, K⟩
      case round =>
        obtain ⟨i, q, hi, rfl, rfl, QE, K2⟩ := hrel
        by_cases hin : i < n
        · have hil : i < l.length := by rw [← HN.out]; exact hin
          obtain ⟨r, hr⟩ : ∃ r, r = l[i] := ⟨_, rfl⟩
          obtain ⟨a', c', e1, h1⟩ := HR.out.below K2.out
          obtain ⟨rfl, -, rfl⟩ : a' = a ∧ l.length = n ∧ c' = c := by cases e1; exact ⟨rfl, HN.out.symm, rfl⟩
          obtain ⟨b, off, rfl, h2⟩ := h1.resolve_left (by intro e; rw [e] at hil; simp at hil)
          obtain ⟨f0, f1, f2⟩ := h2 i hil
          rw [← hr] at f0 f1 f2
          have TE : (l.take (i + 1)).any (Fo.isR (m + 1) x) = (q || Fo.isR (m + 1) x r) := by
            rw [List.take_succ_eq_append_getElem hil, List.any_append, ← QE.out, ← hr]; simp
          have OF := Lib.hid (fun w => OFA.out r w)
          clear h1 h2 hr e1
          cases q with
          | true =>
            have Q2 : Hid (true = (l.take (i + 1)).any (Fo.isR (m + 1) x)) := by show _ = _; rw [TE]; rfl
            clear TE QE
            go_wp2
            go_roundw
            case rel => exact ⟨i + 1, true, by omega, by go_num, rfl, Q2, K2⟩
            case measure => simp [intOf]; omega
          | false =>
            obtain ⟨y, hy⟩ : ∃ y, y = Fo.isR (m + 1) x r := ⟨_, rfl⟩
            have Q2 : Hid (y = (l.take (i + 1)).any (Fo.isR (m + 1) x)) := by show _ = _; rw [TE, hy]; rfl
            rw [← hy] at OF
            clear TE QE hy
            go_wp2_with (go_at_call 51; (with_reducible refine (OF.out _).mono ?_); rintro e w5 ⟨rfl, b5⟩; have K3 := Lib.hid (K2.out.trans (b5.mono K2.out.size)); clear b5)
            go_roundw
            case rel => exact ⟨i + 1, y, by omega, by go_num, rfl, Q2, K3⟩
            case measure => simp [intOf]; omega
        · have qe : q = l.any (Fo.isR (m + 1) x) := by rw [QE.out, List.take_of_length_le (by rw [← HN.out]; omega)]
          have AE2 := AE.out
          rw [← qe] at AE2
          clear qe
          cases q with
          | true =>
            have Z2 : Hid (z + p = Fo.ks x (m + 1)) := by show _ = _; rw [AE2, if_pos rfl]
            have zl := ZL.out
            clear AE2
            go_wp2
            go_roundw
            case rel => exact ⟨m + 1, z + p, 2 * p, by omega, by go_num, by go_num, by go_num, by omega, by omega, Z2, PE, K2⟩
            case measure => simp [intOf]; omega
          | false =>
            have Z2 : Hid (z = Fo.ks x (m + 1)) := by show _ = _; rw [AE2, if_neg (by simp), Nat.add_zero]
            clear AE2
            go_wp2
            go_roundw
            case rel => exact ⟨m + 1, z, 2 * p, by omega, by go_num, rfl, by go_num, by omega, by omega, Z2, PE, K2⟩
            case measure => simp [intOf]; omega
    · have hk5 : ¬ (m : Int) + 1 ≤ 5 := by omega
      have EE : Hid (z = Fo.kinds x) := by show _ = _; rw [KE.out, Z.out, show m = 5 by omega]
      go_wp2
      go_ret
      rw [EE.out]
      exact ⟨rfl, HB.out.trans (K.out.mono HB.out.size)⟩
end Go.Proofs.Ytljfbdiiecohpaa
