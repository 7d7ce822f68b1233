/- Contracts of the reference's texts and readings. -/
import Derived.Test.YthdmgnlemmpjkaaDoorMr
namespace Go.Proofs.YthdmgnlemmpjkaaDoor
open Go.RowKit

theorem conv1g (W : World) (g : Nat) (hg : g = W.heap.size) (x : Int) (c : UInt8) (hx : (c.toNat : Int) = x) :
    (convert 77 9 (.slice (some ⟨g, 0, none⟩) 1 1)).run Tryd.prog (W.alloc (.cells #[.int .u8 x] 5)) = .ok (.string ⟨#[c]⟩) (W.alloc (.cells #[.int .u8 x] 5)) := by
  subst hg
  exact run_convert_bytes_back (W.alloc (.cells #[.int .u8 x] 5)) 77 9 5 ⟨W.heap.size, 0, none⟩ 1 [c] Tryd.underlying77 Tryd.underlying5 Tryd.underlying9 (fun j hj => by
    have : j = 0 := by simp at hj; omega
    subst this
    subst hx
    exact cell_at _ _ _ 0 _ _ rfl rfl)
theorem conv2g (W : World) (g : Nat) (hg : g = W.heap.size) (x y : Int) (c d : UInt8) (hx : (c.toNat : Int) = x) (hy : (d.toNat : Int) = y) :
    (convert 77 9 (.slice (some ⟨g, 0, none⟩) 2 2)).run Tryd.prog (W.alloc (.cells #[.int .u8 x, .int .u8 y] 5)) = .ok (.string ⟨#[c, d]⟩) (W.alloc (.cells #[.int .u8 x, .int .u8 y] 5)) := by
  subst hg
  exact run_convert_bytes_back (W.alloc (.cells #[.int .u8 x, .int .u8 y] 5)) 77 9 5 ⟨W.heap.size, 0, none⟩ 2 [c, d] Tryd.underlying77 Tryd.underlying5 Tryd.underlying9 (fun j hj => by
    have : j = 0 ∨ j = 1 := by simp at hj; omega
    subst hx hy
    rcases this with rfl | rfl
    · exact cell_at _ _ _ 0 _ _ rfl rfl
    · exact cell_at _ _ _ 1 _ _ rfl rfl)
set_option maxHeartbeats 1600000 in
set_option maxRecDepth 100000 in
theorem rtext_pos (u : Nat) (w : World) (h : u ≤ 1000000000000000) :
    Calls Tryd.prog 30 #[.int .i64 ((u : Int))] w fun e w' => e = .returned (.tuple #[.string ⟨(Mtx.txt ((u : Int))).toArray⟩, .int .i64 0]) ∧ Below w.heap.size w w' := by
  have R := Lib.hid (fun w => rright_b ((u : Int)) true w ((Mny.rt_iff _).2 ⟨by omega, by omega⟩))
  have L1 := Mtx.dig_len (u / 100) 13 (by omega)
  have TX : Hid (Mtx.txt ((u : Int)) = [] ++ (Lib.decDigits (u / 100) ++ 46 :: [Mtx.c48 ((u : Int) / 10 % 10), Mtx.c48 ((u : Int) % 10)])) := by
    show _ = _
    have e : ((u : Int)).natAbs = u := by omega
    unfold Mtx.txt Mtx.pre Mtx.suf
    rw [if_neg (by omega), e, Mtx.dec_1 (u / 10 % 10) (by omega), Mtx.dec_1 (u % 10) (by omega)]
    have e1 : (((u / 10 % 10 : Nat)) : Int) = (u : Int) / 10 % 10 := by omega
    have e2 : (((u % 10 : Nat)) : Int) = (u : Int) % 10 := by omega
    rw [e1, e2]; simp
  have A0 : Hid (Below w.heap.size w w) := Below.refl _ _
  have K0 := conv2g w _ rfl (48 + (u : Int) / 10 % 10) (48 + (u : Int) % 10) _ _ (Mtx.c48_nat ((u : Int) / 10 % 10) (by omega) (by omega)) (Mtx.c48_nat ((u : Int) % 10) (by omega) (by omega))
  obtain ⟨D, hD⟩ : ∃ D, D = Lib.decDigits (u / 100) := ⟨_, rfl⟩
  obtain ⟨p, hp⟩ : ∃ p, p = Mtx.c48 ((u : Int) / 10 % 10) := ⟨_, rfl⟩
  obtain ⟨q, hq⟩ : ∃ p, p = Mtx.c48 ((u : Int) % 10) := ⟨_, rfl⟩
  rw [← hp, ← hq] at K0 TX
  rw [← hD] at TX L1
  have HD := Lib.hid hD
  rw [TX.out]
  clear hD hp hq TX
  have AP1 : (⟨#[46]⟩ : ByteArray) ++ ⟨#[p, q]⟩ = ⟨[46, p, q].toArray⟩ := Mtx.app [46] [p, q]
  go_enter Tryd.func30, Tryd.ntmps30
  go_wp2_with (go_at_call 25; refine (R.out _).mono ?_; rintro e w' ⟨rfl, rfl⟩)
  go_loopw [5, 6] (fun s n wr => ∃ (N : Nat) (l : List UInt8), n = .int .i64 N ∧ s = .string ⟨l.toArray⟩ ∧ D ++ [46, p, q] = Lib.decDigits N ++ l ∧ N ≤ 10000000000000 ∧ Below w.heap.size w wr) (fun _ n _ => (intOf n).toNat)
  case atStart => exact ⟨u / 100, [46, p, q], by simp, rfl, by rw [HD.out], by omega, by go_grown⟩
  case round =>
    obtain ⟨N, l, rfl, rfl, he, hN, hb⟩ := hrel
    have ll : l.length ≤ 17 := by
      have := congrArg List.length he
      rw [List.length_append, List.length_append] at this
      simp at this; omega
    have HE := Lib.hid he
    have HB := Lib.hid hb
    clear he hb
    by_cases c9 : 9 < N
    · have K1 := conv1g wr _ rfl (48 + (N : Int) % 10) _ (Mtx.c48_nat ((N : Int) % 10) (by omega) (by omega))
      have DS := Lib.hid (Mtx.dec_s N (by omega))
      obtain ⟨x, hx⟩ : ∃ p, p = Mtx.c48 ((N : Int) % 10) := ⟨_, rfl⟩
      rw [← hx] at K1 DS
      clear hx
      have AP : (⟨#[x]⟩ : ByteArray) ++ ⟨l.toArray⟩ = ⟨(x :: l).toArray⟩ := Mtx.app [x] l
      go_wp2
      go_roundw
      case rel => exact ⟨N / 10, x :: l, by simp, by first | rfl | rw [AP], by rw [HE.out, DS.out, List.append_assoc]; rfl, by omega, HB.out.alloc HB.out.size _⟩
      case measure => simp [intOf]; omega
    · have K1 := conv1g wr _ rfl (48 + (N : Int)) _ (Mtx.c48_nat (N : Int) (by omega) (by omega))
      have DS := Lib.hid (Mtx.dec_1 N (by omega))
      obtain ⟨x, hx⟩ : ∃ p, p = Mtx.c48 (N : Int) := ⟨_, rfl⟩
      rw [← hx] at K1 DS
      clear hx
      go_wp2
      go_ret2
      refine ⟨ret2s ?_, HB.out.alloc HB.out.size _⟩
      rw [HE.out, DS.out]
      apply ByteArray.ext; simp
set_option maxHeartbeats 1600000 in
set_option maxRecDepth 100000 in
theorem rtext_neg (u : Nat) (w : World) (h0 : 1 ≤ u) (h : u ≤ 1000000000000000) :
    Calls Tryd.prog 30 #[.int .i64 (-(u : Int))] w fun e w' => e = .returned (.tuple #[.string ⟨(Mtx.txt (-(u : Int))).toArray⟩, .int .i64 0]) ∧ Below w.heap.size w w' := by
  have R := Lib.hid (fun w => rright_b (-(u : Int)) true w ((Mny.rt_iff _).2 ⟨by omega, by omega⟩))
  have L1 := Mtx.dig_len (u / 100) 13 (by omega)
  have TX : Hid (Mtx.txt (-(u : Int)) = [45] ++ (Lib.decDigits (u / 100) ++ 46 :: [Mtx.c48 ((u : Int) / 10 % 10), Mtx.c48 ((u : Int) % 10)])) := by
    show _ = _
    have e : (-(u : Int)).natAbs = u := by omega
    unfold Mtx.txt Mtx.pre Mtx.suf
    rw [if_pos (by omega), e, Mtx.dec_1 (u / 10 % 10) (by omega), Mtx.dec_1 (u % 10) (by omega)]
    have e1 : (((u / 10 % 10 : Nat)) : Int) = (u : Int) / 10 % 10 := by omega
    have e2 : (((u % 10 : Nat)) : Int) = (u : Int) % 10 := by omega
    rw [e1, e2]; simp
  have A0 : Hid (Below w.heap.size w w) := Below.refl _ _
  have K0 := conv2g w _ rfl (48 + (u : Int) / 10 % 10) (48 + (u : Int) % 10) _ _ (Mtx.c48_nat ((u : Int) / 10 % 10) (by omega) (by omega)) (Mtx.c48_nat ((u : Int) % 10) (by omega) (by omega))
  obtain ⟨D, hD⟩ : ∃ D, D = Lib.decDigits (u / 100) := ⟨_, rfl⟩
  obtain ⟨p, hp⟩ : ∃ p, p = Mtx.c48 ((u : Int) / 10 % 10) := ⟨_, rfl⟩
  obtain ⟨q, hq⟩ : ∃ p, p = Mtx.c48 ((u : Int) % 10) := ⟨_, rfl⟩
  rw [← hp, ← hq] at K0 TX
  rw [← hD] at TX L1
  have HD := Lib.hid hD
  rw [TX.out]
  clear hD hp hq TX
  have AP1 : (⟨#[46]⟩ : ByteArray) ++ ⟨#[p, q]⟩ = ⟨[46, p, q].toArray⟩ := Mtx.app [46] [p, q]
  go_enter Tryd.func30, Tryd.ntmps30
  go_wp2_with (go_at_call 25; refine (R.out _).mono ?_; rintro e w' ⟨rfl, rfl⟩)
  go_loopw [5, 6] (fun s n wr => ∃ (N : Nat) (l : List UInt8), n = .int .i64 N ∧ s = .string ⟨l.toArray⟩ ∧ D ++ [46, p, q] = Lib.decDigits N ++ l ∧ N ≤ 10000000000000 ∧ Below w.heap.size w wr) (fun _ n _ => (intOf n).toNat)
  case atStart => exact ⟨u / 100, [46, p, q], by simp, rfl, by rw [HD.out], by omega, by go_grown⟩
  case round =>
    obtain ⟨N, l, rfl, rfl, he, hN, hb⟩ := hrel
    have ll : l.length ≤ 17 := by
      have := congrArg List.length he
      rw [List.length_append, List.length_append] at this
      simp at this; omega
    have HE := Lib.hid he
    have HB := Lib.hid hb
    clear he hb
    by_cases c9 : 9 < N
    · have K1 := conv1g wr _ rfl (48 + (N : Int) % 10) _ (Mtx.c48_nat ((N : Int) % 10) (by omega) (by omega))
      have DS := Lib.hid (Mtx.dec_s N (by omega))
      obtain ⟨x, hx⟩ : ∃ p, p = Mtx.c48 ((N : Int) % 10) := ⟨_, rfl⟩
      rw [← hx] at K1 DS
      clear hx
      have AP : (⟨#[x]⟩ : ByteArray) ++ ⟨l.toArray⟩ = ⟨(x :: l).toArray⟩ := Mtx.app [x] l
      go_wp2
      go_roundw
      case rel => exact ⟨N / 10, x :: l, by simp, by first | rfl | rw [AP], by rw [HE.out, DS.out, List.append_assoc]; rfl, by omega, HB.out.alloc HB.out.size _⟩
      case measure => simp [intOf]; omega
    · have K1 := conv1g wr _ rfl (48 + (N : Int)) _ (Mtx.c48_nat (N : Int) (by omega) (by omega))
      have DS := Lib.hid (Mtx.dec_1 N (by omega))
      obtain ⟨x, hx⟩ : ∃ p, p = Mtx.c48 (N : Int) := ⟨_, rfl⟩
      rw [← hx] at K1 DS
      clear hx
      go_wp2
      go_ret2
      refine ⟨ret2s ?_, HB.out.alloc HB.out.size _⟩
      rw [HE.out, DS.out]
      apply ByteArray.ext; simp
theorem rtext_ok (c : Int) (w : World) (h : Mny.rt c = true) :
    Calls Tryd.prog 30 #[.int .i64 c] w fun e w' => e = .returned (.tuple #[.string ⟨(Mtx.txt c).toArray⟩, .int .i64 0]) ∧ Below w.heap.size w w' := by
  have b := (Mny.rt_iff c).1 h
  by_cases s : 0 ≤ c
  · obtain ⟨u, rfl⟩ : ∃ u : Nat, c = u := ⟨c.toNat, by omega⟩
    exact rtext_pos u w (by omega)
  · obtain ⟨u, rfl⟩ : ∃ u : Nat, c = -(u : Int) := ⟨(-c).toNat, by omega⟩
    exact rtext_neg u w (by omega) (by omega)
set_option maxHeartbeats 800000 in
theorem rtext_no (c : Int) (w : World) (h : Mny.rt c = false) :
    Calls Tryd.prog 30 #[.int .i64 c] w fun e w' => e = .returned (.tuple #[.string ⟨#[]⟩, .int .i64 2]) ∧ w = w' := by
  have R := Lib.hid (fun w => rright_b c false w h)
  clear h
  go_enter Tryd.func30, Tryd.ntmps30
  go_wp2_with (go_at_call 25; refine (R.out _).mono ?_; rintro e w' ⟨rfl, rfl⟩)
  go_ret2
  exact ⟨rfl, rfl⟩
theorem take_snoc8 (s : ByteArray) (k : Nat) (h : k < s.size) : s.data.toList.take (k + 1) = s.data.toList.take k ++ [s[k]] := by
  rw [List.take_succ_eq_append_getElem (by simpa using h)]; rfl
theorem ends_2 {a b c d : Int} (h : a = b) (h' : c = d) : Ending.returned (.tuple #[.int .i64 a, .int .i64 c]) = .returned (.tuple #[.int .i64 b, .int .i64 d]) := by rw [h, h']
set_option maxHeartbeats 3200000 in
set_option maxRecDepth 100000 in
theorem rread_any (s : ByteArray) (w : World) (hs : s.size ≤ 18) (v r : Int)
    (hv : Mny.rt (Mtx.rn s.data.toList) = true ∧ Mtx.txt (Mtx.rn s.data.toList) = s.data.toList ∧ v = Mtx.rn s.data.toList ∧ r = 0 ∨ (Mny.rt (Mtx.rn s.data.toList) = false ∨ Mtx.txt (Mtx.rn s.data.toList) ≠ s.data.toList) ∧ v = 0 ∧ r = 20) :
    Calls Tryd.prog 31 #[.string s] w fun e w' => e = .returned (.tuple #[.int .i64 v, .int .i64 r]) ∧ Below w.heap.size w w' := by
  have HV := Lib.hid hv
  clear hv
  go_enter Tryd.func31, Tryd.ntmps31
  go_wp2
  go_loopw [4, 5, 6] (fun n m i wr => ∃ k : Nat, k ≤ s.size ∧ i = .int .i64 k ∧ n = .int .i64 (Mtx.fv 0 (s.data.toList.take k)) ∧ m = .bool (Mtx.fm (s.data.toList.take k)) ∧ w = wr) (fun _ _ i _ => s.size - (intOf i).toNat)
  case atStart => exact ⟨0, Nat.zero_le _, rfl, rfl, rfl, rfl⟩
  case round =>
    obtain ⟨k, hk, rfl, rfl, rfl, rfl⟩ := hrel
    by_cases hlt : k < s.size
    · have hb := Mtx.fv_bd k (s.data.toList.take k) (by rw [List.length_take]; simp; omega)
      have hp : (10 : Int) ^ k ≤ 10 ^ 17 := by
        have := Nat.pow_le_pow_right (n := 10) (by omega) (show k ≤ 17 by omega)
        have e : ∀ k : Nat, (10 : Int) ^ k = ((10 ^ k : Nat) : Int) := fun k => by simp [Int.natCast_pow]
        rw [e, e]; omega
      have hb1 := hb.1
      have hb2 : Mtx.fv 0 (s.data.toList.take k) ≤ 100000000000000000 := by have := hb.2; omega
      have hts := take_snoc8 s k hlt
      have HF : Hid (Mtx.fv 0 (s.data.toList.take (k + 1)) = if 48 ≤ (s[k].toNat : Int) ∧ (s[k].toNat : Int) ≤ 57 then 10 * Mtx.fv 0 (s.data.toList.take k) + ((s[k].toNat : Int) - 48) else Mtx.fv 0 (s.data.toList.take k)) := by
        show _ = _; rw [hts]; exact Mtx.fv_snoc _ _
      have HM : Hid (Mtx.fm (s.data.toList.take (k + 1)) = (Mtx.fm (s.data.toList.take k) || (s[k] == 45))) := by
        show _ = _; rw [hts]; exact Mtx.fm_snoc _ _
      clear hb hp hts
      by_cases c1 : (s[k].toNat : Int) = 45
      · have e45 : (s[k] == 45) = true := by
          rw [beq_iff_eq]; apply UInt8.toNat_inj.1; show s[k].toNat = 45; omega
        have F2 : Hid (Mtx.fv 0 (s.data.toList.take (k + 1)) = Mtx.fv 0 (s.data.toList.take k)) := by show _ = _; rw [HF.out, if_neg (by omega)]
        have M2 : Hid (Mtx.fm (s.data.toList.take (k + 1)) = true) := by show _ = _; rw [HM.out, e45]; simp
        clear e45
        go_wp2
        go_roundw
        case rel => exact ⟨k + 1, by omega, by go_num, by rw [F2.out], by rw [M2.out], by simp⟩
        case measure => simp [intOf]; omega
      · have e45 : (s[k] == 45) = false := by
          rw [beq_eq_false_iff_ne]; intro h; rw [h] at c1; exact c1 rfl
        have M2 : Hid (Mtx.fm (s.data.toList.take (k + 1)) = Mtx.fm (s.data.toList.take k)) := by show _ = _; rw [HM.out, e45]; simp
        clear e45
        by_cases c2 : 48 ≤ (s[k].toNat : Int)
        · by_cases c3 : (s[k].toNat : Int) ≤ 57
          · have F2 : Hid (Mtx.fv 0 (s.data.toList.take (k + 1)) = 10 * Mtx.fv 0 (s.data.toList.take k) + ((s[k].toNat : Int) - 48)) := by show _ = _; rw [HF.out, if_pos ⟨c2, c3⟩]
            go_wp2
            go_roundw
            case rel => exact ⟨k + 1, by omega, by go_num, by rw [F2.out], by rw [M2.out], by simp⟩
            case measure => simp [intOf]; omega
          · have F2 : Hid (Mtx.fv 0 (s.data.toList.take (k + 1)) = Mtx.fv 0 (s.data.toList.take k)) := by show _ = _; rw [HF.out, if_neg (by omega)]
            go_wp2
            go_roundw
            case rel => exact ⟨k + 1, by omega, by go_num, by rw [F2.out], by rw [M2.out], by simp⟩
            case measure => simp [intOf]; omega
        · have F2 : Hid (Mtx.fv 0 (s.data.toList.take (k + 1)) = Mtx.fv 0 (s.data.toList.take k)) := by show _ = _; rw [HF.out, if_neg (by omega)]
          go_wp2
          go_roundw
          case rel => exact ⟨k + 1, by omega, by go_num, by rw [F2.out], by rw [M2.out], by simp⟩
          case measure => simp [intOf]; omega
    · have ek : s.data.toList.take k = s.data.toList := List.take_of_length_le (by simp; omega)
      rw [ek]
      have hb := Mtx.fv_bd s.size s.data.toList (by simp)
      have hp : (10 : Int) ^ s.size ≤ 10 ^ 18 := by
        have := Nat.pow_le_pow_right (n := 10) (by omega) hs
        have e : ∀ k : Nat, (10 : Int) ^ k = ((10 ^ k : Nat) : Int) := fun k => by simp [Int.natCast_pow]
        rw [e, e]; omega
      have hb1 := hb.1
      have hb2 : Mtx.fv 0 s.data.toList ≤ 1000000000000000000 := by have := hb.2; omega
      have RN : Hid (Mtx.rn s.data.toList = if Mtx.fm s.data.toList = true then -Mtx.fv 0 s.data.toList else Mtx.fv 0 s.data.toList) := rfl
      clear hb hp ek
      obtain ⟨F, hF⟩ : ∃ F, F = Mtx.fv 0 s.data.toList := ⟨_, rfl⟩
      obtain ⟨M, hM⟩ : ∃ M, M = Mtx.fm s.data.toList := ⟨_, rfl⟩
      rw [← hF, ← hM] at RN
      rw [← hF] at hb1 hb2
      rw [← hF, ← hM]
      clear hF hM
      obtain ⟨c, hc⟩ : ∃ c, c = Mtx.rn s.data.toList := ⟨_, rfl⟩
      rw [← hc] at RN HV
      have HC := Lib.hid hc
      clear hc
      cases M
      · obtain rfl : c = F := by have := RN.out; simpa using this
        cases hr : Mny.rt c
        · have T := Lib.hid (fun w => rtext_no c w hr)
          go_wp2_with (go_at_call 30; refine (T.out _).mono ?_; rintro e w1 ⟨rfl, rfl⟩)
          go_ret2
          have := HV.out
          rcases this with ⟨h, _⟩ | ⟨_, rfl, rfl⟩
          · rw [hr] at h; cases h
          · exact ⟨rfl, Below.refl _ _⟩
        · have T := Lib.hid (fun w => rtext_ok c w hr)
          by_cases ht : Mtx.txt c = s.data.toList
          · go_wp2_with (go_at_call 30; refine (T.out _).mono ?_; rintro e w1 ⟨rfl, b1⟩)
            go_ret2
            have := HV.out
            rcases this with ⟨_, _, rfl, rfl⟩ | ⟨h | h, _, _⟩
            · exact ⟨rfl, b1⟩
            · rw [hr] at h; cases h
            · exact absurd ht h
          · have hne : (Mtx.txt c == s.toList) = false := by
              rw [beq_eq_false_iff_ne]; intro h; apply ht; rw [h, ByteArray.toList_eq]
            have HT := Lib.hid ht
            clear ht
            go_wp2_with (go_at_call 30; refine (T.out _).mono ?_; rintro e w1 ⟨rfl, b1⟩)
            go_ret2
            have := HV.out
            rcases this with ⟨_, h, _⟩ | ⟨_, rfl, rfl⟩
            · exact absurd h HT.out
            · exact ⟨rfl, b1⟩
      · obtain rfl : F = -c := by have := RN.out; simp at this; omega
        cases hr : Mny.rt c
        · have T := Lib.hid (fun w => rtext_no c w hr)
          go_wp2_with (go_at_call 30; refine (T.out _).mono ?_; rintro e w1 ⟨rfl, rfl⟩)
          go_ret2
          have := HV.out
          rcases this with ⟨h, _⟩ | ⟨_, rfl, rfl⟩
          · rw [hr] at h; cases h
          · exact ⟨rfl, Below.refl _ _⟩
        · have T := Lib.hid (fun w => rtext_ok c w hr)
          by_cases ht : Mtx.txt c = s.data.toList
          · go_wp2_with (go_at_call 30; refine (T.out _).mono ?_; rintro e w1 ⟨rfl, b1⟩)
            go_ret2
            have := HV.out
            rcases this with ⟨_, _, rfl, rfl⟩ | ⟨h | h, _, _⟩
            · exact ⟨rfl, b1⟩
            · rw [hr] at h; cases h
            · exact absurd ht h
          · have hne : (Mtx.txt c == s.toList) = false := by
              rw [beq_eq_false_iff_ne]; intro h; apply ht; rw [h, ByteArray.toList_eq]
            have HT := Lib.hid ht
            clear ht
            go_wp2_with (go_at_call 30; refine (T.out _).mono ?_; rintro e w1 ⟨rfl, b1⟩)
            go_ret2
            have := HV.out
            rcases this with ⟨_, h, _⟩ | ⟨_, rfl, rfl⟩
            · exact absurd h HT.out
            · exact ⟨rfl, b1⟩
theorem rread_yes (c : Int) (w : World) (h : Mny.rt c = true) :
    Calls Tryd.prog 31 #[.string ⟨(Mtx.txt c).toArray⟩] w fun e w' => e = .returned (.tuple #[.int .i64 c, .int .i64 0]) ∧ Below w.heap.size w w' := by
  have b := (Mny.rt_iff c).1 h
  have hl := Mtx.txt_len c b.1 b.2
  refine rread_any ⟨(Mtx.txt c).toArray⟩ w (by show (Mtx.txt c).toArray.size ≤ 18; simpa using hl) c 0 (Or.inl ?_)
  have e : (⟨(Mtx.txt c).toArray⟩ : ByteArray).data.toList = Mtx.txt c := by simp
  rw [e, Mtx.rn_txt]
  exact ⟨h, rfl, rfl, rfl⟩
set_option maxHeartbeats 800000 in
theorem rread_long (s : ByteArray) (w : World) (hl : 18 < s.size) :
    Calls Tryd.prog 31 #[.string s] w fun e w' => e = .returned (.tuple #[.int .i64 0, .int .i64 20]) ∧ w = w' := by
  go_enter Tryd.func31, Tryd.ntmps31
  go_wp2_with fail
  go_ret2
  exact ⟨rfl, rfl⟩
theorem rread_no (s : ByteArray) (w : World) (h : ∀ c, Mny.rt c = true → s.data.toList ≠ Mtx.txt c) :
    Calls Tryd.prog 31 #[.string s] w fun e w' => e = .returned (.tuple #[.int .i64 0, .int .i64 20]) ∧ Below w.heap.size w w' := by
  by_cases hs : 18 < s.size
  · refine (rread_long s w hs).mono ?_
    rintro e w' ⟨rfl, rfl⟩
    exact ⟨rfl, Below.refl _ _⟩
  · refine rread_any s w (by omega) 0 20 (Or.inr ⟨?_, rfl, rfl⟩)
    cases q : Mny.rt (Mtx.rn s.data.toList)
    · exact Or.inl rfl
    · exact Or.inr (fun e => h _ q e.symm)
end Go.Proofs.YthdmgnlemmpjkaaDoor
