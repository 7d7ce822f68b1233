/- Contracts of the reference's readings of texts. -/
import Derived.Test.YtcnnfgigpjbcpaaDoorR3
namespace Go.Proofs.YtcnnfgigpjbcpaaDoor
open Go.RowKit

set_option maxHeartbeats 800000 in
theorem rnumber_any (s : ByteArray) (w : World) (hs : s.size ≤ 16) : Calls Tryd.prog 51 #[.string s] w fun e w' => e = .returned (.int .i64 (Txt.num s.data.toList)) ∧ w = w' := by
  go_enter Tryd.func51, Tryd.ntmps51
  go_wp2
  go_loop [3, 4] (fun n i => ∃ k : Nat, k ≤ s.size ∧ i = .int .i64 k ∧ (s.data.toList.take k).all Txt.isD = true ∧ n = .int .i64 (Txt.val (s.data.toList.take k))) (fun _ i => s.size - (intOf i).toNat)
  case atStart => exact ⟨0, Nat.zero_le _, rfl, rfl, rfl⟩
  case round =>
    obtain ⟨k, hk, rfl, hd, rfl⟩ := hrel
    have hD := Lib.hid hd
    have hv := Txt.val_bd k (s.data.toList.take k) (by rw [List.length_take]; simp; omega) hd
    have hp : (10 : Int) ^ k ≤ 10 ^ 16 := Txt.p10 (by omega)
    have hv1 := hv.1
    have hv2 : Txt.val (s.data.toList.take k) ≤ 10000000000000000 := by have := hv.2; omega
    clear hd hv hp
    by_cases hlt : k < s.size
    · have hts := Txt.take_snoc s k hlt
      have HS : Hid (Txt.val (s.data.toList.take (k + 1)) = 10 * Txt.val (s.data.toList.take k) + ((s[k].toNat : Int) - 48)) := by rw [hts]; exact Txt.val_snoc _ _
      have HA : Hid ((48 ≤ (s[k].toNat : Int) ∧ (s[k].toNat : Int) ≤ 57) → (s.data.toList.take (k + 1)).all Txt.isD = true) := by
        intro h; rw [hts, List.all_append, hD.out]; simpa using (Txt.isD_iff _).2 h
      clear hts
      have hb : Hid (¬ (48 ≤ (s[k].toNat : Int) ∧ (s[k].toNat : Int) ≤ 57) → -1 = Txt.num s.data.toList) := Txt.num_bad s k hlt
      go_wp2
      · go_ret
        exact ⟨ret_int (hb.out (by omega)), rfl⟩
      · go_round
        case rel => exact ⟨k + 1, by omega, by go_num, HA.out (by omega), by rw [HS.out]⟩
        case measure => simp [intOf]; omega
      · go_ret
        exact ⟨ret_int (hb.out (by omega)), rfl⟩
    · have he : k = s.size := by omega
      have HF : Hid (Txt.val (s.data.toList.take k) = Txt.num s.data.toList) := by
        have := Txt.num_good _ hD.out
        rw [this, List.take_of_length_le (by simp; omega)]
        exact rfl
      clear he
      go_wp2
      go_ret
      exact ⟨ret_int HF.out, rfl⟩
namespace Txt
theorem c48_back (c : UInt8) (h : isD c = true) : c48 ((c.toNat : Int) - 48) = c := by
  have b := (isD_iff c).1 h
  apply UInt8.toNat_inj.1
  have := c48_nat ((c.toNat : Int) - 48) (by omega) (by omega)
  omega
theorem num_all {l : List UInt8} (h : 0 ≤ num l) : l.all isD = true := by
  unfold num at h
  by_cases c : l.all isD = true
  · exact c
  · rw [if_neg c] at h; omega
theorem d2_back (a b : UInt8) (h : 0 ≤ num [a, b]) : d2 (num [a, b]) = [a, b] := by
  have al := num_all h
  simp only [List.all_cons, List.all_nil, Bool.and_true, Bool.and_eq_true] at al
  obtain ⟨ha, hb⟩ := al
  have ba := (isD_iff a).1 ha
  have bb := (isD_iff b).1 hb
  have e : num [a, b] = 10 * ((a.toNat : Int) - 48) + ((b.toNat : Int) - 48) := by
    rw [← num_good _ (by simp [ha, hb])]
    show 10 * (10 * 0 + ((a.toNat : Int) - 48)) + ((b.toNat : Int) - 48) = _; omega
  unfold d2
  rw [e, show (10 * ((a.toNat : Int) - 48) + ((b.toNat : Int) - 48)) / 10 = (a.toNat : Int) - 48 by omega, show (10 * ((a.toNat : Int) - 48) + ((b.toNat : Int) - 48)) % 10 = (b.toNat : Int) - 48 by omega, c48_back a ha, c48_back b hb]
theorem d4_back (a b c d : UInt8) (h : 0 ≤ num [a, b, c, d]) : d4 (num [a, b, c, d]) = [a, b, c, d] := by
  have al := num_all h
  simp only [List.all_cons, List.all_nil, Bool.and_true, Bool.and_eq_true] at al
  obtain ⟨ha, hb, hc, hd⟩ := al
  have ba := (isD_iff a).1 ha
  have bb := (isD_iff b).1 hb
  have bc := (isD_iff c).1 hc
  have bd := (isD_iff d).1 hd
  have e : num [a, b, c, d] = 1000 * ((a.toNat : Int) - 48) + 100 * ((b.toNat : Int) - 48) + 10 * ((c.toNat : Int) - 48) + ((d.toNat : Int) - 48) := by
    rw [← num_good _ (by simp [ha, hb, hc, hd])]
    show 10 * (10 * (10 * (10 * 0 + ((a.toNat : Int) - 48)) + ((b.toNat : Int) - 48)) + ((c.toNat : Int) - 48)) + ((d.toNat : Int) - 48) = _; omega
  obtain ⟨n, hn⟩ : ∃ n, n = num [a, b, c, d] := ⟨_, rfl⟩
  rw [← hn] at e ⊢
  unfold d4
  rw [show n / 1000 = (a.toNat : Int) - 48 by omega, show n / 100 % 10 = (b.toNat : Int) - 48 by omega, show n / 10 % 10 = (c.toNat : Int) - 48 by omega, show n % 10 = (d.toNat : Int) - 48 by omega, c48_back a ha, c48_back b hb, c48_back c hc, c48_back d hd]
end Txt
theorem rd_back {l : List UInt8} {n : Int} (h : RdOk l n) : dtx (Txt.y4 l) (Txt.m2 l) (Txt.e2 l) = l := by
  obtain ⟨hl, h4, h7, D⟩ := h
  match l, hl with
  | [c0, c1, c2, c3, c4, c5, c6, c7, c8, c9], _ =>
    have e4 : c4 = 45 := h4
    have e7 : c7 = 45 := h7
    subst e4 e7
    have a : Txt.y4 [c0, c1, c2, c3, 45, c5, c6, 45, c8, c9] = Txt.num [c0, c1, c2, c3] := rfl
    have b : Txt.m2 [c0, c1, c2, c3, 45, c5, c6, 45, c8, c9] = Txt.num [c5, c6] := rfl
    have c : Txt.e2 [c0, c1, c2, c3, 45, c5, c6, 45, c8, c9] = Txt.num [c8, c9] := rfl
    have y1 := D.y1
    have m1 := D.m1
    have d1 := D.d1
    rw [a] at y1 ⊢
    rw [b] at m1 ⊢
    rw [c] at d1 ⊢
    unfold dtx
    rw [Txt.d4_back _ _ _ _ (by omega), Txt.d2_back _ _ (by omega), Txt.d2_back _ _ (by omega)]
    rfl
theorem rd_other {l : List UInt8} (hl : l.length = 10) (ho : Cal.ok (Txt.y4 l) (Txt.m2 l) (Txt.e2 l) = true) (h : ¬ ∃ n, RdOk l n) : ¬ dtx (Txt.y4 l) (Txt.m2 l) (Txt.e2 l) = l := by
  intro e
  refine h ⟨_, hl, ?_, ?_, (Cal.ok_iff _ _ _).1 ho⟩
  · rw [← e]; rfl
  · rw [← e]; rfl
theorem rnumber_1 (s : ByteArray) (w : World) (h : s.size = 10) : Calls Tryd.prog 51 #[.string (s.extract 0 4)] w fun e w' => e = .returned (.int .i64 (Txt.y4 s.data.toList)) ∧ w = w' := by
  rw [← sub1]; exact rnumber_any _ w (by simp; omega)
theorem rnumber_2 (s : ByteArray) (w : World) (h : s.size = 10) : Calls Tryd.prog 51 #[.string (s.extract 5 7)] w fun e w' => e = .returned (.int .i64 (Txt.m2 s.data.toList)) ∧ w = w' := by
  rw [← sub2]; exact rnumber_any _ w (by simp; omega)
theorem rnumber_3 (s : ByteArray) (w : World) (h : s.size = 10) : Calls Tryd.prog 51 #[.string (s.extract 8 10)] w fun e w' => e = .returned (.int .i64 (Txt.e2 s.data.toList)) ∧ w = w' := by
  rw [← sub3 s h]; exact rnumber_any _ w (by simp; omega)
set_option maxRecDepth 100000 in
set_option maxHeartbeats 1600000 in
theorem rread_yes {n : Int} (s : ByteArray) (w0 w : World) (h : RdOk s.data.toList n) (S : St w0 w) :
    Calls Tryd.prog 21 #[.string s] w fun e w' => e = .returned (.tuple #[.int .i64 n, .int .i64 0]) ∧ St w0 w' := by
  have hs : s.size = 10 := by simpa using h.1
  have HD := Lib.hid h.2.2.2
  have B := rd_back h
  have T : Hid (∀ w, St w0 w → Calls Tryd.prog 47 #[.int .i64 n] w fun e w' => e = .returned (.tuple #[.string s, .int .i64 0]) ∧ St w0 w') := by
    intro w S
    have t := rtext_ok w0 w h.2.2.2 S
    rw [B] at t
    exact t
  clear h B
  have HS := Lib.hid hs
  go_enter Tryd.func21, Tryd.ntmps21
  go_wp2_with fail
  go_quiet ((first | (go_at_call 51; with_reducible exact quiet_sym (rnumber_1 _ _ HS.out)) | (go_at_call 51; with_reducible exact quiet_sym (rnumber_2 _ _ HS.out)) | (go_at_call 51; with_reducible exact quiet_sym (rnumber_3 _ _ HS.out)) | (go_at_call 15; with_reducible exact quiet_sym (rday_yes _ HD.out))))
  go_wp2_with (go_at_call 47; refine (T.out _ (Qt.st ⟨_, rfl⟩ S)).mono ?_; rintro e w1 ⟨rfl, S1⟩)
  go_ret2
  exact ⟨rfl, S1⟩
theorem bne_toList {t s : ByteArray} (h : ¬ t = s) : (t.toList == s.toList) = false := by
  rw [beq_eq_false_iff_ne]
  intro e
  rw [ByteArray.toList_eq, ByteArray.toList_eq] at e
  exact h (ByteArray.ext (Array.ext' e))
set_option maxRecDepth 100000 in
set_option maxHeartbeats 1600000 in
theorem rread_no (s : ByteArray) (w0 w : World) (h : ¬ ∃ n, RdOk s.data.toList n) (S : St w0 w) :
    Calls Tryd.prog 21 #[.string s] w fun e w' => e = .returned (.tuple #[.int .i64 0, .int .i64 11]) ∧ St w0 w' := by
  by_cases hs : s.size = 10
  · have HS := Lib.hid hs
    cases ho : Cal.ok (Txt.y4 s.data.toList) (Txt.m2 s.data.toList) (Txt.e2 s.data.toList)
    · have HO := Lib.hid ho
      clear ho h
      go_enter Tryd.func21, Tryd.ntmps21
      go_wp2_with fail
      go_quiet ((first | (go_at_call 51; with_reducible exact quiet_sym (rnumber_1 _ _ HS.out)) | (go_at_call 51; with_reducible exact quiet_sym (rnumber_2 _ _ HS.out)) | (go_at_call 51; with_reducible exact quiet_sym (rnumber_3 _ _ HS.out)) | (go_at_call 15; with_reducible exact quiet_sym (rday_no _ _ _ _ HO.out))))
      go_wp2_with fail
      go_ret2
      exact ⟨rfl, Qt.st ⟨_, rfl⟩ S⟩
    · have D := (Cal.ok_iff _ _ _).1 ho
      have NE := rd_other (by simpa using hs) ho h
      have T := Lib.hid (fun w S => rtext_ok w0 w D S)
      obtain ⟨n, hn⟩ : ∃ n, n = Cal.num (Txt.y4 s.data.toList) (Txt.m2 s.data.toList) (Txt.e2 s.data.toList) := ⟨_, rfl⟩
      obtain ⟨t, ht⟩ : ∃ t : ByteArray, t = ⟨(dtx (Txt.y4 s.data.toList) (Txt.m2 s.data.toList) (Txt.e2 s.data.toList)).toArray⟩ := ⟨_, rfl⟩
      have ne := bne_toList (t := t) (s := s) (by rw [ht]; intro e; exact NE (congrArg (fun b : ByteArray => b.data.toList) e))
      rw [← hn] at D T
      rw [← ht] at T
      have HD := Lib.hid D
      clear ho h NE D hn ht
      go_enter Tryd.func21, Tryd.ntmps21
      go_wp2_with fail
      go_quiet ((first | (go_at_call 51; with_reducible exact quiet_sym (rnumber_1 _ _ HS.out)) | (go_at_call 51; with_reducible exact quiet_sym (rnumber_2 _ _ HS.out)) | (go_at_call 51; with_reducible exact quiet_sym (rnumber_3 _ _ HS.out)) | (go_at_call 15; with_reducible exact quiet_sym (rday_yes _ HD.out))))
      go_wp2_with (go_at_call 47; refine (T.out _ (Qt.st ⟨_, rfl⟩ S)).mono ?_; rintro e w1 ⟨rfl, S1⟩)
      go_ret2
      exact ⟨rfl, S1⟩
  · go_enter Tryd.func21, Tryd.ntmps21
    go_wp2_with fail
    go_ret2
    exact ⟨rfl, S⟩
theorem rnumber_4 (s : ByteArray) (w : World) (h : s.size = 16) : Calls Tryd.prog 51 #[.string (s.extract 11 13)] w fun e w' => e = .returned (.int .i64 (Txt.h2 s.data.toList)) ∧ w = w' := by
  rw [← sub4]; exact rnumber_any _ w (by simp; omega)
theorem rnumber_5 (s : ByteArray) (w : World) (h : s.size = 16) : Calls Tryd.prog 51 #[.string (s.extract 14 16)] w fun e w' => e = .returned (.int .i64 (Txt.i2 s.data.toList)) ∧ w = w' := by
  rw [← sub5 s h]; exact rnumber_any _ w (by simp; omega)
set_option maxRecDepth 100000 in
set_option maxHeartbeats 1600000 in
theorem rreadTime_yes {n : Int} (s : ByteArray) (w0 w : World) (h : RtOk s.data.toList n) (S : St w0 w) :
    Calls Tryd.prog 23 #[.string s] w fun e w' => e = .returned (.tuple #[.int .i64 n, .int .i64 0]) ∧ St w0 w' := by
  obtain ⟨h1, h2, h3, a1, a2, a3, a4, d, hd, rfl⟩ := h
  have hs : s.size = 16 := by simpa using h1
  have b1 : (s[10].toNat : Int) = 32 := rd_at rfl 10 32 (by omega) h2
  have b2 : (s[13].toNat : Int) = 58 := rd_at rfl 13 58 (by omega) h3
  have hb := hd.2.2.2.bd
  rw [← sub0] at hd
  have R := Lib.hid (fun W S => rread_yes (s.extract 0 10) w0 W hd S)
  have HS := Lib.hid hs
  clear h1 h2 h3 hd
  obtain ⟨hb1, hb2⟩ := hb
  go_enter Tryd.func23, Tryd.ntmps23
  go_wp2_with (go_at_call 21; refine (R.out _ S).mono ?_; rintro e w1 ⟨rfl, S1⟩)
  go_quiet ((first | (go_at_call 51; with_reducible exact quiet_sym (rnumber_4 _ _ HS.out)) | (go_at_call 51; with_reducible exact quiet_sym (rnumber_5 _ _ HS.out))))
  go_wp2
  go_ret2
  exact ⟨ret2i (by omega) rfl, Qt.st ⟨_, rfl⟩ S1⟩
set_option maxRecDepth 100000 in
set_option maxHeartbeats 3200000 in
theorem rreadTime_no (s : ByteArray) (w0 w : World) (h : ¬ ∃ n, RtOk s.data.toList n) (S : St w0 w) :
    Calls Tryd.prog 23 #[.string s] w fun e w' => e = .returned (.tuple #[.int .i64 0, .int .i64 11]) ∧ St w0 w' := by
  have H := Lib.hid h
  clear h
  by_cases hs : s.size = 16
  · have HS := Lib.hid hs
    have q1 := h2_bd s.data.toList
    have q2 := i2_bd s.data.toList (by simpa using hs)
    obtain ⟨q11, q12⟩ := q1
    obtain ⟨q21, q22⟩ := q2
    by_cases hr : ∃ d, RdOk (s.extract 0 10).data.toList d
    · obtain ⟨d, hd⟩ := hr
      have R := Lib.hid (fun W S => rread_yes (s.extract 0 10) w0 W hd S)
      have HD := Lib.hid hd
      have hb := hd.2.2.2.bd
      obtain ⟨hb1, hb2⟩ := hb
      clear hd
      by_cases c : Txt.h2 s.data.toList < 0 ∨ 23 < Txt.h2 s.data.toList ∨ Txt.i2 s.data.toList < 0 ∨ 59 < Txt.i2 s.data.toList
      · have c' : Txt.h2 s.data.toList < 0 ∨ (0 ≤ Txt.h2 s.data.toList ∧ 23 < Txt.h2 s.data.toList) ∨ (0 ≤ Txt.h2 s.data.toList ∧ Txt.h2 s.data.toList ≤ 23 ∧ Txt.i2 s.data.toList < 0) ∨ (0 ≤ Txt.h2 s.data.toList ∧ Txt.h2 s.data.toList ≤ 23 ∧ 0 ≤ Txt.i2 s.data.toList ∧ 59 < Txt.i2 s.data.toList) := by omega
        clear c
        rcases c' with c | ⟨c, c1⟩ | ⟨c, c1, c2⟩ | ⟨c, c1, c2, c3⟩
        all_goals
          go_enter Tryd.func23, Tryd.ntmps23
          go_wp2_with (go_at_call 21; refine (R.out _ S).mono ?_; rintro e w1 ⟨rfl, S1⟩)
          go_quiet ((first | (go_at_call 51; with_reducible exact quiet_sym (rnumber_4 _ _ HS.out)) | (go_at_call 51; with_reducible exact quiet_sym (rnumber_5 _ _ HS.out))))
          go_wp2
          go_ret2
          exact ⟨rfl, Qt.st ⟨_, rfl⟩ S1⟩
      · have c1 : 0 ≤ Txt.h2 s.data.toList ∧ Txt.h2 s.data.toList ≤ 23 ∧ 0 ≤ Txt.i2 s.data.toList ∧ Txt.i2 s.data.toList ≤ 59 := by omega
        obtain ⟨c1, c2, c3, c4⟩ := c1
        have C := Lib.hid c
        clear c
        by_cases e1 : (s[10].toNat : Int) = 32
        · have e2 : ((s[13].toNat : Int) != 58) = true := by
            cases q : ((s[13].toNat : Int) != 58)
            · exact absurd (rt_no HS.out e1 q HD.out H.out) C.out
            · rfl
          have e3 : ¬ (s[13].toNat : Int) = 58 := by simpa using e2
          go_enter Tryd.func23, Tryd.ntmps23
          go_wp2_with (go_at_call 21; refine (R.out _ S).mono ?_; rintro e w1 ⟨rfl, S1⟩)
          go_quiet ((first | (go_at_call 51; with_reducible exact quiet_sym (rnumber_4 _ _ HS.out)) | (go_at_call 51; with_reducible exact quiet_sym (rnumber_5 _ _ HS.out))))
          go_wp2
          go_ret2
          exact ⟨rfl, Qt.st ⟨_, rfl⟩ S1⟩
        · go_enter Tryd.func23, Tryd.ntmps23
          go_wp2_with (go_at_call 21; refine (R.out _ S).mono ?_; rintro e w1 ⟨rfl, S1⟩)
          go_quiet ((first | (go_at_call 51; with_reducible exact quiet_sym (rnumber_4 _ _ HS.out)) | (go_at_call 51; with_reducible exact quiet_sym (rnumber_5 _ _ HS.out))))
          go_wp2
          go_ret2
          exact ⟨rfl, Qt.st ⟨_, rfl⟩ S1⟩
    · have R := Lib.hid (fun W S => rread_no (s.extract 0 10) w0 W hr S)
      clear hr
      go_enter Tryd.func23, Tryd.ntmps23
      go_wp2_with (go_at_call 21; refine (R.out _ S).mono ?_; rintro e w1 ⟨rfl, S1⟩)
      go_quiet ((first | (go_at_call 51; with_reducible exact quiet_sym (rnumber_4 _ _ HS.out)) | (go_at_call 51; with_reducible exact quiet_sym (rnumber_5 _ _ HS.out))))
      go_wp2
      go_ret2
      exact ⟨rfl, Qt.st ⟨_, rfl⟩ S1⟩
  · go_enter Tryd.func23, Tryd.ntmps23
    go_wp2_with fail
    go_ret2
    exact ⟨rfl, S⟩
end Go.Proofs.YtcnnfgigpjbcpaaDoor
