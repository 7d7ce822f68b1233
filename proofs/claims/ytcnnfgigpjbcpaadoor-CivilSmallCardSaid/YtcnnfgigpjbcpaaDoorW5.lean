/- Contracts of civil's readings of texts. -/
import Derived.Test.YtcnnfgigpjbcpaaDoorW4
namespace Go.Proofs.YtcnnfgigpjbcpaaDoor
open Go.RowKit

theorem Gl.drewN {w : World} (G : Gl w) (n : Nat) : Gl (w.drewN n) := G.below (below_drewN (Below.refl _ _) n)
theorem quiet_sym {P : Program} {f : FuncId} {args : Array Value} {w : World} {n : Nat} {v : Value}
    (h : Calls P f args (w.drewN n) fun e w' => e = .returned v ∧ w.drewN n = w') : Calls P f args (w.drewN n) fun e w'' => e = .returned v ∧ ∃ m, w'' = w.drewN m :=
  h.mono fun _ _ ⟨he, hm⟩ => ⟨he, n, hm.symm⟩
/-- The world is as it was, but for draws. -/
def Qt (w w' : World) : Prop := ∃ q, w' = w.drewN q
theorem Qt.gl {w w' : World} (h : Qt w w') (G : Gl w) : Gl w' := by obtain ⟨q, rfl⟩ := h; exact G.drewN q
theorem Qt.trans {a b c : World} (h : Qt a b) (h' : Qt b c) : Qt a c := by obtain ⟨q, rfl⟩ := h; obtain ⟨r, rfl⟩ := h'; exact ⟨q + r, World.drewN_drewN _ _ _⟩
theorem Qt.refl (w : World) : Qt w w := ⟨0, rfl⟩
theorem Qt.st {w0 w w' : World} (h : Qt w w') (S : St w0 w) : St w0 w' := by obtain ⟨q, rfl⟩ := h; exact S.step (below_drewN (Below.refl _ _) q)
namespace Txt
def y4 (l : List UInt8) : Int := num (l.take 4)
def m2 (l : List UInt8) : Int := num ((l.drop 5).take 2)
def e2 (l : List UInt8) : Int := num (l.drop 8)
end Txt
/-- A text that is one of a date: its lines, and the date. -/
def RdOk (l : List UInt8) (n : Int) : Prop := l.length = 10 ∧ l.getD 4 0 = 45 ∧ l.getD 7 0 = 45 ∧ Cal.IsDate n (Txt.y4 l) (Txt.m2 l) (Txt.e2 l)
theorem getD_at (s : ByteArray) (i : Nat) (h : i < s.size) : s.data.toList.getD i 0 = s[i] := by
  rw [List.getD_eq_getElem?_getD, List.getElem?_eq_getElem (by simpa using h)]; rfl
theorem u8_45 {c : UInt8} (h : (c.toNat : Int) = 45) : c = 45 := by
  apply UInt8.toNat_inj.1; show c.toNat = 45; omega
theorem rd_no {s : ByteArray} (hs : s.size = 10) (h4 : (s[4].toNat : Int) = 45) (h7 : ((s[7].toNat : Int) != 45) = false) (h : ¬ ∃ n, RdOk s.data.toList n) : Cal.ok (Txt.y4 s.data.toList) (Txt.m2 s.data.toList) (Txt.e2 s.data.toList) = false := by
  rw [← Bool.not_eq_true]
  intro ho
  exact h ⟨_, by simpa using hs, by rw [getD_at s 4 (by omega)]; exact u8_45 h4, by rw [getD_at s 7 (by omega)]; exact u8_45 (by simpa using h7), (Cal.ok_iff _ _ _).1 ho⟩
theorem sub1 (s : ByteArray) : Txt.num (s.extract 0 4).data.toList = Txt.y4 s.data.toList := by rw [Lib.extract_data]; rfl
theorem sub2 (s : ByteArray) : Txt.num (s.extract 5 7).data.toList = Txt.m2 s.data.toList := by rw [Lib.extract_data]; rfl
theorem sub3 (s : ByteArray) (h : s.size = 10) : Txt.num (s.extract 8 10).data.toList = Txt.e2 s.data.toList := by
  rw [Lib.extract_data, List.take_of_length_le (by simp; omega)]; rfl
theorem number_1 (s : ByteArray) (w : World) (h : s.size = 10) : Calls Tryd.prog 50 #[.string (s.extract 0 4)] w fun e w' => e = .returned (.int .i64 (Txt.y4 s.data.toList)) ∧ w = w' := by
  rw [← sub1]; exact number_any _ w (by simp; omega)
theorem number_2 (s : ByteArray) (w : World) (h : s.size = 10) : Calls Tryd.prog 50 #[.string (s.extract 5 7)] w fun e w' => e = .returned (.int .i64 (Txt.m2 s.data.toList)) ∧ w = w' := by
  rw [← sub2]; exact number_any _ w (by simp; omega)
theorem number_3 (s : ByteArray) (w : World) (h : s.size = 10) : Calls Tryd.prog 50 #[.string (s.extract 8 10)] w fun e w' => e = .returned (.int .i64 (Txt.e2 s.data.toList)) ∧ w = w' := by
  rw [← sub3 s h]; exact number_any _ w (by simp; omega)
set_option maxRecDepth 100000 in
set_option maxHeartbeats 800000 in
theorem read_no (s : ByteArray) (w : World) (h : ¬ ∃ n, RdOk s.data.toList n) (G : Gl w) :
    Calls Tryd.prog 20 #[.string s] w fun e w' => e = .returned (.tuple #[.int .i64 0, .int .i64 11]) ∧ Qt w w' := by
  have H := Lib.hid h
  clear h
  by_cases hs : s.size = 10
  · have HS := Lib.hid hs
    go_enter Tryd.func20, Tryd.ntmps20
    go_wp2_with fail
    · go_ret2
      exact ⟨rfl, 0, rfl⟩
    · have ho := Lib.hid (rd_no HS.out (by assumption) (by assumption) H.out)
      go_quiet ((first | (go_at_call 50; with_reducible exact quiet_sym (number_1 _ _ HS.out)) | (go_at_call 50; with_reducible exact quiet_sym (number_2 _ _ HS.out)) | (go_at_call 50; with_reducible exact quiet_sym (number_3 _ _ HS.out)) | (go_at_call 14; with_reducible exact quiet_sym (day_no _ _ _ _ ho.out (G.drewN _)))))
      go_wp2
      go_ret2
      exact ⟨rfl, _, rfl⟩
    · go_ret2
      exact ⟨rfl, 0, rfl⟩
  · go_enter Tryd.func20, Tryd.ntmps20
    go_wp2_with fail
    go_ret2
    exact ⟨rfl, 0, rfl⟩
theorem u8_n {c : UInt8} {k : Nat} (h : c.toNat = k) : (c.toNat : Int) = k := by omega
theorem rd_at {l : List UInt8} {s : ByteArray} (e : l = s.data.toList) (i : Nat) (c : UInt8) (h : i < s.size) (hl : l.getD i 0 = c) : (s[i].toNat : Int) = (c.toNat : Int) := by
  subst e; rw [getD_at s i h] at hl; rw [hl]
set_option maxRecDepth 100000 in
set_option maxHeartbeats 800000 in
theorem read_yes {n : Int} (s : ByteArray) (w : World) (h : RdOk s.data.toList n) (G : Gl w) :
    Calls Tryd.prog 20 #[.string s] w fun e w' => e = .returned (.tuple #[.int .i64 n, .int .i64 0]) ∧ Qt w w' := by
  have H := Lib.hid h
  have hs : s.size = 10 := by simpa using h.1
  have h4 : (s[4].toNat : Int) = 45 := rd_at rfl 4 45 (by omega) h.2.1
  have h7 : (s[7].toNat : Int) = 45 := rd_at rfl 7 45 (by omega) h.2.2.1
  have hd := h.2.2.2
  clear h
  have HS := Lib.hid hs
  have HD := Lib.hid hd
  clear hd
  go_enter Tryd.func20, Tryd.ntmps20
  go_wp2_with fail
  go_quiet ((first | (go_at_call 50; with_reducible exact quiet_sym (number_1 _ _ HS.out)) | (go_at_call 50; with_reducible exact quiet_sym (number_2 _ _ HS.out)) | (go_at_call 50; with_reducible exact quiet_sym (number_3 _ _ HS.out)) | (go_at_call 14; with_reducible exact quiet_sym (day_yes _ HD.out (G.drewN _)))))
  go_wp2
  go_ret2
  exact ⟨rfl, _, rfl⟩

namespace Txt
def h2 (l : List UInt8) : Int := num ((l.drop 11).take 2)
def i2 (l : List UInt8) : Int := num (l.drop 14)
end Txt
/-- A text that is one of a time. -/
def RtOk (l : List UInt8) (n : Int) : Prop := l.length = 16 ∧ l.getD 10 0 = 32 ∧ l.getD 13 0 = 58 ∧ 0 ≤ Txt.h2 l ∧ Txt.h2 l ≤ 23 ∧ 0 ≤ Txt.i2 l ∧ Txt.i2 l ≤ 59 ∧ ∃ d, RdOk (l.take 10) d ∧ n = d * 1440 + Txt.h2 l * 60 + Txt.i2 l
theorem sub0 (s : ByteArray) : (s.extract 0 10).data.toList = s.data.toList.take 10 := by rw [Lib.extract_data]; rfl
theorem sub4 (s : ByteArray) : Txt.num (s.extract 11 13).data.toList = Txt.h2 s.data.toList := by rw [Lib.extract_data]; rfl
theorem sub5 (s : ByteArray) (h : s.size = 16) : Txt.num (s.extract 14 16).data.toList = Txt.i2 s.data.toList := by
  rw [Lib.extract_data, List.take_of_length_le (by simp; omega)]; rfl
theorem number_4 (s : ByteArray) (w : World) (h : s.size = 16) : Calls Tryd.prog 50 #[.string (s.extract 11 13)] w fun e w' => e = .returned (.int .i64 (Txt.h2 s.data.toList)) ∧ w = w' := by
  rw [← sub4]; exact number_any _ w (by simp; omega)
theorem number_5 (s : ByteArray) (w : World) (h : s.size = 16) : Calls Tryd.prog 50 #[.string (s.extract 14 16)] w fun e w' => e = .returned (.int .i64 (Txt.i2 s.data.toList)) ∧ w = w' := by
  rw [← sub5 s h]; exact number_any _ w (by simp; omega)
theorem h2_bd (l : List UInt8) : -1 ≤ Txt.h2 l ∧ Txt.h2 l < 100 := ⟨Txt.num_ge _, Txt.num_lt _ 2 (by simp; omega)⟩
theorem i2_bd (l : List UInt8) (h : l.length = 16) : -1 ≤ Txt.i2 l ∧ Txt.i2 l < 100 := ⟨Txt.num_ge _, Txt.num_lt _ 2 (by simp; omega)⟩
set_option maxRecDepth 100000 in
set_option maxHeartbeats 1600000 in
theorem readTime_yes {n : Int} (s : ByteArray) (w : World) (h : RtOk s.data.toList n) (G : Gl w) :
    Calls Tryd.prog 22 #[.string s] w fun e w' => e = .returned (.tuple #[.int .i64 n, .int .i64 0]) ∧ Qt w w' := by
  obtain ⟨h1, h2, h3, a1, a2, a3, a4, d, hd, rfl⟩ := h
  have hs : s.size = 16 := by simpa using h1
  have b1 : (s[10].toNat : Int) = 32 := rd_at rfl 10 32 (by omega) h2
  have b2 : (s[13].toNat : Int) = 58 := rd_at rfl 13 58 (by omega) h3
  have hb := hd.2.2.2.bd
  rw [← sub0] at hd
  have R := Lib.hid (fun W G => read_yes (s.extract 0 10) W hd G)
  have HS := Lib.hid hs
  clear h1 h2 h3 hd
  obtain ⟨hb1, hb2⟩ := hb
  go_enter Tryd.func22, Tryd.ntmps22
  go_wp2_with (go_at_call 20; refine (R.out _ G).mono ?_; rintro e w1 ⟨rfl, hq⟩; have HQ := Lib.hid hq; clear hq)
  go_quiet ((first | (go_at_call 50; with_reducible exact quiet_sym (number_4 _ _ HS.out)) | (go_at_call 50; with_reducible exact quiet_sym (number_5 _ _ HS.out))))
  go_wp2
  go_ret2
  exact ⟨rfl, HQ.out.trans ⟨_, rfl⟩⟩
theorem rt_no {s : ByteArray} {d : Int} (hs : s.size = 16) (h4 : (s[10].toNat : Int) = 32) (h7 : ((s[13].toNat : Int) != 58) = false) (hd : RdOk (s.extract 0 10).data.toList d) (h : ¬ ∃ n, RtOk s.data.toList n) :
    Txt.h2 s.data.toList < 0 ∨ 23 < Txt.h2 s.data.toList ∨ Txt.i2 s.data.toList < 0 ∨ 59 < Txt.i2 s.data.toList := by
  rw [sub0] at hd
  have e4 : s.data.toList.getD 10 0 = 32 := by rw [getD_at s 10 (by omega)]; apply UInt8.toNat_inj.1; show s[10].toNat = 32; omega
  have e7 : s.data.toList.getD 13 0 = 58 := by rw [getD_at s 13 (by omega)]; apply UInt8.toNat_inj.1; have := of_decide_eq_true (show decide ((s[13].toNat : Int) = 58) = true by simpa using h7); show s[13].toNat = 58; omega
  by_cases c : Txt.h2 s.data.toList < 0 ∨ 23 < Txt.h2 s.data.toList ∨ Txt.i2 s.data.toList < 0 ∨ 59 < Txt.i2 s.data.toList
  · exact c
  · exact absurd ⟨_, by simpa using hs, e4, e7, by omega, by omega, by omega, by omega, d, hd, rfl⟩ h
set_option maxRecDepth 100000 in
set_option maxHeartbeats 3200000 in
theorem readTime_no (s : ByteArray) (w : World) (h : ¬ ∃ n, RtOk s.data.toList n) (G : Gl w) :
    Calls Tryd.prog 22 #[.string s] w fun e w' => e = .returned (.tuple #[.int .i64 0, .int .i64 11]) ∧ Qt w w' := by
  have H := Lib.hid h
  clear h
  by_cases hs : s.size = 16
  · have HS := Lib.hid hs
    have q1 := h2_bd s.data.toList
    have q2 := i2_bd s.data.toList (by simpa using hs)
    obtain ⟨q11, q12⟩ := q1
    obtain ⟨q21, q22⟩ := q2
    by_cases hr : ∃ d, RdOk (s.extract 0 10).data.toList d
    · obtain ⟨d, hd⟩ := hr
      have R := Lib.hid (fun W G => read_yes (s.extract 0 10) W hd G)
      have HD := Lib.hid hd
      have hb := hd.2.2.2.bd
      obtain ⟨hb1, hb2⟩ := hb
      clear hd
      go_enter Tryd.func22, Tryd.ntmps22
      go_wp2_with (go_at_call 20; refine (R.out _ G).mono ?_; rintro e w1 ⟨rfl, hq⟩; have HQ := Lib.hid hq; clear hq)
      · go_ret2
        exact ⟨rfl, Qt.refl _⟩
      · rcases rt_no HS.out (by assumption) (by assumption) HD.out H.out with c | c | c | c
        all_goals
          go_quiet ((first | (go_at_call 50; with_reducible exact quiet_sym (number_4 _ _ HS.out)) | (go_at_call 50; with_reducible exact quiet_sym (number_5 _ _ HS.out))))
          go_wp2
          all_goals
            go_ret2
            exact ⟨rfl, HQ.out.trans ⟨_, rfl⟩⟩
      · go_ret2
        exact ⟨rfl, Qt.refl _⟩
    · have R := Lib.hid (fun W G => read_no (s.extract 0 10) W hr G)
      clear hr
      go_enter Tryd.func22, Tryd.ntmps22
      go_wp2_with (go_at_call 20; refine (R.out _ G).mono ?_; rintro e w1 ⟨rfl, hq⟩; have HQ := Lib.hid hq; clear hq)
      · go_ret2
        exact ⟨rfl, Qt.refl _⟩
      · go_ret2
        exact ⟨rfl, HQ.out⟩
      · go_ret2
        exact ⟨rfl, Qt.refl _⟩
  · go_enter Tryd.func22, Tryd.ntmps22
    go_wp2_with fail
    go_ret2
    exact ⟨rfl, Qt.refl _⟩
end Go.Proofs.YtcnnfgigpjbcpaaDoor
