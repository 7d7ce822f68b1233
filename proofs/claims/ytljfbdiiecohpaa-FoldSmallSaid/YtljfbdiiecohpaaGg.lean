/- The statement's own 'words' and 'same'. -/
import Derived.Test.YtljfbdiiecohpaaGf
namespace Go.Proofs.Ytljfbdiiecohpaa
open Go.RowKit Go.Lib

set_option maxRecDepth 100000 in
set_option maxHeartbeats 6400000 in
theorem words_true (k : Nat) (a b : Fo.Bs) (w : World) : Calls Try.prog 11 #[.int .u8 k, .string ⟨a.toArray⟩, .string ⟨b.toArray⟩] w fun e w' => e = .returned (.bool true) ∧ Below w.heap.size w w' := by
  have S1 := Lib.hid (fun w => short_any k a w)
  have S2 := Lib.hid (fun w => rshort_any k a w)
  have L1 := Lib.hid (fun w => longs_any k a w)
  have L2 := Lib.hid (fun w => rlongs_any k a w)
  have K1 := Lib.hid (fun w => kinds_any a w)
  have K2 := Lib.hid (fun w => rkinds_any a w)
  have E1 := Lib.hid (fun w => same_any k a b w)
  have E2 := Lib.hid (fun w => rsame_any k a b w)
  obtain ⟨x, hx⟩ : ∃ x, x = (Fo.short k a).1 := ⟨_, rfl⟩
  obtain ⟨y, hy⟩ : ∃ y, y = (Fo.short k a).2 := ⟨_, rfl⟩
  rw [← hx, ← hy] at S1 S2
  have ll := Fo.longs_len k a
  obtain ⟨L, hL⟩ : ∃ L, L = Fo.longs k a := ⟨_, rfl⟩
  rw [← hL] at L1 L2 ll
  obtain ⟨z, hz⟩ : ∃ z, z = Fo.kinds a := ⟨_, rfl⟩
  rw [← hz] at K1 K2
  obtain ⟨q, hq⟩ : ∃ q, q = Fo.same k a b := ⟨_, rfl⟩
  rw [← hq] at E1 E2
  clear hx hy hL hz hq
  have B := Lib.hid (Below.refl w.heap.size w)
  go_enter Try.func11, Try.ntmps11
  go_wp2_with (first
    | (go_at_call 24; with_reducible refine (S1.out _).mono ?_; rintro e w2 ⟨rfl, b2⟩; have B := Lib.hid (B.out.trans (b2.mono B.out.size)); clear b2)
    | (go_at_call 29; with_reducible refine (S2.out _).mono ?_; rintro e w2 ⟨rfl, b2⟩; have B := Lib.hid (B.out.trans (b2.mono B.out.size)); clear b2)
    | (go_at_call 22; with_reducible refine (L1.out _).mono ?_; rintro e w2 ⟨v, rfl, O⟩; have T := Lib.hid O.tx; have B := Lib.hid (B.out.trans (O.bl.mono B.out.size)); clear O)
    | (go_at_call 30; with_reducible refine (L2.out _).mono ?_; rintro e w3 ⟨u, rfl, O⟩; have T1 := Lib.hid (T.out.below O.bl); have T2 := Lib.hid O.tx; have B := Lib.hid (B.out.trans (O.bl.mono B.out.size)); clear O)
    | (go_at_call 26; refine (sameTexts_any _ _ L L _ T1.out T2.out (by omega) (by omega)).mono ?_; rintro e w2 ⟨rfl, b2⟩; have B := Lib.hid (B.out.trans (b2.mono B.out.size)); clear b2)
    | (go_at_call 23; with_reducible refine (K1.out _).mono ?_; rintro e w2 ⟨rfl, b2⟩; have B := Lib.hid (B.out.trans (b2.mono B.out.size)); clear b2)
    | (go_at_call 31; with_reducible refine (K2.out _).mono ?_; rintro e w2 ⟨rfl, b2⟩; have B := Lib.hid (B.out.trans (b2.mono B.out.size)); clear b2)
    | (go_at_call 20; with_reducible refine (E1.out _).mono ?_; rintro e w2 ⟨rfl, b2⟩; have B := Lib.hid (B.out.trans (b2.mono B.out.size)); clear b2)
    | (go_at_call 32; with_reducible refine (E2.out _).mono ?_; rintro e w2 ⟨rfl, b2⟩; have B := Lib.hid (B.out.trans (b2.mono B.out.size)); clear b2))
  go_ret
  exact ⟨by simp, B.out⟩
set_option maxRecDepth 100000 in
set_option maxHeartbeats 6400000 in
theorem sameTable_true (v : Value) (w : World) (h : Rw w v Fo.tbl) : Calls Try.prog 10 #[v] w fun e w' => e = .returned (.bool true) ∧ Below w.heap.size w w' := by
  have RT := Lib.hid (rtable_any w)
  have H0 := Lib.hid h
  obtain ⟨l, hl⟩ : ∃ l, l = Fo.tbl := ⟨_, rfl⟩
  rw [← hl] at H0 RT h
  have ll : l.length ≤ 40 := by rw [hl, Fo.tbl_len]; omega
  obtain ⟨a, c, rfl, -⟩ := h
  obtain ⟨n, hn⟩ : ∃ n, n = l.length := ⟨_, rfl⟩
  rw [← hn] at H0 ll ⊢
  have HN := Lib.hid hn
  clear hl hn
  go_enter Try.func10, Try.ntmps10
  go_wp2_with (go_at_call 28; (with_reducible refine RT.out.mono ?_); rintro e w1 ⟨u, rfl, hu, b1⟩; have H1 := Lib.hid (H0.out.below b1); have H2 := Lib.hid hu; have HB := Lib.hid b1; obtain ⟨a2, d, rfl, -⟩ := hu; rw [← HN.out] at H2 ⊢; clear b1)
  go_loopw [4] (fun i wr => ∃ k : Nat, k ≤ n ∧ i = .int .i64 k ∧ Qt w1 wr) (fun i _ => n - (intOf i).toNat)
  case atStart => exact ⟨0, Nat.zero_le _, rfl, Qt.refl _⟩
  case round =>
    obtain ⟨k, hk, rfl, hq⟩ := hrel
    by_cases hlt : k < n
    · have hkl : k < l.length := by rw [← HN.out]; exact hlt
      obtain ⟨r, hr⟩ : ∃ r, r = l[k] := ⟨_, rfl⟩
      obtain ⟨x1, y1, e1, g1⟩ := H1.out.below hq.bl
      obtain ⟨rfl, -, rfl⟩ : x1 = a ∧ l.length = n ∧ y1 = c := by cases e1; exact ⟨rfl, HN.out.symm, rfl⟩
      obtain ⟨b1, o1, rfl, m1⟩ := g1.resolve_left (by intro e; rw [e] at hkl; simp at hkl)
      obtain ⟨x2, y2, e2, g2⟩ := H2.out.below hq.bl
      obtain ⟨rfl, -, rfl⟩ : x2 = a2 ∧ l.length = n ∧ y2 = d := by cases e2; exact ⟨rfl, HN.out.symm, rfl⟩
      obtain ⟨b2, o2, rfl, m2⟩ := g2.resolve_left (by intro e; rw [e] at hkl; simp at hkl)
      obtain ⟨p0, p1, p2⟩ := m1 k hkl
      obtain ⟨q0, q1, q2⟩ := m2 k hkl
      rw [← hr] at p0 p1 p2 q0 q1 q2
      have n0 : ((r.k : Int) != (r.k : Int)) = false := by simp
      have n1 : (r.lg != r.lg) = false := by simp
      have n2 : (r.sh != r.sh) = false := by simp
      have QQ := Lib.hid hq
      clear g1 g2 m1 m2 hr e1 e2 hq
      go_wp2_with fail
      go_quiet (fail)
      go_wp2
      go_roundw
      case rel => exact ⟨k + 1, by omega, by go_num, QQ.out.trans ⟨_, rfl⟩⟩
      case measure => simp [intOf]; omega
    · have QQ := Lib.hid hq
      clear hq
      go_wp2
      go_ret
      exact ⟨by simp, HB.out.trans (QQ.out.bl.mono HB.out.size)⟩
end Go.Proofs.Ytljfbdiiecohpaa
