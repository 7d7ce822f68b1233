/- Contracts of Least and Greatest. -/
import Derived.Test.YtjfopggpohakkaaSi
import Derived.Laws.EntriesVeiled
namespace Go.Proofs.Ytjfopggpohakkaa
open Go.RowKit Go.Shelf

theorem asks_made {w w2 : World} (n k q L y : Nat) (hS : Sum L y w2)
    (b2 : Below (((w.alloc (.cells #[.int .i64 n] 3)).alloc (.cells #[.int .i64 k] 3)).drewN q).heap.size (((w.alloc (.cells #[.int .i64 n] 3)).alloc (.cells #[.int .i64 k] 3)).drewN q) w2) :
    Asks n k L w2.heap.size w.heap.size (w.heap.size + 1) y (w2.alloc (.cells #[.func (.func 80) #[] #[.pointer (some ⟨L, 0, none⟩)]] 65)) ∧ Below w.heap.size w (w2.alloc (.cells #[.func (.func 80) #[] #[.pointer (some ⟨L, 0, none⟩)]] 65)) := by
  have bn := Boxed.new w 3 (.int .i64 n)
  have bk := Boxed.new (w.alloc (.cells #[.int .i64 n] 3)) 3 (.int .i64 k)
  rw [World.size_alloc] at bk
  have b0 : Below w.heap.size w (((w.alloc (.cells #[.int .i64 n] 3)).alloc (.cells #[.int .i64 k] 3)).drewN q) := below_drewN (((Below.refl _ w).alloc (Nat.le_refl _) _).alloc (by simp) _) q
  have cn : (((w.alloc (.cells #[.int .i64 n] 3)).alloc (.cells #[.int .i64 k] 3)).drewN q).cell? ⟨w.heap.size, 0, none⟩ = some (.int .i64 n) := (bn.alloc _).cell
  have ck : (((w.alloc (.cells #[.int .i64 n] 3)).alloc (.cells #[.int .i64 k] 3)).drewN q).cell? ⟨w.heap.size + 1, 0, none⟩ = some (.int .i64 k) := bk.cell
  have b3 : Below w2.heap.size w2 (w2.alloc (.cells #[.func (.func 80) #[] #[.pointer (some ⟨L, 0, none⟩)]] 65)) := (Below.refl _ _).alloc (Nat.le_refl _) _
  have b4 := b0.trans (b2.mono b0.size)
  exact ⟨⟨hS.below b3, (Boxed.new _ _ _).cell, kept_cell b3 (kept_cell b2 cn), kept_cell b3 (kept_cell b2 ck)⟩, b4.trans (b3.mono b4.size)⟩
set_option maxHeartbeats 1600000 in
theorem first_any (g : Nat) (cb : Array Value) (p : Nat → Bool) (w : World) (eg : ∀ args w, (callFunc g args).run Try.prog w = .ok (.enter g args) w)
    (hf : ∀ (W : World) (i : Nat), Below w.heap.size w W → i < 10000 → Calls Try.prog g (#[.int .i64 i] ++ cb) W fun e W' => e = .returned (.bool (p i)) ∧ Below W.heap.size W W')
    (hmono : ∀ a b, a ≤ b → b < 10000 → p a = true → p b = true) :
    Calls Try.prog 55 #[.func (.func g) #[] cb] w fun e w' => e = .returned (.int .i64 (Bn.least p 10000 : Nat)) ∧ Below w.heap.size w w' := by
  have S : Hid (Calls Try.prog 81 #[.int .i64 10000, .func (.func g) #[] cb] w fun e w' => e = .returned (.int .i64 (Bn.least p 10000 : Nat)) ∧ Below w.heap.size w w') := search_any g cb 10000 p w (by omega) eg hf hmono
  clear hf hmono
  obtain ⟨r, hr⟩ : ∃ r, r = Bn.least p 10000 := ⟨_, rfl⟩
  rw [← hr] at S ⊢
  clear hr
  go_enter Try.func55, Try.ntmps55
  go_wp2_with (go_at_call 81; refine S.out.mono ?_; rintro e w1 ⟨rfl, b1⟩)
  go_ret
  exact ⟨rfl, b1⟩
theorem risk_nat {p : Int} (h : rkB p = true) : ∃ q : Nat, p = q ∧ 1 ≤ q ∧ q ≤ 2000 := by
  obtain ⟨a, b⟩ := of_decide_eq_true (show decide (1 ≤ p ∧ p ≤ 2000) = true from h)
  exact ⟨p.toNat, by omega, by omega, by omega⟩
def valB (n k r : Int) : Nat := if chk n k (rkB r) = 0 then Bn.low n.toNat k.toNat r.toNat else 0
def valG (n k r : Int) : Nat := if chk n k (rkB r) = 0 then Bn.high n.toNat k.toNat r.toNat else 0
set_option maxRecDepth 100000 in
set_option maxHeartbeats 3200000 in
theorem least_any (n k r : Int) (w : World) : Calls Try.prog 23 #[.int .i64 n, .int .i64 k, .int .i64 r] w fun e w' => e = .returned (.tuple #[.int .i64 (valB n k r : Nat), .int .i64 (chk n k (rkB r))]) ∧ Below w.heap.size w w' := by
  have SH := Lib.hid (fun w' => risk_is r w')
  have C := Lib.hid (fun w' => check_any n k (rkB r) w')
  by_cases h : chk n k (rkB r) = 0
  · obtain ⟨h1, h2, h3, h4⟩ := chk_zero h
    obtain ⟨n, rfl⟩ : ∃ m : Nat, n = m := ⟨n.toNat, by omega⟩
    obtain ⟨k, rfl⟩ : ∃ m : Nat, k = m := ⟨k.toNat, by omega⟩
    obtain ⟨r, rfl, hr1, hr2⟩ := risk_nat h4
    have E : Hid (valB n k r = Bn.least (fun p => Bn.ex n r (Bn.Up n k p)) 10000) := by show _ = _; unfold valB; rw [if_pos h]; rfl
    have T := Lib.hid (fun w' => exceeding_any n r w' (by omega) hr2)
    have H := Lib.hid h
    have hkn : k ≤ n := by omega
    have hn5 : n ≤ 500 := by omega
    have F : Hid (∀ L E Bn' Bk W0, Asks n k L E Bn' Bk (r * 10000 ^ n) W0 → Calls Try.prog 55 #[.func (.func 56) #[] #[.pointer (some ⟨E, 0, none⟩), .pointer (some ⟨Bn', 0, none⟩), .pointer (some ⟨Bk, 0, none⟩)]] W0 fun e w' => e = .returned (.int .i64 (Bn.least (fun p => Bn.ex n r (Bn.Up n k p)) 10000 : Nat)) ∧ Below W0.heap.size W0 w') :=
      fun L E Bn' Bk W0 hA => first_any 56 _ (fun p => Bn.ex n r (Bn.Up n k p)) W0 (enters_of Try.func56 (by kernel_rfl) rfl) (fun V i hV hi => least1_any n k i r L E Bn' Bk V hn5 hkn (by omega) hr2 (hA.below hV)) (Bn.up_mono n k r)
    simp only [h] at C
    clear h h1 h2 h3 h4
    rw [E.out, H.out]
    go_enter Try.func23, Try.ntmps23
    go_wp2
    go_quiet ((first | (go_at_call 53; with_reducible exact quiet_sym (SH.out _)) | (go_at_call 50; with_reducible exact quiet_sym (C.out _))))
    go_wp2_with (first
      | (go_at_call 54; refine (T.out _).mono ?_; rintro e w2 ⟨L, rfl, hS, b2⟩; have A2 := Lib.hid (asks_made n k nq L _ hS b2))
      | (go_at_call 55; refine (F.out _ _ _ _ _ A2.out.1).mono ?_; rintro e w3 ⟨rfl, b3⟩))
    go_ret2
    exact ⟨rfl, A2.out.2.trans (b3.mono A2.out.2.size)⟩
  · have E : Hid (valB n k r = 0) := by show _ = _; unfold valB; rw [if_neg h]
    obtain ⟨c, hc⟩ : ∃ c, c = chk n k (rkB r) := ⟨_, rfl⟩
    simp only [← hc] at C h ⊢
    rw [E.out]
    have h0 : (c == 0) = false := by rw [beq_eq_false_iff_ne]; exact h
    clear hc h
    go_enter Try.func23, Try.ntmps23
    go_wp2
    go_quiet ((first | (go_at_call 53; with_reducible exact quiet_sym (SH.out _)) | (go_at_call 50; with_reducible exact quiet_sym (C.out _))))
    go_wp2
    go_ret2
    exact ⟨rfl, below_drewN (((Below.refl _ w).alloc (Nat.le_refl _) _).alloc (by simp) _) nq⟩
set_option maxRecDepth 100000 in
set_option maxHeartbeats 3200000 in
theorem greatest_any (n k r : Int) (w : World) : Calls Try.prog 24 #[.int .i64 n, .int .i64 k, .int .i64 r] w fun e w' => e = .returned (.tuple #[.int .i64 (valG n k r : Nat), .int .i64 (chk n k (rkB r))]) ∧ Below w.heap.size w w' := by
  have SH := Lib.hid (fun w' => risk_is r w')
  have C := Lib.hid (fun w' => check_any n k (rkB r) w')
  by_cases h : chk n k (rkB r) = 0
  · obtain ⟨h1, h2, h3, h4⟩ := chk_zero h
    obtain ⟨n, rfl⟩ : ∃ m : Nat, n = m := ⟨n.toNat, by omega⟩
    obtain ⟨k, rfl⟩ : ∃ m : Nat, k = m := ⟨k.toNat, by omega⟩
    obtain ⟨r, rfl, hr1, hr2⟩ := risk_nat h4
    have E : Hid (valG n k r = 10000 - Bn.least (fun p => Bn.ex n r (Bn.Up n (n - k) p)) 10000) := by show _ = _; unfold valG; rw [if_pos h]; rfl
    have T := Lib.hid (fun w' => exceeding_any n r w' (by omega) hr2)
    have H := Lib.hid h
    have hkn : k ≤ n := by omega
    have hn5 : n ≤ 500 := by omega
    have F : Hid (∀ L E Bn' Bk W0, Asks n k L E Bn' Bk (r * 10000 ^ n) W0 → Calls Try.prog 55 #[.func (.func 58) #[] #[.pointer (some ⟨E, 0, none⟩), .pointer (some ⟨Bn', 0, none⟩), .pointer (some ⟨Bk, 0, none⟩)]] W0 fun e w' => e = .returned (.int .i64 (Bn.least (fun p => Bn.ex n r (Bn.Up n (n - k) p)) 10000 : Nat)) ∧ Below W0.heap.size W0 w') :=
      fun L E Bn' Bk W0 hA => first_any 58 _ (fun p => Bn.ex n r (Bn.Up n (n - k) p)) W0 (enters_of Try.func58 (by kernel_rfl) rfl) (fun V i hV hi => greatest1_any n k i r L E Bn' Bk V hn5 hkn (by omega) hr2 (hA.below hV)) (Bn.up_mono n (n - k) r)
    obtain ⟨m, hm⟩ : ∃ m, m = Bn.least (fun p => Bn.ex n r (Bn.Up n (n - k) p)) 10000 := ⟨_, rfl⟩
    have hm2 : m ≤ 10000 := by rw [hm]; exact Bn.least_le _ _
    rw [← hm] at E F
    obtain ⟨s, hs⟩ : ∃ s, s = 10000 - m := ⟨_, rfl⟩
    rw [← hs] at E
    have es : (10000 : Int) - (m : Int) = (s : Int) := by omega
    have m1 : (m : Int) ≤ 10000 := by omega
    have s1 : (s : Int) ≤ 10000 := by omega
    have rs : wrap64 (s : Int) = (s : Int) := by rw [← IntWalk.i64_left]; exact IntWalk.i64_in _ (by omega)
    clear hm hs hm2
    simp only [h] at C
    clear h h1 h2 h3 h4
    rw [E.out, H.out]
    go_enter Try.func24, Try.ntmps24
    go_wp2
    go_quiet ((first | (go_at_call 53; with_reducible exact quiet_sym (SH.out _)) | (go_at_call 50; with_reducible exact quiet_sym (C.out _))))
    go_wp2_with (first
      | (go_at_call 54; refine (T.out _).mono ?_; rintro e w2 ⟨L, rfl, hS, b2⟩; have A2 := Lib.hid (asks_made n k nq L _ hS b2))
      | (go_at_call 55; refine (F.out _ _ _ _ _ A2.out.1).mono ?_; rintro e w3 ⟨rfl, b3⟩))
    go_ret2
    exact ⟨rfl, A2.out.2.trans (b3.mono A2.out.2.size)⟩
  · have E : Hid (valG n k r = 0) := by show _ = _; unfold valG; rw [if_neg h]
    obtain ⟨c, hc⟩ : ∃ c, c = chk n k (rkB r) := ⟨_, rfl⟩
    simp only [← hc] at C h ⊢
    rw [E.out]
    have h0 : (c == 0) = false := by rw [beq_eq_false_iff_ne]; exact h
    clear hc h
    go_enter Try.func24, Try.ntmps24
    go_wp2
    go_quiet ((first | (go_at_call 53; with_reducible exact quiet_sym (SH.out _)) | (go_at_call 50; with_reducible exact quiet_sym (C.out _))))
    go_wp2
    go_ret2
    exact ⟨rfl, below_drewN (((Below.refl _ w).alloc (Nat.le_refl _) _).alloc (by simp) _) nq⟩
end Go.Proofs.Ytjfopggpohakkaa
