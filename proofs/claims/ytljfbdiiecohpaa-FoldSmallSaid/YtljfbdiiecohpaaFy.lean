/- Contracts of ContainsFunc and Same. -/
import Derived.Test.YtljfbdiiecohpaaFx
namespace Go.Proofs.Ytljfbdiiecohpaa
open Go.RowKit Go.Lib

/-- What a closure answers of texts. -/
def PredTx (g : Nat) (lb : Array Value) (p : Fo.Bs → Bool) (w : World) : Prop :=
  ∀ (W : World) (x : Fo.Bs), Below w.heap.size w W → Calls Try.prog g (#[.string ⟨x.toArray⟩] ++ lb) W fun e w' => e = .returned (.bool (p x)) ∧ Below W.heap.size W w'
set_option maxRecDepth 100000 in
set_option maxHeartbeats 1600000 in
theorem indexFunc_any (u : Value) (l : List Fo.Bs) (g : Nat) (lb : Array Value) (p : Fo.Bs → Bool) (w : World) (h : Tx w u l) (hl : l.length ≤ 1000000) (eg : ∀ args w, (callFunc g args).run Try.prog w = .ok (.enter g args) w) (hp : PredTx g lb p w) :
    Calls Try.prog 58 #[u, .func (.func g) #[] lb] w fun e w' => ∃ z : Int, e = .returned (.int .i64 z) ∧ decide (0 ≤ z) = l.any p ∧ Below w.heap.size w w' := by
  have HP := Lib.hid hp
  have HR := Lib.hid h
  clear hp
  obtain ⟨a, c, rfl, -⟩ := h
  obtain ⟨n, hn⟩ : ∃ n, n = l.length := ⟨_, rfl⟩
  rw [← hn] at hl HR ⊢
  have HN := Lib.hid hn
  clear hn
  go_enter Try.func58, Try.ntmps58
  go_wp2
  go_loopw [8] (fun i wr => ∃ k : Nat, k ≤ n ∧ i = .int .i64 k ∧ Hid ((l.take k).any p = false) ∧ Hid (Below w.heap.size w wr)) (fun i _ => n - (intOf i).toNat)
  case atStart => exact ⟨0, Nat.zero_le _, rfl, rfl, Below.refl _ _⟩
  case round =>
    obtain ⟨k, hk, rfl, AN, B⟩ := hrel
    by_cases hlt : k < n
    · have k1 : k < l.length := by rw [← HN.out]; exact hlt
      obtain ⟨b1, o1, rfl, c1⟩ := Tx.at (HR.out.below B.out) k1
      obtain ⟨x, hx⟩ : ∃ x, x = l[k] := ⟨_, rfl⟩
      rw [← hx] at c1
      have CS := HP.out wr x B.out
      have TK : l.take (k + 1) = l.take k ++ [x] := by rw [hx]; exact List.take_succ_eq_append_getElem k1
      cases hpx : p x with
      | true =>
        have E : Hid (decide (0 ≤ (k : Int)) = l.any p) := by
          show _ = _
          rw [decide_eq_true (by omega), eq_comm, List.any_eq_true]
          exact ⟨x, by rw [hx]; exact List.getElem_mem k1, hpx⟩
        rw [hpx] at CS
        have CC := Lib.hid CS
        clear CS TK hpx hx
        go_wp2_with (go_at_fn g; refine CC.out.mono ?_; rintro e w2 ⟨rfl, b2⟩)
        go_ret
        exact ⟨_, rfl, E.out, B.out.trans (b2.mono B.out.size)⟩
      | false =>
        have AN2 : Hid ((l.take (k + 1)).any p = false) := by show _ = _; rw [TK, List.any_append, AN.out]; simp [hpx]
        rw [hpx] at CS
        have CC := Lib.hid CS
        clear CS TK hpx hx
        go_wp2_with (go_at_fn g; refine CC.out.mono ?_; rintro e w2 ⟨rfl, b2⟩)
        go_roundw
        case rel => exact ⟨k + 1, by omega, by go_num, AN2, B.out.trans (b2.mono B.out.size)⟩
        case measure => simp [intOf]; omega
    · have E : Hid (decide (0 ≤ (-1 : Int)) = l.any p) := by
        have an := AN.out
        rw [List.take_of_length_le (by rw [← HN.out]; omega)] at an
        show _ = _
        rw [an]; rfl
      go_wp2
      go_ret
      exact ⟨_, rfl, E.out, B.out⟩
set_option maxRecDepth 100000 in
theorem containsFunc_any (u : Value) (l : List Fo.Bs) (g : Nat) (lb : Array Value) (p : Fo.Bs → Bool) (w : World) (h : Tx w u l) (hl : l.length ≤ 1000000) (eg : ∀ args w, (callFunc g args).run Try.prog w = .ok (.enter g args) w) (hp : PredTx g lb p w) :
    Calls Try.prog 41 #[u, .func (.func g) #[] lb] w fun e w' => e = .returned (.bool (l.any p)) ∧ Below w.heap.size w w' := by
  have IX := Lib.hid (indexFunc_any u l g lb p w h hl eg hp)
  clear h hl hp
  go_enter Try.func41, Try.ntmps41
  go_wp2_with (go_at_call 58; refine IX.out.mono ?_)
  rintro e w2 ⟨z, rfl, hz, b2⟩
  have HZ := Lib.hid hz
  have B2 := Lib.hid b2
  clear hz b2
  go_wp2
  go_ret
  rw [← HZ.out]
  exact ⟨rfl, B2.out⟩
theorem enters_same : ∀ args w, (callFunc 42 args).run Try.prog w = .ok (.enter 42 args) w := enters_of Try.func42 (by kernel_rfl) rfl
set_option maxRecDepth 100000 in
theorem among_any (x : Fo.Bs) (g : Nat) (v : Value) (m : List Fo.Bs) (w : World) (hg : w.cell? ⟨g, 0, none⟩ = some v) (hv : Tx w v m) (hm : m.length ≤ 1000000) : Calls Try.prog 42 #[.string ⟨x.toArray⟩, .pointer (some ⟨g, 0, none⟩)] w fun e w' => e = .returned (.bool (m.contains x)) ∧ Below w.heap.size w w' := by
  have CT := Lib.hid (contains_any v m x w hv hm)
  obtain ⟨q, hq⟩ : ∃ q, q = m.contains x := ⟨_, rfl⟩
  rw [← hq] at CT ⊢
  clear hq
  obtain ⟨a, c, rfl, -⟩ := hv
  go_enter Try.func42, Try.ntmps42
  go_wp2_with (go_at_call 43; refine CT.out.mono ?_; rintro e w2 ⟨rfl, rfl⟩)
  go_ret
  exact ⟨rfl, Below.refl _ _⟩
set_option maxRecDepth 100000 in
set_option maxHeartbeats 1600000 in
theorem same_any (k : Nat) (a b : Fo.Bs) (w : World) : Calls Try.prog 20 #[.int .u8 k, .string ⟨a.toArray⟩, .string ⟨b.toArray⟩] w fun e w' => e = .returned (.bool (Fo.same k a b)) ∧ Below w.heap.size w w' := by
  by_cases hab : a = b
  · subst hab
    have E : Hid (Fo.same k a a = true) := by show _ = _; unfold Fo.same; simp
    go_enter Try.func20, Try.ntmps20
    go_wp2
    go_ret
    rw [E.out]
    exact ⟨rfl, Below.refl _ _⟩
  · have nb : (a == b) = false := beq_eq_false_iff_ne.2 hab
    have E : Hid (Fo.same k a b = (Fo.longs k a).any fun x => (Fo.longs k b).contains x) := by show _ = _; unfold Fo.same; rw [nb, Bool.false_or]
    have LA := Lib.hid (fun w => longs_any k a w)
    have LB := Lib.hid (fun w => longs_any k b w)
    clear hab
    go_enter Try.func20, Try.ntmps20
    go_wp2_with (go_at_call 22; refine (LB.out _).mono ?_)
    rintro e w2 ⟨v, rfl, O2⟩
    have T2 := Lib.hid (O2.tx.below ((Below.refl _ _).alloc (Nat.le_refl _) (.cells #[v] 34)))
    have C2 : Hid ((w2.alloc (.cells #[v] 34)).cell? ⟨w2.heap.size, 0, none⟩ = some v) := cell_at _ _ _ 0 _ _ rfl rfl
    have B2 := Lib.hid (O2.bl.alloc O2.bl.size (.cells #[v] 34))
    obtain ⟨x2, c2, rfl, -⟩ := O2.tx
    clear O2
    go_wp2_with (go_at_call 22; refine (LA.out _).mono ?_)
    rintro e w3 ⟨u, rfl, O3⟩
    have B3 := Lib.hid (B2.out.trans (O3.bl.mono B2.out.size))
    have CF := Lib.hid (containsFunc_any u (Fo.longs k a) 42 #[.pointer (some ⟨w2.heap.size, 0, none⟩)] (fun x => (Fo.longs k b).contains x) w3 O3.tx (by have := Fo.longs_len k a; omega) enters_same
      (fun W x hW => among_any x _ _ (Fo.longs k b) W (below_cell hW (below_cell O3.bl C2.out)) ((T2.out.below O3.bl).below hW) (by have := Fo.longs_len k b; omega)))
    obtain ⟨q, hq⟩ : ∃ q, q = (Fo.longs k a).any fun x => (Fo.longs k b).contains x := ⟨_, rfl⟩
    rw [← hq] at CF E
    clear O3 hq
    go_wp2_with (go_at_call 41; refine CF.out.mono ?_)
    rintro e w4 ⟨rfl, b4⟩
    go_wp2
    go_ret
    rw [E.out]
    exact ⟨rfl, B3.out.trans (b4.mono B3.out.size)⟩
end Go.Proofs.Ytljfbdiiecohpaa
