/- Contracts of Right, Words, SameTexts, Same. -/
import Derived.Test.YtljfbdiiecohpaaFw
import Derived.Test.YtljfbdiiecohpaaFc
namespace Go.Proofs.Ytljfbdiiecohpaa
open Go.RowKit Go.Lib

theorem foldl_any (l : Fo.Bs) (w : World) (hl : l.length ≤ 1000000) : Calls Try.prog 13 #[.string ⟨l.toArray⟩] w fun e w' => e = .returned (.string ⟨(Fo.fold l).toArray⟩) ∧ Below w.heap.size w w' :=
  fold_any ⟨l.toArray⟩ w (by show l.toArray.size ≤ _; rw [List.size_toArray]; exact hl)
set_option maxRecDepth 100000 in
theorem right_any (l : Fo.Bs) (w : World) (hl : l.length ≤ 1000000) : Calls Try.prog 15 #[.string ⟨l.toArray⟩] w fun e w' => e = .returned (.bool (Fo.fold l == l)) ∧ Below w.heap.size w w' := by
  have F := Lib.hid (fun w => foldl_any l w hl)
  go_enter Try.func15, Try.ntmps15
  go_wp2_with (go_at_call 13; with_reducible refine (F.out _).mono ?_; rintro e w2 ⟨rfl, b2⟩)
  go_ret
  exact ⟨rfl, b2⟩
theorem enters_blank : ∀ args w, (callFunc 38 args).run Try.prog w = .ok (.enter 38 args) w := enters_of Try.func38 (by kernel_rfl) rfl
set_option maxRecDepth 100000 in
theorem blank_any (r : Nat) (w : World) : Calls Try.prog 38 #[.int .i32 r] w fun e w' => e = .returned (.bool (Fo.isB r)) ∧ ∃ q, w' = w.drewN q := by
  have E : Hid (Fo.isB r = ((r : Int) == 32)) := by
    show _ = _
    unfold Fo.isB
    rw [Bool.eq_iff_iff, decide_eq_true_eq, beq_iff_eq]; omega
  go_enter Try.func38, Try.ntmps38
  go_wp2
  go_ret
  rw [E.out]
  exact ⟨rfl, 0, rfl⟩
set_option maxRecDepth 100000 in
theorem words_any (l : Fo.Bs) (w : World) (hl : l.length ≤ 1000000) : Calls Try.prog 17 #[.string ⟨l.toArray⟩] w fun e w' => ∃ v, e = .returned v ∧ Otx w w' v (Fo.words l) := by
  have FF : Hid (Calls Try.prog 37 #[.string ⟨l.toArray⟩, .func (.func 38) #[] #[]] w fun e w' => ∃ v, e = .returned v ∧ Otx w w' v (Fo.words l)) := by
    show Calls _ _ _ _ _
    refine (Try.strings_FieldsFunc 38 #[] enters_blank Fo.isB ⟨l.toArray⟩ w (by show l.toArray.size ≤ _; rw [List.size_toArray]; omega) (fun W x _ => blank_any x W)).mono ?_
    rintro e w' ⟨A, rfl, -, ho, hb⟩
    have hw := Fo.fields_words ⟨l.toArray⟩
    rw [show (⟨l.toArray⟩ : ByteArray).data.toList = l from rfl] at hw
    rw [hw] at ho ⊢
    refine ⟨_, rfl, ?_, hb⟩
    rw [List.length_map, List.map_map] at ho
    rw [List.length_map]
    exact ho
  go_enter Try.func17, Try.ntmps17
  go_wp2_with (go_at_call 37; refine FF.out.mono ?_)
  rintro e w2 ⟨v, rfl, O⟩
  have O2 := Lib.hid O
  clear O
  go_wp2
  go_ret
  exact ⟨_, rfl, O2.out⟩
/-- The texts at a place. -/
theorem Tx.at {w : World} {a : Option Addr} {n c k : Nat} {l : List Fo.Bs} (h : Tx w (.slice a n c) l) (hk : k < l.length) : ∃ b off, a = some ⟨b, off, none⟩ ∧ w.cell? ⟨b, off + k, none⟩ = some (.string ⟨l[k].toArray⟩) := by
  obtain ⟨a', c', e, h⟩ := h
  cases e
  obtain ⟨b, off, rfl, h2⟩ := h.resolve_left (by intro e; rw [e] at hk; simp at hk)
  exact ⟨b, off, rfl, h2 k hk⟩
set_option maxRecDepth 100000 in
set_option maxHeartbeats 1600000 in
theorem sameTexts_any (u v : Value) (l m : List Fo.Bs) (w : World) (hu : Tx w u l) (hv : Tx w v m) (hl : l.length ≤ 1000000) (hm : m.length ≤ 1000000) : Calls Try.prog 26 #[u, v] w fun e w' => e = .returned (.bool (l == m)) ∧ Below w.heap.size w w' := by
  have U := Lib.hid hu
  have V := Lib.hid hv
  obtain ⟨a, c, rfl, -⟩ := hu
  obtain ⟨b, d, rfl, -⟩ := hv
  obtain ⟨n, hn⟩ : ∃ n, n = l.length := ⟨_, rfl⟩
  by_cases he : m.length = l.length
  · rw [he, ← hn] at V ⊢
    rw [← hn] at U hl
    have HN := Lib.hid hn
    have HM : Hid (n = m.length) := by show _ = _; omega
    clear hn hm he
    go_enter Try.func26, Try.ntmps26
    go_wp2
    go_loopw [5] (fun i wr => ∃ k : Nat, k ≤ n ∧ i = .int .i64 k ∧ Hid (l.take k = m.take k) ∧ Qt w wr) (fun i _ => n - (intOf i).toNat)
    case atStart => exact ⟨0, Nat.zero_le _, rfl, rfl, Qt.refl _⟩
    case round =>
      obtain ⟨k, hk, rfl, TE, hq⟩ := hrel
      by_cases hlt : k < n
      · have k1 : k < l.length := by rw [← HN.out]; exact hlt
        have k2 : k < m.length := by rw [← HM.out]; exact hlt
        obtain ⟨b1, o1, rfl, c1⟩ := Tx.at U.out k1
        obtain ⟨b2, o2, rfl, c2⟩ := Tx.at V.out k2
        have c1 := hq.cell c1
        have c2 := hq.cell c2
        obtain ⟨x, hx⟩ : ∃ x, x = l[k] := ⟨_, rfl⟩
        obtain ⟨y, hy⟩ : ∃ y, y = m[k] := ⟨_, rfl⟩
        rw [← hx] at c1
        rw [← hy] at c2
        by_cases hxy : x = y
        · have TE2 : Hid (l.take (k + 1) = m.take (k + 1)) := by show _ = _; rw [List.take_succ_eq_append_getElem k1, List.take_succ_eq_append_getElem k2, TE.out, ← hx, ← hy, hxy]
          have QQ := Lib.hid hq
          subst hxy
          clear hx hy hq
          go_wp2_with fail
          go_quiet (fail)
          go_wp2
          go_roundw
          case rel => exact ⟨k + 1, by omega, by go_num, TE2, QQ.out.trans ⟨_, rfl⟩⟩
          case measure => simp [intOf]; omega
        · have E : Hid ((l == m) = false) := by
            show _ = _
            rw [beq_eq_false_iff_ne]
            rintro rfl
            exact hxy (hx.trans hy.symm)
          have nb : (x == y) = false := beq_eq_false_iff_ne.2 hxy
          have nb2 : (x != y) = true := bne_iff_ne.2 hxy
          have QQ := Lib.hid hq
          clear hx hy hq hxy
          go_wp2_with fail
          go_quiet (fail)
          go_wp2
          go_ret
          rw [E.out]
          exact ⟨rfl, (QQ.out.trans ⟨_, rfl⟩).bl⟩
      · have E : Hid ((l == m) = true) := by
          have te := TE.out
          rw [show k = n by omega] at te
          have t1 : l.take n = l := List.take_of_length_le (by rw [HN.out]; exact Nat.le_refl _)
          have t2 : m.take n = m := List.take_of_length_le (by rw [HM.out]; exact Nat.le_refl _)
          rw [t1, t2] at te
          show _ = _
          rw [te]; simp
        have QQ := Lib.hid hq
        clear hq
        go_wp2
        go_ret
        rw [E.out]
        exact ⟨rfl, QQ.out.bl⟩
  · have E : Hid ((l == m) = false) := by
      show _ = _
      rw [beq_eq_false_iff_ne]
      rintro rfl
      exact he rfl
    obtain ⟨n2, hn2⟩ : ∃ n, n = m.length := ⟨_, rfl⟩
    rw [← hn, ← hn2]
    have nn : ((n : Int) != (n2 : Int)) = true := bne_iff_ne.2 (by omega)
    have nn2 : n ≠ n2 := by omega
    clear hn hn2 he hl hm U V
    go_enter Try.func26, Try.ntmps26
    go_wp2
    go_ret
    rw [E.out]
    exact ⟨rfl, Below.refl _ _⟩
end Go.Proofs.Ytljfbdiiecohpaa
