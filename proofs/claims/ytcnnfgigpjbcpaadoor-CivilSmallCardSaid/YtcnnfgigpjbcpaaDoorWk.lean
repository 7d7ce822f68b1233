/- The reference's holidays and working days. -/
import Derived.Test.YtcnnfgigpjbcpaaDoorLent
import Derived.Test.YtcnnfgigpjbcpaaDoorR2
namespace Go.Proofs.YtcnnfgigpjbcpaaDoor
open Go.RowKit

theorem inc_nn {zs : List Int} {k : Nat} (h : Hol.inc (-1) (zs.take k) = true) (hk : k < zs.length) : -1 ≤ (zs.take k).getLastD (-1) := by
  cases k with
  | zero => simp
  | succ j =>
    rw [Hol.last_take zs j (by omega)]
    have := (Hol.inc_lt _ _ h (zs.getD j 0) (by rw [Hol.take_snoc zs j (by omega)]; simp)).1
    omega
set_option maxRecDepth 100000 in
set_option maxHeartbeats 1600000 in
theorem rright_any (v : Value) (zs : List Int) (w : World) (h : Sl w v zs) (hlen : zs.length ≤ 1000000) :
    Calls Tryd.prog 55 #[v] w fun e w' => e = .returned (.bool (Hol.right zs)) ∧ Qt w w' := by
  obtain ⟨a, c, rfl, h⟩ := h
  obtain ⟨n, hn⟩ : ∃ n, n = zs.length := ⟨_, rfl⟩
  rw [← hn] at h hlen ⊢
  have HN := Lib.hid hn
  have H := Lib.hid h
  have RF : Hid (Hol.inc (-1) zs = false → false = Hol.right zs) := fun e => by unfold Hol.right; rw [e]; simp
  have RT : Hid (Hol.inc (-1) zs = true → Hol.right zs = decide ((n : Int) ≤ 1000)) := fun e => by
    unfold Hol.right; rw [e, ← HN.out, Bool.eq_iff_iff]; simp only [Bool.and_true, decide_eq_true_eq]; omega
  clear hn h
  go_enter Tryd.func55, Tryd.ntmps55
  go_wp2
  go_loopw [3] (fun i wr => ∃ k : Nat, k ≤ n ∧ i = .int .i64 k ∧ Hol.inc (-1) (zs.take k) = true ∧ Qt w wr) (fun i _ => n - (intOf i).toNat)
  case atStart => exact ⟨0, Nat.zero_le _, rfl, rfl, Qt.refl w⟩
  case round =>
    obtain ⟨k, hk, rfl, hi, hq⟩ := hrel
    have HQ := Lib.hid hq
    have HI := Lib.hid hi
    clear hi
    by_cases hlt : k < n
    · rcases H.out with h0 | ⟨b, off, rfl, hc⟩
      · exfalso; have := HN.out; rw [h0] at this; simp at this; omega
      · have hck := hq.cell (hc k (by have := HN.out; omega))
        obtain ⟨x, hx⟩ : ∃ x, x = zs.getD k 0 := ⟨_, rfl⟩
        rw [← hx] at hck
        obtain ⟨p, hp⟩ : ∃ p, p = (zs.take k).getLastD (-1) := ⟨_, rfl⟩
        have hp0 : -1 ≤ p := by rw [hp]; exact inc_nn HI.out (by have := HN.out; omega)
        have B : Hid (¬ (p < x ∧ x ≤ 730484) → false = Hol.right zs) := by
          intro h; exact RF.out (Hol.inc_bad zs k (by have := HN.out; omega) (by rw [← hx, ← hp]; exact h))
        have T : Hid (p < x ∧ x ≤ 730484 → Hol.inc (-1) (zs.take (k + 1)) = true) := by
          intro h; rw [Hol.take_snoc zs k (by have := HN.out; omega), Hol.inc_snoc, ← hx, ← hp]; exact ⟨HI.out, h⟩
        have P : k = 0 ∧ p = -1 ∨ ∃ j : Nat, k = j + 1 ∧ wr.cell? ⟨b, off + j, none⟩ = some (.int .i64 p) := by
          cases k with
          | zero => exact Or.inl ⟨rfl, hp⟩
          | succ j =>
            refine Or.inr ⟨j, rfl, ?_⟩
            rw [hp, Hol.last_take zs j (by have := HN.out; omega)]
            exact hq.cell (hc j (by have := HN.out; omega))
        clear hx hp hc hq
        rcases P with ⟨rfl, rfl⟩ | ⟨j, hj, hcj⟩
        all_goals try rw [Nat.add_zero] at hck
        · by_cases c1 : x < 0
          · have d1 : decide (x < 0) = true := decide_eq_true c1
            go_wp2_with fail
            go_quiet (fail)
            go_wp2
            go_ret
            exact ⟨ret_bool (B.out (by omega)), HQ.out.trans (by first | exact ⟨_, rfl⟩ | exact Qt.refl _)⟩
          have d1 : decide (x < 0) = false := decide_eq_false c1
          by_cases c2 : 730484 < x
          · have d2 : decide (730484 < x) = true := decide_eq_true c2
            go_wp2_with fail
            go_quiet (fail)
            go_wp2
            go_ret
            exact ⟨ret_bool (B.out (by omega)), HQ.out.trans (by first | exact ⟨_, rfl⟩ | exact Qt.refl _)⟩
          have d2 : decide (730484 < x) = false := decide_eq_false c2
          go_wp2_with fail
          go_quiet (fail)
          go_wp2
          go_roundw
          case rel => exact ⟨1, by omega, by go_num, T.out (by omega), HQ.out.trans (by first | exact ⟨_, rfl⟩ | exact Qt.refl _)⟩
          case measure => simp [intOf]; omega
        · have hw : IntKind.i64.wrap ((k : Int) - 1) = j := by rw [IntWalk.i64_in _ (by omega)]; omega
          have d0 : decide (0 < k) = true := decide_eq_true (by omega)
          have d0' : decide ((0 : Int) < k) = true := decide_eq_true (by omega)
          have hk0 : 0 < k := by omega
          have HJ := Lib.hid hj
          have hjn : j < n := by omega
          clear hj
          by_cases c1 : x < 0
          · have d1 : decide (x < 0) = true := decide_eq_true c1
            go_wp2_with fail
            go_quiet (fail)
            go_wp2
            go_ret
            exact ⟨ret_bool (B.out (by omega)), HQ.out.trans (by first | exact ⟨_, rfl⟩ | exact Qt.refl _)⟩
          have d1 : decide (x < 0) = false := decide_eq_false c1
          by_cases c2 : 730484 < x
          · have d2 : decide (730484 < x) = true := decide_eq_true c2
            go_wp2_with fail
            go_quiet (fail)
            go_wp2
            go_ret
            exact ⟨ret_bool (B.out (by omega)), HQ.out.trans (by first | exact ⟨_, rfl⟩ | exact Qt.refl _)⟩
          have d2 : decide (730484 < x) = false := decide_eq_false c2
          by_cases c3 : x ≤ p
          · have d3 : decide (x ≤ p) = true := decide_eq_true c3
            go_wp2_with fail
            go_quiet (fail)
            go_wp2
            go_ret
            exact ⟨ret_bool (B.out (by omega)), HQ.out.trans (by first | exact ⟨_, rfl⟩ | exact Qt.refl _)⟩
          have d3 : decide (x ≤ p) = false := decide_eq_false c3
          go_wp2_with fail
          go_quiet (fail)
          go_wp2
          go_roundw
          case rel => exact ⟨k + 1, by omega, by go_num, T.out (by omega), HQ.out.trans (by first | exact ⟨_, rfl⟩ | exact Qt.refl _)⟩
          case measure => simp [intOf]; omega
    · have hk' : k = n := by omega
      have hr := RT.out (by rw [← HI.out, hk', HN.out, List.take_length])
      clear hq
      have HR := Lib.hid hr
      clear hr
      go_wp2
      go_ret
      exact ⟨ret_bool HR.out.symm, HQ.out⟩
set_option maxRecDepth 100000 in
set_option maxHeartbeats 1600000 in
theorem rworks_any (d : Int) (v : Value) (zs : List Int) (w : World) (h : Sl w v zs) (hlen : zs.length ≤ 1000000) (h0 : 0 ≤ d) (h1 : d ≤ 730484) :
    Calls Tryd.prog 74 #[.int .i64 d, v] w fun e w' => e = .returned (.bool (Hol.works zs d)) ∧ w = w' := by
  obtain ⟨a, c, rfl, h⟩ := h
  obtain ⟨n, hn⟩ : ∃ n, n = zs.length := ⟨_, rfl⟩
  rw [← hn] at h hlen ⊢
  have HN := Lib.hid hn
  have H := Lib.hid h
  clear hn h
  go_enter Tryd.func74, Tryd.ntmps74
  go_wp2
  go_loop [5] (fun i => ∃ k : Nat, k ≤ n ∧ i = .int .i64 k ∧ (zs.take k).contains d = false) (fun i => n - (intOf i).toNat)
  case atStart => exact ⟨0, Nat.zero_le _, rfl, rfl⟩
  case round =>
    obtain ⟨k, hk, rfl, hi⟩ := hrel
    have HI := Lib.hid hi
    clear hi
    by_cases hlt : k < n
    · rcases H.out with h0 | ⟨b, off, rfl, hc⟩
      · exfalso; have := HN.out; rw [h0] at this; simp at this; omega
      · have hck := hc k (by have := HN.out; omega)
        obtain ⟨x, hx⟩ : ∃ x, x = zs.getD k 0 := ⟨_, rfl⟩
        rw [← hx] at hck
        have HX := Lib.hid hx
        have hkl : k < zs.length := by have := HN.out; omega
        have IN : Hid (x ∈ zs) := by rw [hx, List.getD_eq_getElem?_getD, List.getElem?_eq_getElem hkl]; exact List.getElem_mem hkl
        have T : Hid (x ≠ d → (zs.take (k + 1)).contains d = false) := by
          intro h
          have := HI.out
          rw [Hol.take_snoc zs k hkl, ← hx]
          simp only [List.contains_eq_mem, decide_eq_false_iff_not, List.mem_append, List.mem_singleton] at this ⊢
          rintro (h' | h')
          · exact this h'
          · exact h h'.symm
        clear hx hc
        by_cases c1 : x = d
        · have W : Hid (false = Hol.works zs d) := by
            have hm := IN.out; rw [c1] at hm
            show false = Hol.works zs d
            unfold Hol.works; rw [List.contains_eq_mem, decide_eq_true hm]; simp
          go_wp2
          go_ret
          exact ⟨ret_bool W.out, rfl⟩
        · go_wp2
          go_round
          case rel => exact ⟨k + 1, by omega, by go_num, T.out c1⟩
          case measure => simp [intOf]; omega
    · have hk' : k = n := by omega
      have hr : Hid (Hol.works zs d = decide (d % 7 < 5)) := by
        have := HI.out
        rw [hk', HN.out, List.take_length] at this
        show Hol.works zs d = decide (d % 7 < 5)
        unfold Hol.works Hol.wk; rw [this]; simp
      by_cases c5 : d % 7 < 5
      · have e := hr.out
        rw [decide_eq_true c5] at e
        have E := Lib.hid e
        clear e hr
        go_wp2
        go_ret
        exact ⟨ret_bool E.out.symm, rfl⟩
      · have e := hr.out
        rw [decide_eq_false c5] at e
        have E := Lib.hid e
        clear e hr
        go_wp2
        go_ret
        exact ⟨ret_bool E.out.symm, rfl⟩
end Go.Proofs.YtcnnfgigpjbcpaaDoor
