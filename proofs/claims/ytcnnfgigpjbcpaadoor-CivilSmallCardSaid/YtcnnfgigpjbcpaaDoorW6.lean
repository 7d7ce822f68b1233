/- Contracts of civil's holidays and working days. -/
import Derived.Test.YtcnnfgigpjbcpaaDoorW5
import Derived.Test.YtcnnfgigpjbcpaaDoorHol
namespace Go.Proofs.YtcnnfgigpjbcpaaDoor
open Go.RowKit

/-- A slice value that reads as a list of ints. -/
def Sl (w : World) (v : Value) (zs : List Int) : Prop := ∃ (a : Option Addr) (c : Nat), v = .slice a zs.length c ∧ (zs = [] ∨ ∃ b off, a = some ⟨b, off, none⟩ ∧ ∀ j, j < zs.length → w.cell? ⟨b, off + j, none⟩ = some (.int .i64 (zs.getD j 0)))
theorem Sl.below {w w' : World} {v : Value} {zs : List Int} (h : Sl w v zs) (hb : Below w.heap.size w w') : Sl w' v zs := by
  obtain ⟨a, c, rfl, h⟩ := h
  refine ⟨a, c, rfl, ?_⟩
  rcases h with h | ⟨b, off, rfl, h⟩
  · exact Or.inl h
  · exact Or.inr ⟨b, off, rfl, fun j hj => (hb.cell (World.block_lt_of_cell? _ _ (h j hj))).trans (h j hj)⟩
theorem Sl.nil (w : World) (a : Option Addr) (c : Nat) : Sl w (.slice a 0 c) [] := ⟨a, c, rfl, Or.inl rfl⟩

set_option maxHeartbeats 800000 in
theorem right_any (v : Value) (zs : List Int) (w : World) (h : Sl w v zs) :
    Calls Tryd.prog 40 #[v] w fun e w' => e = .returned (.bool (Hol.right zs)) ∧ w = w' := by
  obtain ⟨a, c, rfl, h⟩ := h
  obtain ⟨n, hn⟩ : ∃ n, n = zs.length := ⟨_, rfl⟩
  rw [← hn] at h ⊢
  have HN := Lib.hid hn
  by_cases hl : 1000 < n
  · have hr := Lib.hid (Hol.right_long (l := zs) (by omega))
    clear hn h
    go_enter Tryd.func40, Tryd.ntmps40
    go_wp2
    go_ret
    exact ⟨ret_bool hr.out.symm, rfl⟩
  · have hr := Lib.hid (Hol.right_short (l := zs) (by omega))
    have H := Lib.hid h
    clear hn h
    go_enter Tryd.func40, Tryd.ntmps40
    go_wp2
    go_loop [3, 11] (fun l i => ∃ k : Nat, k ≤ n ∧ i = .int .i64 k ∧ l = .int .i64 ((zs.take k).getLastD (-1)) ∧ Hol.inc (-1) (zs.take k) = true) (fun _ i => n - (intOf i).toNat)
    case atStart => exact ⟨0, Nat.zero_le _, rfl, rfl, rfl⟩
    case round =>
      obtain ⟨k, hk, rfl, rfl, hi⟩ := hrel
      have HI := Lib.hid hi
      clear hi
      obtain ⟨p, hp⟩ : ∃ p, p = (zs.take k).getLastD (-1) := ⟨_, rfl⟩
      rw [← hp]
      have HP := Lib.hid hp
      clear hp
      by_cases hlt : k < n
      · rcases H.out with h0 | ⟨b, off, rfl, hc⟩
        · exfalso; have := HN.out; rw [h0] at this; simp at this; omega
        · have hck := hc k (by have := HN.out; omega)
          obtain ⟨x, hx⟩ : ∃ x, x = zs.getD k 0 := ⟨_, rfl⟩
          rw [← hx] at hck
          have HX := Lib.hid hx
          clear hx hc
          have T : Hid (p < x ∧ x ≤ 730484 → Hol.inc (-1) (zs.take (k + 1)) = true) := by
            intro h; rw [Hol.take_snoc zs k (by have := HN.out; omega), Hol.inc_snoc, ← HX.out, ← HP.out]; exact ⟨HI.out, h⟩
          have L : Hid (x = (zs.take (k + 1)).getLastD (-1)) := by
            show x = _; rw [Hol.last_take zs k (by have := HN.out; omega)]; exact HX.out
          have B : Hid (¬ (p < x ∧ x ≤ 730484) → Hol.inc (-1) zs = false) := by
            intro h; exact Hol.inc_bad zs k (by have := HN.out; omega) (by rw [← HX.out, ← HP.out]; exact h)
          by_cases c1 : x ≤ p
          · go_wp2
            go_ret
            exact ⟨ret_bool (by rw [hr.out, B.out (by omega)]), rfl⟩
          by_cases c2 : 730484 < x
          · go_wp2
            go_ret
            exact ⟨ret_bool (by rw [hr.out, B.out (by omega)]), rfl⟩
          go_wp2
          go_round
          case rel => exact ⟨k + 1, by omega, by go_num, by rw [← L.out], T.out (by omega)⟩
          case measure => simp [intOf]; omega
      · have F : Hid (Hol.inc (-1) zs = true) := by
          have := HI.out
          rw [List.take_of_length_le (by have := HN.out; omega)] at this; exact this
        go_wp2
        go_ret
        exact ⟨ret_bool (by rw [hr.out, F.out]), rfl⟩
set_option maxHeartbeats 400000 in
theorem inWeek_any (d : Int) (w : World) (h : 0 ≤ d) : Calls Tryd.prog 65 #[.int .i64 d] w fun e w' => e = .returned (.bool (Hol.wk d)) ∧ w = w' := by
  go_enter Tryd.func65, Tryd.ntmps65
  go_wp2
  go_ret
  exact ⟨rfl, rfl⟩
/-- The closure that counts holidays. -/
def Wc (w : World) (p : Addr) (zs : List Int) : Prop := ∃ v, w.cell? p = some v ∧ Sl w v zs
theorem Wc.below {w w' : World} {p : Addr} {zs : List Int} (h : Wc w p zs) (hb : Below w.heap.size w w') : Wc w' p zs := by
  obtain ⟨v, hc, hs⟩ := h
  exact ⟨v, (hb.cell (World.block_lt_of_cell? _ _ hc)).trans hc, hs.below hb⟩
set_option maxHeartbeats 1600000 in
theorem lost_any (d : Int) (p : Addr) (zs : List Int) (w : World) (h : Wc w p zs) (hr : Hol.right zs = true) :
    Calls Tryd.prog 77 #[.int .i64 d, .pointer (some p)] w fun e w' => e = .returned (.int .i64 (Hol.lost zs d)) ∧ w = w' := by
  obtain ⟨v, hp, a, c, rfl, h⟩ := h
  have hr' := (Hol.right_iff zs).1 hr
  have PW := Lib.hid (Hol.inc_pw zs _ hr'.2)
  have LT := Lib.hid (Hol.inc_lt zs _ hr'.2)
  have hn1 := hr'.1
  clear hr hr'
  obtain ⟨n, hn⟩ : ∃ n, n = zs.length := ⟨_, rfl⟩
  rw [← hn] at hp hn1
  have HN := Lib.hid hn
  have H := Lib.hid h
  clear hn h
  go_enter Tryd.func77, Tryd.ntmps77
  go_wp2
  go_loop [4, 9] (fun l i => ∃ k : Nat, k ≤ n ∧ i = .int .i64 k ∧ l = .int .i64 (Hol.lost (zs.take k) d)) (fun _ i => n - (intOf i).toNat)
  case atStart => exact ⟨0, Nat.zero_le _, rfl, rfl⟩
  case round =>
    obtain ⟨k, hk, rfl, rfl⟩ := hrel
    have hle := Hol.lost_le (zs.take k) d
    have hle2 : Hol.lost (zs.take k) d ≤ 1000 := by rw [List.length_take] at hle; omega
    clear hle
    by_cases hlt : k < n
    · rcases H.out with h0 | ⟨b, off, rfl, hc⟩
      · exfalso; have := HN.out; rw [h0] at this; simp at this; omega
      · have hck := hc k (by have := HN.out; omega)
        obtain ⟨x, hx⟩ : ∃ x, x = zs.getD k 0 := ⟨_, rfl⟩
        have hx0 : 0 ≤ x := by
          have := LT.out x (by rw [hx, List.getD_eq_getElem?_getD, List.getElem?_eq_getElem (by have := HN.out; omega)]; exact List.getElem_mem _); omega
        have S : Hid (Hol.lost (zs.take (k + 1)) d = Hol.lost (zs.take k) d + if (decide (x < d) && Hol.wk x) = true then 1 else 0) := by
          rw [hx]; exact Hol.lost_take_succ zs d k (by have := HN.out; omega)
        have D : Hid (d ≤ x → Hol.lost (zs.take k) d = Hol.lost zs d) := fun h => Hol.lost_done zs d k (by have := HN.out; omega) PW.out (by rw [← hx]; exact h)
        rw [← hx] at hck
        clear hx hc
        by_cases c1 : d ≤ x
        · go_wp2
          go_ret
          exact ⟨ret_int (by rw [D.out c1]), rfl⟩
        · cases c2 : Hol.wk x
          · have C2 := Lib.hid c2
            clear c2
            have I := Lib.hid (fun W => C2.out ▸ inWeek_any x W hx0)
            go_wp2_with (go_at_call 65; refine (I.out _).mono ?_; rintro e w' ⟨rfl, rfl⟩)
            go_round
            case rel => exact ⟨k + 1, by omega, by go_num, by rw [S.out, C2.out]; simp⟩
            case measure => simp [intOf]; omega
          · have C2 := Lib.hid c2
            clear c2
            have I := Lib.hid (fun W => C2.out ▸ inWeek_any x W hx0)
            go_wp2_with (go_at_call 65; refine (I.out _).mono ?_; rintro e w' ⟨rfl, rfl⟩)
            go_round
            case rel => exact ⟨k + 1, by omega, by go_num, by rw [S.out, C2.out, decide_eq_true (by omega)]; simp⟩
            case measure => simp [intOf]; omega
    · have F : Hid (Hol.lost (zs.take k) d = Hol.lost zs d) := by
        have : zs.take k = zs := List.take_of_length_le (by have := HN.out; omega)
        show Hol.lost (zs.take k) d = _; rw [this]
      go_wp2
      go_ret
      exact ⟨ret_int (by rw [F.out]), rfl⟩
end Go.Proofs.YtcnnfgigpjbcpaaDoor
