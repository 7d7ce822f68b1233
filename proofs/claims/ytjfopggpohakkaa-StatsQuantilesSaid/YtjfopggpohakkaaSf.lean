/- The search for the least share; the closures that it asks. -/
import Derived.Test.YtjfopggpohakkaaSe
import Derived.Shelf.RegionOpenPlain
namespace Go.Proofs.Ytjfopggpohakkaa
open Go.RowKit Go.Shelf

set_option maxRecDepth 100000 in
set_option maxHeartbeats 3200000 in
theorem search_any (g : Nat) (cb : Array Value) (n : Nat) (p : Nat → Bool) (w : World) (hn : n ≤ 1000000) (eg : ∀ args w, (callFunc g args).run Try.prog w = .ok (.enter g args) w)
    (hf : ∀ (W : World) (i : Nat), Below w.heap.size w W → i < n → Calls Try.prog g (#[.int .i64 i] ++ cb) W fun e W' => e = .returned (.bool (p i)) ∧ Below W.heap.size W W')
    (hmono : ∀ a b, a ≤ b → b < n → p a = true → p b = true) :
    Calls Try.prog 81 #[.int .i64 n, .func (.func g) #[] cb] w fun e w' => e = .returned (.int .i64 (Bn.least p n : Nat)) ∧ Below w.heap.size w w' := by
  have HF := Lib.hid hf
  have M := Lib.hid hmono
  clear hf hmono
  obtain ⟨r, hr⟩ : ∃ r, Bn.least p n = r := ⟨_, rfl⟩
  have HR := Lib.hid hr
  rw [hr]
  clear hr
  go_enter Try.func81, Try.ntmps81
  go_wp2
  go_loopw [5, 6] (fun s t wr => ∃ lo hi : Nat, s = .int .i64 lo ∧ t = .int .i64 hi ∧ lo ≤ hi ∧ hi ≤ n ∧ Hid (Below w.heap.size w wr) ∧ Hid ((∀ t, t < lo → p t = false) ∧ (∀ t, hi ≤ t → t < n → p t = true))) (fun s t _ => (intOf t).toNat - (intOf s).toNat)
  case atStart => exact ⟨0, n, rfl, rfl, Nat.zero_le _, Nat.le_refl _, (show Below _ _ _ from Below.refl _ _), (show _ ∧ _ from ⟨fun t ht => absurd ht (Nat.not_lt_zero _), fun t h1 h2 => by omega⟩)⟩
  case round =>
    obtain ⟨lo, hi, rfl, rfl, hlh, hin, B, I⟩ := hrel
    by_cases hlt : lo < hi
    · obtain ⟨m, hm⟩ : ∃ m, m = (lo + hi) / 2 := ⟨_, rfl⟩
      have hc := HF.out wr m B.out (by omega)
      have HM : Hid (lo ≤ m ∧ m < hi) := by show _ ∧ _; omega
      rw [hm, show (((lo + hi) / 2 : Nat) : Int) = ((lo : Int) + (hi : Int)) / 2 by omega] at hc
      have EM : Hid (((lo : Int) + (hi : Int)) / 2 = (m : Int)) := by show _ = _; omega
      rw [← hm] at hc
      clear hm
      cases hp : p m <;> rw [hp] at hc
      · have HP := Lib.hid hp
        clear hp
        go_wp2_with (go_at_fn g; refine hc.mono ?_; rintro e w' ⟨rfl, b⟩)
        go_roundw
        case measure => simp [intOf]; have := HM.out; have := EM.out; omega
        case rel =>
          refine ⟨m + 1, hi, by rw [EM.out]; go_num, rfl, by have := HM.out; omega, hin, (show Below _ _ _ from B.out.trans (b.mono B.out.size)), (show _ ∧ _ from ⟨fun t ht => ?_, I.out.2⟩)⟩
          cases h : p t with
          | false => rfl
          | true => have := M.out t m (by omega) (by have := HM.out; omega) h; rw [HP.out] at this; cases this
      · have HP := Lib.hid hp
        clear hp
        go_wp2_with (go_at_fn g; refine hc.mono ?_; rintro e w' ⟨rfl, b⟩)
        go_roundw
        case measure => simp [intOf]; have := HM.out; have := EM.out; omega
        case rel =>
          exact ⟨lo, m, rfl, by rw [EM.out], HM.out.1, by have := HM.out; omega, (show Below _ _ _ from B.out.trans (b.mono B.out.size)), (show _ ∧ _ from ⟨I.out.1, fun t ht htn => M.out m t ht htn HP.out⟩)⟩
    · obtain rfl : hi = lo := by omega
      have ER : Hid (r = hi) := by
        show _ = _
        rw [← HR.out]
        exact Bn.least_is hin (fun t h1 h2 => I.out.2 t h1 h2) (fun t h1 => I.out.1 t h1)
      go_wp2
      go_ret
      exact ⟨ret_int (by rw [ER.out]), B.out⟩
end Go.Proofs.Ytjfopggpohakkaa
