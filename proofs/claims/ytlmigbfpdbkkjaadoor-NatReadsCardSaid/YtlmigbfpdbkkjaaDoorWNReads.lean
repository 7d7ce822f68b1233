/- The walk of NatReads at the landed code. -/
import Derived.Test.YtlmigbfpdbkkjaaDoorCNReads
import Derived.Test.YtlmigbfpdbkkjaaDoorNF
namespace Go.Proofs.YtlmigbfpdbkkjaaDoor
open Go.RowKit

theorem reads_any (va vb : Value) (l m : List Nat) (w : World) (h : Lm w va l) (h' : Lm w vb m) (hl : l.length ≤ 9223372036854775807) (hl' : m.length ≤ 9223372036854775807) :
    Calls Tryd.prog 8 #[va, vb] w fun e w' => e = .returned (.bool true) ∧ Below w.heap.size w w' := by
  have C := natc
  obtain ⟨ra, fa, ka⟩ := Nt.num_ok h.fit 200 (by omega)
  obtain ⟨rb, fb, kb⟩ := Nt.num_ok h'.fit 200 (by omega)
  obtain ⟨A, hA⟩ : ∃ A, Nt.num l 200 = A := ⟨_, rfl⟩
  obtain ⟨D, hD⟩ : ∃ D, Nt.num m 200 = D := ⟨_, rfl⟩
  have NA := Lib.hid (numc 200 (by omega) va l w h hl hA (x := 200) rfl)
  have NB := Lib.hid (numc 200 (by omega) vb m w h' hl' hD (x := 200) rfl)
  rw [hA] at ra fa ka
  rw [hD] at rb fb kb
  obtain ⟨x, hx⟩ : ∃ x, x = Nt.val A := ⟨_, rfl⟩
  obtain ⟨y, hy⟩ : ∃ y, y = Nt.val D := ⟨_, rfl⟩
  have xT : x < Nt.top := by rw [hx]; exact Nt.val_top fa ra
  have tenT : x * 10 < Nt.top := by
    obtain ⟨k, hk⟩ : ∃ k, k = 1024 := ⟨_, rfl⟩
    have h1 : x < Nt.B ^ A.length := by rw [hx]; exact Nt.val_lt fa
    rw [Nt.top_pow hk]
    have h2 := Nat.mul_lt_mul_of_pos_right h1 (show 0 < 10 by decide)
    have h3 : Nt.B ^ A.length * 10 ≤ Nt.B ^ A.length * Nt.B := Nat.mul_le_mul_left _ (by decide)
    rw [← Nat.pow_succ] at h3
    exact Nat.lt_of_lt_of_le h2 (Nat.le_trans h3 (Nat.pow_le_pow_right Nt.B_pos (by omega)))
  have SL : (Nt.txt x).length ≤ 9865 := by
    obtain ⟨k, hk⟩ : ∃ k, k = 9865 := ⟨_, rfl⟩
    rw [← hk]
    exact txt_short (Nat.lt_of_lt_of_le xT (Nt.top_le hk)) (by omega)
  have T1 := Lib.hid (textc (s := Nt.txt x) ra (by rw [hx]))
  have T2 := Lib.hid (textc (s := Nt.txt y) rb (by rw [hy]))
  have RD := Lib.hid (readc (s := Nt.txt x) (n := x) (r := A) rfl xT SL (by rw [hx]; exact Nt.dig_of fa ra))
  have em : Nt.mulR A (Nt.dig 10) = (Nt.dig (x * 10), 0) := by
    have := Nt.mul_ok (l := A) (m := Nt.dig 10) ra (Nt.rg_yes (small_top (by decide))) (by rw [Nt.val_dig, ← hx]; exact tenT)
    rw [Nt.val_dig, ← hx] at this; exact this
  have FM := Lib.hid (mulc C em)
  have T3 := Lib.hid (textc (l := Nt.dig (x * 10)) (s := Nt.txt (x * 10)) (Nt.rg_yes tenT) (by rw [Nt.val_dig]))
  have SM := Lib.hid (samec (l := A) (by omega))
  have LS := fun b (e : decide (x < y) = b) => Lib.hid (lessc (b := b) ra rb (by rw [← hx, ← hy]; exact e))
  have az : A = [] ↔ x = 0 := by rw [hx]; exact (Nt.val_zero fa ra).symm
  by_cases z : x = 0
  · have eS : Nt.txt x = [48] := by rw [z]; rfl
    have eU : Nt.txt (x * 10) = [48] := by rw [z]; rfl
    by_cases c1 : (Nt.txt x).length < (Nt.txt y).length
    · exact reads_zero_lt va vb w A D _ _ _ (x * 10) true (az.2 z) eS eU c1 rfl NA NB T1 T2 RD FM T3 SM (LS true (by rw [Nt.txt_long (by omega)]; exact decide_eq_true c1))
    · by_cases c2 : (Nt.txt y).length < (Nt.txt x).length
      · exact reads_zero_gt va vb w A D _ _ _ (x * 10) false (az.2 z) eS eU c2 rfl NA NB T1 T2 RD FM T3 SM (LS false (by rw [Nt.txt_long (by omega)]; exact decide_eq_false c1))
      · exact reads_zero_eq va vb w A D _ _ _ (x * 10) _ (az.2 z) eS eU (by omega) (Nt.txt_less (by omega)) NA NB T1 T2 RD FM T3 SM (LS _ rfl)
  · have hN : 0 < A.length := List.length_pos_iff.2 (fun e => z (az.1 e))
    have eU : Nt.txt (x * 10) = Nt.txt x ++ [48] := Nt.txt_ten z
    by_cases c1 : (Nt.txt x).length < (Nt.txt y).length
    · exact reads_some_lt va vb w A D _ _ _ (x * 10) true A.length (Lib.hid rfl) hN eU SL c1 rfl NA NB T1 T2 RD FM T3 SM (LS true (by rw [Nt.txt_long (by omega)]; exact decide_eq_true c1))
    · by_cases c2 : (Nt.txt y).length < (Nt.txt x).length
      · exact reads_some_gt va vb w A D _ _ _ (x * 10) false A.length (Lib.hid rfl) hN eU SL c2 rfl NA NB T1 T2 RD FM T3 SM (LS false (by rw [Nt.txt_long (by omega)]; exact decide_eq_false c1))
      · exact reads_some_eq va vb w A D _ _ _ (x * 10) _ A.length (Lib.hid rfl) hN eU SL (by omega) (Nt.txt_less (by omega)) NA NB T1 T2 RD FM T3 SM (LS _ rfl)
theorem walk_natReads (W : World) (_ : True) (a0 : Option Addr) (n0 c0 : Nat) (z0 : List Int) (h0 : IsRow .u32 W a0 n0 c0 z0) (a1 : Option Addr) (n1 c1 : Nat) (z1 : List Int) (h1 : IsRow .u32 W a1 n1 c1 z1) :
    Calls Tryd.prog 8 #[.slice a0 n0 c0, .slice a1 n1 c1] W fun e w' => e = .returned (.bool true) ∧ Below W.heap.size W w' := by
  obtain ⟨l, hl, kl⟩ := lm_of h0
  obtain ⟨m, hm, km⟩ := lm_of h1
  exact reads_any _ _ l m W hl hm kl km
end Go.Proofs.YtlmigbfpdbkkjaaDoor
