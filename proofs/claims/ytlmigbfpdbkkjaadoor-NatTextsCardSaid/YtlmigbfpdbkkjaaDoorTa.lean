/- Contract of Text. -/
import Derived.Test.YtlmigbfpdbkkjaaDoorNr
import Derived.Test.YtlmigbfpdbkkjaaDoorTt
import Derived.Laws.IdiomStrings
namespace Go.Proofs.YtlmigbfpdbkkjaaDoor
open Go.RowKit

def isZ : Value → Bool
  | .int .u8 n => n == 0
  | _ => false
/-- Whether a list has so many zeros, and nothing else. -/
def allZ : List Value → Nat → Bool
  | [], n => n == 0
  | v :: l, n => match n with
    | 0 => false
    | n + 1 => match isZ v with
      | true => allZ l n
      | false => false
def zeroOk : Option TypeInfo → Bool
  | some i => i.size == 9873 && match i.zero with
    | some (.agg cs) => allZ cs.toList 9873
    | _ => false
  | none => false
theorem z69 : zeroOk (Tryd.prog.info? 69) = true := by kernel_rfl
theorem allZ_all : ∀ (l : List Value) (n : Nat), allZ l n = true → l.length = n ∧ ∀ v ∈ l, v = .int .u8 0 := by
  intro l
  induction l with
  | nil => intro n h; refine ⟨?_, fun v hv => absurd hv List.not_mem_nil⟩; have : n = 0 := by simpa [allZ] using h
           rw [this]; rfl
  | cons v l ih =>
    intro n h
    cases n with
    | zero => simp [allZ] at h
    | succ n =>
      unfold allZ at h
      cases hv : isZ v with
      | false => rw [hv] at h; simp at h
      | true =>
        rw [hv] at h
        obtain ⟨i1, i2⟩ := ih n h
        refine ⟨by rw [List.length_cons, i1], fun u hu => ?_⟩
        rcases List.mem_cons.1 hu with rfl | hu
        · unfold isZ at hv
          split at hv
          · rw [beq_iff_eq.1 hv]
          · cases hv
        · exact i2 u hu
/-- What is laid for the digits. -/
theorem zeros_exist : ∃ (i : TypeInfo) (Z : Array Value), Tryd.prog.info? 69 = some i ∧ i.zero = some (.agg Z) ∧ i.size = 9873 ∧ Z.size = 9873 ∧ ∀ j, j < 9873 → Z[j]? = some (.int .u8 0) := by
  have h := z69
  revert h
  generalize Tryd.prog.info? 69 = o
  intro h
  cases o with
  | none => simp [zeroOk] at h
  | some i =>
    unfold zeroOk at h
    simp only [Bool.and_eq_true] at h
    obtain ⟨h1, h2⟩ := h
    cases hz : i.zero with
    | none => rw [hz] at h2; simp at h2
    | some v =>
      rw [hz] at h2
      cases v with
      | agg Z =>
        obtain ⟨l1, l2⟩ := allZ_all _ _ h2
        refine ⟨i, Z, rfl, hz, beq_iff_eq.1 h1, by rw [← Array.length_toList]; exact l1, fun j hj => ?_⟩
        rw [← Array.getElem?_toList, List.getElem?_eq_getElem (by rw [l1]; exact hj)]
        rw [l2 _ (List.getElem_mem _)]
      | _ => simp at h2
/-- A block whose first cells are bytes. -/
def Rb (w : World) (p : Nat) (L : List UInt8) : Prop := ∃ (cur : Array Value) (t : TypeId), w.heap[p]? = some (.cells cur t (0, 0)) ∧ ∀ j, j < L.length → cur[j]? = some (.int .u8 ((L.getD j 0).toNat : Nat))
theorem Rb.lt {w : World} {p : Nat} {L : List UInt8} (h : Rb w p L) : p < w.heap.size := by
  obtain ⟨cur, t, hg, _⟩ := h
  exact (Array.getElem?_eq_some_iff.1 hg).1
theorem Rb.cell {w : World} {p : Nat} {L : List UInt8} (h : Rb w p L) {j : Nat} (hj : j < L.length) : w.cell? ⟨p, j, none⟩ = some (.int .u8 ((L.getD j 0).toNat : Nat)) := by
  obtain ⟨cur, t, hg, hc⟩ := h
  rw [cell_of_row w p j cur t (0, 0) hg, hc j hj]
theorem Rb.free {w : World} {p : Nat} {L : List UInt8} (h : Rb w p L) (j : Nat) : w.frozen? ⟨p, j, none⟩ = false := by
  obtain ⟨cur, t, hg, hc⟩ := h
  simp [World.frozen?, hg]
theorem Rb.put {w : World} {p : Nat} {L : List UInt8} (h : Rb w p L) (j : Nat) (y : UInt8) (z : Nat) (hz : z = y.toNat) : Rb (w.setCell ⟨p, j, none⟩ (.int .u8 (z : Nat))) p (L.set j y) := by
  subst hz
  obtain ⟨cur, t, hg, hc⟩ := h
  refine ⟨cur.setIfInBounds j (.int .u8 (y.toNat : Nat)), t, heap_setCell_same w p j cur t _ hg, fun i hi => ?_⟩
  rw [List.length_set] at hi
  have := hc i hi
  by_cases e : i = j
  · subst e
    have hs : i < cur.size := (Array.getElem?_eq_some_iff.1 this).1
    rw [List.getD_eq_getElem?_getD, List.getElem?_set_self hi]
    simp [hs]
  · rw [List.getD_eq_getElem?_getD, List.getElem?_set_ne (by omega), ← List.getD_eq_getElem?_getD, ← this]
    simp [Array.getElem?_setIfInBounds]
    intro e2; exact absurd e2.symm e
theorem Rb.sv {g p : Nat} {w w' : World} {L : List UInt8} (h : Rb w p L) (k : Sv g w w') (hp : p ≠ g) : Rb w' p L := by
  have hlt := h.lt
  obtain ⟨cur, t, hg, hc⟩ := h
  exact ⟨cur, t, (k.block p hlt hp).trans hg, hc⟩
/-- The state of Text's loops: so many digits are written. -/
structure TxI (V p g : Nat) (w wr : World) (lc : List Nat) (m : Nat) (L : List UInt8) : Prop where
  dig : lc = Nt.dig (V / 10 ^ m)
  len : L.length = 9873
  eq : L.drop (9873 - m) = Nt.dgs m V
  row : Rw wr g lc
  byt : Rb wr p L
  ne : p ≠ g
  pb : w.heap.size ≤ p
  gb : w.heap.size ≤ g
  bel : Below w.heap.size w wr
/-- Within a group. -/
structure TyI (V p g : Nat) (w wr : World) (lc : List Nat) (m j : Nat) (L : List UInt8) : Prop where
  row : Rw wr g lc
  len : L.length = 9873
  eq : L.drop (9873 - (m + j)) = Nt.dgs (m + j) V
  byt : Rb wr p L
  ne : p ≠ g
  pb : w.heap.size ≤ p
  gb : w.heap.size ≤ g
  bel : Below w.heap.size w wr
theorem TyI.next {V p g : Nat} {w wr : World} {lc : List Nat} {m j f z : Nat} {L : List UInt8} (h : TyI V p g w wr lc m j L) (hf : f + 1 + (m + j) = 9873) (hz : z = 48 + V / 10 ^ (m + j) % 10) :
    TyI V p g w (wr.setCell ⟨p, f, none⟩ (.int .u8 (z : Nat))) lc m (j + 1) (L.set f (Nt.dby (V / 10 ^ (m + j) % 10))) := by
  have s := Sv.set wr ⟨p, f, none⟩ (.int .u8 (z : Nat))
  refine ⟨s.rw (fun e => h.ne e.symm) h.row, by rw [List.length_set]; exact h.len, ?_, h.byt.put f _ z (by rw [Nt.dby_nat (Nat.mod_lt _ (by decide)), hz]), h.ne, h.pb, h.gb, Sv.below h.bel s h.pb h.bel.size⟩
  have e := h.eq
  rw [show 9873 - (m + j) = f + 1 by omega] at e
  rw [show 9873 - (m + (j + 1)) = f by omega, Nt.drop_set _ _ _ (by rw [h.len]; omega), e, ← Nt.dgs_next]
  rfl
theorem slice_digits (wr : World) (p F : Nat) (h : F < 9873) : (Instr.sliceAt 69 (.pointer (some ⟨p, 0, none⟩)) (some (.int .i64 (F : Nat))) none none).run Tryd.prog wr = .ok (.slice (some ⟨p, F, none⟩) (9873 - F) (9873 - F)) wr := by
  have al : Tryd.prog.arrayLen 69 = 9873 := by kernel_rfl
  have el : Tryd.prog.elem 69 = 5 := by kernel_rfl
  have hu : Tryd.prog.underlying 69 = some (.array (Tryd.prog.arrayLen 69) (Tryd.prog.elem 69)) := by rw [al, el]; exact Tryd.underlying69
  have := run_sliceAt_array_l wr 69 ⟨p, 0, none⟩ hu .i64 (F : Nat) (Int.natCast_nonneg _) (by rw [al]; omega)
  rw [this, el, Tryd.sizeOf5, al]
  show Result.ok (slicedAt ⟨p, 0, none⟩ (F : Int).toNat 9873 9873 1) wr = _
  rw [Int.toNat_natCast]
  unfold slicedAt
  rw [if_neg (by omega), Nat.mul_one, Go.WideShapes.add_plain, Nat.zero_add]
set_option maxRecDepth 100000 in
set_option maxHeartbeats 3200000 in
theorem text_yes (a : Option Addr) (n c : Nat) (l : List Nat) (w : World) (LV : Hid (Lm w (.slice a n c) l)) (hn : n = l.length) (n0 : n ≠ 0) (hrl : Nt.rg l = true) :
    Calls Tryd.prog 25 #[.slice a n c] w fun e w' => e = .returned (.tuple #[.string ⟨(Nt.txt (Nt.val l)).toArray⟩, .int .i64 0]) ∧ Below w.heap.size w w' := by
  have hf := LV.out.fit
  have R := Lib.hid (right_b3 _ l true w LV.out hrl)
  obtain ⟨i, Z, z1, z2, z3, z4, z5⟩ := zeros_exist
  have ZV : ∀ w, (zeroValue 69).run Tryd.prog w = .ok (.agg Z) w := fun w => by simp [zeroValue, typeInfo, z1, z2]
  have NB : ((n : Int) == 0) = false := by rw [beq_eq_false_iff_ne]; omega
  have nl : n ≤ 1024 := by rw [hn]; exact ((Nt.rg_iff l).1 hrl).1
  obtain ⟨V, hV⟩ : ∃ V, V = Nt.val l := ⟨_, rfl⟩
  have VT : Hid (V < Nt.top) := by show _ < _; rw [hV]; exact Nt.val_top hf hrl
  have V0 : Hid (V ≠ 0) := by show V ≠ 0; rw [hV]; exact fun e => n0 (by rw [hn, (Nt.val_zero hf hrl).1 e]; rfl)
  have DL : Hid (l = Nt.dig V) := by show _ = _; rw [hV]; exact (Nt.dig_of hf hrl).symm
  obtain ⟨p, hp⟩ : ∃ p, p = w.heap.size := ⟨_, rfl⟩
  obtain ⟨W1, hW1⟩ : ∃ W1, W1 = w.alloc (.cells Z 69) := ⟨_, rfl⟩
  have s1 : W1.heap.size = w.heap.size + 1 := by rw [hW1]; simp
  have B1 : Below w.heap.size w W1 := by rw [hW1]; exact (Below.refl _ w).alloc (Nat.le_refl _) _
  have RB1 : Rb W1 p (List.replicate 9873 0) := by
    rw [hW1, hp]
    refine ⟨Z, _, heap_alloc_new w _, fun j hj => ?_⟩
    rw [List.length_replicate] at hj
    rw [z5 j hj, List.getD_eq_getElem?_getD, List.getElem?_replicate, if_pos hj]
    rfl
  have CA : Hid (Calls Tryd.prog 32 #[.slice a n c] W1 fun e w' => ∃ g c2, e = .returned (.slice (some ⟨g, 0, none⟩) n c2) ∧ n ≤ c2 ∧ Hid (TxI V p g w w' l 0 (List.replicate 9873 0))) := by
    show Calls _ _ _ _ _
    refine (clone_any _ l W1 (LV.out.below B1) (by omega)).mono ?_
    rintro e w' ⟨v', rfl, ho, hb⟩
    obtain ⟨g, c2, rfl, hB, hc, hr⟩ := own_rw rfl hf (by omega) ho
    rw [← hn] at hc ⊢
    refine ⟨g, c2, rfl, hc, (?_ : TxI _ _ _ _ _ _ _ _)⟩
    refine ⟨by rw [Nat.pow_zero, Nat.div_one]; exact DL.out, List.length_replicate, by rw [Nat.sub_zero, List.drop_of_length_le (by rw [List.length_replicate]; exact Nat.le_refl _)]; rfl, hr, RB1.sv (Sv.of_below (g := w'.heap.size) hb) (by have := RB1.lt; have := hb.size; omega), by omega, by omega, by omega, B1.trans (hb.mono (by omega))⟩
  rw [hW1] at CA
  have HN := Lib.hid hn
  have CONV : Hid (∀ (wr : World) (f : Nat) (bs : List UInt8) (L : List UInt8), Rb wr p L → L.length = 9873 → L.drop f = bs → f + bs.length = 9873 → (convert 71 9 (.slice (some ⟨p, f, none⟩) (9873 - f) (9873 - f))).run Tryd.prog wr = .ok (.string ⟨bs.toArray⟩) wr) := by
    intro wr f bs L hb hL hd hlen
    have e : 9873 - f = bs.length := by omega
    rw [e]
    refine run_convert_bytes_back wr _ _ 5 ⟨p, f, none⟩ _ bs Tryd.underlying71 Tryd.underlying5 Tryd.underlying9 fun j hj => ?_
    rw [Go.WideShapes.add_plain, hb.cell (by omega)]
    congr 3
    rw [List.getD_eq_getElem?_getD, ← List.getElem?_drop, hd, List.getElem?_eq_getElem hj]
    rfl
  have HP := Lib.hid hp
  have HV := Lib.hid hV
  clear hrl hn hW1 s1 B1 RB1 hp hV hf z1 z2 z3 z4 z5
  go_enter Tryd.func25, Tryd.ntmps25
  go_wp2_with (first
    | (go_at_call 18; with_reducible refine R.out.mono ?_; rintro e w2 ⟨rfl, rfl⟩)
    | (go_at_call 32; with_reducible refine CA.out.mono ?_; rintro e w2 ⟨g, c2, rfl, hc2, J0⟩))
  rw [← HP.out]
  go_loopw [5, 6] (fun fv lv wr => ∃ (r F : Nat) (lc : List Nat) (L : List UInt8), F ≤ 9873 ∧ lc.length ≤ n ∧ fv = .int .i64 (F : Nat) ∧ lv = .slice (some ⟨g, 0, none⟩) lc.length c2 ∧ Hid (F + 9 * r = 9873) ∧ Hid (TxI V p g w wr lc (9 * r) L)) (fun fv _ _ => (intOf fv + 1).toNat)
  case atStart => exact ⟨0, 9873, l, _, Nat.le_refl _, by have := HN.out; omega, rfl, by rw [← HN.out], (show 9873 + 9 * 0 = 9873 by rfl), J0⟩
  case round =>
    clear J0 CA
    obtain ⟨r, F, lc, L, hF, hk, rfl, rfl, FE, J⟩ := hrel
    obtain ⟨k, hkk⟩ : ∃ k, k = lc.length := ⟨_, rfl⟩
    rw [← hkk] at hk ⊢
    obtain ⟨X, hX⟩ : ∃ X, X = V / 10 ^ (9 * r) := ⟨_, rfl⟩
    have DX := J.out.dig
    rw [← hX] at DX
    by_cases hk0 : k = 0
    · subst hk0
      have X0 : X = 0 := by
        have := Nt.val_dig X
        rw [← DX, List.eq_nil_of_length_eq_zero hkk.symm] at this
        exact this.symm
      have VL : V < 10 ^ (9 * r) := by
        rw [hX] at X0
        exact (Nat.div_eq_zero_iff.1 X0).resolve_left (Nat.ne_of_gt (Nat.pow_pos (by decide)))
      have CV := CONV.out wr F (Nt.dgs (9 * r) V) L J.out.byt J.out.len (by rw [← J.out.eq]; congr 1; have := FE.out; omega) (by rw [Nt.dgs_len]; exact FE.out)
      have TL : Hid (Calls Tryd.prog 45 #[.string ⟨(Nt.dgs (9 * r) V).toArray⟩, .string ⟨#[48]⟩] wr fun e w' => e = .returned (.string ⟨(Nt.txt V).toArray⟩) ∧ w' = wr) := by
        show Calls _ _ _ _ _
        have := Tryd.strings_TrimLeft_one ⟨(Nt.dgs (9 * r) V).toArray⟩ 48 (by decide) wr
        rw [show (⟨(Nt.dgs (9 * r) V).toArray⟩ : ByteArray).data.toList = Nt.dgs (9 * r) V by simp, Nt.trim_dgs V0.out VL] at this
        exact this
      have HB := Lib.hid J.out.bel
      have r0 : F < 9873 := by
        have := FE.out
        refine Nat.lt_of_not_le fun c => V0.out ?_
        have : r = 0 := by omega
        subst this
        rw [Nat.mul_zero, Nat.pow_zero] at VL
        omega
      have SA := slice_digits wr p F r0
      clear hkk hX DX X0 VL
      go_wp2_with (go_at_call 45; with_reducible refine TL.out.mono ?_; rintro e w3 ⟨rfl, rfl⟩)
      go_ret2
      rw [← HV.out]
      exact ⟨rfl, HB.out⟩
    · have XV : Nt.val lc = X := by rw [DX]; exact Nt.val_dig X
      have X0 : V / 10 ^ (9 * r) ≠ 0 := by
        rw [← hX]
        intro e
        rw [e] at DX
        rw [DX] at hkk
        exact hk0 hkk
      have RM := Nt.room VT.out X0
      have SHR : Hid (Calls Tryd.prog 36 #[.slice (some ⟨g, 0, none⟩) k c2, .int .u32 1000000000] wr fun e w' => ∃ (rl : List Nat) (T : Nat), e = .returned (.int .u32 (T : Nat)) ∧ Hid (T = X % 1000000000) ∧ Hid (rl.length = k ∧ Nt.val rl = X / 1000000000 ∧ TyI V p g w w' rl (9 * r) 0 L)) := by
        show Calls _ _ _ _ _
        refine (shrink_any g k c2 1000000000 lc wr J.out.row hkk (by omega) (by omega) (by decide) (by decide)).mono ?_
        rintro e w' ⟨rl, rem, rfl, r1, r2, r3, r4, r5, r6⟩
        rw [XV] at r3
        have e1 : X % 1000000000 = rem := by rw [r3, Nat.mul_add_mod, Nat.mod_eq_of_lt r4]
        have e2 : X / 1000000000 = Nt.val rl := by rw [r3, Nat.mul_add_div (by decide), Nat.div_eq_of_lt r4, Nat.add_zero]
        refine ⟨rl, rem, rfl, e1.symm, (⟨r1, e2.symm, ?_⟩ : _ ∧ _ ∧ _)⟩
        exact ⟨r5, J.out.len, by rw [Nat.add_zero]; exact J.out.eq, J.out.byt.sv r6 J.out.ne, J.out.ne, J.out.pb, J.out.gb, Sv.below J.out.bel r6 J.out.gb J.out.bel.size⟩
      have HX := Lib.hid hX
      have HR := Lib.hid RM
      clear hkk hX DX X0 XV RM J
      go_wp2_with (go_at_call 36; with_reducible refine SHR.out.mono ?_; rintro e w3 ⟨rl, T0, rfl, HT0, Y0⟩)
      obtain ⟨wo, hwo⟩ : ∃ x, x = w3 := ⟨_, rfl⟩
      go_loopw [5, 7, 23] (fun fv tv jv wr => ∃ (j F T : Nat) (L : List UInt8), j ≤ 9 ∧ F ≤ 9873 ∧ T < 4294967296 ∧ jv = .int .i64 (j : Nat) ∧ fv = .int .i64 (F : Nat) ∧ tv = .int .u32 (T : Nat) ∧ Hid (F + (9 * r + j) = 9873) ∧ Hid (T = X % 1000000000 / 10 ^ j) ∧ Hid (TyI V p g w wr rl (9 * r) j L)) (fun _ _ jv _ => 10 - (intOf jv).toNat)
      case atStart => exact ⟨0, F, T0, L, by decide, hF, by rw [HT0.out]; exact Nat.lt_trans (Nat.mod_lt _ (by decide)) (by decide), rfl, rfl, rfl, (by have := FE.out; exact (show F + (9 * r + 0) = 9873 by omega)), (show T0 = X % 1000000000 / 10 ^ 0 by rw [Nat.pow_zero, Nat.div_one]; exact HT0.out), Y0.out.2.2⟩
      case round =>
        clear SHR
        obtain ⟨j, F', T, L', hj, hF', hT, rfl, rfl, rfl, FE', TE, Y⟩ := hrel
        by_cases hj9 : j = 9
        · subst hj9
          have RL := Y0.out.1
          have TRI : Hid (Calls Tryd.prog 37 #[.slice (some ⟨g, 0, none⟩) k c2] wr fun e w' => ∃ (lc' : List Nat), e = .returned (.slice (some ⟨g, 0, none⟩) lc'.length c2) ∧ lc'.length ≤ n ∧ Hid (TxI V p g w w' lc' (9 * (r + 1)) L')) := by
            show Calls _ _ _ _ _
            have L9 := Y.out.row.lm (c := c2) (by omega)
            rw [RL] at L9
            refine (trimmed_any _ rl wr L9 (by omega)).mono ?_
            rintro e w' ⟨a1, k1, c1, e1, rfl, hk1, ht, hq⟩
            obtain ⟨rfl, -, rfl⟩ := Value.slice.inj e1
            have el : (rl.take k1).length = k1 := by rw [List.length_take]; omega
            refine ⟨rl.take k1, by rw [el], by omega, (?_ : TxI _ _ _ _ _ _ _ _)⟩
            have hb := hq.bl
            refine ⟨?_, Y.out.len, ?_, (Y.out.row.take k1).quiet hb, Y.out.byt.sv (Sv.of_below (g := w'.heap.size) hb) (by have := Y.out.byt.lt; have := hb.size; omega), Y.out.ne, Y.out.pb, Y.out.gb, Y.out.bel.trans (hb.mono Y.out.bel.size)⟩
            · rw [ht, Y0.out.2.1, HX.out, Nt.group_all]
              congr 2
            · have := Y.out.eq
              rw [show 9 * (r + 1) = 9 * r + 9 by omega]; exact this
          have FE2 : Hid (F' + 9 * (r + 1) = 9873) := by have := FE'.out; show F' + 9 * (r + 1) = 9873; omega
          have HLT : F' < F := by have := FE'.out; have := FE.out; omega
          clear RL
          go_wp2_with (go_at_call 37; with_reducible refine TRI.out.mono ?_; rintro e w4 ⟨lc', rfl, hlc, J4⟩)
          go_roundw
          case rel => exact ⟨r + 1, F', lc', L', hF', hlc, rfl, rfl, FE2, J4⟩
          case measure => simp [intOf]; omega
        · have f0 : 0 < F' := by have := FE'.out; have := HR.out; omega
          obtain ⟨f, rfl⟩ : ∃ f, F' = f + 1 := ⟨F' - 1, by omega⟩
          have C1 := Y.out.byt.cell (j := f) (by have := Y.out.len; omega)
          have F1 := Y.out.byt.free f
          obtain ⟨D, hD⟩ : ∃ D, D = T % 10 := ⟨_, rfl⟩
          obtain ⟨T', hT'⟩ : ∃ T', T' = T / 10 := ⟨_, rfl⟩
          have D10 : D < 10 := by omega
          have E1 : (T : Int) % 10 = (D : Int) := by omega
          have E2 : (T : Int) / 10 = (T' : Int) := by omega
          have DV : D = V / 10 ^ (9 * r + j) % 10 := by
            rw [hD, TE.out, Nt.group_digit _ _ (by omega), HX.out, Nt.digit_at]
          have NX : Hid (TyI V p g w (wr.setCell ⟨p, f, none⟩ (.int .u8 (48 + (D : Int)))) rl (9 * r) (j + 1) (L'.set f (Nt.dby (V / 10 ^ (9 * r + j) % 10)))) := by
            have := Y.out.next (f := f) (z := 48 + D) FE'.out (by rw [DV])
            rw [Int.natCast_add] at this
            exact this
          have TE2 : Hid (T' = X % 1000000000 / 10 ^ (j + 1)) := by show _ = _; rw [hT', TE.out, Nt.group_next]
          have FE2 : Hid (f + (9 * r + (j + 1)) = 9873) := by have := FE'.out; show f + (9 * r + (j + 1)) = 9873; omega
          have T'B : T' < 4294967296 := by omega
          obtain ⟨b0, hb0⟩ : ∃ b0 : Int, b0 = ((L'.getD f 0).toNat : Nat) := ⟨_, rfl⟩
          rw [← hb0] at C1
          clear hD hT' DV hb0
          go_wp2
          go_roundw
          case rel => exact ⟨j + 1, f, T', _, by omega, by omega, T'B, by go_num, by go_num, by go_num, FE2, TE2, NX⟩
          case measure => simp [intOf]; omega
end Go.Proofs.YtlmigbfpdbkkjaaDoor
