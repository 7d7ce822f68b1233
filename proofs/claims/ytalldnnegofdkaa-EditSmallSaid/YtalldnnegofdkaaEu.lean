/- The contract of begin. -/
import Derived.Test.YtalldnnegofdkaaEp
import Derived.Deep.RegionWith
import Derived.Deep.RegionHeld3
import Derived.Deep.DeepCutAuto
namespace Go.Proofs.Ytalldnnegofdkaa
open Go.RowKit Go.Shelf

theorem rk_inv0 {v : Value} {ps : List MemPlace} (h : Rk v = some (num 0, ps)) : v = sv0 := by
  unfold Rk at h
  repeat' split at h
  all_goals first
    | assumption
    | (exfalso; simp at h; done)
theorem dk_zero (x : Int) (h : x < 1 ∨ 5 < x) : Dk.atKey (.int .u8 x) (num 0) = num 0 := Go.Maps.atKey_of_not_has (dk_no x h) _
theorem wf_b {k : Nat} (hk : k ≤ 255) : (Lit.int .u8 (k : Int)).wf = true := by
  simp [Lit.wf, IntKind.min, IntKind.max, IntKind.signed, IntKind.bits]
  omega
theorem table_ok {w : World} {b k : Nat} (h : Tm w b) (hk : 1 ≤ k ∧ k ≤ 5) : (Instr.lookup 79 (.map (some b)) (.int .u8 (k : Int)) true).run Try.prog w = .ok (.tuple #[sv k, .bool true]) w := by
  obtain ⟨v, ps, h1, h2⟩ := h.look_ok keyU8 Try.underlying79 (zeroK w) rk_0 (Go.Maps.keyOf_int_mk Try.underlying5 (wf_k hk))
  rw [(dk_yes k hk).2] at h2
  rw [h1, rk_inv hk h2, (dk_yes k hk).1]
theorem table_no {w : World} {b k : Nat} (h : Tm w b) (hb : k ≤ 255) (hk : ¬ (1 ≤ k ∧ k ≤ 5)) : (Instr.lookup 79 (.map (some b)) (.int .u8 (k : Int)) true).run Try.prog w = .ok (.tuple #[sv0, .bool false]) w := by
  obtain ⟨v, ps, h1, h2⟩ := h.look_ok keyU8 Try.underlying79 (zeroK w) rk_0 (Go.Maps.keyOf_int_mk Try.underlying5 (wf_b hb))
  rw [dk_zero k (by omega)] at h2
  rw [h1, rk_inv0 h2, dk_no k (by omega)]
theorem Ed.wn_len {k : Nat} (hk : 1 ≤ k ∧ k ≤ 5) {t : Ed.Bs} {b : UInt8} (h : t.length = Ed.tk k) : (Ed.wn k t b).length = Ed.wr k := by
  rcases kind5 hk with rfl | rfl | rfl | rfl | rfl
  · exact h
  · rfl
  · match t, h with
    | [x, y], _ => rfl
  · rfl
  · rfl
/-- A step in a box. -/
structure Bxo (W : World) (B : Nat) (o : Ed.Op) : Prop where
  y0 : W.cell? ⟨B, 0, none⟩ = some (.int .u8 (o.k : Nat))
  y1 : W.cell? ⟨B, 1, none⟩ = some (.int .u8 (o.b.toNat : Nat))
theorem Bxo.made (w : World) (o : Ed.Op) (t : TypeId) : Bxo (w.alloc (.cells #[.int .u8 (o.k : Nat), .int .u8 (o.b.toNat : Nat)] t)) w.heap.size o := ⟨cell_at _ _ _ 0 _ _ rfl rfl, cell_at _ _ _ 1 _ _ rfl rfl⟩
theorem Bxo.below {W W' : World} {B : Nat} {o : Ed.Op} (h : Bxo W B o) (b : Below W.heap.size W W') : Bxo W' B o := ⟨below_cell b h.y0, below_cell b h.y1⟩
/-- What begin answers. -/
def Began (o : Ed.Op) (s : Ed.Bs) (e : Ending) : Prop :=
  match Ed.bg o s with
  | some (u, r) => e = .returned (.tuple #[sb u, sb r, .bool true])
  | none => ∃ x y, e = .returned (.tuple #[.string x, .string y, .bool false])
set_option maxRecDepth 100000 in
set_option maxHeartbeats 3200000 in
theorem begin_any (o : Ed.Op) (ho : o.k ≤ 255) (s : Ed.Bs) (_hs : s.length ≤ 1000) (mb : Nat) (w : World) (hT : Tm w mb) :
    Calls Try.prog 39 #[.agg #[.int .u8 (o.k : Nat), .int .u8 (o.b.toNat : Nat)], .map (some mb), sb s] w fun e w' => Began o s e ∧ Below w.heap.size w w' := by
  have b0 : Below w.heap.size w (w.alloc (.cells #[.int .u8 (o.k : Nat), .int .u8 (o.b.toNat : Nat)] 40)) := (Below.refl _ _).alloc (Nat.le_refl _) _
  have T1 := hT.keep (b0.block mb (World.ownsMap.lt hT))
  obtain ⟨a, hxa⟩ : ∃ a : ByteArray, a = ⟨s.toArray⟩ := ⟨_, rfl⟩
  have LA : a.size = s.length := by rw [hxa]; exact Ed.size_is s
  have e1 : sb s = .string a := by rw [hxa]
  rw [e1]
  have HXA := Lib.hid hxa
  have HLA := Lib.hid LA
  clear hxa e1
  by_cases hk : 1 ≤ o.k ∧ o.k ≤ 5
  · have TB := table_ok T1 hk
    obtain ⟨t, ht⟩ : ∃ t, t = Ed.tk o.k := ⟨_, rfl⟩
    obtain ⟨r, hr⟩ : ∃ r, r = Ed.wr o.k := ⟨_, rfl⟩
    have SK : sv o.k = .agg #[.int .i64 t, .int .i64 r, fv (fcost o.k), fv (fdoes o.k), fv (ffits o.k)] := by rw [ht, hr]; rfl
    have t2 : t ≤ 2 := by rw [ht]; exact Ed.tk_le o.k
    rw [SK] at TB
    have HT := Lib.hid ht
    have HR := Lib.hid hr
    clear ht hr SK T1 hT LA
    by_cases hts : t ≤ a.size
    · have DO : Hid (∀ w, Calls Try.prog (fdoes o.k) #[.string (a.extract 0 t), .int .u8 (o.b.toNat : Nat)] w fun e w' => e = .returned (sb (Ed.wn o.k (s.take t) o.b)) ∧ Below w.heap.size w w') := by
        intro w
        have X : a.extract 0 t = ⟨(s.take t).toArray⟩ := by rw [Ed.extract_is, HXA.out]; rfl
        rw [X]
        exact does_any o.k hk (s.take t) o.b (by rw [List.length_take]; have := HT.out; have := HLA.out; omega) w
      have ED := enter_does o.k hk
      go_enter Try.func39, Try.ntmps39
      go_upto_region 5 with fail
      have gb : Below w.heap.size w ((w.alloc (.cells #[.int .u8 (o.k : Nat), .int .u8 (o.b.toNat : Nat)] 40)).alloc (.cells #[.int .i64 t, .int .i64 r, fv (fcost o.k), fv (fdoes o.k), fv (ffits o.k)] 92)) := b0.alloc b0.size _
      have s0 : ((w.alloc (.cells #[.int .u8 (o.k : Nat), .int .u8 (o.b.toNat : Nat)] 40)).alloc (.cells #[.int .i64 t, .int .i64 r, fv (fcost o.k), fv (fdoes o.k), fv (ffits o.k)] 92)).cell? ⟨w.heap.size + 1, 0, none⟩ = some (.int .i64 t) := cell_at _ _ _ 0 _ _ (by simp) rfl
      have s3 : ((w.alloc (.cells #[.int .u8 (o.k : Nat), .int .u8 (o.b.toNat : Nat)] 40)).alloc (.cells #[.int .i64 t, .int .i64 r, fv (fcost o.k), fv (fdoes o.k), fv (ffits o.k)] 92)).cell? ⟨w.heap.size + 1, 3, none⟩ = some (fv (fdoes o.k)) := cell_at _ _ _ 3 _ _ (by simp) rfl
      have s4 : ((w.alloc (.cells #[.int .u8 (o.k : Nat), .int .u8 (o.b.toNat : Nat)] 40)).alloc (.cells #[.int .i64 t, .int .i64 r, fv (fcost o.k), fv (fdoes o.k), fv (ffits o.k)] 92)).cell? ⟨w.heap.size + 1, 4, none⟩ = some (fv (ffits o.k)) := cell_at _ _ _ 4 _ _ (by simp) rfl
      have y0 : ((w.alloc (.cells #[.int .u8 (o.k : Nat), .int .u8 (o.b.toNat : Nat)] 40)).alloc (.cells #[.int .i64 t, .int .i64 r, fv (fcost o.k), fv (fdoes o.k), fv (ffits o.k)] 92)).cell? ⟨w.heap.size, 0, none⟩ = some (.int .u8 (o.k : Nat)) := cell_in _ (Bxo.made w o _).y0
      have y1 : ((w.alloc (.cells #[.int .u8 (o.k : Nat), .int .u8 (o.b.toNat : Nat)] 40)).alloc (.cells #[.int .i64 t, .int .i64 r, fv (fcost o.k), fv (fdoes o.k), fv (ffits o.k)] 92)).cell? ⟨w.heap.size, 1, none⟩ = some (.int .u8 (o.b.toNat : Nat)) := cell_in _ (Bxo.made w o _).y1
      obtain ⟨w2, hw2⟩ : ∃ x, x = ((w.alloc (.cells #[.int .u8 (o.k : Nat), .int .u8 (o.b.toNat : Nat)] 40)).alloc (.cells #[.int .i64 t, .int .i64 r, fv (fcost o.k), fv (fdoes o.k), fv (ffits o.k)] 92)) := ⟨_, rfl⟩
      rw [← hw2] at gb s0 s3 s4 y0 y1 ⊢
      clear hw2 b0
      have gb2 : Below w2.heap.size w2 w2 := Below.refl _ _
      go_upto_region 6 with (go_at_fn (fdoes o.k); (with_reducible refine (DO.out _).mono ?_); rintro e w3 ⟨rfl, b5⟩; have s0 := below_cell b5 s0; have s4 := below_cell b5 s4; have y0 := below_cell b5 y0; have y1 := below_cell b5 y1; have gb := gb.trans (b5.mono gb.size); clear b5)
      obtain ⟨u, hu⟩ : ∃ u, u = Ed.wn o.k (s.take t) o.b := ⟨_, rfl⟩
      have lt : (s.take t).length = Ed.tk o.k := by rw [List.length_take]; have := HT.out; have := HLA.out; omega
      have lu : u.length = Ed.wr o.k := by rw [hu]; exact Ed.wn_len hk lt
      have FB : ∀ w, Calls Try.prog (ffits o.k) #[.string (a.extract 0 t), sb u] w fun e w' => e = .returned (.bool (Ed.ft o.k (s.take t) u)) ∧ ∃ q, w' = w.drewN q := by
        intro w
        have X : a.extract 0 t = ⟨(s.take t).toArray⟩ := by rw [Ed.extract_is, HXA.out]; rfl
        rw [X]
        exact fits_any o.k hk (s.take t) u lt lu w
      have EF := enter_fits o.k hk
      have BX : a.extract t a.size = ⟨(s.drop t).toArray⟩ := by
        rw [Ed.extract_is, HXA.out, Ed.size_is]
        show (⟨((s.drop t).take (s.length - t)).toArray⟩ : ByteArray) = _
        rw [List.take_of_length_le (by rw [List.length_drop]; exact Nat.le_refl _)]
      have HBX := Lib.hid BX
      have tz : (t : Int) ≤ a.size := by omega
      have BGE : Ed.bg o s = if Ed.ft o.k (s.take t) u && Ed.opEq o (Ed.opO o.k u) then some (u, s.drop t) else none := by
        unfold Ed.bg
        rw [if_pos ⟨hk, by have := HT.out; have := HLA.out; omega⟩, ← HT.out, ← hu]
      rw [← hu]
      have OP := Lib.hid (opOf_any o.k u (fun h e => by
        rw [e] at lu
        have h2 : Ed.wr o.k = 1 := by rcases h with h | h <;> rw [h] <;> rfl
        rw [h2] at lu; simp at lu))
      clear BX hu lt lu
      cases hf : Ed.ft o.k (s.take t) u with
      | false =>
        rw [hf] at FB BGE
        rw [Bool.false_and, if_neg (by simp)] at BGE
        have HB := Lib.hid BGE
        have FH := Lib.hid FB
        clear FB hf BGE
        go_quiet ((go_at_fn (ffits o.k); exact Calls.quiet_of (FH.out _)))
        go_wp2
        go_ret3
        refine ⟨?_, below_drewN gb _⟩
        unfold Began
        rw [HB.out]
        exact ⟨_, _, rfl⟩
      | true =>
        rw [hf] at FB BGE
        rw [Bool.true_and] at BGE
        have FH : Hid (∀ w, Calls Try.prog (ffits o.k) #[.string (a.extract 0 t), sb u] w fun e w' => e = .returned (.bool true) ∧ Below w.heap.size w w') := fun w => (FB w).mono fun e w' ⟨he, p, hp⟩ => ⟨he, by rw [hp]; exact below_drewN (Below.refl _ _) _⟩
        have HB := Lib.hid BGE
        have og := op_guard
        have nq := fun w => run_eql_op o.k o.b.toNat o.k (Ed.opO o.k u).b.toNat w
        have ei := opEq_is o (Ed.opO o.k u)
        have ek : (Ed.opO o.k u).k = o.k := rfl
        rw [ek] at ei
        rw [ei] at nq
        obtain ⟨v, hv⟩ : ∃ v, v = Ed.opEq o (Ed.opO o.k u) := ⟨_, rfl⟩
        rw [← hv] at nq HB
        clear FB hf BGE ei ek hv
        have s0 : w3.drew.cell? ⟨w.heap.size + 1, 0, none⟩ = some (.int .i64 t) := s0
        have s4 : w3.drew.cell? ⟨w.heap.size + 1, 4, none⟩ = some (fv (ffits o.k)) := s4
        have y0 : w3.drew.cell? ⟨w.heap.size, 0, none⟩ = some (.int .u8 (o.k : Nat)) := y0
        have y1 : w3.drew.cell? ⟨w.heap.size, 1, none⟩ = some (.int .u8 (o.b.toNat : Nat)) := y1
        have gb : Below w.heap.size w w3.drew := gb.drew
        go_region_held3 (fun w' => w'.cell? ⟨w.heap.size + 1, 0, none⟩ = some (.int .i64 t) ∧ w'.cell? ⟨w.heap.size + 1, 4, none⟩ = some (fv (ffits o.k)) ∧ w'.cell? ⟨w.heap.size, 0, none⟩ = some (.int .u8 (o.k : Nat)) ∧ w'.cell? ⟨w.heap.size, 1, none⟩ = some (.int .u8 (o.b.toNat : Nat))) (first | (refine ⟨?_, ?_, ?_, ?_⟩ <;> assumption) | skip)
          (first
            | (go_at_fn (ffits o.k); (with_reducible refine (FH.out _).mono ?_); rintro e w5 ⟨rfl, b5⟩; have s0 := below_cell b5 s0; have s4 := below_cell b5 s4; have y0 := below_cell b5 y0; have y1 := below_cell b5 y1; have gb := gb.trans (b5.mono gb.size); clear b5)
            | (go_at_call 64; (with_reducible refine (OP.out _).mono ?_); rintro e w5 ⟨rfl, b5⟩; have s0 := below_cell b5 s0; have s4 := below_cell b5 s4; have y0 := below_cell b5 y0; have y1 := below_cell b5 y1; have gb := gb.trans (b5.mono gb.size); clear b5))
        go_wp2
        go_ret3
        refine ⟨?_, gb⟩
        unfold Began
        rw [HB.out]
        cases v with
        | false => exact ⟨_, _, rfl⟩
        | true =>
          show Ending.returned (.tuple #[sb u, .string (a.extract t a.size), .bool true]) = .returned (.tuple #[sb u, sb (s.drop t), .bool true])
          rw [HBX.out]
    · have BG : Hid (Ed.bg o s = none) := by
        show _ = _
        unfold Ed.bg
        rw [if_neg (fun h => hts (by have := h.2; have := HT.out; have := HLA.out; omega))]
      go_enter Try.func39, Try.ntmps39
      go_wp2
      go_ret3
      refine ⟨?_, b0.alloc b0.size _⟩
      unfold Began
      rw [BG.out]
      exact ⟨_, _, rfl⟩
  · have BG : Hid (Ed.bg o s = none) := by
      show _ = _
      unfold Ed.bg
      rw [if_neg (fun h => hk h.1)]
    have TB := table_no T1 ho hk
    clear T1 hT LA
    go_enter Try.func39, Try.ntmps39
    go_wp2
    go_ret3
    refine ⟨?_, b0.alloc b0.size _⟩
    unfold Began
    rw [BG.out]
    exact ⟨_, _, rfl⟩
end Go.Proofs.Ytalldnnegofdkaa
