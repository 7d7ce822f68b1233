/- The contracts of Apply and Cost. -/
import Derived.Test.YtalldnnegofdkaaEu
import Derived.Test.YtalldnnegofdkaaEx
import Derived.Test.YtalldnnegofdkaaEt
import Derived.Test.YtalldnnegofdkaaShelf
namespace Go.Proofs.Ytalldnnegofdkaa
open Go.RowKit Go.Shelf

theorem build_below {T e : TypeId} {B b : Nat} {l : List Value} {W W' : World} (h : Lib.IsBuilderF T e B b l W) (k : Below W.heap.size W W') : Lib.IsBuilderF T e B b l W' := by
  have one : ∀ {p : Value}, Lib.BuilderAtF T e B b p l W → Lib.BuilderAtF T e B b p l W' := fun {p} x => by
    have hl := x.lt
    obtain ⟨h1, v, h2, h3, h4⟩ := x
    refine ⟨h1, v, (k.block b hl).trans h2, ⟨h3.1, ?_⟩, h4⟩
    rcases h3.2 with h5 | ⟨g, cap, cur, fz, hv, hB, hg, h6⟩
    · exact Or.inl h5
    · exact Or.inr ⟨g, cap, cur, fz, hv, hB, (k.block g (Array.getElem?_eq_some_iff.1 hg).1).trans hg, h6⟩
  rcases h with h | h
  · exact Or.inl (one h)
  · exact Or.inr (one h)
theorem Tm.others {w w' : World} {mb b : Nat} {e : TypeId} (h : Tm w mb) (hb : mb ≠ b) (k : Lib.OthersKept e (some b) w w') : Tm w' mb := by
  obtain ⟨es, clock, hg, F, hs, hD⟩ := h
  exact ⟨es, clock, k mb _ hg (fun e => hb (Option.some.inj e)) (by intro c fz e; cases e), F, hs, hD⟩
namespace Ed
theorem ap_step {o : Op} {l : List Op} {s u r : Bs} (h : bg o s = some (u, r)) : ap (o :: l) s = match ap l r with | none => none | some t => some (u ++ t) := by
  show (match bg o s with | none => none | some (u, r) => (match ap l r with | none => none | some t => some (u ++ t))) = _
  rw [h]
theorem ap_stop {o : Op} {l : List Op} {s : Bs} (h : bg o s = none) : ap (o :: l) s = none := by
  show (match bg o s with | none => none | some (u, r) => (match ap l r with | none => none | some t => some (u ++ t))) = _
  rw [h]
/-- What was written so far ahead of what is left to do. -/
def apO (out : Bs) (l : List Op) (s : Bs) : Option Bs := match ap l s with | none => none | some t => some (out ++ t)
theorem apO_step {o : Op} {l : List Op} {s u r out : Bs} (h : bg o s = some (u, r)) : apO out (o :: l) s = apO (out ++ u) l r := by
  unfold apO
  rw [ap_step h]
  cases ap l r with
  | none => rfl
  | some t => simp
theorem apO_stop {o : Op} {l : List Op} {s out : Bs} (h : bg o s = none) : apO out (o :: l) s = none := by unfold apO; rw [ap_stop h]
theorem apO_nil (l : List Op) (s : Bs) : apO [] l s = ap l s := by
  unfold apO
  cases ap l s <;> rfl
theorem bg_len {o : Op} {s u r : Bs} (h : bg o s = some (u, r)) : r.length ≤ s.length ∧ u.length ≤ 2 := by
  unfold bg at h
  split at h
  · rename_i hk
    split at h
    · cases h
      refine ⟨by rw [List.length_drop]; omega, ?_⟩
      rw [wn_len hk.1 (by rw [List.length_take]; have := hk.2; omega)]
      exact wr_le _
    · cases h
  · cases h
/-- What Apply answers. -/
def apV (l : List Op) (s : Bs) : Bs × Int := match ap l s with | none => ([], 60) | some t => (t, 0)
end Ed
set_option maxRecDepth 100000 in
set_option maxHeartbeats 3200000 in
theorem apply_ok (s : Ed.Bs) (l : List Ed.Op) (v : Value) (w : World) (hs : s.length ≤ 60) (hl : l.length ≤ 120) (hk : ∀ o ∈ l, o.k ≤ 255) (h : Opl w v l) :
    Calls Try.prog 19 #[sb s, v] w fun e w' => e = .returned (.tuple #[sb (Ed.apV l s).1, .int .i64 (Ed.apV l s).2]) ∧ Below w.heap.size w w' := by
  obtain ⟨a, c, rfl, h1⟩ := h
  obtain ⟨n, hn⟩ : ∃ n, n = l.length := ⟨_, rfl⟩
  have H1 := Lib.hid h1
  have HN := Lib.hid hn
  have HK := Lib.hid hk
  have HS := Lib.hid hs
  have BE := Lib.hid (fun o s mb w ho hs hT => begin_any o ho s hs mb w hT)
  have WR := Lib.hid (fun B b l m w h hl hB => write_k B b l m w h hl hB)
  have ST := Lib.hid (fun B b out w h hB => Try.Builder_String_any_k B b out w h hB)
  obtain ⟨S, hS⟩ : ∃ S : ByteArray, S = ⟨s.toArray⟩ := ⟨_, rfl⟩
  have LS : S.size ≤ 60 := by rw [hS, Ed.size_is]; exact hs
  have e1 : sb s = .string S := by rw [hS]
  rw [e1, ← hn]
  rw [← hn] at hl
  have HSS := Lib.hid hS
  clear h1 hn hk hS e1 hs
  go_enter Try.func19, Try.ntmps19
  go_wp2_with (go_at_call 38; (with_reducible refine (stepKinds_any _).mono ?_))
  rintro e w1 ⟨mb, rfl, hmb, htm, b1⟩
  have IB0 : Lib.IsBuilderF 78 5 w.heap.size w.heap.size (Lib.byteCells []) w1 := build_below (Lib.IsBuilderF.of (Lib.fresh_isBuilder 78 5 w)) b1
  have BL0 : Below w.heap.size w w1 := ((Below.refl w.heap.size w).alloc (Nat.le_refl _) (.cells #[.pointer none, .slice none 0 0] 78)).trans (b1.mono (by simp))
  have NE : mb ≠ w.heap.size := by have : w.heap.size + 1 ≤ mb := by simpa using hmb
                                   omega
  have HI0 := Lib.hid IB0
  have HB0 := Lib.hid BL0
  have HT0 := Lib.hid htm
  clear IB0 BL0 htm hmb b1
  go_wp2
  go_loopw [8, 26] (fun lv iv wr => ∃ (k : Nat) (left out : Ed.Bs), k ≤ n ∧ iv = .int .i64 k ∧ lv = sb left ∧ left.length ≤ 60 ∧ out.length ≤ 2 * k ∧ Hid (Ed.ap l s = Ed.apO out (l.drop k) left) ∧ Hid (Lib.IsBuilderF 78 5 w.heap.size w.heap.size (Lib.byteCells out) wr) ∧ Hid (Below w.heap.size w wr) ∧ Hid (Tm wr mb)) (fun _ iv _ => n - (intOf iv).toNat)
  case atStart => exact ⟨0, s, [], Nat.zero_le _, rfl, by rw [HSS.out], HS.out, Nat.zero_le _, (Ed.apO_nil l s).symm, HI0.out, HB0.out, HT0.out⟩
  case round =>
    obtain ⟨k, left, out, hkn, rfl, rfl, hll, hol, E, IB, BL, TM⟩ := hrel
    by_cases hlt : k < n
    · have kl : k < l.length := by rw [← HN.out]; exact hlt
      obtain ⟨b, off, rfl, g1⟩ := H1.out.resolve_left (by intro e; rw [e] at kl; simp at kl)
      obtain ⟨x0, x1⟩ := g1 k kl
      have x0 := (BL.out.cell (World.block_lt_of_cell? _ _ x0)).trans x0
      have x1 := (BL.out.cell (World.block_lt_of_cell? _ _ x1)).trans x1
      have E2 := E.out
      rw [List.drop_eq_getElem_cons kl] at E2
      have ho := HK.out l[k] (List.getElem_mem kl)
      obtain ⟨o, hoe⟩ : ∃ o, o = l[k] := ⟨_, rfl⟩
      rw [← hoe] at x0 x1 E2 ho
      clear hoe g1 E
      have T2 := Lib.hid (TM.out.alloc (.cells #[.int .u8 (o.k : Nat), .int .u8 (o.b.toNat : Nat)] 40))
      have I2 := Lib.hid (IB.out.alloc (.cells #[.int .u8 (o.k : Nat), .int .u8 (o.b.toNat : Nat)] 40))
      have B2 := Lib.hid (BL.out.alloc BL.out.size (.cells #[.int .u8 (o.k : Nat), .int .u8 (o.b.toNat : Nat)] 40))
      have BG := Lib.hid (BE.out o left mb _ ho (by omega) T2.out)
      cases hbg : Ed.bg o left with
      | none =>
        rw [Ed.apO_stop hbg] at E2
        have E3 := Lib.hid E2
        have BG2 : Hid (Calls Try.prog 39 #[.agg #[.int .u8 (o.k : Nat), .int .u8 (o.b.toNat : Nat)], .map (some mb), sb left] (wr.alloc (.cells #[.int .u8 (o.k : Nat), .int .u8 (o.b.toNat : Nat)] 40)) fun e w' => (∃ x y, e = .returned (.tuple #[.string x, .string y, .bool false])) ∧ Below (wr.alloc (.cells #[.int .u8 (o.k : Nat), .int .u8 (o.b.toNat : Nat)] 40)).heap.size (wr.alloc (.cells #[.int .u8 (o.k : Nat), .int .u8 (o.b.toNat : Nat)] 40)) w') := by
          refine BG.out.mono ?_
          rintro e w' ⟨h, b⟩
          unfold Began at h
          rw [hbg] at h
          exact ⟨h, b⟩
        clear BG E2 hbg
        go_wp2_with (go_at_call 39; (with_reducible refine BG2.out.mono ?_); rintro e w3 ⟨⟨x, y, rfl⟩, b3⟩)
        go_ret2
        have AV : Ed.apV l s = ([], 60) := by unfold Ed.apV; rw [E3.out]
        rw [AV]
        exact ⟨rfl, B2.out.trans (b3.mono B2.out.size)⟩
      | some ur =>
        obtain ⟨u, r⟩ := ur
        rw [Ed.apO_step hbg] at E2
        have E3 := Lib.hid E2
        obtain ⟨rl, ul⟩ := Ed.bg_len hbg
        have BG2 : Hid (Calls Try.prog 39 #[.agg #[.int .u8 (o.k : Nat), .int .u8 (o.b.toNat : Nat)], .map (some mb), sb left] (wr.alloc (.cells #[.int .u8 (o.k : Nat), .int .u8 (o.b.toNat : Nat)] 40)) fun e w' => e = .returned (.tuple #[sb u, sb r, .bool true]) ∧ Below (wr.alloc (.cells #[.int .u8 (o.k : Nat), .int .u8 (o.b.toNat : Nat)] 40)).heap.size (wr.alloc (.cells #[.int .u8 (o.k : Nat), .int .u8 (o.b.toNat : Nat)] 40)) w') := by
          refine BG.out.mono ?_
          rintro e w' ⟨h, b⟩
          unfold Began at h
          rw [hbg] at h
          exact ⟨h, b⟩
        clear BG E2 hbg
        go_wp2_with (go_at_call 39; (with_reducible refine BG2.out.mono ?_))
        rintro e w3 ⟨rfl, b3⟩
        have I3 := Lib.hid (build_below I2.out b3)
        have T3 := Lib.hid (Tm.keep T2.out (b3.block mb (World.ownsMap.lt T2.out)))
        have B3 := Lib.hid (B2.out.trans (b3.mono B2.out.size))
        clear b3
        have WR3 := Lib.hid (WR.out w.heap.size w.heap.size out u w3 I3.out (by omega) B3.out.size)
        go_wp2_with (go_at_call 40; (with_reducible refine WR3.out.mono ?_))
        rintro e w4 ⟨rfl, ib4, bl4, ok4⟩
        have I4 := Lib.hid ib4
        have B4 := Lib.hid (B3.out.trans bl4)
        have T4 := Lib.hid (T3.out.others NE ok4)
        clear ib4 bl4 ok4
        go_wp2
        go_roundw
        case rel => exact ⟨k + 1, r, out ++ u, by omega, by go_num, rfl, by omega, by rw [List.length_append]; omega, E3.out, I4.out, B4.out, T4.out⟩
        case measure => simp [intOf]; omega
    · have hke : k = n := by omega
      have ED := E.out
      rw [List.drop_of_length_le (by rw [← HN.out]; omega)] at ED
      have hw0 : w.heap.size ≤ wr.heap.size := BL.out.size
      cases left with
      | nil =>
        have AV : Hid (Ed.apV l s = (out, 0)) := by
          show _ = _
          unfold Ed.apV; rw [ED]
          show (match Ed.apO out [] [] with | none => (([] : Ed.Bs), (60 : Int)) | some t => (t, 0)) = (out, 0)
          unfold Ed.apO Ed.ap
          simp
        clear ED E
        have ST2 := Lib.hid (ST.out w.heap.size w.heap.size out wr IB.out hw0)
        go_wp2_with (go_at_call 41; (with_reducible refine ST2.out.mono ?_))
        rintro e w4 ⟨rfl, _, bl4, _⟩
        go_wp2
        go_ret2
        rw [AV.out]
        exact ⟨rfl, BL.out.trans bl4⟩
      | cons x left =>
        have AV : Hid (Ed.apV l s = ([], 60)) := by
          show _ = _
          unfold Ed.apV; rw [ED]; rfl
        clear ED E
        go_wp2
        go_ret2
        rw [AV.out]
        exact ⟨rfl, BL.out⟩
set_option maxRecDepth 100000 in
set_option maxHeartbeats 1600000 in
theorem apply_long (s : Ed.Bs) (l : List Ed.Op) (v : Value) (w : World) (hs : 60 < s.length ∨ 120 < l.length) (h : Opl w v l) :
    Calls Try.prog 19 #[sb s, v] w fun e w' => e = .returned (.tuple #[sb [], .int .i64 3]) ∧ Below w.heap.size w w' := by
  obtain ⟨a, c, rfl, h1⟩ := h
  obtain ⟨n, hn⟩ : ∃ n, n = l.length := ⟨_, rfl⟩
  obtain ⟨S, hS⟩ : ∃ S : ByteArray, S = ⟨s.toArray⟩ := ⟨_, rfl⟩
  have LS : S.size = s.length := by rw [hS, Ed.size_is]
  have e1 : sb s = .string S := by rw [hS]
  rw [e1, ← hn]
  rw [← hn, ← LS] at hs
  clear h1 hn hS e1 LS
  by_cases h6 : 60 < S.size
  · clear hs
    go_enter Try.func19, Try.ntmps19
    go_wp2
    go_ret2
    exact ⟨rfl, Below.refl _ _⟩
  · have h12 : 120 < n := by omega
    clear hs
    go_enter Try.func19, Try.ntmps19
    go_wp2
    go_ret2
    exact ⟨rfl, Below.refl _ _⟩
namespace Ed
def kok (l : List Op) : Prop := ∀ o ∈ l, 1 ≤ o.k ∧ o.k ≤ 5
open Classical in
/-- What Cost answers. -/
noncomputable def csV (c : Cs) (l : List Op) : Int × Int := if kok l then (cost c l, 0) else (0, 60)
theorem cost_bd {c : Cs} (h : Rc c) : ∀ l : List Op, 0 ≤ cost c l ∧ cost c l ≤ 1000 * l.length
  | [] => ⟨Int.le_refl 0, by simp [cost]⟩
  | o :: l => by
    have ih := cost_bd h l
    have := co_nonneg h o.k
    simp only [cost, List.length_cons]
    omega
theorem cost_snoc (c : Cs) (l : List Op) (o : Op) : cost c (l ++ [o]) = cost c l + co c o.k := by
  rw [cost_app]; simp [cost]
end Ed
set_option maxRecDepth 100000 in
set_option maxHeartbeats 3200000 in
theorem cost_ok (l : List Ed.Op) (v : Value) (c : Ed.Cs) (hc : Ed.Rc c) (w : World) (hl : l.length ≤ 120) (hk : ∀ o ∈ l, o.k ≤ 255) (h : Opl w v l) :
    Calls Try.prog 20 #[v, cv c] w fun e w' => e = .returned (.tuple #[.int .i64 (Ed.csV c l).1, .int .i64 (Ed.csV c l).2]) ∧ Below w.heap.size w w' := by
  obtain ⟨a, cc, rfl, h1⟩ := h
  obtain ⟨n, hn⟩ : ∃ n, n = l.length := ⟨_, rfl⟩
  have H1 := Lib.hid h1
  have HN := Lib.hid hn
  have HK := Lib.hid hk
  have HC := Lib.hid hc
  have RA := right_any c
  rw [(Ed.rc_iff c).2 hc] at RA
  have RH := Lib.hid RA
  rw [← hn] at hl ⊢
  have B0 := Lib.hid (show Below w.heap.size w (w.alloc (.cells #[.int .i64 c.ins, .int .i64 c.del, .int .i64 c.chg, .int .i64 c.swp] 23)) from (Below.refl _ _).alloc (Nat.le_refl _) _)
  have K0 := Lib.hid (Bxc.made w c)
  clear h1 hn hk hc RA
  go_enter Try.func20, Try.ntmps20
  go_wp2_with (first
    | (go_at_call 18; (with_reducible refine (RH.out _).mono ?_); rintro e w1 ⟨rfl, b1⟩; have K1 := Lib.hid (K0.out.below b1); have B1 := Lib.hid (B0.out.trans (b1.mono B0.out.size)); clear b1)
    | (go_at_call 38; (with_reducible refine (stepKinds_any _).mono ?_)))
  rintro e w2 ⟨mb, rfl, hmb, htm, b2⟩
  have K2 := Lib.hid (K1.out.below b2)
  have B2 := Lib.hid (B1.out.trans (b2.mono B1.out.size))
  have T2 := Lib.hid htm
  clear hmb htm b2
  go_wp2
  go_loopw [7, 21] (fun sv7 iv wr => ∃ (k : Nat) (x : Int), k ≤ n ∧ iv = .int .i64 k ∧ sv7 = .int .i64 x ∧ 0 ≤ x ∧ x ≤ 1000 * k ∧ Hid (x = Ed.cost c (l.take k)) ∧ Hid (Ed.kok (l.take k)) ∧ Hid (Below w2.heap.size w2 wr)) (fun _ iv _ => n - (intOf iv).toNat)
  case atStart => exact ⟨0, 0, Nat.zero_le _, rfl, rfl, Int.le_refl _, by omega, rfl, by intro o ho; simp at ho, Below.refl _ _⟩
  case round =>
    obtain ⟨k, x, hkn, rfl, rfl, hx0, hx1, HX, KO, BO⟩ := hrel
    have BB := Lib.hid (B2.out.trans (BO.out.mono B2.out.size))
    by_cases hlt : k < n
    · have kl : k < l.length := by rw [← HN.out]; exact hlt
      obtain ⟨b, off, rfl, g1⟩ := H1.out.resolve_left (by intro e; rw [e] at kl; simp at kl)
      obtain ⟨x0, x1⟩ := g1 k kl
      have x0 := (BB.out.cell (World.block_lt_of_cell? _ _ x0)).trans x0
      have x1 := (BB.out.cell (World.block_lt_of_cell? _ _ x1)).trans x1
      have ho := HK.out l[k] (List.getElem_mem kl)
      have TK := List.take_append_getElem kl
      have HMEM := List.getElem_mem kl
      obtain ⟨o, hoe⟩ : ∃ o, o = l[k] := ⟨_, rfl⟩
      rw [← hoe] at x0 x1 ho TK HMEM
      have TM := Tm.keep T2.out (BO.out.block mb (World.ownsMap.lt T2.out))
      have TA : Tm (wr.alloc (.cells #[.int .u8 (o.k : Nat), .int .u8 (o.b.toNat : Nat)] 40)) mb := TM.alloc _
      have C3 := K2.out.below BO.out
      have y0 := fun o p => cell_in p (cell_in o C3.x0)
      have y1 := fun o p => cell_in p (cell_in o C3.x1)
      have y2 := fun o p => cell_in p (cell_in o C3.x2)
      have y3 := fun o p => cell_in p (cell_in o C3.x3)
      have TKH := Lib.hid TK
      have MEM := Lib.hid HMEM
      clear hoe g1 TM C3 TK HMEM
      by_cases hk5 : 1 ≤ o.k ∧ o.k ≤ 5
      · have TB := table_ok TA hk5
        have SK : sv o.k = .agg #[.int .i64 (Ed.tk o.k : Nat), .int .i64 (Ed.wr o.k : Nat), fv (fcost o.k), fv (fdoes o.k), fv (ffits o.k)] := rfl
        rw [SK] at TB
        have EC := enter_cost o.k hk5
        have CC := Lib.hid (fun w => cost_any c o.k hk5 w)
        have cb := Ed.co_nonneg HC.out o.k
        obtain ⟨z, hz⟩ : ∃ z, z = Ed.co c o.k := ⟨_, rfl⟩
        rw [← hz] at CC cb
        have HZ := Lib.hid hz
        have qs : IntKind.i64.wrap (x + z) = x + z := IntWalk.i64_in _ (by omega)
        clear TA SK hz
        go_wp2_with (go_at_fn (fcost o.k); (with_reducible refine (CC.out _).mono ?_); rintro e w5 ⟨rfl, b5⟩)
        have B5 := Lib.hid (((BO.out.alloc BO.out.size (.cells #[.int .u8 (o.k : Nat), .int .u8 (o.b.toNat : Nat)] 40)).alloc (by simp; have := BO.out.size; omega) (.cells #[.int .i64 (Ed.tk o.k : Nat), .int .i64 (Ed.wr o.k : Nat), fv (fcost o.k), fv (fdoes o.k), fv (ffits o.k)] 92)).trans (b5.mono (by simp; have := BO.out.size; omega)))
        clear b5
        go_wp2
        go_roundw
        case rel =>
          refine ⟨k + 1, x + z, by omega, by go_num, rfl, by omega, by omega, ?_, ?_, B5.out⟩
          · show _ = _; rw [← TKH.out, Ed.cost_snoc, ← HX.out, ← HZ.out]
          · show Ed.kok _
            rw [← TKH.out]
            intro p hp
            rcases List.mem_append.1 hp with hp | hp
            · exact KO.out p hp
            · rw [List.mem_singleton] at hp; subst hp; exact hk5
        case measure => simp [intOf]; omega
      · have TB := table_no TA ho hk5
        have AV : Hid (Ed.csV c l = (0, 60)) := by
          show _ = _
          unfold Ed.csV
          rw [if_neg (fun h => hk5 (h o MEM.out))]
        clear TA y0 y1 y2 y3 hk5
        go_wp2
        go_ret2
        rw [AV.out]
        exact ⟨rfl, (BB.out.alloc BB.out.size _).alloc (by simp; have := BB.out.size; omega) _⟩
    · have hke : k = n := by omega
      have TK : l.take k = l := List.take_of_length_le (by rw [← HN.out]; omega)
      have AV : Hid (Ed.csV c l = (x, 0)) := by
        show _ = _
        unfold Ed.csV
        have h1 := KO.out
        have h2 := HX.out
        rw [TK] at h1 h2
        rw [if_pos h1, ← h2]
      clear TK
      go_wp2
      go_ret2
      rw [AV.out]
      exact ⟨rfl, BB.out⟩
end Go.Proofs.Ytalldnnegofdkaa
