/- applies: Apply and Cost answer what the reference answers. -/
import Derived.Test.YtalldnnegofdkaaAp2
import Derived.Test.YtalldnnegofdkaaAp3
namespace Go.Proofs.Ytalldnnegofdkaa
open Go.RowKit Go.Shelf

theorem opl_cells {w : World} {ad : Addr} {n c : Nat} {l : List Ed.Op} (h : Opl w (.slice (some ad) n c) l) : ∀ j u, (ocs l)[j]? = some u → w.cell? (ad.add j) = some u := by
  obtain ⟨a, c', e, h1⟩ := h
  injection e with e1 e2 e3
  subst e1
  intro j u hj
  rcases h1 with rfl | ⟨b, off, e4, g⟩
  · simp [ocs] at hj
  · obtain rfl := Option.some.inj e4
    have hl := (List.getElem?_eq_some_iff.1 hj).1
    rw [ocs_len] at hl
    have hk : j / 2 < l.length := by omega
    obtain ⟨g0, g1⟩ := g (j / 2) hk
    obtain ⟨o0, o1⟩ := ocs_at l (j / 2) hk
    rw [Go.WideShapes.add_plain]
    by_cases h2 : j % 2 = 0
    · have e : j / 2 * 2 = j := by omega
      rw [e] at g0 o0
      rw [g0, ← o0, hj]
    · have e : j / 2 * 2 + 1 = j := by omega
      rw [Nat.add_assoc, e] at g1
      rw [e] at o1
      rw [g1, ← o1, hj]
/-- 'append(own, l...)'. -/
theorem wp_pushl {ops : Array Oper} {rest : List Oper} {o : Oper} {a : Act} {w0 w : World} {Q : Exit → Act → World → Prop} (hg : o.guard = none) (s x : Operand)
    (hop : o.op = Op.call { callee := Callee.builtin Builtin.append, args := #[s, x], argTypes := #[26, 26] })
    (v : Value) (hs : a.eval s = v) (h : Oo w0 w v []) (y : List Ed.Op) (ad : Addr) (n c : Nat) (hx : a.eval x = .slice (some ad) n c) (hn : n = y.length) (hd : ∀ j u, (ocs y)[j]? = some u → w.cell? (ad.add j) = some u) (hl : y.length ≤ 1000000)
    (hK : ∀ v' w', Oo w0 w' v' y → w.grownBy w' v.ownBlock → wpList Try.prog ops Q rest (a.put o.dst v') w') : wpList Try.prog ops Q (o :: rest) a w := by
  obtain ⟨i0, hi, hz0, hz1, hz2⟩ := info_parts info_op
  subst hn
  refine wpList_append_own w hg s x 26 hop w0.heap.size 40 i0 _ 2 2 Try.underlying26 hi hz0 hz1 hz2 rfl (by decide) v 0 [] hs h.own ad y.length c (ocs y) hx (by rw [ocs_len])
    hd (fun u hu => ?_) (by unfold maxLen; omega) (by omega) h.bl.size (fun v' w' hown hgrow _ => ?_)
  · obtain ⟨o, _, ho⟩ := List.mem_flatMap.1 hu
    simp only [ocells, List.mem_cons, List.not_mem_nil, or_false] at ho
    rcases ho with rfl | rfl <;> rfl
  · refine hK v' w' ⟨?_, h.bl.grown hgrow h.bl.size (fun g hk => (h.own.lt g hk).1)⟩ hgrow
    rw [Nat.zero_add, List.nil_append] at hown
    exact hown
/-- What applies holds on to. -/
structure Ac (w W : World) (v : Value) (a : Option Addr) (n cp : Nat) (c : Ed.Cs) (l : List Ed.Op) : Prop where
  x : Bxc W w.heap.size c
  o : Oo w W v l
  h : Opl W (.slice a n cp) l
theorem Ac.below {w W W' : World} {v : Value} {a : Option Addr} {n cp : Nat} {c : Ed.Cs} {l : List Ed.Op} (h : Ac w W v a n cp c l) (b : Below W.heap.size W W') : Ac w W' v a n cp c l := ⟨h.x.below b, h.o.quiet b, h.h.below b⟩
theorem eqs_self (l : List Ed.Op) : Ed.eqs l l = true := (Ed.eqs_iff l l).2 rfl
theorem csV_bd (c : Ed.Cs) (hc : Ed.Rc c) (l : List Ed.Op) (hl : l.length ≤ 120) : (0 ≤ (Ed.csV c l).1 ∧ (Ed.csV c l).1 ≤ 120000) ∧ 0 ≤ (Ed.csV c l).2 ∧ (Ed.csV c l).2 ≤ 60 := by
  have := Ed.cost_bd hc l
  unfold Ed.csV
  split
  · exact ⟨⟨this.1, by show Ed.cost c l ≤ 120000; omega⟩, by show (0 : Int) ≤ 0; omega, by show (0 : Int) ≤ 60; omega⟩
  · exact ⟨⟨by show (0 : Int) ≤ 0; omega, by show (0 : Int) ≤ 120000; omega⟩, by show (0 : Int) ≤ 60; omega, by show (60 : Int) ≤ 60; omega⟩
theorem apV_bd (l : List Ed.Op) (s : Ed.Bs) : 0 ≤ (Ed.apV l s).2 ∧ (Ed.apV l s).2 ≤ 60 := by
  unfold Ed.apV
  split
  · exact ⟨by show (0 : Int) ≤ 60; omega, by show (60 : Int) ≤ 60; omega⟩
  · exact ⟨by show (0 : Int) ≤ 0; omega, by show (0 : Int) ≤ 60; omega⟩
theorem empty_lit (w : World) (o : Obj) (t : TypeId) : ((w.alloc o).alloc (.cells #[] t)).heap[w.heap.size + 1]? = some (.cells #[] t (0, 0)) := by
  have h : ((w.alloc o).heap.push (.cells #[] t (0, 0)))[(w.alloc o).heap.size]? = some (.cells #[] t (0, 0)) := Array.getElem?_push_size
  have e : (w.alloc o).heap.size = w.heap.size + 1 := by simp
  rw [e] at h
  exact h
/-- Both answer the same. -/
theorem both_apply (s : Ed.Bs) (l : List Ed.Op) (hk : ∀ o ∈ l, o.k ≤ 255) : ∃ (T : ByteArray) (r : Int), (0 ≤ r ∧ r ≤ 60) ∧
    (∀ W v, Opl W v l → Calls Try.prog 19 #[sb s, v] W fun e w' => e = .returned (.tuple #[.string T, .int .i64 r]) ∧ Below W.heap.size W w') ∧
    (∀ W v, Opl W v l → Calls Try.prog 31 #[sb s, v] W fun e w' => e = .returned (.tuple #[.string T, .int .i64 r]) ∧ Below W.heap.size W w') := by
  by_cases h : s.length ≤ 60 ∧ l.length ≤ 120
  · exact ⟨⟨(Ed.apV l s).1.toArray⟩, (Ed.apV l s).2, apV_bd l s, fun W v hv => apply_ok s l v W h.1 h.2 hk hv, fun W v hv => rapply_any s l v W h.1 h.2 hv⟩
  · exact ⟨⟨#[]⟩, 3, by omega, fun W v hv => apply_long s l v W (by omega) hv, fun W v hv => rapply_long s l v W (by omega) hv⟩
theorem both_cost (l : List Ed.Op) (c : Ed.Cs) (hk : ∀ o ∈ l, o.k ≤ 255) : ∃ m r : Int, ((0 ≤ m ∧ m ≤ 120000) ∧ 0 ≤ r ∧ r ≤ 60) ∧
    (∀ W v, Opl W v l → Calls Try.prog 20 #[v, cv c] W fun e w' => e = .returned (.tuple #[.int .i64 m, .int .i64 r]) ∧ Below W.heap.size W w') ∧
    (∀ W v, Opl W v l → Calls Try.prog 33 #[v, cv c] W fun e w' => e = .returned (.tuple #[.int .i64 m, .int .i64 r]) ∧ Below W.heap.size W w') := by
  by_cases hc : Ed.Rc c
  · by_cases h : l.length ≤ 120
    · exact ⟨(Ed.csV c l).1, (Ed.csV c l).2, csV_bd c hc l h, fun W v hv => cost_ok l v c hc W h hk hv, fun W v hv => rcost_ok l v c hc W h hv⟩
    · refine ⟨0, 3, by omega, fun W v hv => ?_, fun W v hv => ?_⟩
      · obtain ⟨a, cp, rfl, _⟩ := hv; exact pcost_long _ cp a c hc (by omega) W
      · obtain ⟨a, cp, rfl, _⟩ := hv; exact rcost_long _ cp a c hc (by omega) W
  · refine ⟨0, 2, by omega, fun W v hv => ?_, fun W v hv => ?_⟩
    · obtain ⟨a, cp, rfl, _⟩ := hv; exact pcost_bad _ cp a c hc W
    · obtain ⟨a, cp, rfl, _⟩ := hv; exact rcost_bad _ cp a c hc W
set_option maxRecDepth 100000 in
set_option maxHeartbeats 1600000 in
theorem applies_any (s : Ed.Bs) (l : List Ed.Op) (a : Option Addr) (cp : Nat) (c : Ed.Cs) (w : World) (hl : l.length ≤ 130) (hk : ∀ o ∈ l, o.k ≤ 255) (h : Opl w (.slice a l.length cp) l) :
    Calls Try.prog 13 #[sb s, .slice a l.length cp, cv c] w fun e w' => e = .returned (.bool true) ∧ Below w.heap.size w w' := by
  obtain ⟨T, r, rb, a1, a2⟩ := both_apply s l hk
  obtain ⟨m, q, mb, c1, c2⟩ := both_cost l c hk
  have A1 := Lib.hid a1
  have A2 := Lib.hid a2
  have C1 := Lib.hid c1
  have C2 := Lib.hid c2
  have OP := Lib.hid (fun v W hv => ops_any l v W hv (by omega))
  have CS := Lib.hid (costs_any c)
  have S0 := fun u v W hu hv => same_any u v l l W hu hv (by omega)
  rw [eqs_self] at S0
  have SM := Lib.hid S0
  have HL := Lib.hid h
  obtain ⟨n, hn⟩ : ∃ n, n = l.length := ⟨_, rfl⟩
  have HN := Lib.hid hn
  obtain ⟨S, hS⟩ : ∃ S : Value, S = sb s := ⟨_, rfl⟩
  rw [← hS] at A1 A2 ⊢
  rw [← hn] at hl HL ⊢
  have B0 : Below w.heap.size w (w.alloc (.cells #[.int .i64 c.ins, .int .i64 c.del, .int .i64 c.chg, .int .i64 c.swp] 23)) := (Below.refl _ _).alloc (Nat.le_refl _) _
  have K0 := Bxc.made w c
  have O0 : Oo w ((w.alloc (.cells #[.int .i64 c.ins, .int .i64 c.del, .int .i64 c.chg, .int .i64 c.swp] 23)).alloc (.cells #[] 40)) (.slice (some ⟨w.heap.size + 1, 0, none⟩) 0 0) [] :=
    ⟨⟨rfl, Or.inr ⟨w.heap.size + 1, 0, #[], rfl, by omega, empty_lit _ _ _, Nat.le_refl _, by unfold maxLen; omega, rfl, rfl⟩⟩, B0.alloc B0.size _⟩
  have HO := Lib.hid O0
  have HK0 := Lib.hid K0
  have HB0 := Lib.hid B0
  clear hn a1 a2 c1 c2 S0 h hS hk K0 B0 O0
  cases a with
  | none =>
    have l0 : l = [] := by
      obtain ⟨a, c', e, h1⟩ := HL.out
      rcases h1 with h | ⟨b, off, e4, _⟩
      · exact h
      · injection e with e1
        rw [e4] at e1
        cases e1
    obtain rfl : n = 0 := by rw [HN.out, l0]; rfl
    have OW := Lib.hid (show Oo w _ _ l from l0 ▸ HO.out)
    clear l0 HN hl
    have KX := HK0.out.below ((Below.refl _ _).alloc (Nat.le_refl _) (.cells #[] 40))
    have K := Lib.hid (show Ac w _ _ none 0 cp c l from ⟨KX, OW.out, HL.out.below OW.out.bl⟩)
    clear KX OW
    obtain ⟨x0, x1, x2, x3⟩ := K.out.x
    go_enter Try.func13, Try.ntmps13
    go_wp2_with (first
        | (go_at_call 19; (with_reducible refine (A1.out _ _ K.out.o.opl).mono ?_); rintro e w1 ⟨rfl, b1⟩; have K := Lib.hid (K.out.below b1); clear x0 x1 x2 x3; obtain ⟨x0, x1, x2, x3⟩ := K.out.x; clear b1)
        | (go_at_call 32; (with_reducible refine (OP.out _ _ K.out.h).mono ?_); rintro e w1 ⟨v2, rfl, o2⟩; have RO := Lib.hid o2.opl; have K := Lib.hid (K.out.below o2.bl); clear x0 x1 x2 x3; obtain ⟨x0, x1, x2, x3⟩ := K.out.x; clear o2)
        | (go_at_call 31; (with_reducible refine (A2.out _ _ RO.out).mono ?_); rintro e w1 ⟨rfl, b1⟩; have K := Lib.hid (K.out.below b1); clear x0 x1 x2 x3; obtain ⟨x0, x1, x2, x3⟩ := K.out.x; clear b1; clear RO)
        | (go_at_call 20; (with_reducible refine (C1.out _ _ K.out.o.opl).mono ?_); rintro e w1 ⟨rfl, b1⟩; have K := Lib.hid (K.out.below b1); clear x0 x1 x2 x3; obtain ⟨x0, x1, x2, x3⟩ := K.out.x; clear b1)
        | (go_at_call 27; (with_reducible refine (CS.out _).mono ?_); rintro e w1 ⟨rfl, b1⟩; try (have RO := Lib.hid (RO.out.below b1)); have K := Lib.hid (K.out.below b1); clear x0 x1 x2 x3; obtain ⟨x0, x1, x2, x3⟩ := K.out.x; clear b1)
        | (go_at_call 33; (with_reducible refine (C2.out _ _ RO.out).mono ?_); rintro e w1 ⟨rfl, b1⟩; have K := Lib.hid (K.out.below b1); clear x0 x1 x2 x3; obtain ⟨x0, x1, x2, x3⟩ := K.out.x; clear b1; clear RO)
        | (go_at_call 26; (with_reducible refine (SM.out _ _ _ K.out.o.opl K.out.h).mono ?_); rintro e w1 ⟨rfl, b1⟩; have K := Lib.hid (K.out.below b1); clear x0 x1 x2 x3; obtain ⟨x0, x1, x2, x3⟩ := K.out.x; clear b1))
    have K := Lib.hid (K.out.below (Below.refl _ _).drew)
    clear x0 x1 x2 x3
    obtain ⟨x0, x1, x2, x3⟩ := K.out.x
    go_region_held3 (fun w' => w'.cell? ⟨w.heap.size, 0, none⟩ = some (.int .i64 c.ins) ∧ w'.cell? ⟨w.heap.size, 1, none⟩ = some (.int .i64 c.del) ∧ w'.cell? ⟨w.heap.size, 2, none⟩ = some (.int .i64 c.chg) ∧ w'.cell? ⟨w.heap.size, 3, none⟩ = some (.int .i64 c.swp)) (first | (refine ⟨?_, ?_, ?_, ?_⟩ <;> assumption) | skip)
      (first
        | (go_at_call 19; (with_reducible refine (A1.out _ _ K.out.o.opl).mono ?_); rintro e w1 ⟨rfl, b1⟩; have K := Lib.hid (K.out.below b1); clear x0 x1 x2 x3; obtain ⟨x0, x1, x2, x3⟩ := K.out.x; clear b1)
        | (go_at_call 32; (with_reducible refine (OP.out _ _ K.out.h).mono ?_); rintro e w1 ⟨v2, rfl, o2⟩; have RO := Lib.hid o2.opl; have K := Lib.hid (K.out.below o2.bl); clear x0 x1 x2 x3; obtain ⟨x0, x1, x2, x3⟩ := K.out.x; clear o2)
        | (go_at_call 31; (with_reducible refine (A2.out _ _ RO.out).mono ?_); rintro e w1 ⟨rfl, b1⟩; have K := Lib.hid (K.out.below b1); clear x0 x1 x2 x3; obtain ⟨x0, x1, x2, x3⟩ := K.out.x; clear b1; clear RO)
        | (go_at_call 20; (with_reducible refine (C1.out _ _ K.out.o.opl).mono ?_); rintro e w1 ⟨rfl, b1⟩; have K := Lib.hid (K.out.below b1); clear x0 x1 x2 x3; obtain ⟨x0, x1, x2, x3⟩ := K.out.x; clear b1)
        | (go_at_call 27; (with_reducible refine (CS.out _).mono ?_); rintro e w1 ⟨rfl, b1⟩; try (have RO := Lib.hid (RO.out.below b1)); have K := Lib.hid (K.out.below b1); clear x0 x1 x2 x3; obtain ⟨x0, x1, x2, x3⟩ := K.out.x; clear b1)
        | (go_at_call 33; (with_reducible refine (C2.out _ _ RO.out).mono ?_); rintro e w1 ⟨rfl, b1⟩; have K := Lib.hid (K.out.below b1); clear x0 x1 x2 x3; obtain ⟨x0, x1, x2, x3⟩ := K.out.x; clear b1; clear RO)
        | (go_at_call 26; (with_reducible refine (SM.out _ _ _ K.out.o.opl K.out.h).mono ?_); rintro e w1 ⟨rfl, b1⟩; have K := Lib.hid (K.out.below b1); clear x0 x1 x2 x3; obtain ⟨x0, x1, x2, x3⟩ := K.out.x; clear b1))
    all_goals go_wp2_with (first
        | (go_at_call 19; (with_reducible refine (A1.out _ _ K.out.o.opl).mono ?_); rintro e w1 ⟨rfl, b1⟩; have K := Lib.hid (K.out.below b1); clear x0 x1 x2 x3; obtain ⟨x0, x1, x2, x3⟩ := K.out.x; clear b1)
        | (go_at_call 32; (with_reducible refine (OP.out _ _ K.out.h).mono ?_); rintro e w1 ⟨v2, rfl, o2⟩; have RO := Lib.hid o2.opl; have K := Lib.hid (K.out.below o2.bl); clear x0 x1 x2 x3; obtain ⟨x0, x1, x2, x3⟩ := K.out.x; clear o2)
        | (go_at_call 31; (with_reducible refine (A2.out _ _ RO.out).mono ?_); rintro e w1 ⟨rfl, b1⟩; have K := Lib.hid (K.out.below b1); clear x0 x1 x2 x3; obtain ⟨x0, x1, x2, x3⟩ := K.out.x; clear b1; clear RO)
        | (go_at_call 20; (with_reducible refine (C1.out _ _ K.out.o.opl).mono ?_); rintro e w1 ⟨rfl, b1⟩; have K := Lib.hid (K.out.below b1); clear x0 x1 x2 x3; obtain ⟨x0, x1, x2, x3⟩ := K.out.x; clear b1)
        | (go_at_call 27; (with_reducible refine (CS.out _).mono ?_); rintro e w1 ⟨rfl, b1⟩; try (have RO := Lib.hid (RO.out.below b1)); have K := Lib.hid (K.out.below b1); clear x0 x1 x2 x3; obtain ⟨x0, x1, x2, x3⟩ := K.out.x; clear b1)
        | (go_at_call 33; (with_reducible refine (C2.out _ _ RO.out).mono ?_); rintro e w1 ⟨rfl, b1⟩; have K := Lib.hid (K.out.below b1); clear x0 x1 x2 x3; obtain ⟨x0, x1, x2, x3⟩ := K.out.x; clear b1; clear RO)
        | (go_at_call 26; (with_reducible refine (SM.out _ _ _ K.out.o.opl K.out.h).mono ?_); rintro e w1 ⟨rfl, b1⟩; have K := Lib.hid (K.out.below b1); clear x0 x1 x2 x3; obtain ⟨x0, x1, x2, x3⟩ := K.out.x; clear b1))
    all_goals
      go_ret
      exact ⟨rfl, K.out.o.bl⟩
  | some ad =>
    go_enter Try.func13, Try.ntmps13
    go_wp2_with (at_builtin; refine wp_pushl rfl _ _ rfl _ rfl HO.out l ad n cp rfl HN.out ?_ (by rw [← HN.out]; omega) ?_)
    · exact opl_cells ((HL.out.below (HB0.out.trans ((Below.refl _ _).alloc (Nat.le_refl _) _ |>.mono HB0.out.size))))
    · intro v w2 o2 hgr
      have gb := (Below.refl (w.heap.size + 1) _).grown hgr (by simp) (fun k hk => by obtain rfl := Option.some.inj hk; exact Nat.le_refl _)
      have KX := HK0.out.below ((Below.refl _ _).alloc (Nat.le_refl _) (.cells #[] 40))
      have lt : w.heap.size < w.heap.size + 1 := Nat.lt_succ_self _
      have K := Lib.hid (show Ac w w2 v (some ad) n cp c l from ⟨⟨(gb.cell lt).trans KX.x0, (gb.cell lt).trans KX.x1, (gb.cell lt).trans KX.x2, (gb.cell lt).trans KX.x3⟩, o2, HL.out.below o2.bl⟩)
      clear gb KX lt o2 hgr
      obtain ⟨x0, x1, x2, x3⟩ := K.out.x
      go_wp2_with (first
        | (go_at_call 19; (with_reducible refine (A1.out _ _ K.out.o.opl).mono ?_); rintro e w1 ⟨rfl, b1⟩; have K := Lib.hid (K.out.below b1); clear x0 x1 x2 x3; obtain ⟨x0, x1, x2, x3⟩ := K.out.x; clear b1)
        | (go_at_call 32; (with_reducible refine (OP.out _ _ K.out.h).mono ?_); rintro e w1 ⟨v2, rfl, o2⟩; have RO := Lib.hid o2.opl; have K := Lib.hid (K.out.below o2.bl); clear x0 x1 x2 x3; obtain ⟨x0, x1, x2, x3⟩ := K.out.x; clear o2)
        | (go_at_call 31; (with_reducible refine (A2.out _ _ RO.out).mono ?_); rintro e w1 ⟨rfl, b1⟩; have K := Lib.hid (K.out.below b1); clear x0 x1 x2 x3; obtain ⟨x0, x1, x2, x3⟩ := K.out.x; clear b1; clear RO)
        | (go_at_call 20; (with_reducible refine (C1.out _ _ K.out.o.opl).mono ?_); rintro e w1 ⟨rfl, b1⟩; have K := Lib.hid (K.out.below b1); clear x0 x1 x2 x3; obtain ⟨x0, x1, x2, x3⟩ := K.out.x; clear b1)
        | (go_at_call 27; (with_reducible refine (CS.out _).mono ?_); rintro e w1 ⟨rfl, b1⟩; try (have RO := Lib.hid (RO.out.below b1)); have K := Lib.hid (K.out.below b1); clear x0 x1 x2 x3; obtain ⟨x0, x1, x2, x3⟩ := K.out.x; clear b1)
        | (go_at_call 33; (with_reducible refine (C2.out _ _ RO.out).mono ?_); rintro e w1 ⟨rfl, b1⟩; have K := Lib.hid (K.out.below b1); clear x0 x1 x2 x3; obtain ⟨x0, x1, x2, x3⟩ := K.out.x; clear b1; clear RO)
        | (go_at_call 26; (with_reducible refine (SM.out _ _ _ K.out.o.opl K.out.h).mono ?_); rintro e w1 ⟨rfl, b1⟩; have K := Lib.hid (K.out.below b1); clear x0 x1 x2 x3; obtain ⟨x0, x1, x2, x3⟩ := K.out.x; clear b1))
      have K := Lib.hid (K.out.below (Below.refl _ _).drew)
      clear x0 x1 x2 x3
      obtain ⟨x0, x1, x2, x3⟩ := K.out.x
      go_region_held3 (fun w' => w'.cell? ⟨w.heap.size, 0, none⟩ = some (.int .i64 c.ins) ∧ w'.cell? ⟨w.heap.size, 1, none⟩ = some (.int .i64 c.del) ∧ w'.cell? ⟨w.heap.size, 2, none⟩ = some (.int .i64 c.chg) ∧ w'.cell? ⟨w.heap.size, 3, none⟩ = some (.int .i64 c.swp)) (first | (refine ⟨?_, ?_, ?_, ?_⟩ <;> assumption) | skip)
        (first
        | (go_at_call 19; (with_reducible refine (A1.out _ _ K.out.o.opl).mono ?_); rintro e w1 ⟨rfl, b1⟩; have K := Lib.hid (K.out.below b1); clear x0 x1 x2 x3; obtain ⟨x0, x1, x2, x3⟩ := K.out.x; clear b1)
        | (go_at_call 32; (with_reducible refine (OP.out _ _ K.out.h).mono ?_); rintro e w1 ⟨v2, rfl, o2⟩; have RO := Lib.hid o2.opl; have K := Lib.hid (K.out.below o2.bl); clear x0 x1 x2 x3; obtain ⟨x0, x1, x2, x3⟩ := K.out.x; clear o2)
        | (go_at_call 31; (with_reducible refine (A2.out _ _ RO.out).mono ?_); rintro e w1 ⟨rfl, b1⟩; have K := Lib.hid (K.out.below b1); clear x0 x1 x2 x3; obtain ⟨x0, x1, x2, x3⟩ := K.out.x; clear b1; clear RO)
        | (go_at_call 20; (with_reducible refine (C1.out _ _ K.out.o.opl).mono ?_); rintro e w1 ⟨rfl, b1⟩; have K := Lib.hid (K.out.below b1); clear x0 x1 x2 x3; obtain ⟨x0, x1, x2, x3⟩ := K.out.x; clear b1)
        | (go_at_call 27; (with_reducible refine (CS.out _).mono ?_); rintro e w1 ⟨rfl, b1⟩; try (have RO := Lib.hid (RO.out.below b1)); have K := Lib.hid (K.out.below b1); clear x0 x1 x2 x3; obtain ⟨x0, x1, x2, x3⟩ := K.out.x; clear b1)
        | (go_at_call 33; (with_reducible refine (C2.out _ _ RO.out).mono ?_); rintro e w1 ⟨rfl, b1⟩; have K := Lib.hid (K.out.below b1); clear x0 x1 x2 x3; obtain ⟨x0, x1, x2, x3⟩ := K.out.x; clear b1; clear RO)
        | (go_at_call 26; (with_reducible refine (SM.out _ _ _ K.out.o.opl K.out.h).mono ?_); rintro e w1 ⟨rfl, b1⟩; have K := Lib.hid (K.out.below b1); clear x0 x1 x2 x3; obtain ⟨x0, x1, x2, x3⟩ := K.out.x; clear b1))
      all_goals go_wp2_with (first
        | (go_at_call 19; (with_reducible refine (A1.out _ _ K.out.o.opl).mono ?_); rintro e w1 ⟨rfl, b1⟩; have K := Lib.hid (K.out.below b1); clear x0 x1 x2 x3; obtain ⟨x0, x1, x2, x3⟩ := K.out.x; clear b1)
        | (go_at_call 32; (with_reducible refine (OP.out _ _ K.out.h).mono ?_); rintro e w1 ⟨v2, rfl, o2⟩; have RO := Lib.hid o2.opl; have K := Lib.hid (K.out.below o2.bl); clear x0 x1 x2 x3; obtain ⟨x0, x1, x2, x3⟩ := K.out.x; clear o2)
        | (go_at_call 31; (with_reducible refine (A2.out _ _ RO.out).mono ?_); rintro e w1 ⟨rfl, b1⟩; have K := Lib.hid (K.out.below b1); clear x0 x1 x2 x3; obtain ⟨x0, x1, x2, x3⟩ := K.out.x; clear b1; clear RO)
        | (go_at_call 20; (with_reducible refine (C1.out _ _ K.out.o.opl).mono ?_); rintro e w1 ⟨rfl, b1⟩; have K := Lib.hid (K.out.below b1); clear x0 x1 x2 x3; obtain ⟨x0, x1, x2, x3⟩ := K.out.x; clear b1)
        | (go_at_call 27; (with_reducible refine (CS.out _).mono ?_); rintro e w1 ⟨rfl, b1⟩; try (have RO := Lib.hid (RO.out.below b1)); have K := Lib.hid (K.out.below b1); clear x0 x1 x2 x3; obtain ⟨x0, x1, x2, x3⟩ := K.out.x; clear b1)
        | (go_at_call 33; (with_reducible refine (C2.out _ _ RO.out).mono ?_); rintro e w1 ⟨rfl, b1⟩; have K := Lib.hid (K.out.below b1); clear x0 x1 x2 x3; obtain ⟨x0, x1, x2, x3⟩ := K.out.x; clear b1; clear RO)
        | (go_at_call 26; (with_reducible refine (SM.out _ _ _ K.out.o.opl K.out.h).mono ?_); rintro e w1 ⟨rfl, b1⟩; have K := Lib.hid (K.out.below b1); clear x0 x1 x2 x3; obtain ⟨x0, x1, x2, x3⟩ := K.out.x; clear b1))
      all_goals
        go_ret
        exact ⟨rfl, K.out.o.bl⟩
end Go.Proofs.Ytalldnnegofdkaa
