/- EditSmall's walk. -/
import Derived.Test.YtalldnnegofdkaaSm4
import Derived.Test.YtalldnnegofdkaaSm5
import Derived.Test.YtalldnnegofdkaaTl7
import Derived.Test.YtalldnnegofdkaaAp4
import Derived.Test.YtalldnnegofdkaaEy
namespace Go.Proofs.Ytalldnnegofdkaa
open Go.RowKit Go.Shelf

/-- EditSmall's costs. -/
def cq : Nat → Ed.Cs
  | 0 => ⟨1, 1, 1, 1⟩
  | 1 => ⟨1, 2, 3, 4⟩
  | 2 => ⟨5, 1, 2, 1⟩
  | 3 => ⟨2, 2, 5, 9⟩
  | _ => ⟨1000, 1, 1000, 999⟩
theorem cq_rc (k : Nat) : Ed.Rc (cq k) := by
  match k with
  | 0 => exact ⟨⟨by decide, by decide⟩, ⟨by decide, by decide⟩, ⟨by decide, by decide⟩, by decide, by decide⟩
  | 1 => exact ⟨⟨by decide, by decide⟩, ⟨by decide, by decide⟩, ⟨by decide, by decide⟩, by decide, by decide⟩
  | 2 => exact ⟨⟨by decide, by decide⟩, ⟨by decide, by decide⟩, ⟨by decide, by decide⟩, by decide, by decide⟩
  | 3 => exact ⟨⟨by decide, by decide⟩, ⟨by decide, by decide⟩, ⟨by decide, by decide⟩, by decide, by decide⟩
  | _ + 4 =>
    show Ed.Rc ⟨1000, 1, 1000, 999⟩
    exact ⟨⟨by decide, by decide⟩, ⟨by decide, by decide⟩, ⟨by decide, by decide⟩, by decide, by decide⟩
abbrev allCells : Array Value := #[.int .i64 1, .int .i64 1, .int .i64 1, .int .i64 1, .int .i64 1, .int .i64 2, .int .i64 3, .int .i64 4, .int .i64 5, .int .i64 1, .int .i64 2, .int .i64 1, .int .i64 2, .int .i64 2, .int .i64 5, .int .i64 9, .int .i64 1000, .int .i64 1, .int .i64 1000, .int .i64 999]
/-- All costs in memory. -/
def Al (b : Nat) (W : World) : Prop := W.heap[b]? = some (.cells allCells 23 (0, 0))
theorem Al.quiet {b : Nat} {W W' : World} (h : Al b W) (k : Below W.heap.size W W') : Al b W' := (k.block b (Array.getElem?_eq_some_iff.1 h).1).trans h
theorem Al.at {b : Nat} {W : World} (h : Al b W) (k : Nat) (hk : k < 5) : W.cell? ⟨b, k * 4, none⟩ = some (.int .i64 (cq k).ins) ∧ W.cell? ⟨b, k * 4 + 1, none⟩ = some (.int .i64 (cq k).del) ∧ W.cell? ⟨b, k * 4 + 2, none⟩ = some (.int .i64 (cq k).chg) ∧ W.cell? ⟨b, k * 4 + 3, none⟩ = some (.int .i64 (cq k).swp) := by
  rw [cell_of_row _ _ _ _ _ _ h, cell_of_row _ _ _ _ _ _ h, cell_of_row _ _ _ _ _ _ h, cell_of_row _ _ _ _ _ _ h]
  match k, hk with
  | 0, _ => exact ⟨rfl, rfl, rfl, rfl⟩
  | 1, _ => exact ⟨rfl, rfl, rfl, rfl⟩
  | 2, _ => exact ⟨rfl, rfl, rfl, rfl⟩
  | 3, _ => exact ⟨rfl, rfl, rfl, rfl⟩
  | 4, _ => exact ⟨rfl, rfl, rfl, rfl⟩
/-- A region that draws its order, in a class of worlds. -/
theorem wp_region_cls {P : Program} {id : Nat} {Q : Exit → Act → World → Prop} {a : Act} {w : World} {l : List Oper} {C : World → Prop} (hm : P.follows .mixedOrders = true) (hB : Region.lexB .any l.toArray = true) (hC : C w.drew)
    (h : wpQuiet P l.toArray C (fun a' => ∀ w', C w' → Q .normal a' w') l a) : (Code.region id l.toArray true).wp P Q a w :=
  wp_region_quiet (C := C) hm hB hC (by simpa using h)
theorem wpQuiet_ex {P : Program} {ops : Array Oper} {C : World → Prop} {Q : Act → Prop} {a : Act} {o : Oper} {rest : List Oper} (hw : Region.wanted o (yielded ops a.tmps) = true)
    (h : ∃ v, (∀ w, C w → o.quietAt P a C w v) ∧ wpQuiet P ops C Q rest (a.put o.dst v)) : wpQuiet P ops C Q (o :: rest) a :=
  wpQuiet_step fun K hK => by
    rw [if_pos hw]
    obtain ⟨v, h1, h2⟩ := h
    exact ⟨v, h1, hK _ h2⟩
/-- The worlds that a world goes on to, as one letter. -/
theorem cls (w : World) : ∃ (T : Type) (f : T → World), Nonempty T ∧ (∀ w', Below w.heap.size w w' → ∃ t, w' = f t) ∧ (∀ t w', Below (f t).heap.size (f t) w' → ∃ t', w' = f t') ∧ ∀ t, Below w.heap.size w (f t) :=
  ⟨{w' : World // Below w.heap.size w w'}, Subtype.val, ⟨⟨w, Below.refl _ _⟩⟩, fun w' h => ⟨⟨w', h⟩, rfl⟩, fun t w' h => ⟨⟨w', t.2.trans (h.mono t.2.size)⟩, rfl⟩, fun t => t.2⟩
theorem box_c (w : World) (n : Nat) (hn : n < 4) (t : TypeId) : (w.alloc (.cells #[.int .i64 1, .int .i64 1, .int .i64 1, .int .i64 1] t)).cell? ⟨w.heap.size, n, none⟩ = some (.int .i64 1) := by
  refine cell_at _ _ _ n _ _ rfl ?_
  match n, hn with
  | 0, _ => rfl
  | 1, _ => rfl
  | 2, _ => rfl
  | 3, _ => rfl
theorem box_f (w : World) (n : Nat) (t : TypeId) : (w.alloc (.cells #[.int .i64 1, .int .i64 1, .int .i64 1, .int .i64 1] t)).frozen? ⟨w.heap.size, n, none⟩ = false := Lib.frozen_of_heap (heap_alloc_new _ _) n
theorem box_s (w : World) (n : Nat) (hn : n < 4) (t : TypeId) (x : Int) : ∃ e0 e1 e2 e3 : Int, (w.alloc (.cells ([.int .i64 1, .int .i64 1, .int .i64 1, .int .i64 1].set n (.int .i64 x)).toArray t)).cell? ⟨w.heap.size, 0, none⟩ = some (.int .i64 e0) ∧ (w.alloc (.cells ([.int .i64 1, .int .i64 1, .int .i64 1, .int .i64 1].set n (.int .i64 x)).toArray t)).cell? ⟨w.heap.size, 1, none⟩ = some (.int .i64 e1) ∧ (w.alloc (.cells ([.int .i64 1, .int .i64 1, .int .i64 1, .int .i64 1].set n (.int .i64 x)).toArray t)).cell? ⟨w.heap.size, 2, none⟩ = some (.int .i64 e2) ∧ (w.alloc (.cells ([.int .i64 1, .int .i64 1, .int .i64 1, .int .i64 1].set n (.int .i64 x)).toArray t)).cell? ⟨w.heap.size, 3, none⟩ = some (.int .i64 e3) ∧ Below w.heap.size w (w.alloc (.cells ([.int .i64 1, .int .i64 1, .int .i64 1, .int .i64 1].set n (.int .i64 x)).toArray t)) := by
  have b := (Below.refl w.heap.size w).alloc (Nat.le_refl _) (.cells ([.int .i64 1, .int .i64 1, .int .i64 1, .int .i64 1].set n (.int .i64 x)).toArray t)
  match n, hn with
  | 0, _ => exact ⟨x, 1, 1, 1, cell_at _ _ _ 0 _ _ rfl rfl, cell_at _ _ _ 1 _ _ rfl rfl, cell_at _ _ _ 2 _ _ rfl rfl, cell_at _ _ _ 3 _ _ rfl rfl, b⟩
  | 1, _ => exact ⟨1, x, 1, 1, cell_at _ _ _ 0 _ _ rfl rfl, cell_at _ _ _ 1 _ _ rfl rfl, cell_at _ _ _ 2 _ _ rfl rfl, cell_at _ _ _ 3 _ _ rfl rfl, b⟩
  | 2, _ => exact ⟨1, 1, x, 1, cell_at _ _ _ 0 _ _ rfl rfl, cell_at _ _ _ 1 _ _ rfl rfl, cell_at _ _ _ 2 _ _ rfl rfl, cell_at _ _ _ 3 _ _ rfl rfl, b⟩
  | 3, _ => exact ⟨1, 1, 1, x, cell_at _ _ _ 0 _ _ rfl rfl, cell_at _ _ _ 1 _ _ rfl rfl, cell_at _ _ _ 2 _ _ rfl rfl, cell_at _ _ _ 3 _ _ rfl rfl, b⟩
/-- 61 zero bytes. -/
def wideB : ByteArray := ⟨(List.replicate 61 (0 : UInt8)).toArray⟩
theorem wide_any (w : World) : (convert 37 9 (.slice (some ⟨w.heap.size, 0, none⟩) 61 61)).run Try.prog (w.alloc (.cells (madeCells #[.int .u8 0] 61) 5)) = .ok (.string wideB) (w.alloc (.cells (madeCells #[.int .u8 0] 61) 5)) := by
  refine run_convert_bytes_back _ _ _ 5 ⟨w.heap.size, 0, none⟩ _ (List.replicate 61 (0 : UInt8)) Try.underlying37 Try.underlying5 Try.underlying9 fun j hj => ?_
  rw [Go.WideShapes.add_plain, Nat.zero_add]
  have hj' : j < 61 := by simpa using hj
  refine cell_at _ _ _ j _ _ rfl ?_
  rw [List.getElem_replicate]
  simp [madeCells, hj', Nat.mod_one]
theorem make_ops (n : Nat) (hn : n ≤ 1000) (w : World) : (Instr.makeSlice 26 (.int .i64 (n : Int)) (.int .i64 (n : Int))).run Try.prog w = .ok (.slice (some ⟨w.heap.size, 0, none⟩) n n) (w.alloc (.cells (madeCells #[.int .u8 0, .int .u8 0] (n * 2)) 40)) := by
  obtain ⟨i0, hi, hz0, hz1, hz2⟩ := info_parts info_op
  have hr := run_make (P := Try.prog) w 26 40 i0 _ Try.underlying26 hi hz0 .i64 .i64 n n (by omega) (Int.le_refl _) (by rw [hz2]; omega) (by omega)
  simp only [Int.toNat_natCast] at hr
  rw [hz1] at hr
  exact hr
/-- The first i steps of a script are written. -/
def Fl (B n i : Nat) (W : World) : Prop := ∃ (cur : Array Value) (t : TypeId), W.heap[B]? = some (.cells cur t (0, 0)) ∧ cur.size = n * 2 ∧ ∀ j, j < i → cur[j * 2]? = some (.int .u8 5) ∧ cur[j * 2 + 1]? = some (.int .u8 (j : Int))
theorem Fl.made (w : World) (n : Nat) : Fl w.heap.size n 0 (w.alloc (.cells (madeCells #[.int .u8 0, .int .u8 0] (n * 2)) 40)) :=
  ⟨_, _, heap_alloc_new _ _, by simp [size_madeCells], fun j hj => by omega⟩
theorem Fl.there {B n i : Nat} {W : World} (h : Fl B n i W) (j : Nat) (hj : j < n * 2) : (∃ v, W.cell? ⟨B, j, none⟩ = some v) ∧ W.frozen? ⟨B, j, none⟩ = false := by
  obtain ⟨cur, t, h1, h2, _⟩ := h
  exact ⟨⟨cur[j], by rw [cell_of_row _ _ _ _ _ _ h1, Array.getElem?_eq_getElem (by omega)]⟩, Lib.frozen_of_heap h1 j⟩
theorem Fl.put {B n i : Nat} {W : World} (h : Fl B n i W) (hi : i < n) : Fl B n (i + 1) ((W.setCell ⟨B, i * 2, none⟩ (.int .u8 5)).setCell ⟨B, i * 2 + 1, none⟩ (.int .u8 (i : Int))) := by
  obtain ⟨cur, t, h1, h2, h3⟩ := h
  have k1 := heap_setCell_same W B (i * 2) cur t (.int .u8 5) h1
  have k2 := heap_setCell_same _ B (i * 2 + 1) _ t (.int .u8 (i : Int)) k1
  refine ⟨_, t, k2, by simpa using h2, fun j hj => ?_⟩
  by_cases e : j = i
  · subst e
    constructor
    · rw [Array.getElem?_setIfInBounds_ne (by omega), Array.getElem?_setIfInBounds_self_of_lt (by omega)]
    · rw [Array.getElem?_setIfInBounds_self_of_lt (by simp; omega)]
  · obtain ⟨g1, g2⟩ := h3 j (by omega)
    constructor
    · rw [Array.getElem?_setIfInBounds_ne (by omega), Array.getElem?_setIfInBounds_ne (by omega), g1]
    · rw [Array.getElem?_setIfInBounds_ne (by omega), Array.getElem?_setIfInBounds_ne (by omega), g2]
/-- The script that is written. -/
def fls (n : Nat) : List Ed.Op := (List.range n).map fun j => ⟨5, UInt8.ofNat j⟩
theorem fls_len (n : Nat) : (fls n).length = n := by unfold fls; simp
theorem fls_k (n : Nat) : ∀ o ∈ fls n, o.k ≤ 255 := by
  intro o ho
  unfold fls at ho
  obtain ⟨j, _, rfl⟩ := List.mem_map.1 ho
  show 5 ≤ 255
  omega
theorem Fl.opl {B n m : Nat} {W : World} (h : Fl B n n W) (hm : m ≤ n) (hn : n ≤ 255) (cp : Nat) : Opl W (.slice (some ⟨B, 0, none⟩) m cp) (fls m) := by
  obtain ⟨cur, t, h1, h2, h3⟩ := h
  refine ⟨_, cp, by rw [fls_len], Or.inr ⟨B, 0, rfl, fun j hj => ?_⟩⟩
  have hj' : j < m := by rw [fls_len] at hj; exact hj
  obtain ⟨g1, g2⟩ := h3 j (by omega)
  have e : (fls m)[j] = ⟨5, UInt8.ofNat j⟩ := by
    apply Option.some.inj
    rw [← List.getElem?_eq_getElem]
    unfold fls
    rw [List.getElem?_map, List.getElem?_range hj']
    rfl
  rw [Nat.zero_add, cell_of_row _ _ _ _ _ _ h1, cell_of_row _ _ _ _ _ _ h1, g1, g2, e]
  refine ⟨rfl, ?_⟩
  show some (Value.int .u8 (j : Int)) = some (.int .u8 (((UInt8.ofNat j).toNat : Nat) : Int))
  rw [UInt8.toNat_ofNat', Nat.mod_eq_of_lt (by omega)]
theorem Below.on {w W W' : World} (h : Below w.heap.size w W) (k : Below W.heap.size W W') : Below w.heap.size w W' := h.trans (k.mono h.size)
theorem Fl.quiet {B n i : Nat} {W W' : World} (h : Fl B n i W) (k : Below W.heap.size W W') : Fl B n i W' := by
  obtain ⟨cur, t, h1, h2, h3⟩ := h
  exact ⟨cur, t, (k.block B (Array.getElem?_eq_some_iff.1 h1).1).trans h1, h2, h3⟩
/-- The two lists of texts. -/
structure Tw (b g : Nat) (v1 v2 : Value) (L1 L2 : List Ed.Bs) (W : World) : Prop where
  al : Al b W
  c1 : W.cell? ⟨g, 0, none⟩ = some v1
  c2 : W.cell? ⟨g, 1, none⟩ = some v2
  t1 : Tx W v1 L1
  t2 : Tx W v2 L2
theorem Tw.below {b g : Nat} {v1 v2 : Value} {L1 L2 : List Ed.Bs} {W W' : World} (h : Tw b g v1 v2 L1 L2 W) (k : Below W.heap.size W W') : Tw b g v1 v2 L1 L2 W' := ⟨h.al.quiet k, below_cell k h.c1, below_cell k h.c2, h.t1.below k, h.t2.below k⟩
set_option maxRecDepth 100000 in
set_option maxHeartbeats 40000000 in
theorem walk_editSmall (w : World) : Calls Try.prog 5 #[] w fun e w' => e = .returned (.bool true) ∧ Below w.heap.size w w' := by
  have ON := Lib.hid ones_any
  have TX2 : Hid (∀ W, Calls Try.prog 15 #[.int .i64 2, .int .i64 4] W fun e w' => ∃ v L, e = .returned v ∧ Otx W w' v L ∧ (∀ x ∈ L, x.length ≤ 4) ∧ L.length ≤ 256 ∧ 1 ≤ L.length) := fun W => texts_any 2 4 (by omega) (by omega) W
  have TX3 : Hid (∀ W, Calls Try.prog 15 #[.int .i64 3, .int .i64 3] W fun e w' => ∃ v L, e = .returned v ∧ Otx W w' v L ∧ (∀ x ∈ L, x.length ≤ 4) ∧ L.length ≤ 256 ∧ 1 ≤ L.length) := fun W => texts_any 3 3 (by omega) (by omega) W
  go_enter Try.func5, Try.ntmps5
  go_wp2_with (first
    | (go_at_call 14; (with_reducible refine (ON.out _).mono ?_); rintro e w1 ⟨rfl, b1⟩))
  have A1 : Hid (Al w1.heap.size (w1.alloc (.cells allCells 23))) := heap_alloc_new _ _
  have B1 := Lib.hid (b1.trans (((Below.refl _ _).alloc (Nat.le_refl _) (.cells allCells 23)).mono b1.size))
  obtain ⟨b, hb⟩ : ∃ b, b = w1.heap.size := ⟨_, rfl⟩
  obtain ⟨w2, hw2⟩ : ∃ x, x = w1.alloc (.cells allCells 23) := ⟨_, rfl⟩
  rw [← hw2] at B1 A1 ⊢
  rw [← hb] at A1 ⊢
  clear hw2 hb b1
  go_loopw [2] (fun s wr => ∃ k : Nat, s = .int .i64 k ∧ k ≤ 5 ∧ Hid (Below w2.heap.size w2 wr)) (fun s _ => 5 - (intOf s).toNat)
  case atStart => exact ⟨0, rfl, Nat.zero_le _, Below.refl _ _⟩
  case round =>
    obtain ⟨k, rfl, hk, BK⟩ := hrel
    by_cases hk5 : k < 5
    · as_aux_lemma =>
        have z3 : (k : Int) < 5 := by omega
        have AK := Lib.hid (A1.out.quiet BK.out)
        obtain ⟨w3, hw3⟩ : ∃ x, x = wr := ⟨_, rfl⟩
        rw [← hw3] at AK BK ⊢
        clear hw3
        go_wp2_with (first
          | (go_at_call 15; (with_reducible refine (TX2.out _).mono ?_); rintro e w4 ⟨v1, L1, rfl, ot1, hl1, hn1⟩; obtain ⟨a1, c1, rfl, -⟩ := ot1.tx)
          | (go_at_call 15; (with_reducible refine (TX3.out _).mono ?_); rintro e w5 ⟨v2, L2, rfl, ot2, hl2, hn2⟩; obtain ⟨a2, c2, rfl, -⟩ := ot2.tx))
        have b6 : Below w5.heap.size w5 (w5.alloc (.cells #[.slice a1 L1.length c1, .slice a2 L2.length c2] 30)) := (Below.refl _ _).alloc (Nat.le_refl _) _
        have TW : Hid (Tw b w5.heap.size (.slice a1 L1.length c1) (.slice a2 L2.length c2) L1 L2 (w5.alloc (.cells #[.slice a1 L1.length c1, .slice a2 L2.length c2] 30))) :=
          ⟨((AK.out.quiet ot1.bl).quiet ot2.bl).quiet b6, cell_at _ _ _ 0 _ _ rfl rfl, cell_at _ _ _ 1 _ _ rfl rfl, (ot1.tx.below ot2.bl).below b6, ot2.tx.below b6⟩
        have B6 := Lib.hid (BK.out.trans ((ot1.bl.trans ((ot2.bl.trans (b6.mono ot2.bl.size)).mono ot1.bl.size)).mono BK.out.size))
        have H1 := Lib.hid hl1
        have H2 := Lib.hid hl2
        have N1 := Lib.hid hn1
        have N2 := Lib.hid hn2
        obtain ⟨g, hg⟩ : ∃ b, b = w5.heap.size := ⟨_, rfl⟩
        obtain ⟨w6, hw6⟩ : ∃ x, x = w5.alloc (.cells #[.slice a1 L1.length c1, .slice a2 L2.length c2] 30) := ⟨_, rfl⟩
        rw [← hw6] at TW B6 ⊢
        rw [← hg] at TW ⊢
        clear hw6 hg ot1 ot2 hl1 hl2 hn1 hn2 b6
        go_loopw [36] (fun s wr => ∃ r : Nat, s = .int .i64 r ∧ r ≤ 2 ∧ Hid (Below w6.heap.size w6 wr)) (fun s _ => 2 - (intOf s).toNat)
        case atStart => exact ⟨0, rfl, Nat.zero_le _, Below.refl _ _⟩
        case round =>
          obtain ⟨r, rfl, hr, BR⟩ := hrel
          by_cases hr2 : r < 2
          · have zr : (r : Int) < 2 := by omega
            have TV := TW.out.below BR.out
            have QV : ∃ v L, wr.cell? ⟨g, r, none⟩ = some v ∧ Tx wr v L ∧ (∀ x ∈ L, x.length ≤ 4) ∧ L.length ≤ 256 ∧ 1 ≤ L.length := by
              match r, hr2 with
              | 0, _ => exact ⟨_, L1, TV.c1, TV.t1, H1.out, N1.out⟩
              | 1, _ => exact ⟨_, L2, TV.c2, TV.t2, H2.out, N2.out⟩
            have AV := Lib.hid TV.al
            obtain ⟨v, L, cvv, tv, hl, hn⟩ := QV
            have HL := Lib.hid hl
            obtain ⟨a4, c4, rfl, hca⟩ := tv
            obtain ⟨p1, o1, rfl, hcn⟩ := hca.resolve_left (by intro e; rw [e] at hn; simp at hn)
            have TL := Lib.hid hcn
            clear hcn hca
            obtain ⟨n, hnn⟩ : ∃ n, n = L.length := ⟨_, rfl⟩
            rw [← hnn] at cvv hn
            have HN := Lib.hid hnn
            obtain ⟨w7, hw7⟩ : ∃ x, x = wr := ⟨_, rfl⟩
            rw [← hw7] at AV TL BR cvv ⊢
            clear hw7 hl TV hnn
            go_wp2
            clear cvv
            go_loopw [5] (fun s wr => ∃ i : Nat, s = .int .i64 i ∧ i ≤ n ∧ Hid (Below w7.heap.size w7 wr)) (fun s _ => n - (intOf s).toNat)
            case atStart => exact ⟨0, rfl, Nat.zero_le _, Below.refl _ _⟩
            case round =>
              obtain ⟨i, rfl, hi, BI⟩ := hrel
              by_cases hin : i < n
              · have z1 : (i : Int) < n := by omega
                go_wp2
                go_loopw [6] (fun s wr => ∃ j : Nat, s = .int .i64 j ∧ j ≤ n ∧ Hid (Below w7.heap.size w7 wr)) (fun s _ => n - (intOf s).toNat)
                case atStart => exact ⟨0, rfl, Nat.zero_le _, BI.out⟩
                case round =>
                  obtain ⟨j, rfl, hj, BJ⟩ := hrel
                  by_cases hjn : j < n
                  · have z2 : (j : Int) < n := by omega
                    have il : i < L.length := by rw [← HN.out]; exact hin
                    have jl : j < L.length := by rw [← HN.out]; exact hjn
                    have xi := below_cell BJ.out (TL.out i il)
                    have xj := below_cell BJ.out (TL.out j jl)
                    obtain ⟨x0, x1, x2, x3⟩ := (AV.out.quiet BJ.out).at k hk5
                    obtain ⟨xs, hxs⟩ : ∃ x, x = L[i] := ⟨_, rfl⟩
                    obtain ⟨ys, hys⟩ : ∃ x, x = L[j] := ⟨_, rfl⟩
                    have lx : xs.length ≤ 4 := by rw [hxs]; exact HL.out _ (List.getElem_mem _)
                    have ly : ys.length ≤ 4 := by rw [hys]; exact HL.out _ (List.getElem_mem _)
                    rw [← hxs] at xi
                    rw [← hys] at xj
                    have rc := cq_rc k
                    obtain ⟨c, hcq⟩ : ∃ c, c = cq k := ⟨_, rfl⟩
                    rw [← hcq] at rc x0 x1 x2 x3
                    have di := distance_ok c rc xs ys (by omega) (by omega)
                    have se := search_any c rc 8 xs ys (by omega) (by omega) (by omega)
                    have te := tells_any xs ys c k
                    obtain ⟨d, hd⟩ : ∃ d, d = Ed.ds c xs ys := ⟨_, rfl⟩
                    obtain ⟨X, hX⟩ : ∃ X : ByteArray, X = ⟨xs.toArray⟩ := ⟨_, rfl⟩
                    obtain ⟨Y, hY⟩ : ∃ X : ByteArray, X = ⟨ys.toArray⟩ := ⟨_, rfl⟩
                    have e1 : sb xs = .string X := by rw [hX]
                    have e2 : sb ys = .string Y := by rw [hY]
                    rw [e1, e2] at di se te
                    rw [← hd] at di se
                    rw [← hX] at xi
                    rw [← hY] at xj
                    have DI := Lib.hid di
                    have SE := Lib.hid se
                    have TE := Lib.hid te
                    have n256 : n ≤ 256 := hn.1
                    have q1 : IntKind.i64.wrap ((i : Int) + j) = (i : Int) + j := IntWalk.i64_in _ (by omega)
                    clear di se te il jl hxs hys hcq hX hY e1 e2 hd rc
                    obtain ⟨w8, hw8⟩ : ∃ x, x = wr := ⟨_, rfl⟩
                    rw [← hw8] at BJ xi xj x0 x1 x2 x3 ⊢
                    clear hw8
                    go_upto_region 14 with fail
                    have xi : w8.drew.cell? ⟨p1, o1 + i, none⟩ = some (.string X) := xi
                    have xj : w8.drew.cell? ⟨p1, o1 + j, none⟩ = some (.string Y) := xj
                    have x0 : w8.drew.cell? ⟨b, k * 4, none⟩ = some (.int .i64 c.ins) := x0
                    have x1 : w8.drew.cell? ⟨b, k * 4 + 1, none⟩ = some (.int .i64 c.del) := x1
                    have x2 : w8.drew.cell? ⟨b, k * 4 + 2, none⟩ = some (.int .i64 c.chg) := x2
                    have x3 : w8.drew.cell? ⟨b, k * 4 + 3, none⟩ = some (.int .i64 c.swp) := x3
                    have gb : Below w8.heap.size w8 w8.drew := (Below.refl _ _).drew
                    go_region_held3 (fun w' => w'.cell? ⟨p1, o1 + i, none⟩ = some (.string X) ∧ w'.cell? ⟨p1, o1 + j, none⟩ = some (.string Y) ∧ w'.cell? ⟨b, k * 4, none⟩ = some (.int .i64 c.ins) ∧ w'.cell? ⟨b, k * 4 + 1, none⟩ = some (.int .i64 c.del) ∧ w'.cell? ⟨b, k * 4 + 2, none⟩ = some (.int .i64 c.chg) ∧ w'.cell? ⟨b, k * 4 + 3, none⟩ = some (.int .i64 c.swp)) (first | (refine ⟨?_, ?_, ?_, ?_, ?_, ?_⟩ <;> assumption) | skip)
                      (first | (go_at_call 16; (with_reducible refine (DI.out _).mono ?_); rintro e w9 ⟨rfl, b5⟩; have xi := below_cell b5 xi; have xj := below_cell b5 xj; have x0 := below_cell b5 x0; have x1 := below_cell b5 x1; have x2 := below_cell b5 x2; have x3 := below_cell b5 x3; have gb := gb.trans (b5.mono gb.size); clear b5))
                    have BJ := Lib.hid (BJ.out.trans (gb.mono BJ.out.size))
                    clear gb
                    go_upto_region 15 with fail
                    obtain ⟨T, f, ne, fs, fc, fg⟩ := cls w9
                    have hi := fun t => below_cell (fg t) xi
                    have hj := fun t => below_cell (fg t) xj
                    have h0 := fun t => below_cell (fg t) x0
                    have h1 := fun t => below_cell (fg t) x1
                    have h2 := fun t => below_cell (fg t) x2
                    have h3 := fun t => below_cell (fg t) x3
                    have FS := Lib.hid (fs _ (Below.refl _ _).drew)
                    have FC := Lib.hid fc
                    have FG := Lib.hid fg
                    clear xi xj x0 x1 x2 x3 fs fc fg
                    obtain ⟨m, hm⟩ : ∃ m, m = ((i : Int) + j).tmod 5 := ⟨_, rfl⟩
                    have q2 : ((i : Int) + j).tmod 5 = m := hm.symm
                    clear hm
                    by_cases hm0 : m = 0
                    · have m0 : (m == 0) = true := beq_iff_eq.2 hm0
                      subst hm0
                      refine wp_region_cls (C := fun w' => ∃ t, w' = f t) (by kernel_rfl) (by kernel_rfl) FS.out ?_
                      repeat (go_big_quiet_step (first | exact (SE.out _).mono fun _ _ h => ⟨h.1, FC.out _ _ h.2⟩ | exact (TE.out _).mono fun _ _ h => ⟨h.1, FC.out _ _ h.2⟩))
                      refine wpQuiet_nil ?_
                      rintro _ ⟨tq, rfl⟩
                      have BJ := Lib.hid (BJ.out.trans ((FG.out tq).mono BJ.out.size))
                      go_wp2
                      go_roundw
                      case rel => exact ⟨j + 1, by go_num, by omega, BJ.out⟩
                      case measure => simp [intOf]; omega
                    · have m0 : (m == 0) = false := beq_eq_false_iff_ne.2 hm0
                      refine wp_region_cls (C := fun w' => ∃ t, w' = f t) (by kernel_rfl) (by kernel_rfl) FS.out ?_
                      repeat (go_big_quiet_step (first | exact (SE.out _).mono fun _ _ h => ⟨h.1, FC.out _ _ h.2⟩ | exact (TE.out _).mono fun _ _ h => ⟨h.1, FC.out _ _ h.2⟩))
                      refine wpQuiet_nil ?_
                      rintro _ ⟨tq, rfl⟩
                      have BJ := Lib.hid (BJ.out.trans ((FG.out tq).mono BJ.out.size))
                      go_wp2
                      go_roundw
                      case rel => exact ⟨j + 1, by go_num, by omega, BJ.out⟩
                      case measure => simp [intOf]; omega
                  · have z2 : ¬ (j : Int) < n := by omega
                    go_wp2
                    go_roundw
                    case rel => exact ⟨i + 1, by go_num, by omega, BJ.out⟩
                    case measure => simp [intOf]; omega
              · have z1 : ¬ (i : Int) < n := by omega
                go_wp2
                go_roundw
                case rel => exact ⟨r + 1, by go_num, by omega, BR.out.trans (BI.out.mono BR.out.size)⟩
                case measure => simp [intOf]; omega
          · have zr : ¬ (r : Int) < 2 := by omega
            go_wp2
            go_roundw
            case rel => exact ⟨k + 1, by go_num, by omega, B6.out.trans (BR.out.mono B6.out.size)⟩
            case measure => simp [intOf]; omega
    · have z3 : ¬ (k : Int) < 5 := by omega
      have BS := Lib.hid (B1.out.trans (BK.out.mono B1.out.size))
      obtain ⟨w3, hw3⟩ : ∃ x, x = wr := ⟨_, rfl⟩
      rw [← hw3] at BS ⊢
      clear hw3 BK A1 B1 TX2 TX3
      have MS : ∀ w, (Instr.makeSlice 37 (.int .i64 61) (.int .i64 61)).run Try.prog w = .ok (.slice (some ⟨w.heap.size, 0, none⟩) 61 61) (w.alloc (.cells (madeCells #[.int .u8 0] 61) 5)) := run_make_row' (P := Try.prog) 37 5 (.int .u8 0) 1 Try.underlying37 info_u8 rfl .i64 .i64 61 (by omega) (by omega)
      have CV : ∀ w : World, (convert 37 9 (.slice (some ⟨w.heap.size, 0, none⟩) 61 61)).run Try.prog (w.alloc (.cells (madeCells #[.int .u8 0] 61) 5)) = .ok (.string wideB) (w.alloc (.cells (madeCells #[.int .u8 0] 61) 5)) := wide_any
      have TE : Hid (∀ (A B : ByteArray) (i d c s most : Int) W, Calls Try.prog 12 #[.string A, .string B, .agg #[.int .i64 i, .int .i64 d, .int .i64 c, .int .i64 s], .int .i64 most] W fun e w' => e = .returned (.bool true) ∧ Below W.heap.size W w') := fun A B i d c s most W => tells_any A.data.toList B.data.toList ⟨i, d, c, s⟩ most W
      have wz : wideB.size = 61 := rfl
      obtain ⟨WB, hWB⟩ : ∃ W, W = wideB := ⟨_, rfl⟩
      rw [← hWB] at CV wz
      clear hWB
      have B4 := Lib.hid (BS.out.trans (((Below.refl _ _).alloc (Nat.le_refl _) (.cells (madeCells #[.int .u8 0] 61) 5)).mono BS.out.size))
      go_upto_region 20 with fail
      clear MS CV BS
      obtain ⟨w4, hw4⟩ : ∃ x, x = w3.alloc (.cells (madeCells #[.int .u8 0] 61) 5) := ⟨_, rfl⟩
      rw [← hw4] at B4 ⊢
      clear hw4
      go_loopw [10] (fun s wr => ∃ n : Nat, s = .int .i64 n ∧ n ≤ 4 ∧ Hid (Below w4.heap.size w4 wr)) (fun s _ => 4 - (intOf s).toNat)
      case atStart => exact ⟨0, rfl, Nat.zero_le _, Below.refl _ _⟩
      case round =>
        obtain ⟨n, rfl, hn, BN⟩ := hrel
        by_cases hn4 : n < 4
        · as_aux_lemma =>
            have z0 : (n : Int) < 4 := by omega
            go_wp2
            go_loopw [11] (fun s wr => ∃ x : Int, s = .int .i64 x ∧ -1 ≤ x ∧ x ≤ 3100 ∧ Hid (Below w4.heap.size w4 wr)) (fun s _ => (1003 - intOf s).toNat)
            case atStart => exact ⟨-1, rfl, Int.le_refl _, by omega, BN.out⟩
            case round =>
              obtain ⟨x, rfl, hx1, hx2, BX⟩ := hrel
              by_cases hx : x < 1003
              · have c4 := box_c wr n hn4 38
                have f4 := box_f wr n 38
                obtain ⟨e0, e1, e2, e3, y0, y1, y2, y3, b6⟩ := box_s wr n hn4 38 x
                obtain ⟨D, hD, d1, d2⟩ : ∃ D, x.tdiv 2 = D ∧ 0 ≤ D ∧ D ≤ 1002 := by
                  refine ⟨_, rfl, ?_⟩
                  by_cases h : x = -1
                  · subst h; decide
                  · rw [Int.tdiv_eq_ediv_of_nonneg (by omega)]; omega
                have q1 : IntKind.i64.wrap D = D := IntWalk.i64_in _ (by omega)
                have q2 : IntKind.i64.wrap (D * 2) = D * 2 := IntWalk.i64_in _ (by omega)
                have q3 : IntKind.i64.wrap (x + 1) = x + 1 := IntWalk.i64_in _ (by omega)
                have q4 : IntKind.i64.wrap (x + 1 + D * 2) = x + 1 + D * 2 := IntWalk.i64_in _ (by omega)
                have B6 := Lib.hid (BX.out.trans (b6.mono BX.out.size))
                clear b6
                go_upto_region 27 with fail
                clear c4 f4
                obtain ⟨w6, hw6⟩ : ∃ y, y = wr.alloc (.cells ([.int .i64 1, .int .i64 1, .int .i64 1, .int .i64 1].set n (.int .i64 x)).toArray 38) := ⟨_, rfl⟩
                rw [← hw6] at B6 y0 y1 y2 y3 ⊢
                clear hw6
                go_wp2_with (go_at_call 12; (with_reducible refine (TE.out _ _ _ _ _ _ _ _).mono ?_); rintro e w7 ⟨rfl, b7⟩; have B6 := Lib.hid (B6.out.trans (b7.mono B6.out.size)); clear b7)
                go_roundw
                case rel => exact ⟨x + 1 + D * 2, rfl, by omega, by omega, B6.out⟩
                case measure => simp [intOf]; omega
              · have hx0 : ¬ x < 1003 := hx
                go_wp2
                go_loopw [13] (fun s wr => ∃ x : Int, s = .int .i64 x ∧ 999 ≤ x ∧ x ≤ 1003 ∧ Hid (Below w4.heap.size w4 wr)) (fun s _ => (1003 - intOf s).toNat)
                case atStart => exact ⟨999, rfl, Int.le_refl _, by omega, BX.out⟩
                case round =>
                  obtain ⟨x, rfl, hx1, hx2, BX⟩ := hrel
                  by_cases hx : x < 1003
                  · have c4 := box_c wr n hn4 38
                    have f4 := box_f wr n 38
                    obtain ⟨e0, e1, e2, e3, y0, y1, y2, y3, b6⟩ := box_s wr n hn4 38 x
                    have q3 : IntKind.i64.wrap (x + 1) = x + 1 := IntWalk.i64_in _ (by omega)
                    have B6 := Lib.hid (BX.out.trans (b6.mono BX.out.size))
                    clear b6
                    go_upto_region 34 with fail
                    clear c4 f4
                    obtain ⟨w6, hw6⟩ : ∃ y, y = wr.alloc (.cells ([.int .i64 1, .int .i64 1, .int .i64 1, .int .i64 1].set n (.int .i64 x)).toArray 38) := ⟨_, rfl⟩
                    rw [← hw6] at B6 y0 y1 y2 y3 ⊢
                    clear hw6
                    go_wp2_with (go_at_call 12; (with_reducible refine (TE.out _ _ _ _ _ _ _ _).mono ?_); rintro e w7 ⟨rfl, b7⟩; have B6 := Lib.hid (B6.out.trans (b7.mono B6.out.size)); clear b7)
                    go_roundw
                    case rel => exact ⟨x + 1, rfl, by omega, by omega, B6.out⟩
                    case measure => simp [intOf]; omega
                  · have z1 : (n : Int) ≤ 61 := by omega
                    have q5 : IntKind.i64.wrap (61 - (n : Int)) = 61 - (n : Int) := IntWalk.i64_in _ (by omega)
                    go_upto_region 36 with fail
                    obtain ⟨T, f, ne, fs, fc, fg⟩ := cls wr
                    have FS := Lib.hid (fs _ (Below.refl _ _).drew)
                    have FC := Lib.hid fc
                    have FG := Lib.hid fg
                    clear fs fc fg
                    refine wp_region_cls (C := fun w' => ∃ t, w' = f t) (by kernel_rfl) (by kernel_rfl) FS.out ?_
                    repeat (go_big_quiet_step (first | exact (ON.out _).mono fun _ _ h => ⟨h.1, FC.out _ _ h.2⟩ | exact (TE.out _ _ _ _ _ _ _ _).mono fun _ _ h => ⟨h.1, FC.out _ _ h.2⟩))
                    refine wpQuiet_nil ?_
                    rintro _ ⟨tq, rfl⟩
                    have BY := Lib.hid (BX.out.trans ((FG.out tq).mono BX.out.size))
                    go_wp2
                    go_roundw
                    case rel => exact ⟨n + 1, by go_num, by omega, BY.out⟩
                    case measure => simp [intOf]; omega
        · have z0 : ¬ (n : Int) < 4 := by omega
          go_wp2
          go_loopw [15] (fun s wr => ∃ n : Nat, s = .int .i64 n ∧ 118 ≤ n ∧ n ≤ 123 ∧ Hid (Below w4.heap.size w4 wr)) (fun s _ => 123 - (intOf s).toNat)
          case atStart => exact ⟨118, rfl, Nat.le_refl _, by omega, BN.out⟩
          case round =>
            obtain ⟨m, rfl, hm1, hm2, BM⟩ := hrel
            by_cases hm : m < 123
            · as_aux_lemma =>
                have y0 : (m : Int) < 123 := by omega
                have MK := make_ops m (by omega)
                have F0 := Lib.hid (Fl.made wr m)
                have BA := Lib.hid (BM.out.trans (((Below.refl _ _).alloc (Nat.le_refl _) (.cells (madeCells #[.int .u8 0, .int .u8 0] (m * 2)) 40)).mono BM.out.size))
                obtain ⟨B, hB⟩ : ∃ B, B = wr.heap.size := ⟨_, rfl⟩
                have hB4 : Hid (w4.heap.size ≤ B) := by show _ ≤ _; rw [hB]; exact BM.out.size
                go_wp2
                clear MK
                rw [← hB] at F0 ⊢
                clear hB
                obtain ⟨w8, hw8⟩ : ∃ y, y = wr.alloc (.cells (madeCells #[.int .u8 0, .int .u8 0] (m * 2)) 40) := ⟨_, rfl⟩
                rw [← hw8] at F0 BA ⊢
                clear hw8
                go_loopw [17] (fun s wr => ∃ i : Nat, s = .int .i64 i ∧ i ≤ m ∧ Hid (Fl B m i wr) ∧ Hid (Below w4.heap.size w4 wr)) (fun s _ => m - (intOf s).toNat)
                case atStart => exact ⟨0, rfl, Nat.zero_le _, F0.out, BA.out⟩
                case round =>
                  obtain ⟨i, rfl, hi, FI, BI⟩ := hrel
                  by_cases him : i < m
                  · have y1 : (i : Int) < m := by omega
                    obtain ⟨⟨v1, t1⟩, f1⟩ := FI.out.there (i * 2) (by omega)
                    obtain ⟨⟨v2, t2⟩, f2⟩ := FI.out.there (i * 2 + 1) (by omega)
                    have u8 : IntKind.u8.wrap (i : Int) = i := by
                      simp [IntKind.wrap, IntKind.signed, IntKind.bits]
                      omega
                    have FN := Lib.hid (FI.out.put him)
                    have B9 := Lib.hid ((BI.out.setCell (p := ⟨B, i * 2, none⟩) hB4.out (.int .u8 5)).setCell (p := ⟨B, i * 2 + 1, none⟩) hB4.out (.int .u8 (i : Int)))
                    go_wp2
                    go_roundw
                    case rel => exact ⟨i + 1, by go_num, by omega, FN.out, B9.out⟩
                    case measure => simp [intOf]; omega
                  · have y1 : ¬ (i : Int) < m := by omega
                    have FE : Fl B m m wr := by
                      have e : i = m := by omega
                      rw [e] at FI
                      exact FI.out
                    have O1 := FE.opl (Nat.le_refl _) (by omega) m
                    have O2 := FE.opl (m := 1) (by omega) (by omega) m
                    have FH := Lib.hid FE
                    have BB := BI
                    have A1 : Hid (∀ W, Fl B m m W → Calls Try.prog 13 #[.string ⟨#[]⟩, .slice (some ⟨B, 0, none⟩) m m, cv ⟨1, 1, 1, 1⟩] W fun e w' => e = .returned (.bool true) ∧ Below W.heap.size W w') := fun W hW => by
                      have h := applies_any [] (fls m) (some ⟨B, 0, none⟩) m ⟨1, 1, 1, 1⟩ W (by rw [fls_len]; omega) (fls_k m) (by rw [fls_len]; exact hW.opl (Nat.le_refl _) (by omega) m)
                      rw [fls_len] at h
                      exact h
                    have A2 : Hid (∀ W, Fl B m m W → Calls Try.prog 13 #[.string WB, .slice (some ⟨B, 0, none⟩) 1 m, .agg #[.int .i64 0, .int .i64 0, .int .i64 0, .int .i64 0]] W fun e w' => e = .returned (.bool true) ∧ Below W.heap.size W w') := fun W hW => by
                      have h := applies_any WB.data.toList (fls 1) (some ⟨B, 0, none⟩) m ⟨0, 0, 0, 0⟩ W (by rw [fls_len]; omega) (fls_k 1) (by rw [fls_len]; exact hW.opl (by omega) (by omega) m)
                      rw [fls_len] at h
                      exact h
                    have y2 : (1 : Int) ≤ m := by omega
                    clear FE O1 O2 FI BI
                    go_wp2_with (first
                      | (go_at_call 14; (with_reducible refine (ON.out _).mono ?_); rintro e w9 ⟨rfl, b9⟩; have FH := Lib.hid (FH.out.quiet b9); have BB := Lib.hid (BB.out.trans (b9.mono BB.out.size)); clear b9)
                      | (go_at_call 13; (with_reducible refine (A1.out _ FH.out).mono ?_); rintro e w9 ⟨rfl, b9⟩; have FH := Lib.hid (FH.out.quiet b9); have BB := Lib.hid (BB.out.trans (b9.mono BB.out.size)); clear b9)
                      | (go_at_call 13; (with_reducible refine (A2.out _ FH.out).mono ?_); rintro e w9 ⟨rfl, b9⟩; have FH := Lib.hid (FH.out.quiet b9); have BB := Lib.hid (BB.out.trans (b9.mono BB.out.size)); clear b9))
                    go_roundw
                    case rel => exact ⟨m + 1, by go_num, by omega, by omega, BB.out⟩
                    case measure => simp [intOf]; omega
            · have y0 : ¬ (m : Int) < 123 := by omega
              go_wp2
              go_loopw [18] (fun s wr => ∃ k : Nat, s = .int .i64 k ∧ k ≤ 256 ∧ Hid (Below w4.heap.size w4 wr)) (fun s _ => 256 - (intOf s).toNat)
              case atStart => exact ⟨0, rfl, Nat.zero_le _, BM.out⟩
              case round =>
                obtain ⟨k, rfl, hk, BK⟩ := hrel
                by_cases hk6 : k < 256
                · have y1 : (k : Int) < 256 := by omega
                  go_wp2
                  go_loopw [19] (fun s wr => ∃ n : Nat, s = .int .i64 n ∧ n ≤ 3 ∧ Hid (Below w4.heap.size w4 wr)) (fun s _ => 3 - (intOf s).toNat)
                  case atStart => exact ⟨0, rfl, Nat.zero_le _, BK.out⟩
                  case round =>
                    obtain ⟨n, rfl, hn, BN⟩ := hrel
                    by_cases hn3 : n < 3
                    · as_aux_lemma =>
                        have y2 : (n : Int) < 3 := by omega
                        have y3 : (n : Int) ≤ 2 := by omega
                        have u8 : IntKind.u8.wrap (k : Int) = k := by
                          simp [IntKind.wrap, IntKind.signed, IntKind.bits]
                          omega
                        have Q1 : Hid (∀ S g W, W.cell? ⟨g, 0, none⟩ = some (.int .u8 (k : Int)) → W.cell? ⟨g, 1, none⟩ = some (.int .u8 65) → Calls Try.prog 13 #[.string S, .slice (some ⟨g, 0, none⟩) 1 1, cv ⟨1, 1, 1, 1⟩] W fun e w' => e = .returned (.bool true) ∧ Below W.heap.size W w') := fun S g W h0 h1 =>
                          applies_any S.data.toList [⟨k, 65⟩] (some ⟨g, 0, none⟩) 1 ⟨1, 1, 1, 1⟩ W (by simp) (by intro o ho; rw [List.mem_singleton] at ho; subst ho; show k ≤ 255; omega) ⟨_, 1, rfl, Or.inr ⟨g, 0, rfl, fun j hj => by
                            have : j = 0 := by simp at hj; omega
                            subst this
                            exact ⟨h0, h1⟩⟩⟩
                        have Q2 : Hid (∀ S g W, W.cell? ⟨g, 0, none⟩ = some (.int .u8 (k : Int)) → W.cell? ⟨g, 1, none⟩ = some (.int .u8 0) → Calls Try.prog 13 #[.string S, .slice (some ⟨g, 0, none⟩) 1 1, cv ⟨1, 1, 1, 1⟩] W fun e w' => e = .returned (.bool true) ∧ Below W.heap.size W w') := fun S g W h0 h1 =>
                          applies_any S.data.toList [⟨k, 0⟩] (some ⟨g, 0, none⟩) 1 ⟨1, 1, 1, 1⟩ W (by simp) (by intro o ho; rw [List.mem_singleton] at ho; subst ho; show k ≤ 255; omega) ⟨_, 1, rfl, Or.inr ⟨g, 0, rfl, fun j hj => by
                            have : j = 0 := by simp at hj; omega
                            subst this
                            exact ⟨h0, h1⟩⟩⟩
                        have Q3 : Hid (∀ S g W, W.cell? ⟨g, 0, none⟩ = some (.int .u8 1) → W.cell? ⟨g, 1, none⟩ = some (.int .u8 0) → W.cell? ⟨g, 2, none⟩ = some (.int .u8 (k : Int)) → W.cell? ⟨g, 3, none⟩ = some (.int .u8 0) → Calls Try.prog 13 #[.string S, .slice (some ⟨g, 0, none⟩) 2 2, cv ⟨1, 1, 1, 1⟩] W fun e w' => e = .returned (.bool true) ∧ Below W.heap.size W w') := fun S g W h0 h1 h2 h3 =>
                          applies_any S.data.toList [⟨1, 0⟩, ⟨k, 0⟩] (some ⟨g, 0, none⟩) 2 ⟨1, 1, 1, 1⟩ W (by simp) (by
                            intro o ho
                            rw [List.mem_cons, List.mem_singleton] at ho
                            rcases ho with rfl | rfl
                            · show 1 ≤ 255; omega
                            · show k ≤ 255; omega) ⟨_, 2, rfl, Or.inr ⟨g, 0, rfl, fun j hj => by
                            match j, hj with
                            | 0, _ => exact ⟨h0, h1⟩
                            | 1, _ => exact ⟨h2, h3⟩
                            | j + 2, hj => exact absurd hj (by simp)⟩⟩
                        go_upto_region 54 with fail
                        have gb : Below wr.heap.size wr wr.drew := (Below.refl _ _).drew
                        go_region_held3 (fun _ => True) (first | exact trivial | skip)
                          (first
                            | (go_at_call 14; (with_reducible refine (ON.out _).mono ?_); rintro e w9 ⟨rfl, b9⟩; have gb := Below.on (w := wr) (by repeat (first | exact gb | exact Below.refl _ _ | refine Below.drew ?_ | refine Below.alloc ?_ (by have := gb.size; first | exact this | (simp at this ⊢; omega)) _)) b9)
                            | (go_at_call 13; (with_reducible refine (Q1.out _ _ _ ?_ ?_).mono ?_); (first | ((with_reducible refine cell_at _ _ _ 0 _ _ rfl ?_); rfl) | (refine below_cell b9 ?_; first | ((with_reducible refine cell_at _ _ _ 0 _ _ rfl ?_); rfl) | exact cell_at _ _ _ 0 _ _ rfl rfl)); (first | ((with_reducible refine cell_at _ _ _ 1 _ _ rfl ?_); rfl) | (refine below_cell b9 ?_; first | ((with_reducible refine cell_at _ _ _ 1 _ _ rfl ?_); rfl) | exact cell_at _ _ _ 1 _ _ rfl rfl)); rintro e w10 ⟨rfl, b10⟩; have gb := Below.on (w := wr) (by repeat (first | exact gb | exact Below.refl _ _ | refine Below.drew ?_ | refine Below.alloc ?_ (by have := gb.size; first | exact this | (simp at this ⊢; omega)) _)) b10)
                            | (go_at_call 13; (with_reducible refine (Q2.out _ _ _ ?_ ?_).mono ?_); (first | ((with_reducible refine cell_at _ _ _ 0 _ _ rfl ?_); rfl) | (refine below_cell b9 ?_; first | ((with_reducible refine cell_at _ _ _ 0 _ _ rfl ?_); rfl) | exact cell_at _ _ _ 0 _ _ rfl rfl)); (first | ((with_reducible refine cell_at _ _ _ 1 _ _ rfl ?_); rfl) | (refine below_cell b9 ?_; first | ((with_reducible refine cell_at _ _ _ 1 _ _ rfl ?_); rfl) | exact cell_at _ _ _ 1 _ _ rfl rfl)); rintro e w11 ⟨rfl, b11⟩; have gb := Below.on (w := wr) (by repeat (first | exact gb | exact Below.refl _ _ | refine Below.drew ?_ | refine Below.alloc ?_ (by have := gb.size; first | exact this | (simp at this ⊢; omega)) _)) b11)
                            | (go_at_call 13; (with_reducible refine (Q3.out _ _ _ ?_ ?_ ?_ ?_).mono ?_); (first | ((with_reducible refine cell_at _ _ _ 0 _ _ rfl ?_); rfl) | (refine below_cell b9 ?_; first | ((with_reducible refine cell_at _ _ _ 0 _ _ rfl ?_); rfl) | exact cell_at _ _ _ 0 _ _ rfl rfl)); (first | ((with_reducible refine cell_at _ _ _ 1 _ _ rfl ?_); rfl) | (refine below_cell b9 ?_; first | ((with_reducible refine cell_at _ _ _ 1 _ _ rfl ?_); rfl) | exact cell_at _ _ _ 1 _ _ rfl rfl)); (first | ((with_reducible refine cell_at _ _ _ 2 _ _ rfl ?_); rfl) | (refine below_cell b9 ?_; first | ((with_reducible refine cell_at _ _ _ 2 _ _ rfl ?_); rfl) | exact cell_at _ _ _ 2 _ _ rfl rfl)); (first | ((with_reducible refine cell_at _ _ _ 3 _ _ rfl ?_); rfl) | (refine below_cell b9 ?_; first | ((with_reducible refine cell_at _ _ _ 3 _ _ rfl ?_); rfl) | exact cell_at _ _ _ 3 _ _ rfl rfl)); rintro e w12 ⟨rfl, b12⟩; have gb := Below.on (w := wr) (by repeat (first | exact gb | exact Below.refl _ _ | refine Below.drew ?_ | refine Below.alloc ?_ (by have := gb.size; first | exact this | (simp at this ⊢; omega)) _)) b12))
                        all_goals
                          have BY := Lib.hid (BN.out.trans (gb.mono BN.out.size))
                          go_wp2
                          go_roundw
                          case rel => exact ⟨n + 1, by go_num, by omega, BY.out⟩
                          case measure => simp [intOf]; omega
                    · have y2 : ¬ (n : Int) < 3 := by omega
                      go_wp2
                      go_roundw
                      case rel => exact ⟨k + 1, by go_num, by omega, BN.out⟩
                      case measure => simp [intOf]; omega
                · have y1 : ¬ (k : Int) < 256 := by omega
                  have AW := Lib.hid awake_any
                  go_wp2_with (go_at_call 11; (with_reducible refine (AW.out _).mono ?_); rintro e w13 ⟨rfl, b13⟩; have B13 := Lib.hid (B4.out.trans ((BK.out.trans (b13.mono BK.out.size)).mono B4.out.size)); clear b13)
                  go_ret
                  exact ⟨rfl, B13.out⟩
end Go.Proofs.Ytalldnnegofdkaa
