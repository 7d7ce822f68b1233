/- Contracts of money's totalWeight and Split. -/
import Derived.Test.YthdmgnlemmpjkaaDoorA1
namespace Go.Proofs.YthdmgnlemmpjkaaDoor
open Go.RowKit

set_option maxHeartbeats 800000 in
theorem total_any (v : Value) (xs : List Int) (w : World) (h : Sl w v xs) (hlen : xs.length ≤ 4096) :
    Calls Tryd.prog 32 #[v] w fun e w' => e = .returned (.int .i64 (Mny.tw xs)) ∧ w = w' := by
  obtain ⟨a, c, rfl, h⟩ := h
  obtain ⟨n, hn⟩ : ∃ n, n = xs.length := ⟨_, rfl⟩
  rw [← hn] at h hlen ⊢
  have HN := Lib.hid hn
  have H := Lib.hid h
  clear hn h
  go_enter Tryd.func32, Tryd.ntmps32
  go_wp2
  go_loop [3, 8] (fun s i => ∃ k : Nat, k ≤ n ∧ i = .int .i64 k ∧ s = .int .i64 (Mny.sm (xs.take k)) ∧ (xs.take k).all Mny.wt = true) (fun _ i => n - (intOf i).toNat)
  case atStart => exact ⟨0, Nat.zero_le _, rfl, rfl, rfl⟩
  case round =>
    obtain ⟨k, hk, rfl, rfl, hi⟩ := hrel
    have HI := Lib.hid hi
    have hb1 := Mny.sm_nonneg hi
    have hb2 := Mny.sm_le hi (by rw [List.length_take]; omega)
    clear hi
    by_cases hlt : k < n
    · rcases H.out with h0 | ⟨b, off, rfl, hc⟩
      · exfalso; have := HN.out; rw [h0] at this; simp at this; omega
      · have hck := hc k (by have := HN.out; omega)
        have S : Hid (Mny.sm (xs.take (k + 1)) = Mny.sm (xs.take k) + xs.getD k 0) := Mny.sm_take xs k (by have := HN.out; omega)
        have A : Hid ((xs.take (k + 1)).all Mny.wt = ((xs.take k).all Mny.wt && Mny.wt (xs.getD k 0))) := Mny.all_take k (by have := HN.out; omega)
        obtain ⟨x, hx⟩ : ∃ x, x = xs.getD k 0 := ⟨_, rfl⟩
        rw [← hx] at hck S A
        have N : Hid (Mny.wt x = false → Mny.tw xs = 0) := fun e => Mny.tw_no (Mny.all_no k (by have := HN.out; omega) (by rw [← hx]; exact e))
        clear hx hc
        by_cases c1 : x < 0
        · go_wp2
          go_ret
          exact ⟨ret_int (N.out ((Mny.wt_no x).2 (by omega))).symm, rfl⟩
        by_cases c2 : 1000000 < x
        · go_wp2
          go_ret
          exact ⟨ret_int (N.out ((Mny.wt_no x).2 (by omega))).symm, rfl⟩
        go_wp2
        go_round
        case rel => exact ⟨k + 1, by omega, by go_num, by rw [S.out], by rw [A.out, HI.out, (Mny.wt_iff x).2 ⟨by omega, by omega⟩]; rfl⟩
        case measure => simp [intOf]; omega
    · have e : xs.take k = xs := List.take_of_length_le (by have := HN.out; omega)
      rw [e] at HI hb1 hb2 ⊢
      have T := Lib.hid (Mny.tw_yes HI.out)
      clear e
      go_wp2
      go_ret
      exact ⟨ret_int T.out.symm, rfl⟩
theorem made_0 (n : Nat) : (madeCells (Value.int .i64 0).cells (n * 1)).toList = (List.replicate n (0 : Int)).map (Value.int .i64) := by
  simp [madeCells, Value.cells, Nat.mod_one, List.map_const']
theorem own_qt {w w' : World} {B g n : Nat} {l : List Value} (h : w.ownsRow B 3 1 (.slice (some ⟨g, 0, none⟩) n n) n l) (hq : Qt w w') : w'.ownsRow B 3 1 (.slice (some ⟨g, 0, none⟩) n n) n l := by
  obtain ⟨m, rfl⟩ := hq; exact h
set_option maxHeartbeats 1600000 in
theorem split_no (v : Value) (xs : List Int) (c : Int) (w : World) (h : Sl w v xs) (hb : Mny.splE c xs ≠ 0) :
    Calls Tryd.prog 15 #[.int .i64 c, v] w fun e w' => e = .returned (.tuple #[.slice none 0 0, .int .i64 (Mny.splE c xs)]) ∧ w = w' := by
  by_cases hl : 4096 < xs.length
  · have E := Mny.spl_many (c := c) hl
    rw [E.1]
    obtain ⟨a, k, rfl, h⟩ := h
    clear h E hb
    go_enter Tryd.func15, Tryd.ntmps15
    go_wp2
    go_ret2
    exact ⟨rfl, rfl⟩
  · have T := Lib.hid (fun w' (e : w = w') => total_any v xs w' (e ▸ h) (by omega))
    have hbad : Mny.okS c xs = false := by
      cases q : Mny.okS c xs
      · rfl
      · exact absurd (Mny.spl_ok (by omega) q).1 hb
    have E := Mny.spl_bad (c := c) (l := xs) (by omega) hbad
    rw [E.1]
    obtain ⟨a, k, rfl, h⟩ := h
    clear h E hb
    cases q : Mny.rt c
    · have R := Lib.hid (fun w => right_b c false w q)
      have t0 : ∃ t, t = Mny.tw xs := ⟨_, rfl⟩
      obtain ⟨t, ht⟩ := t0
      rw [← ht] at T
      clear ht q hbad
      go_enter Tryd.func15, Tryd.ntmps15
      go_wp2_with (first | (go_at_call 32; refine (T.out _ rfl).mono ?_; rintro e w' ⟨rfl, rfl⟩) | (go_at_call 23; refine (R.out _).mono ?_; rintro e w' ⟨rfl, rfl⟩))
      go_ret2
      exact ⟨rfl, rfl⟩
    · have R := Lib.hid (fun w => right_b c true w q)
      have ht : Mny.tw xs = 0 := by
        cases a : xs.all Mny.wt
        · exact Mny.tw_no a
        · rw [Mny.tw_yes a]
          have := Mny.sm_nonneg a
          by_cases z : 1 ≤ Mny.sm xs
          · exact absurd ((Mny.okS_iff c xs).2 ⟨a, z, q⟩) (by rw [hbad]; simp)
          · omega
      rw [ht] at T
      clear ht q hbad
      go_enter Tryd.func15, Tryd.ntmps15
      go_wp2_with (first | (go_at_call 32; refine (T.out _ rfl).mono ?_; rintro e w' ⟨rfl, rfl⟩) | (go_at_call 23; refine (R.out _).mono ?_; rintro e w' ⟨rfl, rfl⟩))
      go_ret2
      exact ⟨rfl, rfl⟩
set_option maxRecDepth 100000 in
set_option maxHeartbeats 3200000 in
theorem split_ok (v : Value) (xs : List Int) (c : Int) (w : World) (h : Sl w v xs) (hl : xs.length ≤ 4096) (ho : Mny.okS c xs = true) :
    Calls Tryd.prog 15 #[.int .i64 c, v] w fun e w' => ∃ g, e = .returned (.tuple #[.slice (some ⟨g, 0, none⟩) xs.length xs.length, .int .i64 0]) ∧ w.heap.size ≤ g ∧ w'.ownsRow w.heap.size 3 1 (.slice (some ⟨g, 0, none⟩) xs.length xs.length) xs.length ((Mny.split c xs).map (Value.int .i64)) ∧ Below w.heap.size w w' := by
  obtain ⟨ha, h1, hc⟩ := (Mny.okS_iff c xs).1 ho
  have hcb := (Mny.rt_iff c).1 hc
  obtain ⟨hc1, hc2⟩ := hcb
  have T := Lib.hid (fun w' (b : Below w.heap.size w w') => Mny.tw_yes ha ▸ total_any v xs w' (h.below b) hl)
  have R := Lib.hid (fun w => right_b c true w hc)
  have hW2 := Mny.sm_le ha hl
  obtain ⟨a, k, rfl, h⟩ := h
  have HL := Lib.hid (Mny.left_bd c xs ha h1)
  have WB := Lib.hid (fun k (hk : k < xs.length) => (⟨Mny.wt_bd ha _ (Mny.getD_mem hk), Mny.mem_le ha _ (Mny.getD_mem hk)⟩ : (0 ≤ xs.getD k 0 ∧ xs.getD k 0 ≤ 1000000) ∧ xs.getD k 0 ≤ Mny.sm xs))
  have PB := Lib.hid (fun k => Mny.part_bd (c := c) ha h1 hl hc1 hc2 k)
  have LEN := Lib.hid (Mny.split_len c xs)
  have GV : Hid (Mny.split c xs = Mny.give (fun x => c * x / Mny.sm xs) (c - Mny.sm (xs.map fun x => c * x / Mny.sm xs)) xs) := rfl
  obtain ⟨W, hW⟩ : ∃ W, W = Mny.sm xs := ⟨_, rfl⟩
  rw [← hW] at T h1 hW2 WB PB GV HL
  obtain ⟨f, hf⟩ : ∃ f : Int → Int, f = fun x => c * x / W := ⟨_, rfl⟩
  rw [← hf] at PB GV HL
  have FX : Hid (∀ x, c * x / W = f x) := fun x => by rw [hf]
  obtain ⟨out, hout⟩ : ∃ out, out = Mny.split c xs := ⟨_, rfl⟩
  rw [← hout] at LEN GV ⊢
  obtain ⟨n, hn⟩ : ∃ n, n = xs.length := ⟨_, rfl⟩
  rw [← hn] at h hl WB LEN T ⊢
  have HN := Lib.hid hn
  have H := Lib.hid h
  obtain ⟨i0, hi, hz0, hz1, hz2⟩ := info_parts info_int
  have BB : i0.bytes * n ≤ 281474976710656 := by rw [hz2]; omega
  have P := Lib.hid (fun x w (x0 : 0 ≤ x) (x1 : x ≤ 1000000) (x2 : x ≤ W) => part_any c x W w hc1 hc2 h1 hW2 x0 x1 x2)
  clear hn h hW hf hout ho ha hc
  go_enter Tryd.func15, Tryd.ntmps15
  go_wp2_with (first | (go_at_call 32; refine (T.out _ (Below.refl _ _)).mono ?_; rintro e w' ⟨rfl, rfl⟩)  | (go_at_call 23; refine (R.out _).mono ?_; rintro e w' ⟨rfl, rfl⟩)  | (refine wpList_make_full _ rfl _ _ 22 rfl w.heap.size 3 i0 (.int .i64 0) 1 Tryd.underlying22 hi hz0 hz1 .i64 .i64 _ _ n rfl rfl (by omega) (by omega) BB (by unfold maxLen; omega) (Nat.le_refl _) ?_; intro w2 hown hgrow))
  rw [made_0] at hown
  obtain ⟨g, hg⟩ : ∃ g, g = w.heap.size := ⟨_, rfl⟩
  have hb0 : Below g w w2 := by rw [hg]; exact (Below.refl _ w).grown hgrow (Nat.le_refl _) (fun k hk => by cases hk)
  rw [← hg] at hown ⊢
  have HG := Lib.hid hg
  have OW : Hid (w2.ownsRow g 3 1 (.slice (some ⟨g, 0, none⟩) n n) n ((Mny.st1 f xs 0).map (Value.int .i64))) := by
    show World.ownsRow _ _ _ _ _ _ _; rw [Mny.st1_0, ← HN.out]; exact hown
  have HB := Lib.hid hb0
  have FB : Hid (∀ k, k < n → -1000000000000000 ≤ f (xs.getD k 0) ∧ f (xs.getD k 0) ≤ 1000000000000000) := fun k hk => by
    have := WB.out k hk
    rw [← FX.out]; exact Mny.q_bd h1 this.1.1 this.2 hc1 hc2 (by omega)
  clear hown hgrow hb0 hg
  go_loopw [8, 31] (fun l i wr => ∃ k : Nat, k ≤ n ∧ i = .int .i64 k ∧ l = .int .i64 (c - Mny.sm ((xs.take k).map f)) ∧ wr.ownsRow g 3 1 (.slice (some ⟨g, 0, none⟩) n n) n ((Mny.st1 f xs k).map (Value.int .i64)) ∧ Below g w wr) (fun _ i _ => n + 1 - (intOf i).toNat)
  case atStart => exact ⟨0, by omega, rfl, by simp [Mny.sm], OW.out, HB.out⟩
  case round =>
    obtain ⟨k, hk, rfl, rfl, hown, hbl⟩ := hrel
    have HBL := Lib.hid hbl
    have HOW := Lib.hid hown
    by_cases hlt : k < n
    · rcases H.out with h0 | ⟨b, off, rfl, hcl⟩
      · exfalso; have := HN.out; rw [h0] at this; simp at this; omega
      · have hck0 := hcl k hlt
        have hck := (hbl.cell (p := ⟨b, off + k, none⟩) (by have := World.block_lt_of_cell? _ _ hck0; have := HG.out; show b < g; simp at *; omega)).trans hck0
        obtain ⟨o, ho⟩ : ∃ o, ((Mny.st1 f xs k).map (Value.int .i64))[k]? = some (.int .i64 o) := by
          have hl : k < (Mny.st1 f xs k).length := by rw [Mny.st1_len f xs k (by have := HN.out; omega)]; have := HN.out; omega
          exact ⟨(Mny.st1 f xs k)[k], by rw [List.getElem?_map, List.getElem?_eq_getElem hl]; rfl⟩
        have hcA := (hown.cellAt k (by omega)).trans ho
        have hfA := hown.frozenAt k
        have wb := WB.out k hlt
        have fb := FB.out k hlt
        have pb := PB.out k
        have E : Hid (Mny.sm ((xs.take (k + 1)).map f) = Mny.sm ((xs.take k).map f) + f (xs.getD k 0)) := Mny.sum_map_take f xs k (by have := HN.out; omega)
        have ST : Hid (((Mny.st1 f xs k).map (Value.int .i64)).set k (.int .i64 (f (xs.getD k 0))) = (Mny.st1 f xs (k + 1)).map (Value.int .i64)) := by
          show _ = _; rw [← List.map_set, Mny.st1_set f xs k (by have := HN.out; omega)]
        obtain ⟨x, hx⟩ : ∃ x, x = xs.getD k 0 := ⟨_, rfl⟩
        rw [← hx] at hck wb fb E ST
        obtain ⟨y, hy⟩ : ∃ y, y = f x := ⟨_, rfl⟩
        rw [← hy] at fb E ST
        have PX : Hid (∀ w, Calls Tryd.prog 33 #[.int .i64 c, .int .i64 x, .int .i64 W] w fun e w' => e = .returned (.tuple #[.int .i64 y, .int .i64 (c * x % W)]) ∧ Qt w w') := fun w => by
          have := P.out x w wb.1.1 wb.1.2 wb.2
          rw [FX.out, ← hy] at this; exact this
        obtain ⟨Sm, hS⟩ : ∃ S, S = Mny.sm ((xs.take k).map f) := ⟨_, rfl⟩
        rw [← hS] at pb E ⊢
        obtain ⟨pb1, pb2⟩ := pb
        obtain ⟨fb1, fb2⟩ := fb
        clear hx hy hS hown hbl ho hcl hck0 wb
        go_wp2_with (go_at_call 33; refine (PX.out _).mono ?_; rintro e w3 ⟨rfl, m, rfl⟩)
        go_roundw
        case rel =>
          obtain ⟨s1, s2⟩ := HOW.out.stored k (.int .i64 y)
          rw [ST.out] at s1
          exact ⟨k + 1, by omega, by go_num, by rw [E.out]; congr 1; omega, s1, below_drewN (HBL.out.grown s2 (by have := HBL.out.size; have := HG.out; omega) (fun j hj => by cases hj; exact Nat.le_refl _)) m⟩
        case measure => simp [intOf]; omega
    · obtain rfl : k = n := by omega
      have e1 : xs.take k = xs := List.take_of_length_le (by have := HN.out; omega)
      have O2 : Hid (wr.ownsRow g 3 1 (.slice (some ⟨g, 0, none⟩) k k) k ((Mny.st2 f out xs 0).map (Value.int .i64))) := by
        have e2 : Mny.st1 f xs k = Mny.st2 f out xs 0 := by have := HN.out; subst this; rw [Mny.st1_n, Mny.st2_0]
        rw [← e2]; exact hown
      have hL := HL.out
      have pb := PB.out k
      rw [e1] at pb ⊢
      obtain ⟨L0, hL0⟩ : ∃ L, L = c - Mny.sm (xs.map f) := ⟨_, rfl⟩
      rw [← hL0] at hL GV ⊢
      have l0 : 0 ≤ L0 := hL.1
      have l1 : L0 ≤ 4097000000000000000 := by omega
      obtain ⟨wo, rfl⟩ : ∃ x, x = wr := ⟨_, rfl⟩
      clear e1 hL pb hL0 hown hbl HOW OW HB
      go_wp2
      go_loopw [8, 55] (fun l i wq => ∃ (j : Nat) (L : Int), j ≤ k ∧ i = .int .i64 j ∧ l = .int .i64 L ∧ 0 ≤ L ∧ L ≤ 4097000000000000000 ∧ out.drop j = Mny.give f L (xs.drop j) ∧ wq.ownsRow g 3 1 (.slice (some ⟨g, 0, none⟩) k k) k ((Mny.st2 f out xs j).map (Value.int .i64)) ∧ Below g w wq) (fun _ i _ => k + 1 - (intOf i).toNat)
      case atStart => exact ⟨0, L0, by omega, rfl, rfl, l0, l1, GV.out, O2.out, HBL.out⟩
      case round =>
        obtain ⟨j, L, hj, rfl, rfl, hL1, hL2, hgv, hown, hbl⟩ := hrel
        have HBL2 := Lib.hid hbl
        have HOW2 := Lib.hid hown
        by_cases hjn : j < k
        · rcases H.out with h0 | ⟨b, off, rfl, hcl⟩
          · exfalso; have := HN.out; rw [h0] at this; simp at this; omega
          · have hck0 := hcl j hjn
            have hck := (hbl.cell (p := ⟨b, off + j, none⟩) (by have := World.block_lt_of_cell? _ _ hck0; have := HG.out; show b < g; simp at *; omega)).trans hck0
            have hcA := (hown.cellAt j (by omega)).trans (by rw [List.getElem?_map, Mny.st2_at f out xs j (by rw [LEN.out, HN.out]) (by have := HN.out; omega)]; rfl : ((Mny.st2 f out xs j).map (Value.int .i64))[j]? = some (.int .i64 (f (xs.getD j 0))))
            have hfA := hown.frozenAt j
            have fb := FB.out j hjn
            have GS := Lib.hid (Mny.give_step (f := f) (out := out) (ws := xs) (k := j) (L := L) (by rw [LEN.out, HN.out]) (by have := HN.out; omega) hgv)
            have SK := Lib.hid (Mny.st2_keep f out xs j (by rw [LEN.out, HN.out]) (by have := HN.out; omega))
            have SS : Hid (((Mny.st2 f out xs j).map (Value.int .i64)).set j (.int .i64 (out.getD j 0)) = (Mny.st2 f out xs (j + 1)).map (Value.int .i64)) := by
              show _ = _; rw [← List.map_set, Mny.st2_set f out xs j (by rw [LEN.out, HN.out]) (by have := HN.out; omega)]
            obtain ⟨x, hx⟩ : ∃ x, x = xs.getD j 0 := ⟨_, rfl⟩
            rw [← hx] at hck hcA fb GS SK
            obtain ⟨y, hy⟩ : ∃ y, y = f x := ⟨_, rfl⟩
            rw [← hy] at hcA fb GS SK
            obtain ⟨fb1, fb2⟩ := fb
            clear hx hy hown hbl hgv hcl hck0
            by_cases c1 : 0 < L
            · by_cases c2 : 0 < x
              · have G : Hid (out.getD j 0 = y + 1 ∧ out.drop (j + 1) = Mny.give f (L - 1) (xs.drop (j + 1))) := by
                  rcases GS.out with q | q
                  · exact ⟨q.2.2.1, q.2.2.2⟩
                  · exact absurd ⟨c1, c2⟩ q.1
                rw [G.out.1] at SS
                go_wp2
                go_roundw
                case rel =>
                  obtain ⟨s1, s2⟩ := HOW2.out.stored j (.int .i64 (y + 1))
                  rw [SS.out] at s1
                  exact ⟨j + 1, L - 1, by omega, by go_num, rfl, by omega, by omega, G.out.2, s1, HBL2.out.grown s2 (by have := HBL2.out.size; have := HG.out; omega) (fun i hi => by cases hi; exact Nat.le_refl _)⟩
                case measure => simp [intOf]; omega
              · have G : Hid (out.getD j 0 = y ∧ out.drop (j + 1) = Mny.give f L (xs.drop (j + 1))) := by
                  rcases GS.out with q | q
                  · exact absurd q.2.1 c2
                  · exact ⟨q.2.1, q.2.2⟩
                go_wp2
                go_roundw
                case rel => exact ⟨j + 1, L, by omega, by go_num, rfl, by omega, by omega, G.out.2, SK.out G.out.1 ▸ HOW2.out, HBL2.out⟩
                case measure => simp [intOf]; omega
            · have G : Hid (out.getD j 0 = y ∧ out.drop (j + 1) = Mny.give f L (xs.drop (j + 1))) := by
                rcases GS.out with q | q
                · exact absurd q.1 c1
                · exact ⟨q.2.1, q.2.2⟩
              go_wp2
              go_roundw
              case rel => exact ⟨j + 1, L, by omega, by go_num, rfl, by omega, by omega, G.out.2, SK.out G.out.1 ▸ HOW2.out, HBL2.out⟩
              case measure => simp [intOf]; omega
        · obtain rfl : j = k := by omega
          have FN : Hid (wr.ownsRow g 3 1 (.slice (some ⟨g, 0, none⟩) j j) j (out.map (Value.int .i64))) := by
            have e : Mny.st2 f out xs j = out := by rw [show j = xs.length from HN.out]; exact Mny.st2_n f out xs (by have := HN.out; have := LEN.out; omega)
            show World.ownsRow _ _ _ _ _ _ _; rw [e] at hown; exact hown
          clear hown hbl hgv
          go_wp2
          go_ret2
          have hg := HG.out
          subst hg
          exact ⟨_, rfl, Nat.le_refl _, FN.out, HBL2.out⟩
end Go.Proofs.YthdmgnlemmpjkaaDoor
