/- numbers. -/
import Derived.Test.YtkhgjjbiifbfgaaLm7
namespace Go.Proofs.Ytkhgjjbiifbfgaa
open Go.RowKit

/-- What numbers needs of a tree. -/
structure Tn (B : Nat) (w : World) (ws : List Ed.Bs) (M : Ed.Bs → Option (Nat × Nat)) (nm : Ed.Bs → Int) (N : Nat) : Prop where
  tr : Tr B w M nm N
  dom : ∀ p, (M p).isSome = true ↔ Lx.Begun ws p
  nums : Lx.Nums ws nm
  good : Lx.Good ws
theorem Tn.quiet {B N : Nat} {w w' : World} {ws : List Ed.Bs} {M : Ed.Bs → Option (Nat × Nat)} {nm : Ed.Bs → Int} (h : Tn B w ws M nm N) (hb : Below w.heap.size w w') : Tn B w' ws M nm N := { h with tr := h.tr.quiet hb }
theorem Tn.word {B N : Nat} {w : World} {ws : List Ed.Bs} {M : Ed.Bs → Option (Nat × Nat)} {nm : Ed.Bs → Int} (h : Tn B w ws M nm N) {p : Ed.Bs} (hp : (M p).isSome = true) (h0 : p ≠ []) : ∃ x ∈ ws, p <+: x :=
  ((h.dom p).1 hp).resolve_left h0
theorem Tn.short {B N : Nat} {w : World} {ws : List Ed.Bs} {M : Ed.Bs → Option (Nat × Nat)} {nm : Ed.Bs → Int} (h : Tn B w ws M nm N) {p : Ed.Bs} (hp : (M p).isSome = true) : p.length ≤ 40 := by
  by_cases h0 : p = []
  · rw [h0]; exact Nat.zero_le _
  obtain ⟨x, hx, h1⟩ := h.word hp h0
  exact Nat.le_trans h1.length_le (h.good.le x hx)
set_option maxHeartbeats 1600000 in
theorem numbers_none (w : World) : Calls Try.prog 33 #[.pointer none] w fun e w' => e = .returned (.slice none 0 0) ∧ w = w' := by
  go_enter Try.func33, Try.ntmps33
  go_wp2_with fail
  go_ret
  exact ⟨rfl, rfl⟩
/-- A loop over the map of a node: what has been collected, and what is left. -/
structure Lf (B : Nat) (w0 wr : World) (ws : List Ed.Bs) (M : Ed.Bs → Option (Nat × Nat)) (nm : Ed.Bs → Int) (N : Nat) (p : Ed.Bs) (mb r n : Nat) (D : DataW Unit) (left : Lit → Bool) (cnt : Nat) (v : Value) (l : List Int) : Prop where
  tn : Tn B wr ws M nm N
  rg : wr.ranges Try.prog 5 Rn mb r n D left cnt
  oz : Oz w0 wr v l
  pt : Lx.Part ws p (fun c => (M (p ++ [c])).isSome && !left (kb c)) l
  le : ∀ c, left (kb c) = true → (M (p ++ [c])).isSome = true
  rl : w0.heap.size ≤ r
theorem kb_same (c d : UInt8) : (kb d).sameKey (kb c) = (d == c) := by
  by_cases h : d = c
  · subst h; simp [Lit.sameKey]
  · have h1 : (d == c) = false := beq_eq_false_iff_ne.2 h
    have h2 : ¬ d.toNat = c.toNat := fun e => h (UInt8.toNat_inj.1 e)
    rw [h1]
    simp [Lit.sameKey]
    omega
theorem byte_of {z : Int} (h : (Lit.int .u8 z).wf = true) : ∃ c : UInt8, z = (c.toNat : Int) := by
  have hb : 0 ≤ z ∧ z ≤ 255 := by simpa [Lit.wf, IntKind.min, IntKind.max, IntKind.signed, IntKind.bits] using h
  refine ⟨UInt8.ofNat z.toNat, ?_⟩
  have : (UInt8.ofNat z.toNat).toNat = z.toNat := by simp; omega
  rw [this]; omega
set_option maxRecDepth 100000 in
set_option maxHeartbeats 6400000 in
theorem numbers_any (fuel : Nat) : ∀ (B N : Nat) (p : Ed.Bs) (ws : List Ed.Bs) (M : Ed.Bs → Option (Nat × Nat)) (nm : Ed.Bs → Int) (w : World) (x : Nat × Nat), M p = some x → 41 ≤ p.length + fuel → Tn B w ws M nm N → ws.length ≤ 1000 →
    Calls Try.prog 33 #[nd x.1] w fun e w' => ∃ v l, e = .returned v ∧ Oz w w' v l ∧ Lx.Pre ws p l := by
  induction fuel with
  | zero =>
    intro B N p ws M nm w x hx hf T hn
    have := T.short (p := p) (by rw [hx]; rfl)
    omega
  | succ fuel ih =>
    intro B N p ws M nm w x hx hf T hn
    obtain ⟨D, n, hnN, ow, hk⟩ := T.tr.mp p x hx
    have c0 := T.tr.c0 p x hx
    have c1 := T.tr.c1 p x hx
    have P0 : Lx.Part ws p (fun c => (M (p ++ [c])).isSome && !(Go.Maps.has D) (kb c)) (if nm p = -1 then [] else [nm p]) := Lx.Part.start T.nums T.good (fun c => by rw [hk.has c]; cases (M (p ++ [c])).isSome <;> rfl)
    have IH : Hid (∀ (c : UInt8) (w : World) (y : Nat × Nat), M (p ++ [c]) = some y → Tn B w ws M nm N → Calls Try.prog 33 #[nd y.1] w fun e w' => ∃ v l, e = .returned v ∧ Oz w w' v l ∧ Lx.Pre ws (p ++ [c]) l) :=
      fun c w y hy hT => ih B N (p ++ [c]) ws M nm w y hy (by rw [List.length_append]; simp; omega) hT hn
    have HT := Lib.hid T
    have HK := Lib.hid hk
    have HN := Lib.hid hn
    clear T hk hx hf hnN ih
    have LF : Hid (∀ (w1 w2 : World) (v : Value) (l : List Int), Oz w w1 v l → Lx.Part ws p (fun c => (M (p ++ [c])).isSome && !(Go.Maps.has D) (kb c)) l → w2.ranges Try.prog 5 Rn x.2 w1.heap.size n D (Go.Maps.has D) (Go.Maps.size D) → w1.grownBy w2 none →
        Lf B w w2 ws M nm N p x.2 w1.heap.size n D (Go.Maps.has D) (Go.Maps.size D) v l) := by
      intro w1 w2 v l ho hp rg gr
      have b2 : Below w1.heap.size w1 w2 := ⟨gr.os, gr.tape, gr.output, gr.size, fun k hk => gr.block k hk (by simp)⟩
      exact ⟨HT.out.quiet (ho.bl.trans (b2.mono ho.bl.size)), rg, ho.quiet b2, hp, fun c hc => by rw [HK.out.has c] at hc; exact hc, ho.bl.size⟩
    by_cases hm : nm p = -1
    · rw [if_pos hm] at P0
      rw [hm] at c0
      have HP := Lib.hid P0
      clear P0 hm
      go_enter Try.func33, Try.ntmps33
      go_wp2_with (first | (at_range; refine wpList_range_own _ rfl _ 68 rfl 5 55 keyB Try.underlying68 Rn x.2 n D rfl ow ?_; intro w1 rg1 gr1 sz1; have L0 := Lib.hid (LF.out w w1 _ _ (Oz.nil (Below.refl _ _)) HP.out rg1 gr1); clear rg1 gr1 sz1) | fail)
      go_frame
      obtain ⟨r, hr⟩ : ∃ r, r = w.heap.size := ⟨_, rfl⟩
      rw [← hr] at L0 ⊢
      clear hr c0 c1 ow HP
      go_loopw [3] (fun v wr => ∃ (l : List Int) (left : Lit → Bool) (cnt : Nat), Hid (Lf B w wr ws M nm N p x.2 r n D left cnt v l)) (fun _ wr => wr.rangeLeft x.2 r)
      case atStart => exact ⟨_, _, _, L0.out⟩
      case round =>
        obtain ⟨l, left, cnt, L⟩ := hrel
        clear L0
        go_wp2_with (at_next; refine wpList_next_ranges _ rfl _ rfl 5 keyB Rn (Value.int .u8) ptr (fun key kl hk => by obtain ⟨z, h1, _⟩ := Go.Maps.keyOf_int_inv Try.underlying5 hk; exact ⟨z, h1⟩) (fun v y hv => rn_some hv) x.2 r n D left cnt rfl L.out.rg ?_ ?_)
        · intro hc0 hl0
          have HPRE := Lib.hid (L.out.pt.all (fun c hc => by rw [hl0 (kb c), (HT.out.dom _).2 (Or.inr hc)]; rfl))
          clear hc0 hl0
          go_wp2
          go_ret
          exact ⟨_, l, rfl, L.out.oz, HPRE.out⟩
        · intro zk o kl y1 y2 w4 cnt4 hkey hlk hv hat rg4 hlt gr4 sz4 hen
          obtain ⟨z2, h1, h2, hwf⟩ := Go.Maps.keyOf_int_inv Try.underlying5 hkey
          obtain ⟨c, hc⟩ := byte_of (show (Lit.int .u8 zk).wf = true from by cases h1; exact hwf)
          cases h1
          subst hc h2
          have hs := L.out.le c hlk
          obtain ⟨yc, hyc⟩ := Option.isSome_iff_exists.1 hs
          have ho : ptr o = nd yc.1 := by
            have e := hat (nmv (-1))
            rw [HK.out.at' c, hyc] at e
            rw [← e] at hv
            exact rn_inv hv
          rw [ho] at hen ⊢
          have b4 : Below w.heap.size w w4 := L.out.oz.bl.grown gr4 L.out.oz.bl.size (fun g e => by cases e; exact L.out.rl)
          have rgc : ∀ c t f, wr.heap[r]? ≠ some (.cells c t f) := by
            obtain ⟨_, _, _, _, _, _, _, _, _, hr, _⟩ := L.out.rg
            intro c t f e; rw [hr] at e; cases e
          have O4 := Lib.hid (L.out.oz.grown gr4 (fun g e => by cases e; exact ⟨L.out.rl, rgc⟩))
          have T4 := Lib.hid (HT.out.quiet b4)
          have CI := Lib.hid (IH.out c w4 yc hyc T4.out)
          have HLT := Lib.hid hlt
          have RG := Lib.hid rg4
          have HLK := Lib.hid hlk
          have HYC := Lib.hid hyc
          clear hkey hlk hv hat rg4 hlt gr4 sz4 hs hyc ho b4 rgc hwf
          go_wp2_with (first
            | (go_at_call 33; (with_reducible refine CI.out.mono ?_); rintro e w5 ⟨v5, m, rfl, O5, P5⟩; have nm := P5.ne (T4.out.word (by rw [HYC.out]; rfl) (by simp)); have ml := P5.len_le; have ll := L.out.pt.len; obtain ⟨g5, c5, rfl, hc5⟩ := O5.cells nm; have O6 := Lib.hid (O4.out.quiet O5.bl); have HO5 := Lib.hid O5; have HP5 := Lib.hid P5; have HC5 := Lib.hid hc5; clear O5 P5 nm hc5)
            | (at_builtin; refine wp_cat rfl _ _ rfl _ l rfl O6.out ⟨g5, 0, none⟩ m.length c5 m rfl rfl HC5.out (by omega) ?_; intro v7 w7 O7 g7; have HO7 := Lib.hid O7; have HG7 := Lib.hid g7; clear O7 g7))
          have hse : ∀ (k : Nat) (o : Obj), w4.heap[k]? = some o → isC o = false → w7.heap[k]? = some o := fun k o h1 h2 => HG7.out k o ((HO5.out.bl.block k (Array.getElem?_eq_some_iff.1 h1).1).trans h1) h2
          have RG7 := ranges_keep RG.out hse
          have LL : Lf B w w7 ws M nm N p x.2 r n D (fun z => left z && !z.sameKey (kb c)) cnt4 v7 (l ++ m) := {
            tn := HT.out.quiet HO7.out.bl
            rg := RG7
            oz := HO7.out
            pt := L.out.pt.step (c := c) (by rw [HYC.out, HLK.out]; rfl) (fun d => by
              rw [kb_same]
              by_cases e : d = c
              · subst e; rw [HYC.out]; simp
              · have h1 : (d == c) = false := beq_eq_false_iff_ne.2 e
                rw [h1]; simp) HP5.out
            le := fun d hd => L.out.le d (by rw [Bool.and_eq_true] at hd; exact hd.1)
            rl := L.out.rl }
          have HLL := Lib.hid LL
          have M1 := Lib.hid (show w7.rangeLeft x.2 r < wr.rangeLeft x.2 r from by rw [RG7.left_eq, L.out.rg.left_eq]; exact HLT.out)
          clear hse RG7 LL
          go_roundw
          case rel => exact ⟨l ++ m, _, cnt4, HLL.out⟩
          case measure => exact M1.out
    · rw [if_neg hm] at P0
      obtain ⟨z, hz⟩ : ∃ z, z = nm p := ⟨_, rfl⟩
      rw [← hz] at hm P0 c0
      have HP := Lib.hid P0
      have e0 : (z != -1) = true := by simpa using hm
      clear P0 hm hz
      go_enter Try.func33, Try.ntmps33
      go_wp2_with (first
        | (at_builtin; refine wp_cat rfl _ _ rfl _ [] rfl (Oz.nil ((Below.refl _ _).alloc (Nat.le_refl _) _)) ⟨_, 0, none⟩ 1 1 [z] rfl rfl (one_new _ _ (by simp) _ _) (by simp) ?_; intro v3 w3 O3 g3; have c3 := kept_cell O3.bl c1; have ow3 := map_keep ow (O3.bl.block _ ow.lt); have HO := Lib.hid O3; clear O3 g3 c1 ow c0)
        | (at_range; refine wpList_range_own _ rfl _ 68 rfl 5 55 keyB Try.underlying68 Rn x.2 n D rfl ow3 ?_; intro w1 rg1 gr1 sz1; have L0 := Lib.hid (LF.out w3 w1 _ _ HO.out HP.out rg1 gr1); clear rg1 gr1 sz1) | fail)
      go_frame
      obtain ⟨r, hr⟩ : ∃ r, r = w3.heap.size := ⟨_, rfl⟩
      rw [← hr] at L0 ⊢
      clear hr c3 ow3 HO HP e0
      go_loopw [3] (fun v wr => ∃ (l : List Int) (left : Lit → Bool) (cnt : Nat), Hid (Lf B w wr ws M nm N p x.2 r n D left cnt v l)) (fun _ wr => wr.rangeLeft x.2 r)
      case atStart => exact ⟨_, _, _, L0.out⟩
      case round =>
        obtain ⟨l, left, cnt, L⟩ := hrel
        clear L0
        go_wp2_with (at_next; refine wpList_next_ranges _ rfl _ rfl 5 keyB Rn (Value.int .u8) ptr (fun key kl hk => by obtain ⟨z, h1, _⟩ := Go.Maps.keyOf_int_inv Try.underlying5 hk; exact ⟨z, h1⟩) (fun v y hv => rn_some hv) x.2 r n D left cnt rfl L.out.rg ?_ ?_)
        · intro hc0 hl0
          have HPRE := Lib.hid (L.out.pt.all (fun c hc => by rw [hl0 (kb c), (HT.out.dom _).2 (Or.inr hc)]; rfl))
          clear hc0 hl0
          go_wp2
          go_ret
          exact ⟨_, l, rfl, L.out.oz, HPRE.out⟩
        · intro zk o kl y1 y2 w4 cnt4 hkey hlk hv hat rg4 hlt gr4 sz4 hen
          obtain ⟨z2, h1, h2, hwf⟩ := Go.Maps.keyOf_int_inv Try.underlying5 hkey
          obtain ⟨c, hc⟩ := byte_of (show (Lit.int .u8 zk).wf = true from by cases h1; exact hwf)
          cases h1
          subst hc h2
          have hs := L.out.le c hlk
          obtain ⟨yc, hyc⟩ := Option.isSome_iff_exists.1 hs
          have ho : ptr o = nd yc.1 := by
            have e := hat (nmv (-1))
            rw [HK.out.at' c, hyc] at e
            rw [← e] at hv
            exact rn_inv hv
          rw [ho] at hen ⊢
          have b4 : Below w.heap.size w w4 := L.out.oz.bl.grown gr4 L.out.oz.bl.size (fun g e => by cases e; exact L.out.rl)
          have rgc : ∀ c t f, wr.heap[r]? ≠ some (.cells c t f) := by
            obtain ⟨_, _, _, _, _, _, _, _, _, hr, _⟩ := L.out.rg
            intro c t f e; rw [hr] at e; cases e
          have O4 := Lib.hid (L.out.oz.grown gr4 (fun g e => by cases e; exact ⟨L.out.rl, rgc⟩))
          have T4 := Lib.hid (HT.out.quiet b4)
          have CI := Lib.hid (IH.out c w4 yc hyc T4.out)
          have HLT := Lib.hid hlt
          have RG := Lib.hid rg4
          have HLK := Lib.hid hlk
          have HYC := Lib.hid hyc
          clear hkey hlk hv hat rg4 hlt gr4 sz4 hs hyc ho b4 rgc hwf
          go_wp2_with (first
            | (go_at_call 33; (with_reducible refine CI.out.mono ?_); rintro e w5 ⟨v5, m, rfl, O5, P5⟩; have nm := P5.ne (T4.out.word (by rw [HYC.out]; rfl) (by simp)); have ml := P5.len_le; have ll := L.out.pt.len; obtain ⟨g5, c5, rfl, hc5⟩ := O5.cells nm; have O6 := Lib.hid (O4.out.quiet O5.bl); have HO5 := Lib.hid O5; have HP5 := Lib.hid P5; have HC5 := Lib.hid hc5; clear O5 P5 nm hc5)
            | (at_builtin; refine wp_cat rfl _ _ rfl _ l rfl O6.out ⟨g5, 0, none⟩ m.length c5 m rfl rfl HC5.out (by omega) ?_; intro v7 w7 O7 g7; have HO7 := Lib.hid O7; have HG7 := Lib.hid g7; clear O7 g7))
          have hse : ∀ (k : Nat) (o : Obj), w4.heap[k]? = some o → isC o = false → w7.heap[k]? = some o := fun k o h1 h2 => HG7.out k o ((HO5.out.bl.block k (Array.getElem?_eq_some_iff.1 h1).1).trans h1) h2
          have RG7 := ranges_keep RG.out hse
          have LL : Lf B w w7 ws M nm N p x.2 r n D (fun z => left z && !z.sameKey (kb c)) cnt4 v7 (l ++ m) := {
            tn := HT.out.quiet HO7.out.bl
            rg := RG7
            oz := HO7.out
            pt := L.out.pt.step (c := c) (by rw [HYC.out, HLK.out]; rfl) (fun d => by
              rw [kb_same]
              by_cases e : d = c
              · subst e; rw [HYC.out]; simp
              · have h1 : (d == c) = false := beq_eq_false_iff_ne.2 e
                rw [h1]; simp) HP5.out
            le := fun d hd => L.out.le d (by rw [Bool.and_eq_true] at hd; exact hd.1)
            rl := L.out.rl }
          have HLL := Lib.hid LL
          have M1 := Lib.hid (show w7.rangeLeft x.2 r < wr.rangeLeft x.2 r from by rw [RG7.left_eq, L.out.rg.left_eq]; exact HLT.out)
          clear hse RG7 LL
          go_roundw
          case rel => exact ⟨l ++ m, _, cnt4, HLL.out⟩
          case measure => exact M1.out
end Go.Proofs.Ytkhgjjbiifbfgaa
