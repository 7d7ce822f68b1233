/- MoneyTells: its walk. -/
import Derived.Test.YthdmgnlemmpjkaaDoorMl
import Derived.Test.YthdmgnlemmpjkaaDoorMF
namespace Go.Proofs.YthdmgnlemmpjkaaDoor
open Go.RowKit

/-- Both answer the same: texts, readings, shares. -/
theorem text_pair (a : Int) : ∃ (s : ByteArray) (e : Int), (∀ w0 w, St w0 w → Calls Tryd.prog 21 #[.int .i64 a] w fun r w' => r = .returned (.tuple #[.string s, .int .i64 e]) ∧ St w0 w') ∧ (∀ w, Calls Tryd.prog 30 #[.int .i64 a] w fun r w' => r = .returned (.tuple #[.string s, .int .i64 e]) ∧ Below w.heap.size w w') := by
  cases h : Mny.rt a
  · exact ⟨⟨#[]⟩, 2, fun w0 w S => (text_no a w h).mono fun _ _ ⟨he, hw⟩ => ⟨he, hw ▸ S⟩, fun w => (rtext_no a w h).mono fun _ _ ⟨he, hw⟩ => ⟨he, hw ▸ Below.refl _ _⟩⟩
  · exact ⟨_, 0, fun w0 w S => text_ok a w0 w h S, fun w => rtext_ok a w h⟩
theorem read_pair (s : ByteArray) : ∃ (x e : Int), (∀ w0 w, St w0 w → Calls Tryd.prog 22 #[.string s] w fun r w' => r = .returned (.tuple #[.int .i64 x, .int .i64 e]) ∧ St w0 w') ∧ (∀ w, Calls Tryd.prog 31 #[.string s] w fun r w' => r = .returned (.tuple #[.int .i64 x, .int .i64 e]) ∧ Below w.heap.size w w') := by
  by_cases h : ∃ c, Mny.rt c = true ∧ s.data.toList = Mtx.txt c
  · obtain ⟨c, hc, hs⟩ := h
    have e : s = ⟨(Mtx.txt c).toArray⟩ := by
      apply ByteArray.ext; apply Array.ext'; rw [hs]
    subst e
    exact ⟨c, 0, fun w0 w S => read_yes c w0 w hc S, fun w => rread_yes c w hc⟩
  · have h' : ∀ c, Mny.rt c = true → s.data.toList ≠ Mtx.txt c := fun c hc hs => h ⟨c, hc, hs⟩
    exact ⟨0, 20, fun w0 w S => read_no s w0 w h' S, fun w => rread_no s w h'⟩
set_option maxRecDepth 100000 in
set_option maxHeartbeats 1600000 in
theorem rshare_bad (c s way : Int) (w : World) (h : Mny.rt c = false ∨ s < 0 ∨ 10000 < s ∨ way < 1 ∨ 4 < way) :
    Calls Tryd.prog 29 #[.int .i64 c, .int .i64 s, .int .u8 way] w fun e w' => e = .returned (.tuple #[.int .i64 0, .int .i64 2]) ∧ w = w' := by
  cases hc : Mny.rt c
  · have R := Lib.hid (fun w => rright_b c false w hc)
    clear hc h
    go_enter Tryd.func29, Tryd.ntmps29
    go_wp2_with (go_at_call 25; refine (R.out _).mono ?_; rintro e w' ⟨rfl, rfl⟩)
    go_ret2
    exact ⟨rfl, rfl⟩
  · have R := Lib.hid (fun w => rright_b c true w hc)
    have h' : s < 0 ∨ ¬ s < 0 ∧ 10000 < s ∨ ¬ s < 0 ∧ ¬ 10000 < s ∧ way < 1 ∨ ¬ s < 0 ∧ ¬ 10000 < s ∧ ¬ way < 1 ∧ 4 < way := by
      rcases h with h | h
      · rw [hc] at h; cases h
      · omega
    clear hc h
    rcases h' with a | ⟨a, b⟩ | ⟨a, b, c1⟩ | ⟨a, b, c1, d⟩
    all_goals
      go_enter Tryd.func29, Tryd.ntmps29
      go_wp2_with (go_at_call 25; refine (R.out _).mono ?_; rintro e w' ⟨rfl, rfl⟩)
      go_ret2
      exact ⟨rfl, rfl⟩
theorem share_pair (c s way : Int) (y1 : 0 ≤ way) (y2 : way ≤ 255) : ∃ (x e : Int), (∀ w, Calls Tryd.prog 18 #[.int .i64 c, .int .i64 s, .int .u8 way] w fun r w' => r = .returned (.tuple #[.int .i64 x, .int .i64 e]) ∧ Below w.heap.size w w') ∧ (∀ w, Calls Tryd.prog 29 #[.int .i64 c, .int .i64 s, .int .u8 way] w fun r w' => r = .returned (.tuple #[.int .i64 x, .int .i64 e]) ∧ Below w.heap.size w w') := by
  by_cases h : Mny.rt c = true ∧ 0 ≤ s ∧ s ≤ 10000 ∧ 1 ≤ way ∧ way ≤ 4
  · obtain ⟨hc, h3, h4, h5, h6⟩ := h
    have b := (Mny.rt_iff c).1 hc
    exact ⟨_, 0, fun w => share_ok c s way w b.1 b.2 h3 h4 h5 h6, fun w => (rshare_ok c s way w b.1 b.2 h3 h4 h5 h6).mono fun _ _ ⟨he, hq⟩ => ⟨he, hq.bl⟩⟩
  · have h' : Mny.rt c = false ∨ s < 0 ∨ 10000 < s ∨ way < 1 ∨ 4 < way := by
      cases q : Mny.rt c
      · exact Or.inl rfl
      · right
        by_cases z : s < 0 ∨ 10000 < s ∨ way < 1 ∨ 4 < way
        · exact z
        · exact absurd ⟨q, by omega, by omega, by omega, by omega⟩ h
    exact ⟨0, 2, fun w => share_bad c s way w y1 y2 h', fun w => (rshare_bad c s way w h').mono fun _ _ ⟨he, hw⟩ => ⟨he, hw ▸ Below.refl _ _⟩⟩
set_option maxRecDepth 100000 in
set_option maxHeartbeats 6400000 in
theorem tells_any (x y sh : Int) (way : Int) (y1 : 0 ≤ way) (y2 : way ≤ 255) (a : Option Addr) (c n : Nat) (zs : List Int) (s : ByteArray) (w0 w : World) (S : St w0 w)
    (hn : n = zs.length) (h : zs = [] ∨ ∃ b off, a = some ⟨b, off, none⟩ ∧ ∀ j, j < zs.length → w.cell? ⟨b, off + j, none⟩ = some (.int .i64 (zs.getD j 0))) (hnone : a = none → c = 0) :
    Calls Tryd.prog 12 #[.int .i64 x, .int .i64 y, .int .i64 sh, .int .u8 way, .slice a n c, .string s] w fun e w' => e = .returned (.bool true) ∧ St w0 w' := by
  by_cases hf : n ≤ 5000
  · have CA := Lib.hid (fun w' (b : Below w.heap.size w w') => carry h b)
    have LT := Lib.hid (fun w' (b : St w w') => lent_any a n c zs w w' b hn (carry h b.bl) hnone (by omega))
    obtain ⟨t, e3, A3, B3⟩ := text_pair x
    obtain ⟨x4, e4, A4, B4⟩ := read_pair s
    obtain ⟨x5, e5, A5, B5⟩ := share_pair x sh way y1 y2
    have A1 := Lib.hid (fun w => add_s x y _ _ w rfl rfl)
    have B1 := Lib.hid (fun w => radd_any x y w)
    obtain ⟨x1, hx1⟩ : ∃ z, z = Mny.sumV [x, y] := ⟨_, rfl⟩
    obtain ⟨e1, he1⟩ : ∃ z, z = Mny.sumE [x, y] := ⟨_, rfl⟩
    rw [← hx1, ← he1] at A1 B1
    have A2 := Lib.hid (fun v w h => sum_any v zs w h)
    have B2 := Lib.hid (fun v w h => rsum_any v zs w h)
    obtain ⟨x2, hx2⟩ : ∃ z, z = Mny.sumV zs := ⟨_, rfl⟩
    obtain ⟨e2, he2⟩ : ∃ z, z = Mny.sumE zs := ⟨_, rfl⟩
    rw [← hx2, ← he2] at A2 B2
    have R1 := Lib.hid (fun w => right_any x w)
    have R2 := Lib.hid (fun w => rright_any x w)
    obtain ⟨rb, hrb⟩ : ∃ z, z = Mny.rt x := ⟨_, rfl⟩
    rw [← hrb] at R1 R2
    have A3 := Lib.hid A3
    have B3 := Lib.hid B3
    have A4 := Lib.hid A4
    have B4 := Lib.hid B4
    have A5 := Lib.hid A5
    have B5 := Lib.hid B5
    have HN := Lib.hid hn
    have SW := St.refl S.gl
    have HS := Lib.hid S
    clear hx1 he1 hx2 he2 hrb h hnone hn S
    go_enter Tryd.func12, Tryd.ntmps12
    go_wp2_with (first | (go_at_call 20; refine (A1.out _).mono ?_; rintro e w1 ⟨rfl, b⟩; have SW := SW.step b)  | (go_at_call 24; refine (B1.out _).mono ?_; rintro e w2 ⟨rfl, b⟩; have SW := SW.step b)  | (go_at_call 23; refine (R1.out _).mono ?_; rintro e w' ⟨rfl, rfl⟩)  | (go_at_call 25; refine (R2.out _).mono ?_; rintro e w' ⟨rfl, rfl⟩)  | (go_at_call 26; refine (LT.out _ SW).mono ?_; rintro e w3 ⟨g, rfl, hL, S1, hg⟩;  have SLl : Hid (∀ w', St w3 w' → Sl w' (.slice (some ⟨g, 0, none⟩) n (n + 12)) zs) := (fun w' b => (hL.below b.bl).sl);  have SLh : Hid (∀ w', St w3 w' → Sl w' (.slice a n c) zs) := (fun w' b => ⟨a, c, by rw [HN.out], CA.out w' (S1.bl.trans (b.bl.mono S1.bl.size))⟩);  have KP : Hid (∀ w', St w3 w' → Calls Tryd.prog 28 #[.slice (some ⟨g, 0, none⟩) n (n + 12), .slice a n c] w' fun e w'' => e = .returned (.bool true) ∧ Qt w' w'') := (fun w' b => kept_any a g n c zs w' (hL.below b.bl) (CA.out w' (S1.bl.trans (b.bl.mono S1.bl.size))) (by omega));  have SC := St.refl S1.gl; clear hL hg)  | (go_at_call 16; refine (A2.out _ _ (SLl.out _ SC)).mono ?_; rintro e w' ⟨rfl, rfl⟩)  | (go_at_call 27; refine (B2.out _ _ (SLh.out _ SC)).mono ?_; rintro e w' ⟨rfl, rfl⟩)  | (go_at_call 28; refine (KP.out _ SC).mono ?_; rintro e w4 ⟨rfl, hq⟩; have SC := hq.st SC; clear hq)  | (go_at_call 18; refine (A5.out _).mono ?_; rintro e w5 ⟨rfl, b⟩; have SC := SC.step b)  | (go_at_call 29; refine (B5.out _).mono ?_; rintro e w6 ⟨rfl, b⟩; have SC := SC.step b)  | (go_at_call 21; refine (A3.out _ _ SC).mono ?_; rintro e w7 ⟨rfl, SD⟩; have SC := SD)  | (go_at_call 30; refine (B3.out _).mono ?_; rintro e w8 ⟨rfl, b⟩; have SC := SC.step b)  | (go_at_call 22; refine (A4.out _ _ SC).mono ?_; rintro e w9 ⟨rfl, SD⟩; have SC := SD)  | (go_at_call 31; refine (B4.out _).mono ?_; rintro e w10 ⟨rfl, b⟩; have SC := SC.step b))
    go_ret
    exact ⟨rfl, HS.out.step (S1.bl.trans (SC.bl.mono S1.bl.size))⟩
  · clear h hnone
    go_enter Tryd.func12, Tryd.ntmps12
    go_wp2
    go_ret
    exact ⟨rfl, S⟩
set_option maxRecDepth 100000 in
set_option maxHeartbeats 800000 in
theorem walk_moneyTells (w : World) (G : Gl w) (x : Int) (_x1 : -9223372036854775808 ≤ x) (_x2 : x ≤ 9223372036854775807) (y : Int) (_y1 : -9223372036854775808 ≤ y) (_y2 : y ≤ 9223372036854775807) (sh : Int) (_s1 : -9223372036854775808 ≤ sh) (_s2 : sh ≤ 9223372036854775807) (way : Int) (y1 : 0 ≤ way) (y2 : way ≤ 255) (a : Option Addr) (len cap : Nat) (zs : List Int) (h : IsRow .i64 w a len cap zs) (s : ByteArray) (_hs : s.size ≤ maxLen) :
    Calls Tryd.prog 3 #[.int .i64 x, .int .i64 y, .int .i64 sh, .int .u8 way, .slice a len cap, .string s] w fun e w' => e = .returned (.bool true) ∧ Below w.heap.size w w' := by
  obtain ⟨e, _, hc, _⟩ := row_at h
  have W := Lib.hid (fun w' (S : St w w') => tells_any x y sh way y1 y2 a cap len (zs.take len) s w w' S e.symm (carry hc S.bl) (row_none h))
  have S0 := St.refl G
  clear e hc h
  go_enter Tryd.func3, Tryd.ntmps3
  go_wp2_with (first | (go_at_call 11; refine (awake_any w _ S0).mono ?_; rintro e w1 ⟨rfl, S1⟩) | (go_at_call 12; refine (W.out _ S1).mono ?_; rintro e w2 ⟨rfl, S2⟩))
  go_ret
  exact ⟨rfl, S2.bl⟩
end Go.Proofs.YthdmgnlemmpjkaaDoor
