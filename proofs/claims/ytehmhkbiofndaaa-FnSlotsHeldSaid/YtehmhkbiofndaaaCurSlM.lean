/-
  Slot rings and messages, as the laws' inputs are drawn. The draws of FnSlotsGoRound. The draws of FnSlotsHeld. The draw of full ticks.
-/
import Derived.Test.YtehmhkbiofndaaaCurB
import Derived.Test.YtehmhkbiofndaaaSMessage
import Derived.Test.YtehmhkbiofndaaaSSlotRing
import Derived.Test.YtehmhkbiofndaaaSlA
import Derived.Test.YtehmhkbiofndaaaTurnMs
import Derived.Deep.RegionWith
namespace Go.Proofs.Ytehmhkbiofndaaa
section
open Go.RowKit
set_option maxRecDepth 100000
set_option linter.unusedVariables false
theorem AccK.apart {k : Nat} {E : TypeId} {w w' : World} {lo a b n : Nat} {v : Value} {l : List Int} (h : AccK k E w lo v n l) (hg : Wr a b w w') (hb : b ≤ lo) : AccK k E w' lo v n l := by
  refine ⟨h.1, h.2.1, ?_⟩
  rcases h.2.2 with ⟨hv, hn⟩ | ⟨g, c, cur, hv, hlo, hh, r⟩
  · exact .inl ⟨hv, hn⟩
  · exact .inr ⟨g, c, cur, hv, hlo, by rw [hg.block g (Array.getElem?_eq_some_iff.1 hh).1 (.inr (by omega))]; exact hh, r⟩
theorem unflatMs (n : Nat) (f : List Int) (h : f.length = n * 3) : ∃ l : List Ms, l.length = n ∧ flatMs l = f := by
  induction n generalizing f with
  | zero => exact ⟨[], rfl, by rw [List.eq_nil_of_length_eq_zero (l := f) (by omega)]; rfl⟩
  | succ n ih =>
    match f, h with
    | a :: b :: c :: r, h =>
      obtain ⟨l, hl, hf⟩ := ih r (by simp at h; omega)
      exact ⟨⟨a, b, c⟩ :: l, by simp [hl], by show [a, b, c] ++ flatMs l = _; rw [hf]; rfl⟩
    | [], h => simp at h
    | [_], h => simp at h; omega
    | [_, _], h => simp at h; omega
/-- What is gathered, as a slice. -/
theorem AccK.form {k : Nat} {E : TypeId} {w : World} {lo n : Nat} {v : Value} {l : List Int} (h : AccK k E w lo v n l) : (n = 0 ∧ v = .slice none 0 0) ∨ ∃ b c, v = .slice (some ⟨b, 0, none⟩) n c ∧ lo ≤ b ∧ b < w.heap.size ∧ n ≤ c ∧ c ≤ maxLen ∧ (∀ j, j < n * k → w.cell? ⟨b, j, none⟩ = some (.int .i64 (l.getD j 0))) ∧ (∀ j, w.frozen? ⟨b, j, none⟩ = false) := by
  have h0 := h
  rcases h.2.2 with ⟨hv, hn⟩ | ⟨g, c, cur, rfl, hlo, hh, hc, hcm, r1, r2⟩
  · exact .inl ⟨hn, hv⟩
  · refine .inr ⟨g, c, rfl, hlo, (Array.getElem?_eq_some_iff.1 hh).1, hc, hcm, fun j hj => ?_, fun j => World.ownsRow.frozenAt h0.2 j⟩
    rw [World.ownsRow.cellAt h0.2 j hj, ics_get l j (by have := h0.1; omega)]
theorem AccK.cell {k : Nat} {E : TypeId} {w : World} {lo n b c : Nat} {l : List Int} (h : AccK k E w lo (.slice (some ⟨b, 0, none⟩) n c) n l) (j : Nat) (hj : j < n * k) : w.cell? ⟨b, j, none⟩ = some (.int .i64 (l.getD j 0)) := by
  rw [World.ownsRow.cellAt h.2 j hj, ics_get l j (by have := h.1; omega)]
theorem AccK.put {k : Nat} {E : TypeId} {w : World} {lo n b c : Nat} {l : List Int} (h : AccK k E w lo (.slice (some ⟨b, 0, none⟩) n c) n l) (j : Nat) (y : Int) : AccK k E (w.setCell ⟨b, j, none⟩ (.int .i64 y)) lo (.slice (some ⟨b, 0, none⟩) n c) n (l.set j y) := by
  refine ⟨by rw [List.length_set]; exact h.1, ?_⟩
  have := World.ownsRow.stored h.2 j (.int .i64 y)
  have e : ics (l.set j y) = (ics l).set j (.int .i64 y) := by simp [ics, List.map_set]
  rw [e]
  exact this.1

theorem BK.low9 {w w' : World} {g B : Nat} {t : TypeId} {cs : Array Value} (h : BK w g t cs) (hb : Below B w w') (hg : g < B) : BK w' g t cs := ⟨Nat.lt_of_lt_of_le h.1 hb.size, (hb.block g hg).trans h.2⟩
def RetSlC (g B n k : Nat) (w : World) (e : Ending) (w' : World) : Prop := ∃ x : Sr, e = .returned (SrV x) ∧ CurAt w' g B n k ∧ Wr g (g + 1) w w'
set_option maxHeartbeats 1000000 in
theorem curSl_any (g B n k : Nat) (w : World) (h : CurAt w g B n k) (hk : k ≤ 100000000) (hn : n ≤ 1048576) :
    Calls Try.prog 36 #[.pointer (some ⟨g, 0, none⟩)] w (RetSlC g B n (k + 6) w) := by
  have hgw := h.lt
  have b0 := BK.made w 25 #[.int .i64 0, .bool false]
  have h0 := h.below ((Below.refl _ _).alloc (Nat.le_refl _) (.cells #[.int .i64 0, .bool false] 25)) hgw
  have g0 : Wr g (g + 1) w (w.alloc (.cells #[.int .i64 0, .bool false] 25)) := Wr.of_below ((Below.refl _ _).alloc (Nat.le_refl _) _) _ _
  go_enter Try.func36, Try.ntmps36
  go_wp2_with fail
  refine (one_any g B n k 12 _ h0 (by omega) hn (by omega) (by omega)).mono ?_; rintro e w1 ⟨bb, rfl, h1, g1⟩
  have b1 := b0.far g1 (.inr (by omega))
  have z1 := g0.trans g1
  have s1 := z1.size
  clear b0 h0 g0 g1
  cases bb
  · go_wp2_with fail
    refine (pick_any g B n _ 5 _ h1 (by omega) hn (by omega) (by omega)).mono ?_; rintro e w2 ⟨x, rfl, x0, x1, h2, g2⟩
    go_wp2_with fail
    refine (one_any g B n _ 2 _ h2 (by omega) hn (by omega) (by omega)).mono ?_; rintro e w3 ⟨y, rfl, h3, g3⟩
    have b3 := (b1.far g2 (.inr (by omega))).far g3 (.inr (by omega))
    have z3 := z1.trans (g2.trans g3)
    clear b1 h1 h2 g2 g3 z1
    have c0 := b3.cell 0
    have c1 := b3.cell 1
    have f0 := b3.free 0
    have f1 := b3.free 1
    simp at c0 c1
    go_wp2_with fail
    have bb3 : Below w.heap.size w3 ((w3.setCell ⟨w.heap.size, 0, none⟩ (.int .i64 (2 + x))).setCell ⟨w.heap.size, 1, none⟩ (.bool y)) := ((Below.refl w.heap.size w3).setCell (p := ⟨w.heap.size, 0, none⟩) (Nat.le_refl _) _).setCell (p := ⟨w.heap.size, 1, none⟩) (Nat.le_refl _) _
    refine bodyPost_ret (v := SrV ⟨2 + x, y⟩) (by simp [results, Try.results36, go_sem, SrV, c0, c1]) rfl ⟨⟨2 + x, y⟩, rfl, (h3.below bb3 hgw).more (by omega), z3.and_below bb3 (Nat.le_refl _)⟩
  · go_wp2_with fail
    refine (among_any g B n _ _ [0, 1, 2, 12, 13] _ (h1.below ((Below.refl _ _).alloc (Nat.le_refl _) _) (by omega)) (by omega) hn _ _ (litN [0, 1, 2, 12, 13] 5 _ rfl (by omega) rfl (by simp)) (by omega) (by simp) (by simp)).mono ?_; rintro e w2 ⟨j1, hj1, rfl, h2, g2⟩
    have gA : Wr g (g + 1) w1 w2 := (Wr.of_below ((Below.refl _ _).alloc (Nat.le_refl _) _) g (g + 1)).trans g2
    generalize List.getD ([0, 1, 2, 12, 13] : List Int) j1 0 = x
    have b2 := b1.far gA (.inr (by omega))
    have z2 := z1.trans gA
    have s2 := z2.size
    clear b1 h1 g2 gA z1 hj1
    go_wp2_with fail
    refine (one_any g B n _ 2 _ h2 (by omega) hn (by omega) (by omega)).mono ?_; rintro e w3 ⟨y, rfl, h3, g3⟩
    have b3 := b2.far g3 (.inr (by omega))
    have z3 := z2.trans g3
    clear b2 h2 g3 z2
    have c0 := b3.cell 0
    have c1 := b3.cell 1
    have f0 := b3.free 0
    have f1 := b3.free 1
    simp at c0 c1
    go_wp2_with fail
    have bb3 : Below w.heap.size w3 ((w3.setCell ⟨w.heap.size, 0, none⟩ (.int .i64 x)).setCell ⟨w.heap.size, 1, none⟩ (.bool y)) := ((Below.refl w.heap.size w3).setCell (p := ⟨w.heap.size, 0, none⟩) (Nat.le_refl _) _).setCell (p := ⟨w.heap.size, 1, none⟩) (Nat.le_refl _) _
    refine bodyPost_ret (v := SrV ⟨x, y⟩) (by simp [results, Try.results36, go_sem, SrV, c0, c1]) rfl ⟨⟨x, y⟩, rfl, (h3.below bb3 hgw).more (by omega), z3.and_below bb3 (Nat.le_refl _)⟩

def RetMsC (g B n k : Nat) (w : World) (e : Ending) (w' : World) : Prop :=
  ∃ (u : Value) (l : List Ms), e = .returned u ∧ l.length ≤ 21 ∧ OMsS w' w.heap.size w'.heap.size u l ∧ CurAt w' g B n k ∧ Wr g (g + 1) w w'
theorem RetMsC.of {g B n k k' m lo : Nat} {w w' : World} {u : Value} {f : List Int} (h : AccK 3 35 w' lo u m f) (hlo : w.heap.size ≤ lo) (hm : m ≤ 21) (hc : CurAt w' g B n k') (hk : k' ≤ k) (hw : Wr g (g + 1) w w') : RetMsC g B n k w (.returned u) w' := by
  obtain ⟨l, rfl, rfl⟩ := unflatMs m f h.1
  exact ⟨u, l, rfl, hm, OK.wide h.ok hlo (Nat.le_refl _), hc.more hk, hw⟩
set_option maxHeartbeats 4000000 in
theorem messages_any (g B n k : Nat) (x : Sr) (w : World) (h : CurAt w g B n k) (hk : k ≤ 100000000) (hn : n ≤ 1048576) :
    Calls Try.prog 37 #[.pointer (some ⟨g, 0, none⟩), SrV x] w (RetMsC g B n (k + 200) w) := by
  obtain ⟨i0, hi, hz0, hz1, hz2⟩ := info_parts message_info
  have hgw := h.lt
  have hG := slGood_any x
  cases hx : isSr x
  · rw [hx] at hG
    obtain ⟨xn, xh⟩ := x
    simp only [SrV] at hG ⊢
    have HG := Lib.hid hG
    have h0 := h.below ((Below.refl _ _).alloc (Nat.le_refl _) (.cells #[.int .i64 xn, .bool xh] 25)) hgw
    have g0 : Wr g (g + 1) w (w.alloc (.cells #[.int .i64 xn, .bool xh] 25)) := Wr.of_below ((Below.refl _ _).alloc (Nat.le_refl _) _) _ _
    clear hG h
    go_enter Try.func37, Try.ntmps37
    go_wp2_with fail
    refine (HG.out _).mono ?_; rintro e w1 ⟨rfl, hb1⟩
    have h1 := h0.below hb1 h0.lt
    have g1 := g0.and_below hb1 g0.size
    clear h0 g0
    go_wp2_with fail
    go_ret
    exact ⟨_, [], rfl, by simp, OK.nil _ _ _ _ _, h1.more (by omega), g1⟩
  have hin := isSr_in hx
  rw [hx] at hG
  obtain ⟨xn, xh⟩ := x
  simp only [SrV] at hG ⊢
  simp only at hin
  obtain ⟨in0, in1⟩ := hin
  have HG := Lib.hid hG
  have b0 := BK.made w 25 #[.int .i64 xn, .bool xh]
  have h0 := h.below ((Below.refl _ _).alloc (Nat.le_refl _) (.cells #[.int .i64 xn, .bool xh] 25)) hgw
  have g0 : Wr g (g + 1) w (w.alloc (.cells #[.int .i64 xn, .bool xh] 25)) := Wr.of_below ((Below.refl _ _).alloc (Nat.le_refl _) _) _ _
  have z0 : w.heap.size + 1 ≤ (w.alloc (.cells #[.int .i64 xn, .bool xh] 25)).heap.size := by simp
  clear hG h hx
  go_enter Try.func37, Try.ntmps37
  go_wp2_with fail
  refine (HG.out _).mono ?_; rintro e wA ⟨rfl, hbA⟩
  have hA := h0.below hbA h0.lt
  have gA := g0.and_below hbA g0.size
  have bA := b0.step hbA
  have zA := hbA.size
  clear h0 g0 b0 hbA
  go_wp2_with fail
  refine (pick_any g B n k 3 wA hA (by omega) hn (by omega) (by omega)).mono ?_; rintro e w1 ⟨t, rfl, t0, t1, h1, g1⟩
  go_wp2_with fail
  refine (pick_any g B n (k + 2) 10 w1 h1 (by omega) hn (by omega) (by omega)).mono ?_; rintro e w2 ⟨q, rfl, q0, q1, h2, g2⟩
  have g02 := gA.trans (g1.trans g2)
  have b2 := (bA.far g1 (.inr (by omega))).far g2 (.inr (by omega))
  have hs02 := g02.size
  have z2 : w.heap.size + 1 ≤ w2.heap.size := Nat.le_trans z0 (Nat.le_trans zA (g1.trans g2).size)
  obtain ⟨q, rfl⟩ := Int.eq_ofNat_of_zero_le q0
  clear hA h1 g1 g2 gA bA z0 zA
  go_wp2_with fail
  go_loopw [5, 6, 7] (fun u i j wr => ∃ (m r : Nat) (x : Int) (f : List Int), m + r ≤ 9 ∧ j = .int .i64 r ∧ i = .int .i64 x ∧ 0 ≤ x ∧ x ≤ 2 + 3 * m ∧ AccK 3 35 wr (w.heap.size + 1) u m f ∧ CurAt wr g B n (k + 4 + 8 * m) ∧ Wr g (g + 1) w wr ∧ BK wr w.heap.size 25 #[.int .i64 xn, .bool xh]) (fun _ _ j _ => (intOf j).toNat)
  case atStart => exact ⟨0, q, t, [], by omega, rfl, rfl, t0, by omega, AccK.nil _ _ _ _, h2, g02, b2⟩
  case round =>
    obtain ⟨m, r, x, f, hmr, rfl, rfl, x0, x1, hacc, hcur, hwr, hbk⟩ := hrel
    have hgr := hcur.lt
    have hsz := hwr.size
    have hsz1 := hbk.1
    have k0 := hbk.cell 0
    simp at k0
    by_cases hr : 0 < r
    · have hr' : (0 : Int) < (r : Int) := by omega
      have hx' : x ≤ 29 := by omega
      have hm8 : m ≤ 8 := by omega
      go_wp2_with fail
      refine (pick_any g B n _ xn _ hcur (by omega) hn (by omega) (by omega)).mono ?_; rintro e w3 ⟨c1, rfl, c10, c11, h3, g3⟩
      have hacc3 := AccK.apart hacc g3 (by omega)
      have hw3 := hwr.trans g3
      have hs3 := hw3.size
      have bk3 := hbk.far g3 (.inr (by omega))
      have q0 := bk3.cell 0
      simp at q0
      clear hacc hcur hwr hbk g3 k0
      go_upto_region 9 with fail
      have H3 : CurAt w3.drew g B n _ := h3
      have B3 : BK w3.drew _ _ _ := bk3
      have A3 : AccK 3 35 w3.drew (w.heap.size + 1) u5 m f := hacc3
      have hxm : IntKind.i64.wrap (xn - 1) = xn - 1 := IntWalk.i64_in _ (by omega)
      go_region_held_law (fun w' => w'.cell? ⟨w.heap.size, 0, none⟩ = some (.int .i64 xn)) (with_reducible first | exact q0 | exact q2 | exact q4 | trivial | go_keep)
        (first
          | ((refine step_pushK rfl (.tmp 24) (.tmp 39) 26 rfl 35 i0 Try.underlying26 hi _ 3 24 hz0 hz1 hz2 rfl (by decide) (by decide) w4 w4 (w.heap.size + 1) u5 m f [x, c1, (c1 + 1 + d1) % xn] _ rfl rfl rfl rfl A4 rfl (by omega) z4 (Below.refl _ _) ?_; intro v7 w7 hacc7 t7 h8; have bk7 := bk4.low9 t7 (by omega); have q4 := bk7.cell 0; simp at q4))
          | (go_at_call 31; refine (pick_any g B n _ (xn - 1) _ H3 (by omega) hn (by omega) (by omega)).mono ?_; rintro e w4 ⟨d1, rfl, d10, d11, h4, g4⟩; have bk4 := B3.far g4 (.inr (by omega)); have q2 := bk4.cell 0; simp at q2; have A4 := AccK.apart A3 g4 (by omega); have z4 : w.heap.size + 1 ≤ w4.heap.size := bk4.1; have G4 : Wr g (g + 1) w3 w4 := ⟨g4.os, g4.tape, g4.output, g4.size, g4.block⟩))
      · have h7 := h4.below t7 (by omega)
        have hw7 := (hw3.trans G4).and_below t7 (by omega)
        have hs7 := hw7.size
        clear h3 hacc3 hw3 bk3 q0 H3 B3 A3 bk4 q2 A4 G4 g4 h4 h8 q4
        generalize (c1 + 1 + d1) % xn = d2 at hacc7
        go_wp2_with fail
        refine (among_any g B n _ _ [0, 0, 0, 1, 3] _ (h7.below ((Below.refl _ _).alloc (Nat.le_refl _) _) (by omega)) (by omega) hn _ _ (litN [0, 0, 0, 1, 3] 5 _ rfl (by omega) rfl (by simp)) (by omega) (by simp) (by simp)).mono ?_; rintro e w6 ⟨jj, hjj, rfl, h6, g6⟩
        have y0 : 0 ≤ List.getD [(0 : Int), 0, 0, 1, 3] jj 0 ∧ List.getD [(0 : Int), 0, 0, 1, 3] jj 0 ≤ 3 := by
          match jj, hjj with
          | 0, _ => decide
          | 1, _ => decide
          | 2, _ => decide
          | 3, _ => decide
          | 4, _ => decide
        generalize List.getD [(0 : Int), 0, 0, 1, 3] jj 0 = y at y0
        obtain ⟨y0, y1⟩ := y0
        have gB : Wr g (g + 1) w7 w6 := (Wr.of_below ((Below.refl _ _).alloc (Nat.le_refl _) _) g (g + 1)).trans g6
        have hacc6 := AccK.apart hacc7 gB (by omega)
        have hw6 := hw7.trans gB
        have bk6 := bk7.far gB (.inr (by omega))
        have hs6 := hw6.size
        clear h7 hacc7 hw7 g6 gB hjj bk7
        go_wp2_with fail
        go_roundw
        case rel => exact ⟨m + 1, r - 1, x + y, f ++ [x, c1, d2], by omega, by go_num, by go_num, by omega, by omega, hacc6, h6.more (by omega), hw6, bk6⟩
        case measure => simp [intOf]; omega
    · obtain rfl : r = 0 := by omega
      rcases hacc.form with ⟨rfl, rfl⟩ | ⟨b, c, rfl, hlb, hbw, hmc, hcm, hcell, hfz⟩
      · clear k0
        go_wp2_with fail
        go_ret
        exact RetMsC.of hacc (Nat.le_succ _) (by omega) hcur (by omega) hwr
      by_cases hm0 : m = 0
      · subst hm0
        clear hcell hfz k0
        go_wp2_with fail
        go_ret
        exact RetMsC.of hacc (Nat.le_succ _) (by omega) hcur (by omega) hwr
      have hm1 : (0 : Int) < (m : Int) := by omega
      have hm9 : (m : Int) ≤ 9 := by omega
      have hm8 : m ≤ 9 := by omega
      have HC := Lib.hid hcell
      have HZ := Lib.hid hfz
      clear hcell hfz hmr
      go_wp2_with fail
      refine (pick_any g B n _ 14 _ hcur (by omega) hn (by omega) (by omega)).mono ?_; rintro e w3 ⟨s, rfl, s0, s1, h3, g3⟩
      have hw3 := hwr.trans g3
      have hs3 := hw3.size
      have hacc3 := AccK.apart hacc g3 (by omega)
      have bk3 := hbk.far g3 (.inr (by omega))
      have q0 := bk3.cell 0
      simp at q0
      clear hacc hcur hwr g3 HC HZ hbk k0
      obtain ⟨p, rfl⟩ : ∃ p, m = p + 1 := ⟨m - 1, by omega⟩
      by_cases e0 : s = 0
      · subst e0
        have d1 := AccK.cell hacc3 1 (by omega)
        generalize List.getD f 1 0 = fy1 at d1
        go_upto_region 14 with fail
        have H3 : CurAt (w3.drewN 1) g B n _ := h3
        go_region_with (go_at_call 39; refine (among_any g B n _ _ [fy1, -1, xn] _ (H3.below ((Below.refl _ _).alloc (Nat.le_refl _) _) (by have := hs3; simp; omega)) (by omega) hn _ _ (litN [fy1, -1, xn] 3 _ rfl (by omega) rfl (by simp)) (by have := hs3; simp; omega) (by simp) (by simp)).mono ?_; rintro e w6 ⟨jj, hjj, rfl, h6, g6⟩; have gA' := (Wr.of_below ((Below.refl (w3.drewN 1).heap.size (w3.drewN 1)).alloc (Nat.le_refl _) _) g (g + 1)).trans g6; have gA : Wr g (g + 1) w3 w6 := ⟨gA'.os, gA'.tape, gA'.output, gA'.size, gA'.block⟩; have hacc6 := AccK.apart hacc3 gA (by omega); have hw6 := hw3.trans gA; have hz := (World.ownsRow.frozenAt hacc6.2 2); have hd := AccK.cell hacc6 2 (by omega); generalize List.getD ([fy1, -1, xn] : List Int) jj 0 = y; generalize List.getD f 2 0 = fy at hd; clear gA' gA g6)
        all_goals
          go_wp2_with fail
          go_ret
          exact RetMsC.of (AccK.put hacc6 2 y) (Nat.le_succ _) (by omega) (h6.below (lo := w.heap.size) ((Below.refl _ _).setCell (p := ⟨b, 2, none⟩) (by simp; omega) _) hgw) (by omega) (hw6.and_below ((Below.refl w.heap.size w6).setCell (p := ⟨b, 2, none⟩) (by simp; omega) _) (Nat.le_refl _))
      by_cases e1 : s = 1
      · subst e1
        go_wp2_with fail
        refine (among_any g B n _ _ [-1, 100, 101] _ (h3.below ((Below.refl _ _).alloc (Nat.le_refl _) _) (by omega)) (by omega) hn _ _ (litN [-1, 100, 101] 3 _ rfl (by omega) rfl (by simp)) (by omega) (by simp) (by simp)).mono ?_; rintro e w6 ⟨jj, hjj, rfl, h6, g6⟩
        generalize List.getD ([-1, 100, 101] : List Int) jj 0 = y
        have gA : Wr g (g + 1) w3 w6 := (Wr.of_below ((Below.refl _ _).alloc (Nat.le_refl _) _) g (g + 1)).trans g6
        have hacc6 := AccK.apart hacc3 gA (by omega)
        have hw6 := hw3.trans gA
        have hs6 := hw6.size
        clear h3 hacc3 hw3 g6 gA hjj bk3 q0
        have hz := (World.ownsRow.frozenAt hacc6.2 (p * 3))
        have hd := AccK.cell hacc6 (p * 3) (by omega)
        generalize List.getD f (p * 3) 0 = fy at hd
        go_wp2_with fail
        go_ret
        exact RetMsC.of (AccK.put hacc6 (p * 3) y) (Nat.le_succ _) (by omega) (h6.below (lo := w.heap.size) ((Below.refl _ _).setCell (p := ⟨b, p * 3, none⟩) (by simp; omega) _) hgw) (by omega) (hw6.and_below ((Below.refl w.heap.size w6).setCell (p := ⟨b, p * 3, none⟩) (by simp; omega) _) (Nat.le_refl _))
      by_cases e2 : s = 2
      · subst e2
        clear q0
        go_wp2_with fail
        go_loopw [5] (fun u wr => ∃ (p : Nat) (f : List Int), p ≤ 20 ∧ AccK 3 35 wr (w.heap.size + 1) u (p + 1) f ∧ CurAt wr g B n (k + 90 + 2 * p) ∧ Wr g (g + 1) w wr ∧ w.heap.size + 1 ≤ wr.heap.size) (fun u _ => 21 - (match u with | .slice _ n _ => n | _ => 0))
        case atStart => exact ⟨p, f, by omega, hacc3, h3.more (by omega), hw3, bk3.1⟩
        case round =>
          obtain ⟨p, f, hp, hacc, hcur, hwr, hs9⟩ := hrel
          have hgr := hcur.lt
          have hsz := hwr.size
          have hp' : (p : Int) ≤ 20 := by omega
          rcases hacc.form with ⟨h0, _⟩ | ⟨b, c, rfl, hlb, hbw, hmc, hcm, hcell, hfz⟩
          · omega
          have HC := Lib.hid hcell
          clear hcell hfz
          go_wp2_with fail
          refine (pick_any g B n _ 2 _ hcur (by omega) hn (by omega) (by omega)).mono ?_; rintro e w4 ⟨z, rfl, z0, z1, h4, g4⟩
          have hw4 := hwr.trans g4
          have hs4 := hw4.size
          have hs94 : w.heap.size + 1 ≤ w4.heap.size := Nat.le_trans hs9 g4.size
          have hacc4 := AccK.apart hacc g4 (by omega)
          clear hacc hcur hwr g4 HC
          by_cases hlt : (p : Int) + 1 < 20 + z
          · rcases hacc4.form with ⟨h0, _⟩ | ⟨b', c', hbc, _, _, _, _, hcell, hfz⟩
            · omega
            injection hbc with q1 q2 q3
            injection q1 with q1
            injection q1 with q1
            subst q1; subst q3
            have d0 := hcell (p * 3) (by omega)
            have d1 := hcell (p * 3 + 1) (by omega)
            have d2 := hcell (p * 3 + 2) (by omega)
            clear hcell hfz q2
            generalize List.getD f (p * 3) 0 = x0 at d0
            generalize List.getD f (p * 3 + 1) 0 = x1 at d1
            generalize List.getD f (p * 3 + 2) 0 = x2 at d2
            go_wp2_with (at_builtin; refine wpList_pushK rfl _ _ _ rfl 35 i0 Try.underlying26 hi _ 3 24 hz0 hz1 hz2 rfl (by omega) (by omega) _ w4 (w.heap.size + 1) _ (p + 1) f [x0, x1, x2] _ rfl rfl rfl rfl hacc4 rfl (by omega) (by omega) (Below.refl _ _) ?_; intro v5 w5 hacc5 hb5)
            have h5 := h4.below hb5 (by omega)
            have hw5 := hw4.and_below hb5 (by omega)
            have hs95 : w.heap.size + 1 ≤ w5.heap.size := Nat.le_trans hs94 hb5.size
            obtain ⟨A5, c5, hv5⟩ : ∃ A5 c5, v5 = .slice A5 (p + 1 + 1) c5 := by
              rcases hacc5.form with ⟨h0, _⟩ | ⟨b5, c5, h0, _⟩
              · omega
              · exact ⟨_, _, h0⟩
            clear h4 hacc4 hw4 hb5 d0 d1 d2
            have hp19 : p + 1 ≤ 20 := by omega
            go_wp2_with fail
            go_roundw
            case rel => exact ⟨p + 1, _, hp19, hacc5, h5.more (by omega), hw5, hs95⟩
            case measure => subst hv5; simp; omega
          · go_wp2_with fail
            go_ret
            exact RetMsC.of hacc4 (Nat.le_succ _) (by omega) h4 (by omega) hw4
      go_wp2_with fail
      go_ret
      exact RetMsC.of hacc3 (Nat.le_succ _) (by omega) h3 (by omega) hw3
end
section
open Go.RowKit
set_option maxRecDepth 100000
set_option linter.unusedVariables false
theorem RB.wide9 {w : World} {B B' : Nat} {v : Value} {n : Nat} (h : RB w B v n) (hB : B ≤ B') : RB w B' v n := by
  obtain ⟨A, c, rfl, hlc, hc⟩ := h
  exact ⟨A, c, rfl, hlc, fun h => by obtain ⟨b, off, h1, h2, h3⟩ := hc h; exact ⟨b, off, h1, by omega, h3⟩⟩
def RetSdC (g B n k : Nat) (w : World) (e : Ending) (w' : World) : Prop :=
  ∃ (x : Sr) (u : Value) (l : List Ms), e = .returned (.tuple #[SrV x, u]) ∧ l.length ≤ 21 ∧ OMsS w' w.heap.size w'.heap.size u l ∧ CurAt w' g B n k ∧ Wr g (g + 1) w w'
set_option maxHeartbeats 4000000 in
theorem slotted_any (g B n k : Nat) (w : World) (h : CurAt w g B n k) (hk : k ≤ 10000000) (hn : n ≤ 1048576) :
    Calls Try.prog 21 #[.pointer (some ⟨g, 0, none⟩)] w (RetSdC g B n (k + 300) w) := by
  have hgw := h.lt
  have hBg : B ≤ g := h.1
  have bR := BK.made w 25 #[.int .i64 0, .bool false]
  have h0 := h.below ((Below.refl _ _).alloc (Nat.le_refl _) (.cells #[.int .i64 0, .bool false] 25)) hgw
  have g0 : Wr g (g + 1) w (w.alloc (.cells #[.int .i64 0, .bool false] 25)) := Wr.of_below ((Below.refl _ _).alloc (Nat.le_refl _) _) _ _
  go_enter Try.func21, Try.ntmps21
  go_wp2_with fail
  refine (curSl_any g B n _ _ h0 (by omega) hn).mono ?_; rintro e w1 ⟨x, rfl, h1, g1⟩
  obtain ⟨xn, xh⟩ := x
  simp only [SrV]
  have bR1 := bR.far g1 (.inr (by omega))
  have hlow : w.heap.size < w1.heap.size := bR1.1
  have hal : Below w1.heap.size w1 (w1.alloc (.cells #[.int .i64 xn, .bool xh] 25)) := (Below.refl _ _).alloc (Nat.le_refl _) _
  have bG2 := BK.made w1 25 #[.int .i64 xn, .bool xh]
  have bR2 := bR1.step hal
  have h2 := h1.below hal h1.lt
  have gW2 := (g0.trans g1).and_below hal (by omega)
  have hs2 := gW2.size
  clear bR bR1 h0 h1 g0 g1 hal
  go_upto_region 2 with fail
  have G3 : BK ((w1.alloc (.cells #[.int .i64 xn, .bool xh] 25)).drewN 1) _ _ _ := bG2
  have R3 : BK ((w1.alloc (.cells #[.int .i64 xn, .bool xh] 25)).drewN 1) _ _ _ := bR2
  have H3 : CurAt ((w1.alloc (.cells #[.int .i64 xn, .bool xh] 25)).drewN 1) g B n _ := h2
  have c0 := G3.cell 0
  have c1 := G3.cell 1
  simp at c0 c1
  go_region_with (go_at_call 37; refine (messages_any g B n _ ⟨xn, xh⟩ _ H3 (by omega) hn).mono ?_; rintro e w7 ⟨u, l, rfl, hl, o7, h7, g7⟩; have G7 := G3.far g7 (.inr (by omega)); have R7 := R3.far g7 (.inr (by omega)); have O7 := OK.wide (lo' := w.heap.size + 1) o7 (by simp; omega) (Nat.le_refl _); have W7 : Wr g (g + 1) w w7 := gW2.trans ⟨g7.os, g7.tape, g7.output, g7.size, g7.block⟩; have m0 := G7.cell 0; have m1 := G7.cell 1; have a0 := R7.cell 0; have a1 := R7.cell 1; have a2 := R7.free 0; have a3 := R7.free 1; simp at m0 m1 a0 a1)
  all_goals
    go_wp2_with fail
    have gz : Wr w.heap.size (w.heap.size + 1) w7 ((w7.setCell ⟨w.heap.size, 0, none⟩ (.int .i64 xn)).setCell ⟨w.heap.size, 1, none⟩ (.bool xh)) := ((Wr.refl _ _ _).setCell (p := ⟨w.heap.size, 0, none⟩) (Nat.le_refl _) (Nat.lt_succ_self _) _).setCell (p := ⟨w.heap.size, 1, none⟩) (Nat.le_refl _) (Nat.lt_succ_self _) _
    refine bodyPost_ret (v := .tuple #[SrV ⟨xn, xh⟩, u]) (by simp [results, Try.results21, go_sem, Act.put, SrV, a0, a1]) (by simp [Act.put]) ⟨⟨xn, xh⟩, u, l, rfl, hl, OK.wide (OK.far O7 gz (.inr (Nat.le_refl _))) (Nat.le_succ _) gz.size, (h7.far gz (.inl hgw) (by omega)).more (by omega), W7.and_below (lo := w.heap.size) (gz.below (B := w.heap.size) (Nat.le_refl _) (by have := R7.1; omega)) (Nat.le_refl _)⟩
def RetSd (w : World) (e : Ending) (w' : World) : Prop := ∃ (x : Sr) (u : Value) (l : List Ms), e = .returned (.tuple #[SrV x, u]) ∧ l.length ≤ 21 ∧ OMsS w' w.heap.size w'.heap.size u l ∧ Below w.heap.size w w'
def RetSm (w : World) (e : Ending) (w' : World) : Prop := ∃ (x : Sr) (y : Ms), e = .returned (.tuple #[SrV x, MsV y]) ∧ Below w.heap.size w w'
end
section
open Go.RowKit
set_option maxRecDepth 100000
set_option linter.unusedVariables false
def RetTk (g B n k : Nat) (w : World) (e : Ending) (w' : World) : Prop := ∃ y : Int, e = .returned (.int .i64 y) ∧ (-1 ≤ y ∧ y ≤ 401) ∧ CurAt w' g B n k ∧ Wr g (g + 1) w w'
theorem slotTick_any (g B n k : Nat) (w : World) (h : CurAt w g B n k) (hk : k ≤ 100000000) (hn : n ≤ 1048576) :
    Calls Try.prog 22 #[.pointer (some ⟨g, 0, none⟩)] w (RetTk g B n (k + 6) w) := by
  have hgw := h.lt
  go_enter Try.func22, Try.ntmps22
  go_wp2_with fail
  refine (one_any g B n k 12 _ h (by omega) hn (by omega) (by omega)).mono ?_; rintro e w1 ⟨bb, rfl, h1, g1⟩
  have z1 := g1.size
  cases bb
  · go_wp2_with fail
    refine (pick_any g B n _ 30 _ h1 (by omega) hn (by omega) (by omega)).mono ?_; rintro e w2 ⟨x, rfl, x0, x1, h2, g2⟩
    go_wp2_with fail
    go_ret
    exact ⟨x, rfl, ⟨by omega, by omega⟩, h2.more (by omega), g1.trans g2⟩
  · go_wp2_with fail
    refine (among_any g B n _ _ [-1, 0, 400, 401] _ (h1.below ((Below.refl _ _).alloc (Nat.le_refl _) _) (by omega)) (by omega) hn _ _ (litN [-1, 0, 400, 401] 4 _ rfl (by omega) rfl (by simp)) (by omega) (by simp) (by simp)).mono ?_; rintro e w2 ⟨j1, hj1, rfl, h2, g2⟩
    have gA : Wr g (g + 1) w1 w2 := (Wr.of_below ((Below.refl _ _).alloc (Nat.le_refl _) _) g (g + 1)).trans g2
    have yy : -1 ≤ List.getD ([-1, 0, 400, 401] : List Int) j1 0 ∧ List.getD ([-1, 0, 400, 401] : List Int) j1 0 ≤ 401 := by
      match j1, hj1 with
      | 0, _ => decide
      | 1, _ => decide
      | 2, _ => decide
      | 3, _ => decide
    generalize List.getD ([-1, 0, 400, 401] : List Int) j1 0 = y at yy
    go_wp2_with fail
    go_ret
    exact ⟨y, rfl, yy, h2.more (by omega), g1.trans gA⟩
def RetSa (w : World) (e : Ending) (w' : World) : Prop := ∃ (x : Sr) (u : Value) (l : List Ms) (a1 : Int), e = .returned (.tuple #[SrV x, u, .int .i64 a1]) ∧ l.length ≤ 21 ∧ (-1 ≤ a1 ∧ a1 ≤ 401) ∧ OMsS w' w.heap.size w'.heap.size u l ∧ Below w.heap.size w w'
set_option maxHeartbeats 8000000 in
theorem drawSlotsAt_any (v : Value) (n : Nat) (w : World) (h : RB w w.heap.size v n) (hn : n ≤ 1048576) : Calls Try.prog 5 #[v] w (RetSa w) := by
  have b0 := BK.made w 25 #[.int .i64 0, .bool false]
  have hA : Below w.heap.size w (w.alloc (.cells #[.int .i64 0, .bool false] 25)) := (Below.refl _ _).alloc (Nat.le_refl _) _
  have h0 := CurAt.made (RB.wide9 (RB.below h hA) hA.size)
  have eG : (w.alloc (.cells #[.int .i64 0, .bool false] 25)).heap.size = w.heap.size + 1 := by simp
  rw [eG] at h0
  clear eG
  obtain ⟨A, c, rfl, hlc, hc⟩ := h
  clear hc
  have b1 := b0.alloc (.cells #[.slice A n c, .int .i64 0, .int .u64 0] 47)
  have t0 : Below w.heap.size w ((w.alloc (.cells #[.int .i64 0, .bool false] 25)).alloc (.cells #[.slice A n c, .int .i64 0, .int .u64 0] 47)) := hA.alloc hA.size _
  have z0 : w.heap.size + 2 ≤ ((w.alloc (.cells #[.int .i64 0, .bool false] 25)).alloc (.cells #[.slice A n c, .int .i64 0, .int .u64 0] 47)).heap.size := by simp
  clear hA b0
  go_enter Try.func5, Try.ntmps5
  go_wp2_with fail
  refine (slotted_any (w.heap.size + 1) _ n _ _ h0 (by omega) hn).mono ?_; rintro e w1 ⟨x, u, l, rfl, hl, o1, h1, g1⟩
  obtain ⟨xn, xh⟩ := x
  simp only [SrV]
  have z1 := g1.size
  have t1 := t0.trans (g1.below (B := w.heap.size) (by omega) (by omega))
  have bA2 := b1.far g1 (.inl (by omega))
  have hal : Below w1.heap.size w1 (w1.alloc (.cells #[.int .i64 xn, .bool xh] 25)) := (Below.refl _ _).alloc (Nat.le_refl _) _
  have bG := BK.made w1 25 #[.int .i64 xn, .bool xh]
  have bA3 := bA2.step hal
  have h3 := h1.below hal h1.lt
  have o3 := OK.wide (lo' := w.heap.size + 2) (OK.step o1 hal) (by omega) (Nat.le_refl _)
  have t3 := t1.trans (hal.mono t1.size)
  have z3 : w1.heap.size + 1 ≤ (w1.alloc (.cells #[.int .i64 xn, .bool xh] 25)).heap.size := by simp
  clear b1 bA2 g1 h0 t0 h1 o1 t1 hal
  go_upto_region 3 with fail
  have G0 : BK ((w1.alloc (.cells #[.int .i64 xn, .bool xh] 25)).drewN 1) _ _ _ := bG
  have A0 : BK ((w1.alloc (.cells #[.int .i64 xn, .bool xh] 25)).drewN 1) _ _ _ := bA3
  have H0 : CurAt ((w1.alloc (.cells #[.int .i64 xn, .bool xh] 25)).drewN 1) (w.heap.size + 1) (w.heap.size + 1) n _ := h3
  have O0 : OMsS ((w1.alloc (.cells #[.int .i64 xn, .bool xh] 25)).drewN 1) (w.heap.size + 2) w1.heap.size u l := o3
  have T0 := below_drewN t3 1
  have Z0 : w1.heap.size + 1 ≤ ((w1.alloc (.cells #[.int .i64 xn, .bool xh] 25)).drewN 1).heap.size := z3
  have k00 := G0.cell 0
  have k01 := G0.cell 1
  simp at k00 k01
  clear bG bA3 h3 o3 t3 z3
  go_region_with (first | (go_at_call 22; refine (slotTick_any (w.heap.size + 1) _ n _ _ H0 (by omega) hn).mono ?_; clear H0; rintro e v1 ⟨y1, rfl, ⟨ya1, yb1⟩, H1, g1⟩; have G1 := G0.far g1 (.inr (by omega)); have A1 := A0.far g1 (.inl (by omega)); have O1 := OK.far O0 g1 (.inr (by omega)); have T1 := T0.trans (g1.below (B := w.heap.size) (by omega) (by omega)); have Z1 := g1.size; have k10 := G1.cell 0; have k11 := G1.cell 1; simp at k10 k11; have a0 := A1.cell 0; have a1 := A1.cell 1; have a2 := A1.free 0; have a3 := A1.free 1; simp at a0 a1))
  all_goals
    go_wp2_with fail
    have gz : Wr w.heap.size (w.heap.size + 1) v1 ((v1.setCell ⟨w.heap.size, 0, none⟩ (.int .i64 xn)).setCell ⟨w.heap.size, 1, none⟩ (.bool xh)) := ((Wr.refl _ _ _).setCell (p := ⟨w.heap.size, 0, none⟩) (Nat.le_refl _) (Nat.lt_succ_self _) _).setCell (p := ⟨w.heap.size, 1, none⟩) (Nat.le_refl _) (Nat.lt_succ_self _) _
    have zz := gz.size
    refine bodyPost_ret (v := .tuple #[SrV ⟨xn, xh⟩, u, .int .i64 (y1)]) (by simp [results, Try.results5, go_sem, Act.put, SrV, a0, a1]) (by simp [Act.put]) ⟨⟨xn, xh⟩, u, l, _, rfl, hl, (by omega), OK.wide (OK.far O1 gz (.inr (by omega))) (by omega) (by omega), T1.trans (gz.below (Nat.le_refl _) (by omega))⟩
def RetTu (w : World) (e : Ending) (w' : World) : Prop := ∃ (x : Sr) (u : Value) (l : List Ms) (a1 : Int), e = .returned (.tuple #[SrV x, u, .int .i64 a1]) ∧ l.length ≤ 21 ∧ (-1 ≤ a1 ∧ a1 ≤ 401) ∧ OMsS w' w.heap.size w'.heap.size u l ∧ Below w.heap.size w w'
set_option maxHeartbeats 8000000 in
theorem drawTurnMessages_any (v : Value) (n : Nat) (w : World) (h : RB w w.heap.size v n) (hn : n ≤ 1048576) : Calls Try.prog 17 #[v] w (RetTu w) := by
  have b0 := BK.made w 25 #[.int .i64 0, .bool false]
  have hA : Below w.heap.size w (w.alloc (.cells #[.int .i64 0, .bool false] 25)) := (Below.refl _ _).alloc (Nat.le_refl _) _
  have h0 := CurAt.made (RB.wide9 (RB.below h hA) hA.size)
  have eG : (w.alloc (.cells #[.int .i64 0, .bool false] 25)).heap.size = w.heap.size + 1 := by simp
  rw [eG] at h0
  clear eG
  obtain ⟨A, c, rfl, hlc, hc⟩ := h
  clear hc
  have b1 := b0.alloc (.cells #[.slice A n c, .int .i64 0, .int .u64 0] 47)
  have t0 : Below w.heap.size w ((w.alloc (.cells #[.int .i64 0, .bool false] 25)).alloc (.cells #[.slice A n c, .int .i64 0, .int .u64 0] 47)) := hA.alloc hA.size _
  have z0 : w.heap.size + 2 ≤ ((w.alloc (.cells #[.int .i64 0, .bool false] 25)).alloc (.cells #[.slice A n c, .int .i64 0, .int .u64 0] 47)).heap.size := by simp
  clear hA b0
  go_enter Try.func17, Try.ntmps17
  go_wp2_with fail
  refine (slotted_any (w.heap.size + 1) _ n _ _ h0 (by omega) hn).mono ?_; rintro e w1 ⟨x, u, l, rfl, hl, o1, h1, g1⟩
  obtain ⟨xn, xh⟩ := x
  simp only [SrV]
  have z1 := g1.size
  have t1 := t0.trans (g1.below (B := w.heap.size) (by omega) (by omega))
  have bA2 := b1.far g1 (.inl (by omega))
  have hal : Below w1.heap.size w1 (w1.alloc (.cells #[.int .i64 xn, .bool xh] 25)) := (Below.refl _ _).alloc (Nat.le_refl _) _
  have bG := BK.made w1 25 #[.int .i64 xn, .bool xh]
  have bA3 := bA2.step hal
  have h3 := h1.below hal h1.lt
  have o3 := OK.wide (lo' := w.heap.size + 2) (OK.step o1 hal) (by omega) (Nat.le_refl _)
  have t3 := t1.trans (hal.mono t1.size)
  have z3 : w1.heap.size + 1 ≤ (w1.alloc (.cells #[.int .i64 xn, .bool xh] 25)).heap.size := by simp
  clear b1 bA2 g1 h0 t0 h1 o1 t1 hal
  go_upto_region 3 with fail
  have G0 : BK ((w1.alloc (.cells #[.int .i64 xn, .bool xh] 25)).drewN 1) _ _ _ := bG
  have A0 : BK ((w1.alloc (.cells #[.int .i64 xn, .bool xh] 25)).drewN 1) _ _ _ := bA3
  have H0 : CurAt ((w1.alloc (.cells #[.int .i64 xn, .bool xh] 25)).drewN 1) (w.heap.size + 1) (w.heap.size + 1) n _ := h3
  have O0 : OMsS ((w1.alloc (.cells #[.int .i64 xn, .bool xh] 25)).drewN 1) (w.heap.size + 2) w1.heap.size u l := o3
  have T0 := below_drewN t3 1
  have Z0 : w1.heap.size + 1 ≤ ((w1.alloc (.cells #[.int .i64 xn, .bool xh] 25)).drewN 1).heap.size := z3
  have k00 := G0.cell 0
  have k01 := G0.cell 1
  simp at k00 k01
  clear bG bA3 h3 o3 t3 z3
  go_region_with (first | (go_at_call 31; refine (pick_any (w.heap.size + 1) _ n _ 6 _ H0 (by omega) hn (by omega) (by omega)).mono ?_; clear H0; rintro e v1 ⟨y1, rfl, ya1, yb1, H1, g1⟩; have G1 := G0.far g1 (.inr (by omega)); have A1 := A0.far g1 (.inl (by omega)); have O1 := OK.far O0 g1 (.inr (by omega)); have T1 := T0.trans (g1.below (B := w.heap.size) (by omega) (by omega)); have Z1 := g1.size; have k10 := G1.cell 0; have k11 := G1.cell 1; simp at k10 k11) | (go_at_call 31; refine (pick_any (w.heap.size + 1) _ n _ 9 _ H1 (by omega) hn (by omega) (by omega)).mono ?_; clear H1; rintro e v2 ⟨y2, rfl, ya2, yb2, H2, g2⟩; have G2 := G1.far g2 (.inr (by omega)); have A2 := A1.far g2 (.inl (by omega)); have O2 := OK.far O1 g2 (.inr (by omega)); have T2 := T1.trans (g2.below (B := w.heap.size) (by omega) (by omega)); have Z2 := g2.size; have k20 := G2.cell 0; have k21 := G2.cell 1; simp at k20 k21; have a0 := A2.cell 0; have a1 := A2.cell 1; have a2 := A2.free 0; have a3 := A2.free 1; simp at a0 a1))
  all_goals
    go_wp2_with fail
    have gz : Wr w.heap.size (w.heap.size + 1) v2 ((v2.setCell ⟨w.heap.size, 0, none⟩ (.int .i64 xn)).setCell ⟨w.heap.size, 1, none⟩ (.bool xh)) := ((Wr.refl _ _ _).setCell (p := ⟨w.heap.size, 0, none⟩) (Nat.le_refl _) (Nat.lt_succ_self _) _).setCell (p := ⟨w.heap.size, 1, none⟩) (Nat.le_refl _) (Nat.lt_succ_self _) _
    have zz := gz.size
    have hw8 : IntKind.i64.wrap (y2.tdiv 8) = y2 / 8 := by rw [Int.tdiv_eq_ediv_of_nonneg (by omega)]; exact IntWalk.i64_in _ (by omega)
    have hw9 : IntKind.i64.wrap (y1 - y2 / 8) = y1 - y2 / 8 := IntWalk.i64_in _ (by omega)
    refine bodyPost_ret (v := .tuple #[SrV ⟨xn, xh⟩, u, .int .i64 (y1 - y2 / 8)]) (by simp [results, Try.results17, go_sem, Act.put, SrV, a0, a1, hw8, hw9]) (by simp [Act.put]) ⟨⟨xn, xh⟩, u, l, _, rfl, hl, (by omega), OK.wide (OK.far O2 gz (.inr (by omega))) (by omega) (by omega), T2.trans (gz.below (Nat.le_refl _) (by omega))⟩
def RetQu (w : World) (e : Ending) (w' : World) : Prop := ∃ (x : Sr) (u : Value) (l : List Ms) (a1 : Int) (a2 : Int), e = .returned (.tuple #[SrV x, u, .int .i64 a1, .int .i64 a2]) ∧ l.length ≤ 21 ∧ ((-1 ≤ a1 ∧ a1 ≤ 401) ∧ (-1 ≤ a2 ∧ a2 ≤ 401)) ∧ OMsS w' w.heap.size w'.heap.size u l ∧ Below w.heap.size w w'
set_option maxHeartbeats 8000000 in
theorem drawQueueAt_any (v : Value) (n : Nat) (w : World) (h : RB w w.heap.size v n) (hn : n ≤ 1048576) : Calls Try.prog 11 #[v] w (RetQu w) := by
  have b0 := BK.made w 25 #[.int .i64 0, .bool false]
  have hA : Below w.heap.size w (w.alloc (.cells #[.int .i64 0, .bool false] 25)) := (Below.refl _ _).alloc (Nat.le_refl _) _
  have h0 := CurAt.made (RB.wide9 (RB.below h hA) hA.size)
  have eG : (w.alloc (.cells #[.int .i64 0, .bool false] 25)).heap.size = w.heap.size + 1 := by simp
  rw [eG] at h0
  clear eG
  obtain ⟨A, c, rfl, hlc, hc⟩ := h
  clear hc
  have b1 := b0.alloc (.cells #[.slice A n c, .int .i64 0, .int .u64 0] 47)
  have t0 : Below w.heap.size w ((w.alloc (.cells #[.int .i64 0, .bool false] 25)).alloc (.cells #[.slice A n c, .int .i64 0, .int .u64 0] 47)) := hA.alloc hA.size _
  have z0 : w.heap.size + 2 ≤ ((w.alloc (.cells #[.int .i64 0, .bool false] 25)).alloc (.cells #[.slice A n c, .int .i64 0, .int .u64 0] 47)).heap.size := by simp
  clear hA b0
  go_enter Try.func11, Try.ntmps11
  go_wp2_with fail
  refine (slotted_any (w.heap.size + 1) _ n _ _ h0 (by omega) hn).mono ?_; rintro e w1 ⟨x, u, l, rfl, hl, o1, h1, g1⟩
  obtain ⟨xn, xh⟩ := x
  simp only [SrV]
  have z1 := g1.size
  have t1 := t0.trans (g1.below (B := w.heap.size) (by omega) (by omega))
  have bA2 := b1.far g1 (.inl (by omega))
  have hal : Below w1.heap.size w1 (w1.alloc (.cells #[.int .i64 xn, .bool xh] 25)) := (Below.refl _ _).alloc (Nat.le_refl _) _
  have bG := BK.made w1 25 #[.int .i64 xn, .bool xh]
  have bA3 := bA2.step hal
  have h3 := h1.below hal h1.lt
  have o3 := OK.wide (lo' := w.heap.size + 2) (OK.step o1 hal) (by omega) (Nat.le_refl _)
  have t3 := t1.trans (hal.mono t1.size)
  have z3 : w1.heap.size + 1 ≤ (w1.alloc (.cells #[.int .i64 xn, .bool xh] 25)).heap.size := by simp
  clear b1 bA2 g1 h0 t0 h1 o1 t1 hal
  go_upto_region 3 with fail
  have G0 : BK ((w1.alloc (.cells #[.int .i64 xn, .bool xh] 25)).drewN 1) _ _ _ := bG
  have A0 : BK ((w1.alloc (.cells #[.int .i64 xn, .bool xh] 25)).drewN 1) _ _ _ := bA3
  have H0 : CurAt ((w1.alloc (.cells #[.int .i64 xn, .bool xh] 25)).drewN 1) (w.heap.size + 1) (w.heap.size + 1) n _ := h3
  have O0 : OMsS ((w1.alloc (.cells #[.int .i64 xn, .bool xh] 25)).drewN 1) (w.heap.size + 2) w1.heap.size u l := o3
  have T0 := below_drewN t3 1
  have Z0 : w1.heap.size + 1 ≤ ((w1.alloc (.cells #[.int .i64 xn, .bool xh] 25)).drewN 1).heap.size := z3
  have k00 := G0.cell 0
  have k01 := G0.cell 1
  simp at k00 k01
  clear bG bA3 h3 o3 t3 z3
  go_region_with (first | (go_at_call 31; refine (pick_any (w.heap.size + 1) _ n _ 6 _ H0 (by omega) hn (by omega) (by omega)).mono ?_; clear H0; rintro e v1 ⟨y1, rfl, ya1, yb1, H1, g1⟩; have G1 := G0.far g1 (.inr (by omega)); have A1 := A0.far g1 (.inl (by omega)); have O1 := OK.far O0 g1 (.inr (by omega)); have T1 := T0.trans (g1.below (B := w.heap.size) (by omega) (by omega)); have Z1 := g1.size; have k10 := G1.cell 0; have k11 := G1.cell 1; simp at k10 k11) | (go_at_call 31; refine (pick_any (w.heap.size + 1) _ n _ 9 _ H1 (by omega) hn (by omega) (by omega)).mono ?_; clear H1; rintro e v2 ⟨y2, rfl, ya2, yb2, H2, g2⟩; have G2 := G1.far g2 (.inr (by omega)); have A2 := A1.far g2 (.inl (by omega)); have O2 := OK.far O1 g2 (.inr (by omega)); have T2 := T1.trans (g2.below (B := w.heap.size) (by omega) (by omega)); have Z2 := g2.size; have k20 := G2.cell 0; have k21 := G2.cell 1; simp at k20 k21) | (go_at_call 22; refine (slotTick_any (w.heap.size + 1) _ n _ _ H2 (by omega) hn).mono ?_; clear H2; rintro e v3 ⟨y3, rfl, ⟨ya3, yb3⟩, H3, g3⟩; have G3 := G2.far g3 (.inr (by omega)); have A3 := A2.far g3 (.inl (by omega)); have O3 := OK.far O2 g3 (.inr (by omega)); have T3 := T2.trans (g3.below (B := w.heap.size) (by omega) (by omega)); have Z3 := g3.size; have k30 := G3.cell 0; have k31 := G3.cell 1; simp at k30 k31; have a0 := A3.cell 0; have a1 := A3.cell 1; have a2 := A3.free 0; have a3 := A3.free 1; simp at a0 a1))
  all_goals
    go_wp2_with fail
    have gz : Wr w.heap.size (w.heap.size + 1) v3 ((v3.setCell ⟨w.heap.size, 0, none⟩ (.int .i64 xn)).setCell ⟨w.heap.size, 1, none⟩ (.bool xh)) := ((Wr.refl _ _ _).setCell (p := ⟨w.heap.size, 0, none⟩) (Nat.le_refl _) (Nat.lt_succ_self _) _).setCell (p := ⟨w.heap.size, 1, none⟩) (Nat.le_refl _) (Nat.lt_succ_self _) _
    have zz := gz.size
    have hw8 : IntKind.i64.wrap (y2.tdiv 8) = y2 / 8 := by rw [Int.tdiv_eq_ediv_of_nonneg (by omega)]; exact IntWalk.i64_in _ (by omega)
    have hw9 : IntKind.i64.wrap (y1 - y2 / 8) = y1 - y2 / 8 := IntWalk.i64_in _ (by omega)
    refine bodyPost_ret (v := .tuple #[SrV ⟨xn, xh⟩, u, .int .i64 (y1 - y2 / 8), .int .i64 (y3)]) (by simp [results, Try.results11, go_sem, Act.put, SrV, a0, a1, hw8, hw9]) (by simp [Act.put]) ⟨⟨xn, xh⟩, u, l, _, _, rfl, hl, (by omega), OK.wide (OK.far O3 gz (.inr (by omega))) (by omega) (by omega), T3.trans (gz.below (Nat.le_refl _) (by omega))⟩
theorem kMessages_any (a b : Value) (l : List Ms) (w : World) (ha : RMsS w w.heap.size a l) (hb : RMsS w w.heap.size b l) (hl : l.length ≤ 1048576) :
    Calls Try.prog 20 #[a, b] w (RetV w (.bool true)) := by
  have hl' : (l.length : Int) ≤ 1048576 := by omega
  have HA := Lib.hid ha
  have HB := Lib.hid hb
  obtain ⟨A1, c1, rfl, _, _, _⟩ := ha
  obtain ⟨A2, c2, rfl, _, _, _⟩ := hb
  go_enter Try.func20, Try.ntmps20
  go_wp2_with fail
  go_loopw [13] (fun i wr => ∃ j : Nat, j ≤ l.length ∧ i = .int .i64 j ∧ Below w.heap.size w wr) (fun i _ => l.length - (intOf i).toNat)
  case atStart => exact ⟨0, Nat.zero_le _, rfl, Below.refl _ _⟩
  case round =>
    obtain ⟨j, hj, rfl, hT⟩ := hrel
    have HT := Lib.hid hT
    by_cases hlt : j < l.length
    · obtain ⟨_, _, _, hp1⟩ := RMsS.parts (l := l) (RK.below HA.out hT)
      obtain ⟨_, _, _, hp2⟩ := RMsS.parts (l := l) (RK.below HB.out hT)
      obtain ⟨b1, o1, rfl, _, q1⟩ := hp1 (by omega)
      obtain ⟨b2, o2, rfl, _, q2⟩ := hp2 (by omega)
      obtain ⟨d0, d1, d2⟩ := q1 j hlt
      obtain ⟨e0, e1, e2⟩ := q2 j hlt
      have hjI : (j : Int) < (l.length : Int) := by omega
      generalize l[j]! = y at d0 d1 d2 e0 e1 e2
      obtain ⟨yt, yf, yo⟩ := y
      simp only at d0 d1 d2 e0 e1 e2
      clear q1 q2 hp1 hp2 hT HA HB
      go_wp2_with fail
      go_quiet (fail)
      go_wp2_with fail
      go_roundw
      case rel => exact ⟨j + 1, by omega, by go_num, below_drewN HT.out _⟩
      case measure => simp [intOf]; omega
    · obtain rfl : j = l.length := by omega
      clear hT HA HB
      go_wp2_with fail
      go_ret
      exact ⟨rfl, HT.out⟩
end
section
open Go.RowKit
set_option maxRecDepth 100000
set_option linter.unusedVariables false
set_option maxHeartbeats 4000000 in
theorem drawFullTicks_any (v : Value) (n : Nat) (w : World) (h : RB w w.heap.size v n) (hn : n ≤ 1048576) : Calls Try.prog 14 #[v] w (RetSa w) := by
  have b0 := BK.made w 25 #[.int .i64 0, .bool false]
  have hA : Below w.heap.size w (w.alloc (.cells #[.int .i64 0, .bool false] 25)) := (Below.refl _ _).alloc (Nat.le_refl _) _
  have H := Lib.hid (drawSlotsAt_any v n _ (RB.wide9 (RB.below h hA) hA.size) hn)
  have z0 : w.heap.size + 1 ≤ (w.alloc (.cells #[.int .i64 0, .bool false] 25)).heap.size := by simp
  go_enter Try.func14, Try.ntmps14
  go_wp2_with fail
  refine H.out.mono ?_; rintro e w1 ⟨x, u, l, a1, rfl, hl, ha1, o1, hb1⟩
  obtain ⟨xn, xh⟩ := x
  simp only [SrV]
  have t1 := hA.trans (hb1.mono (by omega))
  have b2 := b0.step hb1
  have c0 := b2.cell 0
  have c1 := b2.cell 1
  have f0 := b2.free 0
  have f1 := b2.free 1
  simp at c0 c1
  have O1 := OK.wide (lo' := w.heap.size + 1) o1 (by omega) (Nat.le_refl _)
  have z1 := hb1.size
  clear b0 hA hb1 o1
  go_wp2_with fail
  have gz : Wr w.heap.size (w.heap.size + 1) w1 ((w1.setCell ⟨w.heap.size, 0, none⟩ (.int .i64 xn)).setCell ⟨w.heap.size, 1, none⟩ (.bool xh)) := ((Wr.refl _ _ _).setCell (p := ⟨w.heap.size, 0, none⟩) (Nat.le_refl _) (Nat.lt_succ_self _) _).setCell (p := ⟨w.heap.size, 1, none⟩) (Nat.le_refl _) (Nat.lt_succ_self _) _
  refine bodyPost_ret (v := .tuple #[SrV ⟨xn, xh⟩, u, .int .i64 a1]) (by simp [results, Try.results14, go_sem, SrV, c0, c1]) rfl ⟨⟨xn, xh⟩, u, l, a1, rfl, hl, ha1, OK.wide (OK.far O1 gz (.inr (Nat.le_refl _))) (Nat.le_succ _) gz.size, t1.trans (gz.below (Nat.le_refl _) (by omega))⟩
end
end Go.Proofs.Ytehmhkbiofndaaa
