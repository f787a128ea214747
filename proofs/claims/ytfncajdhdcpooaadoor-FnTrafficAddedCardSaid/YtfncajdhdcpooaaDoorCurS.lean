/-
  Buckets, servers and traffic as the laws' inputs are drawn.
-/
import Derived.Test.YtfncajdhdcpooaaDoorCurB
import Derived.Test.YtfncajdhdcpooaaDoorMathBo
import Derived.Lib.AppendZeros
namespace Go.Proofs.YtfncajdhdcpooaaDoor
open Go.RowKit
set_option maxRecDepth 100000
set_option linter.unusedVariables false
theorem Acc.farC {E : TypeId} {w w' : World} {lo a b : Nat} {v : Value} {l : List Int} (h : Acc E w lo v l) (hg : Wr a b w w') (hb : b ≤ lo) : Acc E w' lo v l := by
  refine ⟨h.1, ?_⟩
  rcases h.2 with ⟨hv, hn⟩ | ⟨g, c, cur, hv, hlo, hh, r⟩
  · exact .inl ⟨hv, hn⟩
  · exact .inr ⟨g, c, cur, hv, hlo, by rw [hg.block g (Array.getElem?_eq_some_iff.1 hh).1 (.inr (by omega))]; exact hh, r⟩

def RetBuC (g B n k : Nat) (w : World) (e : Ending) (w' : World) : Prop := ∃ x : Bu, e = .returned (BuV x) ∧ CurAt w' g B n k ∧ Wr g (g + 1) w w'
set_option maxHeartbeats 1000000 in
theorem curBu_any (g B n k : Nat) (w : World) (h : CurAt w g B n k) (hk : k ≤ 100000000) (hn : n ≤ 1048576) :
    Calls Tryd.prog 28 #[.pointer (some ⟨g, 0, none⟩)] w (RetBuC g B n (k + 6) w) := by
  have hgw := h.lt
  have b0 := BK.made w 32 #[.int .i64 0, .int .i64 0]
  have h0 := h.below ((Below.refl _ _).alloc (Nat.le_refl _) (.cells #[.int .i64 0, .int .i64 0] 32)) hgw
  have g0 : Wr g (g + 1) w (w.alloc (.cells #[.int .i64 0, .int .i64 0] 32)) := Wr.of_below ((Below.refl _ _).alloc (Nat.le_refl _) _) _ _
  go_enter Tryd.func28, Tryd.ntmps28
  go_wp2_with fail
  refine (one_any g B n k 12 _ h0 (by omega) hn (by omega) (by omega)).mono ?_; rintro e w1 ⟨bb, rfl, h1, g1⟩
  have b1 := b0.far g1 (.inr (by omega))
  have z1 := g0.trans g1
  have s1 := z1.size
  clear b0 h0 g0 g1
  cases bb
  · go_wp2_with fail
    refine (pick_any g B n _ 6 _ h1 (by omega) hn (by omega) (by omega)).mono ?_; rintro e w2 ⟨x, rfl, x0, x1, h2, g2⟩
    go_wp2_with fail
    refine (pick_any g B n _ 20 _ h2 (by omega) hn (by omega) (by omega)).mono ?_; rintro e w3 ⟨y, rfl, y0, y1, h3, g3⟩
    have b3 := (b1.far g2 (.inr (by omega))).far g3 (.inr (by omega))
    have z3 := z1.trans (g2.trans g3)
    clear b1 h1 h2 g2 g3 z1
    have c0 := b3.cell 0
    have c1 := b3.cell 1
    have f0 := b3.free 0
    have f1 := b3.free 1
    simp at c0 c1
    go_wp2_with fail
    have bb3 : Below w.heap.size w3 ((w3.setCell ⟨w.heap.size, 0, none⟩ (.int .i64 (1 + x))).setCell ⟨w.heap.size, 1, none⟩ (.int .i64 (1 + y))) := ((Below.refl w.heap.size w3).setCell (p := ⟨w.heap.size, 0, none⟩) (Nat.le_refl _) _).setCell (p := ⟨w.heap.size, 1, none⟩) (Nat.le_refl _) _
    refine bodyPost_ret (v := BuV ⟨1 + x, 1 + y⟩) (by simp [results, Tryd.results28, go_sem, BuV, c0, c1]) rfl ⟨⟨1 + x, 1 + y⟩, rfl, (h3.below bb3 hgw).more (by omega), z3.and_below bb3 (Nat.le_refl _)⟩
  · go_wp2_with fail
    refine (among_any g B n _ _ [0, 1, 100, 101, -1] _ (h1.below ((Below.refl _ _).alloc (Nat.le_refl _) _) (by omega)) (by omega) hn _ _ (litN [0, 1, 100, 101, -1] 5 _ rfl (by omega) rfl (by simp)) (by omega) (by simp) (by simp)).mono ?_; rintro e w2 ⟨j1, hj1, rfl, h2, g2⟩
    have gA : Wr g (g + 1) w1 w2 := (Wr.of_below ((Below.refl _ _).alloc (Nat.le_refl _) _) g (g + 1)).trans g2
    generalize List.getD ([0, 1, 100, 101, -1] : List Int) j1 0 = x
    have b2 := b1.far gA (.inr (by omega))
    have z2 := z1.trans gA
    have s2 := z2.size
    clear b1 h1 g2 gA z1 hj1
    go_wp2_with fail
    refine (among_any g B n _ _ [0, 1, 1000, 1001, 4611686018427387904] _ (h2.below ((Below.refl _ _).alloc (Nat.le_refl _) _) (by omega)) (by omega) hn _ _ (litN [0, 1, 1000, 1001, 4611686018427387904] 5 _ rfl (by omega) rfl (by simp)) (by omega) (by simp) (by simp)).mono ?_; rintro e w3 ⟨j2, hj2, rfl, h3, g3⟩
    have gB : Wr g (g + 1) w2 w3 := (Wr.of_below ((Below.refl _ _).alloc (Nat.le_refl _) _) g (g + 1)).trans g3
    generalize List.getD ([0, 1, 1000, 1001, 4611686018427387904] : List Int) j2 0 = y
    have b3 := b2.far gB (.inr (by omega))
    have z3 := z2.trans gB
    clear b2 h2 g3 gB z2 hj2
    have c0 := b3.cell 0
    have c1 := b3.cell 1
    have f0 := b3.free 0
    have f1 := b3.free 1
    simp at c0 c1
    go_wp2_with fail
    have bb3 : Below w.heap.size w3 ((w3.setCell ⟨w.heap.size, 0, none⟩ (.int .i64 (x))).setCell ⟨w.heap.size, 1, none⟩ (.int .i64 (y))) := ((Below.refl w.heap.size w3).setCell (p := ⟨w.heap.size, 0, none⟩) (Nat.le_refl _) _).setCell (p := ⟨w.heap.size, 1, none⟩) (Nat.le_refl _) _
    refine bodyPost_ret (v := BuV ⟨x, y⟩) (by simp [results, Tryd.results28, go_sem, BuV, c0, c1]) rfl ⟨⟨x, y⟩, rfl, (h3.below bb3 hgw).more (by omega), z3.and_below bb3 (Nat.le_refl _)⟩
def RetSvC (g B n k : Nat) (w : World) (e : Ending) (w' : World) : Prop := ∃ x : Sv, e = .returned (SvV x) ∧ CurAt w' g B n k ∧ Wr g (g + 1) w w'
theorem madeRowC {w : World} {E : TypeId} {lo b c : Nat} (n : Nat) (h : w.ownsRow lo E 1 (.slice (some ⟨b, 0, none⟩) n c) n (madeCells (Value.int IntKind.i64 0).cells (n * 1)).toList) : w.ownsRow lo E 1 (.slice (some ⟨b, 0, none⟩) n c) (List.replicate n (0 : Int)).length (ics (List.replicate n 0)) := by
  have h1 : (Value.int IntKind.i64 0).cells = #[Value.int IntKind.i64 0] := rfl
  rw [Nat.mul_one, h1, toList_madeCells_one] at h
  simpa [ics] using h
def RetTrC (g B n k : Nat) (w : World) (e : Ending) (w' : World) : Prop :=
  ∃ (u : Value) (l : List Int), e = .returned u ∧ l.length ≤ 41 ∧ OI 3 w' w.heap.size w'.heap.size u l ∧ CurAt w' g B n k ∧ Wr g (g + 1) w w'
set_option maxHeartbeats 4000000 in
theorem curTr_any (g B n k : Nat) (w : World) (h : CurAt w g B n k) (hk : k ≤ 100000000) (hn : n ≤ 1048576) :
    Calls Tryd.prog 25 #[.pointer (some ⟨g, 0, none⟩)] w (RetTrC g B n (k + 100) w) := by
  obtain ⟨i0, hi, hz0, hz1, hz2⟩ := info_parts int_info
  have hgw := h.lt
  go_enter Tryd.func25, Tryd.ntmps25
  go_wp2_with fail
  refine (among_any g B n _ _ [3, 6, 12, 30] _ (h.below ((Below.refl _ _).alloc (Nat.le_refl _) _) (by omega)) (by omega) hn _ _ (litN [3, 6, 12, 30] 4 _ rfl (by omega) rfl (by simp)) (by omega) (by simp) (by simp)).mono ?_; rintro e w1 ⟨j1, hj1, rfl, h1, g1⟩
  have gA : Wr g (g + 1) w w1 := (Wr.of_below ((Below.refl _ _).alloc (Nat.le_refl _) _) g (g + 1)).trans g1
  have hq : 1 ≤ List.getD ([3, 6, 12, 30] : List Int) j1 0 ∧ List.getD ([3, 6, 12, 30] : List Int) j1 0 ≤ 30 := by
    match j1, hj1 with
    | 0, _ => decide
    | 1, _ => decide
    | 2, _ => decide
    | 3, _ => decide
  generalize List.getD ([3, 6, 12, 30] : List Int) j1 0 = q at hq
  obtain ⟨q1, q2⟩ := hq
  clear g1 hj1 h
  go_wp2_with fail
  refine (pick_any g B n _ 12 _ h1 (by omega) hn (by omega) (by omega)).mono ?_; rintro e w2 ⟨r0, rfl, r1, r2, h2, g2⟩
  obtain ⟨r0, rfl⟩ := Int.eq_ofNat_of_zero_le r1
  have z2 := gA.trans g2
  clear gA g2 h1
  go_wp2_with fail
  go_loopw [3, 5] (fun u i wr => ∃ (m r : Nat) (f : List Int), m + r ≤ 11 ∧ f.length = m ∧ i = .int .i64 r ∧ Acc 3 wr w.heap.size u f ∧ CurAt wr g B n (k + 4 + 4 * m) ∧ Wr g (g + 1) w wr) (fun _ i _ => (intOf i).toNat)
  case atStart => exact ⟨0, r0, [], by omega, rfl, rfl, Acc.nil _ _ _, h2, z2⟩
  case round =>
    obtain ⟨m, r, f, hmr, hfm, rfl, hacc, hcur, hwr⟩ := hrel
    have hgr := hcur.lt
    have hsz := hwr.size
    by_cases hr : 0 < r
    · have hr' : (0 : Int) < (r : Int) := by omega
      go_wp2_with fail
      refine (one_any g B n _ 3 _ hcur (by omega) hn (by omega) (by omega)).mono ?_; rintro e w3 ⟨bb, rfl, h3, g3⟩
      have HW3 := Lib.hid (hwr.trans g3)
      have HA3 := Lib.hid (hacc.farC g3 (by omega))
      have hs3 := HW3.out.size
      clear hacc hcur hwr g3
      have HF := Lib.hid hfm
      have HLN : Hid (f.length < 1000000000) := by show f.length < 1000000000; omega
      clear hfm
      cases bb
      · go_wp2_with fail
        refine (pick_any g B n _ q _ h3 (by omega) hn (by omega) (by omega)).mono ?_; rintro e w4 ⟨x, rfl, x0, x1, h4, g4⟩
        have HW4 := Lib.hid (HW3.out.trans g4)
        have HA4 := Lib.hid (HA3.out.farC g4 (by omega))
        have hs4 := HW4.out.size
        clear h3 g4 HW3 HA3
        go_wp2_with (at_builtin; refine wpList_push rfl _ _ _ rfl 3 i0 Tryd.underlying24 hi hz0 hz1 hz2 _ w4 w.heap.size _ f _ rfl rfl HA4.out rfl HLN.out (by omega) (Below.refl _ _) ?_; intro v5 w5 hacc5 hb5; have HA5 := Lib.hid hacc5; have HB5 := Lib.hid hb5; clear hacc5 hb5)
        go_roundw
        case rel => first | exact ⟨m + 1, r - 1, _, by omega, by rw [List.length_append, HF.out]; rfl, by go_num, HA5.out, (h4.below HB5.out hgw).more (by omega), HW4.out.and_below HB5.out (Nat.le_refl _)⟩ | exact ⟨m + 1, r - 1, _, by omega, by rw [List.length_append, HF.out]; rfl, by omega, HA5.out, (h4.below HB5.out hgw).more (by omega), HW4.out.and_below HB5.out (Nat.le_refl _)⟩
        case measure => simp [intOf]; omega
      · go_wp2_with (at_builtin; refine wpList_push rfl _ _ _ rfl 3 i0 Tryd.underlying24 hi hz0 hz1 hz2 _ w3 w.heap.size _ f _ rfl rfl HA3.out rfl HLN.out (by omega) (Below.refl _ _) ?_; intro v5 w5 hacc5 hb5; have HA5 := Lib.hid hacc5; have HB5 := Lib.hid hb5; clear hacc5 hb5)
        go_roundw
        case rel => first | exact ⟨m + 1, r - 1, _, by omega, by rw [List.length_append, HF.out]; rfl, by go_num, HA5.out, (h3.below HB5.out hgw).more (by omega), HW3.out.and_below HB5.out (Nat.le_refl _)⟩ | exact ⟨m + 1, r - 1, _, by omega, by rw [List.length_append, HF.out]; rfl, by omega, HA5.out, (h3.below HB5.out hgw).more (by omega), HW3.out.and_below HB5.out (Nat.le_refl _)⟩
        case measure => simp [intOf]; omega
    · obtain rfl : r = 0 := by omega
      have HF := Lib.hid hfm
      have HLN : Hid (f.length < 1000000000) := by show f.length < 1000000000; omega
      have HL : Hid (f.length ≤ 11) := by show f.length ≤ 11; omega
      clear hfm
      go_wp2_with fail
      refine (pick_any g B n _ 14 _ hcur (by omega) hn (by omega) (by omega)).mono ?_; rintro e w3 ⟨s, rfl, s0, s1, h3, g3⟩
      have HW3 := Lib.hid (hwr.trans g3)
      have HA3 := Lib.hid (hacc.farC g3 (by omega))
      have hs3 := HW3.out.size
      clear hacc hcur hwr g3
      by_cases e0 : s = 0
      · subst e0
        go_wp2_with fail
        refine (among_any g B n _ _ [-1, 1000, 1001, 4611686018427387904] _ (h3.below ((Below.refl _ _).alloc (Nat.le_refl _) _) (by omega)) (by omega) hn _ _ (litN [-1, 1000, 1001, 4611686018427387904] 4 _ rfl (by omega) rfl (by simp)) (by omega) (by simp) (by simp)).mono ?_; rintro e w4 ⟨jj, hjj, rfl, h4, g4⟩
        generalize List.getD ([-1, 1000, 1001, 4611686018427387904] : List Int) jj 0 = y
        have gA : Wr g (g + 1) w3 w4 := (Wr.of_below ((Below.refl _ _).alloc (Nat.le_refl _) _) g (g + 1)).trans g4
        have HW4 := Lib.hid (HW3.out.trans gA)
        have HA4 := Lib.hid (HA3.out.farC gA (by omega))
        have hs4 := HW4.out.size
        clear h3 gA g4 HW3 HA3 hjj
        go_wp2_with (at_builtin; refine wpList_push rfl _ _ _ rfl 3 i0 Tryd.underlying24 hi hz0 hz1 hz2 _ w4 w.heap.size _ f _ rfl rfl HA4.out rfl HLN.out (by omega) (Below.refl _ _) ?_; intro v5 w5 hacc5 hb5; have HA5 := Lib.hid hacc5; have HB5 := Lib.hid hb5; clear hacc5 hb5)
        go_ret
        exact ⟨_, _, rfl, by rw [List.length_append]; have := HL.out; simp; omega, HA5.out.oi, (h4.below HB5.out hgw).more (by omega), HW4.out.and_below HB5.out (Nat.le_refl _)⟩
      by_cases e1 : s = 1
      · subst e1
        go_wp2_with fail
        refine (pick_any g B n _ 2 _ h3 (by omega) hn (by omega) (by omega)).mono ?_; rintro e w4 ⟨z, rfl, z0, z1, h4, g4⟩
        have HW4 := Lib.hid (HW3.out.trans g4)
        have hs4 := HW4.out.size
        clear h3 g4 HW3 HA3
        rcases (show z = 0 ∨ z = 1 by omega) with rfl | rfl
        · clear z0 z1
          go_wp2_with (at_make; refine wpList_make_full _ rfl _ _ 24 rfl w4.heap.size 3 i0 _ 1 Tryd.underlying24 hi hz0 hz1 _ _ _ _ 40 rfl rfl rfl rfl (by rw [hz2]; omega) (by unfold maxLen; omega) (Nat.le_refl _) ?_; intro w5 hown hg5; have HA5 := Lib.hid (madeRowC 40 hown); have HB5 : Hid (Below w4.heap.size w4 w5) := (Below.refl _ _).grown hg5 (Nat.le_refl _) (by intro k hk; cases hk); clear hown hg5)
          go_ret
          exact ⟨_, List.replicate 40 0, rfl, by simp, (OI.of_row HA5.out).wide (by omega) (Nat.le_refl _), (h4.below (HB5.out.mono hs4) hgw).more (by omega), HW4.out.and_below HB5.out (by omega)⟩
        · clear z0 z1
          go_wp2_with (at_make; refine wpList_make_full _ rfl _ _ 24 rfl w4.heap.size 3 i0 _ 1 Tryd.underlying24 hi hz0 hz1 _ _ _ _ 41 rfl rfl rfl rfl (by rw [hz2]; omega) (by unfold maxLen; omega) (Nat.le_refl _) ?_; intro w5 hown hg5; have HA5 := Lib.hid (madeRowC 41 hown); have HB5 : Hid (Below w4.heap.size w4 w5) := (Below.refl _ _).grown hg5 (Nat.le_refl _) (by intro k hk; cases hk); clear hown hg5)
          go_ret
          exact ⟨_, List.replicate 41 0, rfl, by simp, (OI.of_row HA5.out).wide (by omega) (Nat.le_refl _), (h4.below (HB5.out.mono hs4) hgw).more (by omega), HW4.out.and_below HB5.out (by omega)⟩
      · go_wp2_with fail
        go_ret
        exact ⟨_, _, rfl, by have := HL.out; omega, HA3.out.oi, h3.more (by omega), HW3.out⟩

end Go.Proofs.YtfncajdhdcpooaaDoor
