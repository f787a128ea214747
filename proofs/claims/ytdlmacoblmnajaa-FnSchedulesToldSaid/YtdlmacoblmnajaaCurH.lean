/-
  Jobs and starts as the laws' inputs are drawn.
-/
import Derived.Test.YtdlmacoblmnajaaCurD
import Derived.Test.YtdlmacoblmnajaaByD
import Derived.Deep.RegionWith
import Derived.Deep.OwnRows
import Derived.Deep.DeepCutAuto
namespace Go.Proofs.Ytdlmacoblmnajaa
open Go.RowKit
set_option maxRecDepth 100000
set_option linter.unusedVariables false

theorem mkIntsH (n : Nat) (hn : n ≤ 1000) (w : World) : (Instr.makeSlice 25 (.int .i64 (n : Int)) (.int .i64 (n : Int))).run Try.prog w = .ok (.slice (some ⟨w.heap.size, 0, none⟩) n n) (w.alloc (.cells (madeCells #[.int .i64 0] n) 3)) :=
  run_make_row' (P := Try.prog) 25 3 (.int .i64 0) 8 Try.underlying25 int_info rfl .i64 .i64 n (by omega) (by omega) w
theorem madeAcc (w : World) (n : Nat) (hn : n ≤ 1000) : Acc 3 (w.alloc (.cells (madeCells #[Value.int IntKind.i64 0] n) 3)) w.heap.size (.slice (some ⟨w.heap.size, 0, none⟩) n n) (List.replicate n 0) := by
  have h := World.ownsRow_lit (base := w.heap.size) (e := 3) (size := 1) w (madeCells #[Value.int IntKind.i64 0] n) n (Nat.le_refl _) (by unfold maxLen; omega) (by rw [size_madeCells]; simp)
  rw [toList_madeCells_one] at h
  show World.ownsRow _ _ _ _ _ (List.replicate n 0).length _
  rw [List.length_replicate]
  simpa [ics] using h
/-- What a draw of jobs and starts leaves. -/
def RetSch (g B n k : Nat) (w : World) (e : Ending) (w' : World) : Prop :=
  ∃ (u v : Value) (l : List Jb) (s : List Int), e = .returned (.tuple #[u, v]) ∧ (l.length ≤ 21 ∧ s.length ≤ 22) ∧ RJbS w' w'.heap.size u l ∧ RI w' w'.heap.size v s ∧ CurAt w' g B n k ∧ Wr g (g + 1) w w'
/-- The model's starts, by whichever rank. -/
theorem prBX_any (v : Value) (js : List Jb) (b : Bool) (st : Int) (w : World) (h : RJbS w w.heap.size v js) (hA : areJb js = true) (h0 : 0 ≤ st) (h1 : st ≤ 100) :
    Calls Try.prog 46 #[v, .bool b, .int .i64 st] w fun e w' => ∃ u s, e = .returned u ∧ s.length = js.length ∧ Acc 3 w' w.heap.size u s ∧ Below w.heap.size w w' := by
  by_cases hs : st = 0
  · subst hs
    cases b
    · refine (prBX0_any v js w h hA).mono ?_
      rintro e w' ⟨u, he, ha, hb⟩
      exact ⟨u, _, he, startsOf_len _ _, ha, hb⟩
    · refine (prBXC_any v js w h hA).mono ?_
      rintro e w' ⟨u, he, ha, hb⟩
      exact ⟨u, _, he, startsOf_len _ _, ha, hb⟩
  · cases b
    · refine (prBXD_any v js st w h hA ⟨by omega, h1⟩).mono ?_
      rintro e w' ⟨u, he, ha, hb⟩
      exact ⟨u, _, he, startsOf_len _ _, ha, hb⟩
    · refine (prBXA_any v js st w h hA ⟨by omega, h1⟩).mono ?_
      rintro e w' ⟨u, he, ha, hb⟩
      exact ⟨u, _, he, startsOf_len _ _, ha, hb⟩

set_option maxHeartbeats 8000000 in
theorem scheduled_any (g B n k : Nat) (w : World) (h : CurAt w g B n k) (hk : k ≤ 100000000) (hn : n ≤ 1048576) :
    Calls Try.prog 35 #[.pointer (some ⟨g, 0, none⟩)] w (RetSch g B n (k + 220) w) := by
  obtain ⟨i0, hi, hz0, hz1, hz2⟩ := info_parts int_info
  have hgw := h.lt
  go_enter Try.func35, Try.ntmps35
  go_wp2_with fail
  refine (jobs_any g B n k w h (by omega) hn).mono ?_; rintro e w1 ⟨u, l, rfl, hl, o1, h1, g1⟩
  have z1 := g1.size
  have q1 : RJbS w1 w1.heap.size u l := OK.rk o1
  clear h
  go_wp2_with fail
  refine (prJobs_any u l w1 q1 (by omega)).mono ?_; rintro e w2 ⟨rfl, hb2⟩
  have q2 : RJbS w2 w2.heap.size u l := RK.more (RK.step q1 hb2 (Nat.le_refl _)) hb2.size
  have h2 := h1.below hb2 h1.lt
  have g2 := g1.trans (Wr.of_below hb2 g (g + 1))
  have z2 := g2.size
  have o2 : OJbS w2 w.heap.size w2.heap.size u l := OK.wide (OK.step o1 hb2) (Nat.le_refl _) hb2.size
  clear q1 h1 g1 hb2 z1 o1
  obtain ⟨A, c, hv⟩ : ∃ A c, u = .slice A l.length c := by obtain ⟨A, c, hv, _⟩ := q2; exact ⟨A, c, hv⟩
  subst hv
  have hl21 : (l.length : Int) ≤ 21 := by omega
  cases hA : areJb l
  · have hmk := fun w' => mkIntsH l.length (by omega) w'
    have ha := madeAcc w2 l.length (by omega)
    have hb : Below w2.heap.size w2 (w2.alloc (.cells (madeCells #[Value.int IntKind.i64 0] l.length) 3)) := (Below.refl _ _).alloc (Nat.le_refl _) _
    have HH : ∀ m, RetSch g B n (k + 220) w (.returned (.tuple #[.slice A l.length c, .slice (some ⟨w2.heap.size, 0, none⟩) l.length l.length])) ((w2.alloc (.cells (madeCells #[Value.int IntKind.i64 0] l.length) 3)).drewN m) := by
      intro m
      have hbm := below_drewN hb m
      have r1 := (Acc.oi (ha.drewN m)).ri
      have e9 : (List.replicate l.length (0 : Int)).length = l.length := by simp
      exact ⟨_, _, l, List.replicate l.length 0, rfl, ⟨hl, by rw [e9]; omega⟩, RK.more (RK.step q2 hbm (Nat.le_refl _)) hbm.size, r1, (h2.below hbm h2.lt).more (by omega), g2.trans (Wr.of_below hbm g (g + 1))⟩
    have HX := Lib.hid HH
    clear hA ha hb HH q2 h2 g2 o2
    go_wp2_with fail
    go_region
    all_goals
      go_wp2_with fail
      go_ret2
      exact HX.out _
  · clear q2
    go_wp2_with fail
    refine (one_any g B n _ 2 _ h2 (by omega) hn (by omega) (by omega)).mono ?_; rintro e w3 ⟨bb, rfl, h3, g3⟩
    have o3 := OK.far o2 g3 (.inr (by omega))
    have y3 := g3.size
    clear h2 o2
    go_wp2_with fail
    refine (pick_any g B n _ 4 _ h3 (by omega) hn (by omega) (by omega)).mono ?_; rintro e w4 ⟨st, rfl, s0, s1, h4, g4⟩
    have o4 := OK.far o3 g4 (.inr (by omega))
    have y4 := g4.size
    have g04 := g2.trans (g3.trans g4)
    have z4 := g04.size
    have q4 : RJbS w4 w4.heap.size _ l := RK.more (OK.rk o4) (by omega)
    clear h3 o3 g2 g3 g4
    go_wp2_with fail
    refine (prBX_any _ l bb st w4 q4 hA s0 (by omega)).mono ?_; rintro e w5 ⟨v, s, rfl, hsl, a5, hb5⟩
    have q5 : RJbS w5 w4.heap.size _ l := RK.below q4 hb5
    have h5 := h4.below hb5 h4.lt
    have g5 := g04.trans (Wr.of_below hb5 g (g + 1))
    have y5 := hb5.size
    have a5 : AccK 1 3 w5 w4.heap.size v s.length s := ⟨by omega, a5⟩
    have o5 : OJbS w5 w.heap.size w4.heap.size _ l := OK.wide (OK.step o4 (hb5)) (Nat.le_refl _) (by omega)
    clear h4 q4 g04 hb5 hA o4 q5
    go_wp2_with fail
    refine (pick_any g B n _ 6 _ h5 (by omega) hn (by omega) (by omega)).mono ?_; rintro e w6 ⟨x, rfl, x0, x1, h6, g6⟩
    have a6 := AccK.apart a5 g6 (by omega)
    have o6 := OK.far o5 g6 (.inr (by omega))
    have g06 := g5.trans g6
    have z6 := g06.size
    have y6 := g6.size
    have hs21 : (s.length : Int) ≤ 21 := by omega
    clear hsl
    have y6a : w4.heap.size ≤ w6.heap.size := by omega
    clear a5 o5 g5 g6 h5
    -- what is left, whatever the starts are
    have HEND : ∀ (w7 w' : World) (v' : Value) (s' : List Int) (k' : Nat), Wr g (g + 1) w6 w7 → CurAt w7 g B n k' → k' ≤ k + 220 → Below w4.heap.size w7 w' → RI w' w'.heap.size v' s' → s'.length ≤ 22 → RetSch g B n (k + 220) w (.returned (.tuple #[.slice A l.length c, v'])) w' := by
      intro w7 w' v' s' k' hg hc hk' hb hr hs'
      have y7 := hb.size
      have y8 := hg.size
      have o7 := OK.far o6 hg (.inr (by omega))
      exact ⟨_, v', l, s', rfl, ⟨hl, hs'⟩, RK.more (RK.below (OK.rk o7) hb) (by omega), hr, (hc.below hb (by omega)).more hk', (g06.trans hg).and_below hb (by omega)⟩
    have HE := Lib.hid HEND
    clear HEND
    by_cases e0 : x = 0
    · subst e0
      rcases a6.form with ⟨hn0, hv⟩ | ⟨b, cc, rfl, hlb, hbw, hmc, hcm, hcell, hfz⟩
      · subst hv
        have hr := (Acc.oi (show Acc _ _ _ _ s from a6.2)).ri
        have H6 := h6
        clear a6 o6 h6 g06
        go_wp2_with fail
        go_ret2
        exact HE.out _ _ _ s _ (Wr.refl _ _ _) H6 (by omega) (Below.refl _ _) hr (by omega)
      by_cases hs0 : s.length = 0
      · have hr := (Acc.oi (show Acc _ _ _ _ s from a6.2)).ri
        rw [hs0] at hr ⊢
        have H6 := h6
        clear a6 o6 h6 g06 hcell hfz
        go_wp2_with fail
        go_ret2
        exact HE.out _ _ _ s _ (Wr.refl _ _ _) H6 (by omega) (Below.refl _ _) hr (by omega)
      · have hsp : (0 : Int) < (s.length : Int) := by omega
        clear o6 g06 hcell hfz
        go_upto_region 8 with fail
        have H6 : CurAt (w6.drewN 1) g B n _ := h6
        have A6 : AccK 1 3 (w6.drewN 1) w4.heap.size (.slice (some ⟨b, 0, none⟩) s.length cc) s.length s := a6
        have G6 : Wr g (g + 1) w6 (w6.drewN 1) := Wr.of_below (below_drewN (Below.refl _ _) 1) _ _
        clear h6 a6
        go_region_with (first | (go_at_call 48; refine (pick_any g B n _ (s.length : Int) _ H6 (by omega) hn (by omega) (by omega)).mono ?_; clear H6; rintro e w7 ⟨i, rfl, ia, ib, H7, g7⟩; obtain ⟨i, rfl⟩ := Int.eq_ofNat_of_zero_le ia; have A7 := AccK.apart A6 g7 (by omega); have hiI : (i : Int) < (s.length : Int) := (by omega); obtain ⟨xi, hxi⟩ : ∃ xi, xi = s.getD i 0 := ⟨_, rfl⟩; have c7 := AccK.cell A7 i (by omega); rw [← hxi] at c7; have HXI := Lib.hid hxi; clear hxi; have G7 := G6.trans g7; clear g7 ib) | (go_at_call 48; refine (pick_any g B n _ 9 _ H7 (by omega) hn (by omega) (by omega)).mono ?_; clear H7; rintro e w8 ⟨y, rfl, ya, yb, H8, g8⟩; have A8 := AccK.apart A7 g8 (by omega); have c8 := AccK.cell A8 i (by omega); rw [← HXI.out] at c8; have f8 := World.ownsRow.frozenAt A8.2 i; have hw1 : IntKind.i64.wrap (y - 4) = y - 4 := IntWalk.i64_in _ (by omega); obtain ⟨q, hw2⟩ : ∃ q, IntKind.i64.wrap (xi + (y - 4)) = q := ⟨_, rfl⟩; have G8 := G7.trans g8; clear g8 c7 A7 G7))
        all_goals
          have HF : ∀ q, RetSch g B n (k + 220) w (.returned (.tuple #[.slice A l.length c, .slice (some ⟨b, 0, none⟩) s.length cc])) (w8.setCell ⟨b, i, none⟩ (.int .i64 q)) := by
            intro q
            have A9 := AccK.put A8 i q
            have A9a : Acc 3 (w8.setCell ⟨b, i, none⟩ (.int .i64 q)) w4.heap.size (.slice (some ⟨b, 0, none⟩) s.length cc) (s.set i q) := by
              unfold Acc
              rw [List.length_set]
              exact A9.2
            have hr := (Acc.oi A9a).ri
            exact HE.out w8 _ _ (s.set i q) _ G8 H8 (by omega) ((Below.refl _ _).setCell (p := ⟨b, i, none⟩) hlb _) hr (by rw [List.length_set]; omega)
          have HFX := Lib.hid HF
          clear HF A8 H8 G8
          go_wp2_with fail
          go_ret2
          exact HFX.out _
    · by_cases e1 : x = 1
      · subst e1
        obtain ⟨A9, cc, hv⟩ : ∃ A9 cc, v = .slice A9 s.length cc := by
          obtain ⟨A9, cc, hv, _⟩ := (Acc.oi (show Acc _ _ _ _ s from a6.2)).ri
          exact ⟨A9, cc, hv⟩
        subst hv
        have H6 := Lib.hid h6
        have A6 := Lib.hid a6
        clear o6 g06 h6 a6
        go_wp2_with fail
        go_loopw [45] (fun i wr => ∃ (j : Nat) (s' : List Int), j ≤ s.length ∧ s'.length = s.length ∧ i = .int .i64 j ∧ AccK 1 3 wr w4.heap.size (.slice A9 s.length cc) s.length s' ∧ Below w4.heap.size w6 wr) (fun i _ => s.length - (intOf i).toNat)
        case atStart => exact ⟨0, s, Nat.zero_le _, rfl, rfl, A6.out, Below.refl _ _⟩
        case round =>
          obtain ⟨j, s', hj, hsl', rfl, ha, hb⟩ := hrel
          by_cases hlt : j < s.length
          · have hjI : (j : Int) < (s.length : Int) := by omega
            rcases AccK.form ha with ⟨hn0, _⟩ | ⟨b, cc2, hv2, hlb, hbw, hmc, hcm, hcell, hfz⟩
            · omega
            injection hv2 with e2 e3 e4
            subst e2
            subst e4
            have cj := hcell j (by omega)
            have fj := hfz j
            have HF : ∀ q, AccK 1 3 (wr.setCell ⟨b, j, none⟩ (.int .i64 q)) w4.heap.size (.slice (some ⟨b, 0, none⟩) s.length cc) s.length (s'.set j q) ∧ Below w4.heap.size w6 (wr.setCell ⟨b, j, none⟩ (.int .i64 q)) := fun q => ⟨AccK.put ha j q, hb.setCell (p := ⟨b, j, none⟩) hlb _⟩
            have HFX := Lib.hid HF
            have HSL := Lib.hid hsl'
            clear HF ha hb hcell hfz hsl'
            go_wp2_with fail
            go_roundw
            case rel => exact ⟨j + 1, _, by omega, by rw [List.length_set]; exact HSL.out, by go_num, (HFX.out _).1, (HFX.out _).2⟩
            case measure => simp [intOf]; omega
          · obtain rfl : j = s.length := by omega
            have haa : Acc 3 wr w4.heap.size (.slice A9 s.length cc) s' := by
              unfold Acc
              rw [hsl']
              exact ha.2
            have hr := (Acc.oi haa).ri
            have HB := Lib.hid hb
            have HSL := Lib.hid hsl'
            clear ha hb hsl'
            have HR := Lib.hid hr
            clear hr
            go_wp2_with fail
            go_ret2
            exact HE.out _ _ _ s' _ (Wr.refl _ _ _) H6.out (by omega) HB.out (by have := HR.out; exact this) (by rw [HSL.out]; omega)
      · by_cases e2 : x = 2
        · subst e2
          have H6 := Lib.hid h6
          have a9 : Acc 3 w6 w4.heap.size v s := a6.2
          have hdl : s.length < 1000000000 := by omega
          clear o6 g06 h6 a6
          go_wp2_with (at_builtin; refine wpList_push rfl _ _ _ rfl 3 i0 Try.underlying25 hi hz0 hz1 hz2 _ w6 w4.heap.size _ s _ rfl rfl a9 rfl hdl y6a (Below.refl _ _) ?_; intro v7 w7 a7 hb7; have HA7 := Lib.hid a7; have HB7 := Lib.hid hb7; clear a7 hb7)
          go_ret2
          exact HE.out _ _ _ (s ++ [0]) _ (Wr.refl _ _ _) H6.out (by omega) HB7.out (Acc.oi HA7.out).ri (by simp; omega)
        · have H6 := Lib.hid h6
          have hr := Lib.hid (Acc.oi (show Acc _ _ _ _ s from a6.2)).ri
          clear o6 g06 h6 a6
          go_wp2_with fail
          go_ret2
          exact HE.out _ _ _ s _ (Wr.refl _ _ _) H6.out (by omega) (Below.refl _ _) hr.out (by omega)
end Go.Proofs.Ytdlmacoblmnajaa
