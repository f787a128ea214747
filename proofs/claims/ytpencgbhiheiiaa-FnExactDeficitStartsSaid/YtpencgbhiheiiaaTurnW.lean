/-
  A line of the model: what is turned by a skip and by a beginning, in which blocks.
-/
import Derived.Test.YtpencgbhiheiiaaTurnS
import Derived.Test.YtpencgbhiheiiaaTurnJ
namespace Go.Proofs.Ytpencgbhiheiiaa
open Go.RowKit
set_option maxRecDepth 100000
set_option linter.unusedVariables false

def RetSkipW (g : Nat) (vj vs : Value) (js : List Jb) (sp : List Int) (now done : Int) (w : World) (e : Ending) (w' : World) : Prop :=
  e = .returned (.bool (!(someB js sp now js.length || decide (done = js.length)))) ∧ PN w' g vj js vs sp (skipT js sp now done) done ∧ Below g w w' ∧ Wr g (g + 1) w w'
set_option maxHeartbeats 2000000 in
theorem prSkipW_any (g : Nat) (vj vs : Value) (js : List Jb) (sp : List Int) (now done : Int) (w : World) (h : PN w g vj js vs sp now done) (hl : sp.length = js.length) (hA : areJb js = true) (hd : 0 ≤ done ∧ done ≤ js.length) :
    Calls Try.prog 45 #[.pointer (some ⟨g, 0, none⟩)] w (RetSkipW g vj vs js sp now done w) := by
  have hgs := h.lt
  have c0 := h.bk.cell 0
  have c1 := h.bk.cell 1
  have c3 := h.bk.cell 3
  simp at c0 c1 c3
  have hn := (areJb_in hA).1
  have hJ := fun k (hk : k < js.length) => left_cells h.jobs k hk
  have hRI := (Acc.oi h.row).ri
  obtain ⟨A, c, rfl, _⟩ := h.jobs
  obtain ⟨A2, c2, rfl, hlc2, hc2⟩ := hRI
  have hJB : ∀ i, i < js.length → 0 ≤ js[i]!.t ∧ js[i]!.t ≤ 1000 := fun i hi => by
    have := (areJb_in hA).2.1 _ (List.getElem_mem hi)
    rw [getElem!_pos js i hi]
    omega
  have hLB := leastT_le js sp hJB
  have HSO := Lib.hid (fun m => prSome_any g _ _ js sp now done (w.drewN m) (h.drewN m) hl hn)
  obtain ⟨SK, hSK⟩ : ∃ x, skipT js sp now done = x := ⟨_, rfl⟩
  unfold RetSkipW
  rw [hSK]
  obtain ⟨LE, hLE⟩ : ∃ x, leastT js sp js.length = x := ⟨_, rfl⟩
  have HLE := Lib.hid hLE
  have hskip : SK = if someB js sp now js.length || decide (done = js.length) then now else LE := by rw [← hSK, ← hLE]; rfl
  generalize someB js sp now js.length = SB at HSO hskip ⊢
  obtain ⟨n, hN⟩ : ∃ n, js.length = n := ⟨_, rfl⟩
  rw [hN] at h
  have HPN := Lib.hid h
  rw [hl] at c1 hc2
  rw [hN] at c0 c1 hn hJ hJB hLB HLE hd hskip hc2 ⊢
  have hn' : (n : Int) ≤ 20 := by omega
  have HJ := Lib.hid hJ
  have HJB := Lib.hid hJB
  have HLB := Lib.hid hLB
  have HC2 := Lib.hid hc2
  clear h hl hN hSK hJ hJB hLB hc2 hLE
  cases SB
  · by_cases hdn : done = n
    · have e1 : SK = now := by rw [hskip, decide_eq_true hdn]; rfl
      rw [e1, decide_eq_true hdn]
      have hq : (done == (n : Int)) = true := by simp [hdn]
      clear hskip e1 hdn
      go_enter Try.func45, Try.ntmps45
      go_wp2_with fail
      go_quiet ((go_at_call 61; exact Calls.quiet_of (HSO.out _)))
      go_wp2_with fail
      go_ret
      exact ⟨rfl, HPN.out.drewN _, below_drewN (Below.refl _ _) _, Wr.of_below (below_drewN (Below.refl _ _) _) _ _⟩
    · have e1 : SK = LE := by rw [hskip, decide_eq_false hdn]; rfl
      rw [e1, decide_eq_false hdn]
      have hq : (done == (n : Int)) = false := by simp [hdn]
      clear hskip e1 hdn
      go_enter Try.func45, Try.ntmps45
      go_wp2_with fail
      go_quiet ((go_at_call 61; exact Calls.quiet_of (HSO.out _)))
      go_wp2_with fail
      go_loopw [3, 25] (fun x i wr => ∃ j : Nat, j ≤ n ∧ i = .int .i64 j ∧ x = .int .i64 (leastT js sp j) ∧ Below w.heap.size w wr) (fun _ i _ => n - (intOf i).toNat)
      case atStart => exact ⟨0, Nat.zero_le _, rfl, rfl, below_drewN (Below.refl _ _) _⟩
      case round =>
        obtain ⟨j, hj, rfl, rfl, hbw⟩ := hrel
        have hs1 := hbw.size
        have HBW := Lib.hid hbw
        have d1 := (hbw.cell (p := ⟨g, 1, none⟩) hgs).trans c1
        have hlb := HLB.out j hj
        by_cases hlt : j < n
        · have hji : (j : Int) < (n : Int) := by omega
          obtain ⟨b, off, c9, hv, hb, e0, e1, e2⟩ := HJ.out j hlt
          injection hv with hA9 _ hC9
          subst hA9; subst hC9
          have y0 := (hbw.cell (p := ⟨b, off + j * 3, none⟩) (by simp; omega)).trans e0
          have y1 := (hbw.cell (p := ⟨b, off + j * 3 + 1, none⟩) (by simp; omega)).trans e1
          have y2 := (hbw.cell (p := ⟨b, off + j * 3 + 2, none⟩) (by simp; omega)).trans e2
          obtain ⟨b2, off2, hA2, hb2, hcell⟩ := HC2.out (by omega)
          subst hA2
          have x0 := (hbw.cell (p := ⟨b2, off2 + j, none⟩) hb2).trans (hcell j hlt)
          have HST : Hid (leastT js sp (j + 1) = if sp.getD j 0 < 0 then lsT (leastT js sp j) js[j]!.t else leastT js sp j) := rfl
          have jb := HJB.out j hlt
          clear e0 e1 e2 hcell hbw
          generalize leastT js sp j = L at HST hlb ⊢
          generalize js[j]! = y at y0 y1 y2 HST jb
          generalize sp.getD j 0 = s at x0 HST
          obtain ⟨yt, yc, yl⟩ := y
          simp only at y0 y1 y2 HST jb
          have q1 : (wr.alloc (.cells #[.int .i64 yt, .int .i64 yc, .int .i64 yl] 41)).cell? ⟨g, 1, none⟩ = _ := (World.cell?_alloc_lt wr _ ⟨g, 1, none⟩ (show g < wr.heap.size by omega)).trans d1
          have q2 : (wr.alloc (.cells #[.int .i64 yt, .int .i64 yc, .int .i64 yl] 41)).cell? ⟨b2, off2 + j, none⟩ = _ := (World.cell?_alloc_lt wr _ _ (show b2 < wr.heap.size by omega)).trans x0
          have HNB := Lib.hid (HBW.out.alloc hs1 (.cells #[.int .i64 yt, .int .i64 yc, .int .i64 yl] 41))
          by_cases hsn : s < 0
          · have HF : Hid (leastT js sp (j + 1) = lsT L yt) := by show _ = _; rw [HST.out, if_pos hsn]
            go_wp2_with (go_at_call 62; refine (l1Least_any _ _ _).mono ?_; rintro e w' ⟨rfl, rfl⟩)
            go_roundw
            case rel => exact ⟨j + 1, by omega, by go_num, by rw [HF.out], HNB.out⟩
            case measure => simp [intOf]; omega
          · have HF : Hid (leastT js sp (j + 1) = L) := by show _ = _; rw [HST.out, if_neg hsn]
            go_wp2_with fail
            go_roundw
            case rel => exact ⟨j + 1, by omega, by go_num, by rw [HF.out], HNB.out⟩
            case measure => simp [intOf]; omega
        · obtain rfl : j = n := by omega
          have hpn := HPN.out.step hbw
          have d2 := hpn.bk.cell 2
          have f2 := hpn.bk.free 2
          simp at d2
          have HP2 : Hid (PN (wr.setCell ⟨g, 2, none⟩ (.int .i64 LE)) g (.slice A j c) js (.slice A2 sp.length c2) sp LE done) := by
            have hk := hpn.bk.put 2 (.int .i64 LE)
            have hwr := (Wr.refl g (g + 1) wr).at 2 (.int .i64 LE)
            exact ⟨hk, RK.below hpn.jobs (hwr.below (Nat.le_refl _) (Nat.le_of_lt hpn.lt)), Acc.far hpn.row hwr (Nat.le_refl _)⟩
          have HB2 : Hid (Below g w (wr.setCell ⟨g, 2, none⟩ (.int .i64 LE))) := (HBW.out.mono (Nat.le_of_lt hgs)).setCell (p := ⟨g, 2, none⟩) (Nat.le_refl _) _
          rw [HLE.out]
          clear hpn hbw
          go_wp2_with fail
          go_ret
          exact ⟨rfl, HP2.out, HB2.out, (Wr.of_below HBW.out _ _).trans ((Wr.refl g (g + 1) wr).at 2 (.int .i64 LE))⟩
  · have e1 : SK = now := by rw [hskip]; rfl
    rw [e1]
    clear hskip e1
    go_enter Try.func45, Try.ntmps45
    go_wp2_with fail
    go_quiet ((go_at_call 61; exact Calls.quiet_of (HSO.out _)))
    go_wp2_with fail
    go_ret
    exact ⟨rfl, HPN.out.drewN _, below_drewN (Below.refl _ _) _, Wr.of_below (below_drewN (Below.refl _ _) _) _ _⟩
set_option maxHeartbeats 2000000 in
theorem prBeginW_any (g : Nat) (vj vs : Value) (js : List Jb) (sp : List Int) (now done : Int) (i : Nat) (w : World) (h : PN w g vj js vs sp now done) (hi : i < js.length) (hl : sp.length = js.length) (hn : js.length ≤ 20)
    (hb : 0 ≤ now ∧ now ≤ 100000) (hd : 0 ≤ done ∧ done ≤ 100) (hy : 1 ≤ js[i]!.l ∧ js[i]!.l ≤ 20) (hb2 : Nat) (hgb2 : g < hb2) (hvb : ∀ b o n c, vs = .slice (some ⟨b, o, none⟩) n c → b < hb2) :
    Calls Try.prog 47 #[.pointer (some ⟨g, 0, none⟩), .int .i64 i] w fun e w' => e = .returned (.tuple #[]) ∧ PN w' g vj js vs (sp.set i now) (now + js[i]!.l) (done + 1) ∧ Below g w w' ∧ Wr g hb2 w w' := by
  obtain ⟨b, c, rfl, hgb, hbs, x0, xf, hput⟩ := h.start_at i (by omega)
  obtain ⟨b4, off4, c4, rfl, hb4, _, _, e2⟩ := left_cells h.jobs i hi
  have hbb : b < hb2 := hvb b 0 _ _ rfl
  rw [hl] at h hput ⊢
  have H1 := Lib.hid (hput now)
  have hgs := h.lt
  have hii : (i : Int) < (js.length : Int) := by omega
  have HB1 : Hid (Below g w (w.setCell ⟨b, i, none⟩ (.int .i64 now))) := (Below.refl _ _).setCell (p := ⟨b, i, none⟩) (Nat.le_of_lt hgb) _
  have c0 := h.bk.cell 0
  have c1 := h.bk.cell 1
  have c2 := h.bk.cell 2
  simp at c0 c1 c2
  have d0 := H1.out.bk.cell 0
  have d2 := H1.out.bk.cell 2
  have f2 := H1.out.bk.free 2
  simp at d0 d2
  obtain ⟨b5, off5, c5, hv5, _, _, _, e5⟩ := left_cells H1.out.jobs i hi
  injection hv5 with hA5 _ hC5
  injection hA5 with hA5
  injection hA5 with hA5 hO5
  subst hA5; subst hO5; subst hC5
  obtain ⟨LL, hLL⟩ : ∃ x, js[i]!.l = x := ⟨_, rfl⟩
  rw [hLL] at e2 e5 hy ⊢
  have H2 := Lib.hid (H1.out.putNow (now + LL))
  have e1 : IntKind.i64.wrap (now + LL) = now + LL := IntWalk.i64_in _ (by omega)
  have e3 : IntKind.i64.wrap (done + 1) = done + 1 := IntWalk.i64_in _ (by omega)
  have a3 := H2.out.bk.cell 3
  have g3 := H2.out.bk.free 3
  simp at a3
  have H3 := Lib.hid (H2.out.putDone (done + 1))
  have HB3 : Hid (Below g w (((w.setCell ⟨b, i, none⟩ (.int .i64 now)).setCell ⟨g, 2, none⟩ (.int .i64 (now + LL))).setCell ⟨g, 3, none⟩ (.int .i64 (done + 1)))) := (HB1.out.setCell (p := ⟨g, 2, none⟩) (Nat.le_refl _) _).setCell (p := ⟨g, 3, none⟩) (Nat.le_refl _) _
  have HW3 : Hid (Wr g hb2 w (((w.setCell ⟨b, i, none⟩ (.int .i64 now)).setCell ⟨g, 2, none⟩ (.int .i64 (now + LL))).setCell ⟨g, 3, none⟩ (.int .i64 (done + 1)))) := (((Wr.refl g hb2 w).setCell (p := ⟨b, i, none⟩) (Nat.le_of_lt hgb) hbb _).setCell (p := ⟨g, 2, none⟩) (Nat.le_refl _) hgb2 _).setCell (p := ⟨g, 3, none⟩) (Nat.le_refl _) hgb2 _
  clear h hput hLL hvb
  go_enter Try.func47, Try.ntmps47
  go_wp2_with fail
  go_region
  all_goals
    go_wp2_with fail
    go_region
    all_goals
      go_wp2_with fail
      go_end0
      exact ⟨rfl, ⟨H3.out.bk, H3.out.jobs, H3.out.row⟩, HB3.out.drew.drew, ⟨HW3.out.os, HW3.out.tape, HW3.out.output, HW3.out.size, HW3.out.block⟩⟩
/-- The model's credits. -/
def CrD (gr : List Int) (tc : Nat) (tb : Bool) (cr : Nat → Int) (C : List Int) : Prop := C.length = 8 ∧ ∀ c, c < 8 → C.getD c 0 = crB gr tc tb cr c
theorem CrD.new {gr : List Int} {tc : Nat} (htc : tc < 8) : CrD gr tc false (fun _ => 0) ((List.replicate 8 0).set tc (gr.getD tc 0)) := by
  refine ⟨by simp, fun c hc => ?_⟩
  rw [getD_set _ _ _ _ (by simp; exact htc)]
  have e : crB gr tc false (fun _ => 0) c = if c = tc then 0 + gr.getD tc 0 else 0 := by simp [crB, setC]
  rw [e]
  split
  · omega
  · rw [List.getD_eq_getElem?_getD, List.getElem?_replicate, if_pos hc]; rfl
theorem CrD.take {gr : List Int} {tc : Nat} {tb : Bool} {cr : Nat → Int} {C : List Int} (h : CrD gr tc tb cr C) (htc : tc < 8) (x : Int) : CrD gr tc true (setC (crB gr tc tb cr) tc (crB gr tc tb cr tc - x)) (C.set tc (C.getD tc 0 - x)) := by
  refine ⟨by rw [List.length_set]; exact h.1, fun c hc => ?_⟩
  rw [getD_set _ _ _ _ (by rw [h.1]; exact htc)]
  have e10 : ∀ z, crB gr tc true z = z := fun z => by simp [crB]
  rw [e10]
  unfold setC
  by_cases e : c = tc
  · simp only [e, if_true]; rw [h.2 tc htc]
  · simp only [e, if_false]; exact h.2 c hc
theorem CrD.on {gr : List Int} {tc X : Nat} {tb : Bool} {cr : Nat → Int} {C : List Int} (h : CrD gr tc tb cr C) (hX : X < 8) : CrD gr X false (crB gr tc tb cr) (C.set X (C.getD X 0 + gr.getD X 0)) := by
  refine ⟨by rw [List.length_set]; exact h.1, fun c hc => ?_⟩
  rw [getD_set _ _ _ _ (by rw [h.1]; exact hX)]
  have e : crB gr X false (crB gr tc tb cr) c = if c = X then crB gr tc tb cr X + gr.getD X 0 else crB gr tc tb cr c := by
    simp [crB, setC]
  rw [e]
  split
  · rw [h.2 X hX]
  · exact h.2 c hc
theorem CrD.none {gr : List Int} {tc X : Nat} {tb : Bool} {cr : Nat → Int} {C : List Int} (h : CrD gr tc tb cr C) (htc : tc < 8) (hX : X < 8) :
    CrD gr X false (setC (crB gr tc tb cr) tc 0) ((C.set tc 0).set X ((C.set tc 0).getD X 0 + gr.getD X 0)) := by
  refine ⟨by rw [List.length_set, List.length_set]; exact h.1, fun c hc => ?_⟩
  rw [getD_set _ _ _ _ (by rw [List.length_set, h.1]; exact hX), getD_set C tc X 0 (by rw [h.1]; exact htc), getD_set C tc c 0 (by rw [h.1]; exact htc)]
  have e : crB gr X false (setC (crB gr tc tb cr) tc 0) c = if c = X then setC (crB gr tc tb cr) tc 0 X + gr.getD X 0 else setC (crB gr tc tb cr) tc 0 c := by
    simp [crB, setC]
  rw [e]
  unfold setC
  rw [h.2 X hX, h.2 c hc]
theorem out_row8 {w : World} {E : TypeId} {lo g c : Nat} {out : List Int} {k : Nat} {x : Int} {n : Nat} (h : w.ownsRow lo E 1 (.slice (some ⟨g, 0, none⟩) n c) n (ics out)) : (w.setCell ⟨g, k, none⟩ (.int .i64 x)).ownsRow lo E 1 (.slice (some ⟨g, 0, none⟩) n c) n (ics (out.set k x)) := by
  have h1 := (World.ownsRow.stored h k (.int .i64 x)).1
  have e : (ics out).set k (.int .i64 x) = ics (out.set k x) := by simp [ics, List.map_set]
  rw [e] at h1
  exact h1
theorem row_cell {w : World} {E : TypeId} {lo g c : Nat} {out : List Int} {n : Nat} (h : w.ownsRow lo E 1 (.slice (some ⟨g, 0, none⟩) n c) n (ics out)) (hl : out.length = n) (k : Nat) (hk : k < n) : w.cell? ⟨g, k, none⟩ = some (.int .i64 (out.getD k 0)) := by
  rw [World.ownsRow.cellAt h k (by omega), ics_get out k (by omega)]
theorem made_row {w : World} {E : TypeId} {lo b c : Nat} (n : Nat) (h : w.ownsRow lo E 1 (.slice (some ⟨b, 0, none⟩) n c) n (madeCells (Value.int IntKind.i64 0).cells (n * 1)).toList) : w.ownsRow lo E 1 (.slice (some ⟨b, 0, none⟩) n c) n (ics (List.replicate n 0)) := by
  have h1 : (Value.int IntKind.i64 0).cells = #[Value.int IntKind.i64 0] := rfl
  rw [Nat.mul_one, h1, toList_madeCells_one] at h
  simpa [ics] using h
theorem row_lt {w : World} {E : TypeId} {lo : Nat} {v : Value} {l : List Int} (h : Acc E w lo v l) : ∀ b o n c, v = .slice (some ⟨b, o, none⟩) n c → b < w.heap.size := by
  intro b o n c hv
  rcases h.2 with ⟨h9, _⟩ | ⟨b9, c9, cur, h9, _, hh, _⟩
  · rw [hv] at h9; cases h9
  · rw [hv] at h9
    injection h9 with h9
    injection h9 with h9
    injection h9 with h9
    rw [h9]
    exact (Array.getElem?_eq_some_iff.1 hh).1
/-- What is turned lies behind the line's own row, or beside it. -/
theorem PN.far5 {w w' : World} {g : Nat} {vj vs : Value} {js : List Jb} {sp : List Int} {now done : Int} {a b : Nat} (h : PN w g vj js vs sp now done) (hw : Wr a b w w') (ha : g < a) (hv : ∀ b' o n c, vs = .slice (some ⟨b', o, none⟩) n c → b' < a := by assumption) : PN w' g vj js vs sp now done := by
  refine ⟨h.bk.far hw (.inl ha), RK.below h.jobs (hw.below (Nat.le_of_lt ha) (Nat.le_of_lt h.lt)), ?_⟩
  have h0 := h.row
  rcases h.row.2 with ⟨hv1, hn⟩ | ⟨g', c, cur, hv1, hgl, _⟩
  · exact ⟨h0.1, .inl ⟨hv1, hn⟩⟩
  · rw [hv1] at h0 ⊢
    exact row_far h0 hw (.inl (hv _ _ _ _ hv1))
end Go.Proofs.Ytpencgbhiheiiaa
