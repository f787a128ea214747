/-
  Classes that take turns, the program's side: starts. TurnStarts, DeficitStarts, the program's side.
-/
import Derived.Test.YteoggoopfjkdkaaTurnJ1
import Derived.Test.YteoggoopfjkdkaaTurnJL
import Derived.Laws.EntriesVeiled
namespace Go.Proofs.Yteoggoopfjkdkaa
section
open Go.RowKit
set_option maxRecDepth 100000
set_option linter.unusedVariables false

theorem await_onT {lo g : Nat} {tick step : Int} {tc : Nat} {tb : Bool} {gr pr : Value} {cr : Nat → Int} {l : List Jb} {w w' : World} {e : Ending} {u : Nat} (hlg : lo ≤ g) (hL : LN w lo g tick step (tc : Nat) tb gr pr cr l) (h : RetAwait lo g tick step (tc : Nat) tb gr pr cr l w e w')
    (h1 : u < l.length) (h2 : isJ l[u]! = true) (h3 : ∀ j, j < u → isJ l[j]! = false) (hT : tickOf tick l = if tick < l[u]!.t then l[u]!.t else tick) :
    e = .returned (.bool true) ∧ LN w' lo g (tickOf tick l) step (nTc tick l tc : Nat) (nTb tick l tb) gr pr (nCr tick l cr) l ∧ Wr lo (g + 1) w w' := by
  rcases h with ⟨h4, _⟩ | ⟨k, h4, h5, h6, rfl, h7⟩
  · have := h4 u h1; rw [h2] at this; cases this
  · obtain rfl : k = u := by
      rcases Nat.lt_trichotomy k u with h9 | h9 | h9
      · have := h3 k h9; rw [h5] at this; cases this
      · exact h9
      · have := h6 u h9; rw [h2] at this; cases this
    refine ⟨rfl, ?_⟩
    rcases h7 with ⟨h8, hb⟩ | ⟨h8, hl, hw⟩
    · have e0 : tickOf tick l = tick := by rw [hT, if_neg (by omega)]
      obtain ⟨a1, a2, a3⟩ := norm_at e0 tc tb cr
      rw [a1, a2, a3, e0]
      exact ⟨hL.step hb, Wr.of_below hb _ _⟩
    · have e0 : tickOf tick l = l[k]!.t := by rw [hT, if_pos h8]
      have hlt : tick < tickOf tick l := by rw [e0]; exact h8
      have a1 : nTc tick l tc = 7 := by unfold nTc; rw [if_pos hlt]
      have a2 : nTb tick l tb = false := by unfold nTb; rw [if_pos hlt]
      have a3 : nCr tick l cr = fun _ => 0 := by unfold nCr; rw [if_pos hlt]
      rw [a1, a2, a3, e0]
      exact ⟨hl, hw.wide hlg (Nat.le_refl _)⟩
theorem await_offT {lo g : Nat} {tick step tc : Int} {tb : Bool} {gr pr : Value} {cr : Nat → Int} {l : List Jb} {w w' : World} {e : Ending} (h : RetAwait lo g tick step tc tb gr pr cr l w e w') (h0 : cntJ l = 0) : e = .returned (.bool false) ∧ Below w.heap.size w w' := by
  rcases h with ⟨_, h1, h2⟩ | ⟨k, h1, h2, _⟩
  · exact ⟨h1, h2⟩
  · have := cntJ_zero h0 k h1; rw [h2] at this; cases this
theorem LeftOf.ok {js l : List Jb} (hA : areJb js = true) (h : LeftOf js l) : JbOk l := by
  intro k hk hj
  have hk' : k < js.length := by rw [← h.1]; exact hk
  rw [h.is hk' hj]
  have := tick_at hA hk'
  omega
theorem nTc_lt {tick : Int} {l : List Jb} {tc : Nat} (h : tc < 8) : nTc tick l tc < 8 := by unfold nTc; split <;> omega
theorem Cb.norm {f : Nat} {tick : Int} {l : List Jb} {cr : Nat → Int} (h : Cb f cr) (hf : f ≤ 4000) : Cb f (nCr tick l cr) := by
  unfold nCr
  split
  · exact Cb.zero hf
  · exact h

set_option maxHeartbeats 8000000 in
theorem startsBy_turn1 (lo g : Nat) (step : Int) (vg : Value) (gr : List Int) (js : List Jb) (w : World) (h : LN w lo g 0 step 7 false vg (.func (.func 42) #[] #[]) (fun _ => 0) js) (hlg : lo ≤ g) (hA : areJb js = true)
    (hgr : RI w lo vg gr) (hgl : gr.length = 8) (hgb : ∀ c, c < 8 → 1 ≤ gr.getD c 0 ∧ gr.getD c 0 ≤ 40) :
    Calls Try.prog 29 #[.pointer (some ⟨g, 0, none⟩), .func (.func 64) #[] #[]] w (RetStarts 3 lo g w (inTurnOf pr1 js gr)) := by
  obtain ⟨i0, hi, hz0, hz1, hz2⟩ := info_parts int_info
  have hgw := h.lt
  have hn := (areJb_in hA).1
  have hisJ := cntJ_all (l := js) (fun y hy => isJ_ok ((areJb_in hA).2.1 y hy).2.2.2.2.1)
  obtain ⟨cs, v, hbk, hlc, hol⟩ := h.cells
  have c1 := (hbk.cell 1).trans hlc.left
  have hv : ∃ A c, v = .slice A js.length c := by obtain ⟨A, c, hv, _⟩ := hol.rk; exact ⟨A, c, hv⟩
  obtain ⟨A, c, rfl⟩ := hv
  obtain ⟨R, hR⟩ : ∃ R, R = inTurnOf pr1 js gr := ⟨_, rfl⟩
  rw [← hR]
  have hRL : R.length = js.length := by rw [hR, inTurnOf_len]
  have HR : Hid (R = runT gr pr1 4000 0 js (List.replicate js.length 0) 7 false (fun _ => 0)) := hR
  have HFU0 := Lib.hid (Fu.start js hA)
  obtain ⟨n, hN⟩ : ∃ n, js.length = n := ⟨_, rfl⟩
  rw [hN] at c1 hn hisJ HR hRL
  have hn' : (n : Int) ≤ 20 := by omega
  have HN := Lib.hid hN
  have HA := Lib.hid hA
  have HLN := Lib.hid h
  have HCN := Lib.hid hisJ
  have HRL := Lib.hid hRL
  have HGR := Lib.hid hgr
  have HGB := Lib.hid hgb
  have HGL := Lib.hid hgl
  clear hR hRL hbk hlc hol h hA hN hisJ hgr hgb hgl
  go_enter Try.func29, Try.ntmps29
  go_wp2_with (at_make; refine wpList_make_full _ rfl _ _ 26 rfl w.heap.size 3 i0 _ 1 Try.underlying26 hi hz0 hz1 _ _ _ _ n rfl rfl rfl rfl (by rw [hz2]; omega) (by unfold maxLen; omega) (Nat.le_refl _) ?_; intro w1 hown hg2)
  have hown1 : w1.ownsRow w.heap.size 3 1 (.slice (some ⟨w.heap.size, 0, none⟩) n n) n (ics (List.replicate n 0)) := by
    have h1 : (Value.int IntKind.i64 0).cells = #[Value.int IntKind.i64 0] := rfl
    rw [Nat.mul_one, h1, toList_madeCells_one] at hown
    simpa [ics] using hown
  have hb1 : Below w.heap.size w w1 := (Below.refl _ _).grown hg2 (Nat.le_refl _) (by intro k hk; cases hk)
  have HL1 := Lib.hid (HLN.out.step hb1)
  have HW1 : Hid (Wr lo (g + 1) w w1) := Wr.of_below hb1 _ _
  have HO1 := Lib.hid hown1
  clear hown hg2 hb1 hown1 c1
  go_loopg [6] n (fun f s6 wr => ∃ (tick : Int) (l : List Jb) (out : List Int) (tx : Nat) (bx : Bool) (cx : Nat → Int) (ff : Nat), f = cntJ l ∧ LeftOf js l ∧ Hid (R = runT gr pr1 ff tick l out tx bx cx) ∧ out.length = n ∧ 0 ≤ tick ∧ tick + 20 * f ≤ 1000 + 20 * n ∧
    tx < 8 ∧ ff ≤ 4000 ∧ Cb ff cx ∧ Fu ff tick l tx bx cx ∧
    LN wr lo g tick step (tx : Nat) bx vg (.func (.func 42) #[] #[]) cx l ∧ wr.ownsRow w.heap.size 3 1 (.slice (some ⟨w.heap.size, 0, none⟩) n n) n (ics out) ∧ Wr lo (g + 1) w wr)
  case atStart => exact ⟨0, js, List.replicate n 0, 7, false, fun _ => 0, 4000, HCN.out.symm, LeftOf.refl _, HR, by simp, by omega, by omega, by omega, Nat.le_refl _, Cb.zero (Nat.le_refl _), HFU0.out, HL1.out, HO1.out, HW1.out⟩
  case round =>
    obtain ⟨tick, l, out, tx, bx, cx, ff, hgk, hleft, hr, hol, ht0, ht1, htx, hff, hcb, hfu, hln, hrow, hwr⟩ := hrel
    have hll : l.length = n := by rw [hleft.1]; exact HN.out
    have HAW := Lib.hid (await_any lo g tick step (tx : Nat) bx vg (.func (.func 42) #[] #[]) cx l wr hln (by omega))
    have hsw := hwr.size
    have HLEFT := Lib.hid hleft
    have HRW := Lib.hid hrow
    have HWR := Lib.hid hwr
    have HLW := Lib.hid hln
    have HGK := Lib.hid hgk
    have HLL := Lib.hid hll
    have HOL := Lib.hid hol
    have HCB := Lib.hid hcb
    have HFU := Lib.hid hfu
    have HTX := Lib.hid htx
    have HFF := Lib.hid hff
    clear hleft hrow hwr hln hll hol hcb hfu htx hff
    by_cases hf : gk = 0
    · have h0 : cntJ l = 0 := by rw [← HGK.out]; exact hf
      have HOUT : Hid (out = R) := by
        have h9 := hr.out
        rw [runT_off _ _ _ _ _ _ _ _ _ h0] at h9
        exact h9.symm
      clear hr hgk hf
      go_wp2_with fail
      refine HAW.out.mono ?_; rintro e w2 hret
      obtain ⟨rfl, hb2⟩ := await_offT hret h0
      have hs2 := hb2.size
      obtain ⟨_, hgs, _⟩ := row_parts HRW.out
      have HOI : Hid (OI 3 w2 w.heap.size w2.heap.size (.slice (some ⟨w.heap.size, 0, none⟩) n n) out) := by
        have h9 := row_far HRW.out (Wr.of_below hb2 wr.heap.size wr.heap.size) (.inl hgs)
        exact OI.of_row (by rw [HOL.out]; exact h9)
      have HW2 : Hid (Wr lo (g + 1) w w2) := HWR.out.trans (Wr.of_below hb2 _ _)
      clear hret hb2 h0
      go_wp2_with fail
      go_ret
      exact ⟨_, rfl, by rw [← HOUT.out]; exact HOI.out, HW2.out⟩
    · have hp : 0 < cntJ l := by rw [← HGK.out]; omega
      obtain ⟨u, f, k0, u1, u2, u3, hT, hfst, hpk, hkl, hkj, hT0, hT1, hbd0⟩ := step_of (rk := rk0) HA.out HLEFT.out hp ht0
      have HAON := Lib.hid (fun (e : Ending) (w2 : World) hret => await_onT (e := e) (w' := w2) hlg HLW.out hret u1 u2 u3 hT)
      have HFST := Lib.hid hfst
      have HNRM : Hid (∀ out, runT gr pr1 ff tick l out tx bx cx = runT gr pr1 ff (tickOf tick l) l out (nTc tick l tx) (nTb tick l bx) (nCr tick l cx)) := fun out => runT_norm _ _ _ _ _ _ _ _ _ (tickOf_idem tick)
      have HIDM : Hid (tickOf (tickOf tick l) l = tickOf tick l) := tickOf_idem tick
      have HFUN : Hid (FuN ff (tickOf tick l) l (nTc tick l tx) (nTb tick l bx) (nCr tick l cx)) := HFU.out
      have HTX2 := Lib.hid (nTc_lt (tick := tick) (l := l) HTX.out)
      have HCB2 := Lib.hid (Cb.norm (tick := tick) (l := l) HCB.out HFF.out)
      clear hT hfst hpk u3 u2 hkj hkl hbd0
      generalize tickOf tick l = T at HAON HFST HNRM HIDM HFUN hT0 hT1
      generalize nTc tick l tx = tn at HAON HNRM HFUN HTX2
      generalize nTb tick l bx = bn at HAON HNRM HFUN
      generalize nCr tick l cx = cn at HAON HNRM HFUN HCB2
      go_wp2_with fail
      refine HAW.out.mono ?_; rintro e w2 hret
      obtain ⟨rfl, hl2, hw2⟩ := HAON.out e w2 hret
      have hs2 := hw2.size
      have hr2 := row_far HRW.out hw2 (.inr (by omega))
      have HL2 := Lib.hid hl2
      have HR2 := Lib.hid hr2
      have HW2 := Lib.hid (HWR.out.trans hw2)
      have HCH := Lib.hid (inTurn1_any lo g T step tn bn vg cn l gr ff f w2 hl2 (by rw [HLL.out]; omega) HFST.out HIDM.out HTX2.out (HGR.out.below ((HWR.out.trans hw2).below (Nat.le_refl _) (by omega))) HGL.out hlg HGB.out HCB2.out HFF.out HFUN.out (HLEFT.out.ok HA.out))
      clear hret hl2 hw2 hr2
      go_wp2_with fail
      refine HCH.out.mono ?_; rintro e w3 ⟨k, ff1, tc', cr', hkl, hkw, rfl, hl3, htc', hcb', hff1, hfu', heq', hw3⟩
      have hs3 := hw3.size
      have hkj := (isW_t.1 hkw).1
      have hbd := tick_at HA.out (show k < js.length by rw [HN.out, ← HLL.out]; exact hkl)
      rw [← HLEFT.out.is (by rw [HN.out, ← HLL.out]; exact hkl) hkj] at hbd
      obtain ⟨f1, hf1⟩ : ∃ f1, gk = f1 + 1 := ⟨gk - 1, by omega⟩
      have HNEXT : Hid (R = runT gr pr1 ff1 (T + l[k]!.l) (l.set k jbZ) (out.set k T) tc' true cr') := by
        show _ = _
        rw [hr.out, HNRM.out, heq']
      have HCNT : Hid (f1 = cntJ (l.set k jbZ)) := by
        have h9 := cntJ_set hkl hkj
        have h8 := HGK.out
        show _ = _
        omega
      have HFU2 : Hid (Fu ff1 (T + l[k]!.l) (l.set k jbZ) tc' true cr') := hfu' _
      have hkn : k < n := by rw [← HLL.out]; exact hkl
      have hki : (k : Int) < (n : Int) := by omega
      obtain ⟨_, hgs2, _⟩ := row_parts HR2.out
      have hr3 := row_far HR2.out hw3 (.inr (by omega))
      have HW3 : Hid (Wr lo (g + 1) w w3) := HW2.out.trans (hw3.wide hlg (Nat.le_refl _))
      have HCB3 := Lib.hid hcb'
      have HTC3 := Lib.hid htc'
      have HFF3 : Hid (ff1 ≤ 4000) := by have := HFF.out; show _ ≤ _; omega
      clear hr heq' hfu' hcb' htc' hff1
      have hcy : ∃ u, w3.cell? ⟨w.heap.size, k, none⟩ = some u := by
        rw [World.ownsRow.cellAt hr3 k (by omega)]
        exact ⟨_, List.getElem?_eq_getElem (by rw [ics_length, HOL.out]; omega)⟩
      obtain ⟨u0, hcu⟩ := hcy
      have hfz := World.ownsRow.frozenAt hr3 k
      obtain ⟨cs3, v3, hbk3, hlc3, _⟩ := hl3.cells
      have d0 := (hbk3.cell 0).trans hlc3.tick
      have HR4 : Hid (World.ownsRow (w3.setCell ⟨w.heap.size, k, none⟩ (.int .i64 T)) w.heap.size 3 1 (.slice (some ⟨w.heap.size, 0, none⟩) n n) n (ics (out.set k T))) := out_row hr3
      have HL4 : Hid (LN (w3.setCell ⟨w.heap.size, k, none⟩ (.int .i64 T)) lo g T step (tc' : Nat) true vg (.func (.func 42) #[] #[]) cr' l) := hl3.far ((Wr.refl w.heap.size (w.heap.size + 1) w3).at k _) hgw
      have HW4 : Hid (Wr lo (g + 1) w (w3.setCell ⟨w.heap.size, k, none⟩ (.int .i64 T))) := ⟨HW3.out.os, HW3.out.tape, HW3.out.output, by simpa [World.setCell] using HW3.out.size, fun q hq hn => (Below.heap_setCell _ _ _ _ (by simp; omega)).trans (HW3.out.block q hq hn)⟩
      have hs4 : w3.heap.size ≤ (w3.setCell ⟨w.heap.size, k, none⟩ (.int .i64 T)).heap.size := by simp [World.setCell]
      clear hl3 hr3 hbk3 hlc3 hw3
      go_upto_region 5 with fail
      generalize w3.setCell ⟨w.heap.size, k, none⟩ (.int .i64 T) = w4 at HR4 HL4 HW4 hs4 ⊢
      clear d0 hcu hfz
      obtain ⟨cs4, v4, hbk4, hlc4, hol4⟩ := HL4.out.cells
      obtain ⟨b, c9, hv4, hlb, hbg, hbs, x0, x1, x2, hfr, _⟩ := ojb_at hol4 k hkl
      rw [HLL.out] at hv4
      subst hv4
      have d0 := (hbk4.cell 0).trans hlc4.tick
      have d1 := (hbk4.cell 1).trans hlc4.left
      have e0 := hbk4.free 0
      have HL5 : Hid (LN (w4.setCell ⟨g, 0, none⟩ (.int .i64 (T + l[k]!.l))) lo g (T + l[k]!.l) step (tc' : Nat) true vg (.func (.func 42) #[] #[]) cr' l) := HL4.out.putTick _
      have HR5 : Hid (World.ownsRow (w4.setCell ⟨g, 0, none⟩ (.int .i64 (T + l[k]!.l))) w.heap.size 3 1 (.slice (some ⟨w.heap.size, 0, none⟩) n n) n (ics (out.set k T))) := row_far HR4.out ((Wr.refl g (g + 1) w4).at 0 _) (.inr (by omega))
      have HW5 : Hid (Wr lo (g + 1) w (w4.setCell ⟨g, 0, none⟩ (.int .i64 (T + l[k]!.l)))) := HW4.out.trans (((Wr.refl g (g + 1) w4).at 0 _).wide hlg (Nat.le_refl _))
      have hb5 : 1 ≤ l[k]!.l ∧ l[k]!.l ≤ 20 := ⟨hbd.2.2.2.2.1, hbd.2.2.2.2.2⟩
      have HKJ := Lib.hid hkj
      clear hbk4 hlc4 hol4 hfr x0 x1 hbd hkw hkj
      generalize l[k]!.l = LL at HL5 HR5 HW5 hb5 x2 HNEXT HFU2
      have e1 : IntKind.i64.wrap (T + LL) = T + LL := IntWalk.i64_in _ (by omega)
      clear hf1
      go_region
      all_goals
        obtain ⟨cs5, v5, hbk5, hlc5, hol5⟩ := HL5.out.cells
        obtain ⟨b5, c5, hv5, hlb5, hbg5, hbs5, x0, x1, x2, hfr, hz⟩ := ojb_at hol5 k hkl
        rw [HLL.out] at hv5
        subst hv5
        have d1 := (hbk5.cell 1).trans hlc5.left
        have fz0 := hfr (k * 3)
        have fz1 := hfr (k * 3 + 1)
        have fz2 := hfr (k * 3 + 2)
        have HZ := Lib.hid hz
        have HBK5 := Lib.hid hbk5
        have HLC5 := Lib.hid hlc5
        clear d0 e0 hz hbk5 hlc5 hol5 hfr
        go_wp2_with fail
        have hw6 := ((((Wr.refl b5 (b5 + 1) (w4.setCell ⟨g, 0, none⟩ (.int .i64 (T + LL)))).at (k * 3) (.int .i64 0)).at (k * 3 + 1) (.int .i64 0)).at (k * 3 + 2) (.int .i64 0))
        have hw8 := Wr.wide hw6 hlb5 (show b5 + 1 ≤ g + 1 by omega)
        have hk8 := HBK5.out.far hw6 (.inr hbg5)
        have hr8 := row_far HR5.out hw6 (.inr (show b5 + 1 ≤ w.heap.size by omega))
        have hcl := cntJ_le l
        have hgg := HGK.out
        have hlnn := HLL.out
        have hct := cntJ_set hkl HKJ.out
        go_roundg f1
        case rel => exact ⟨T + LL, l.set k jbZ, out.set k T, tc', true, cr', ff1, HCNT.out, HLEFT.out.set k (by rw [HN.out]; omega), HNEXT, by rw [List.length_set]; exact HOL.out, by omega, by have := HCNT.out; omega, HTC3.out, HFF3.out, HCB3.out, HFU2.out,
          ⟨⟨cs5, _, hk8, HLC5.out, HZ.out⟩⟩, hr8, HW5.out.trans ⟨hw8.os, hw8.tape, hw8.output, hw8.size, hw8.block⟩⟩
        case measure => have := HCNT.out; omega

set_option maxHeartbeats 8000000 in
theorem startsBy_turnL (lo g : Nat) (step : Int) (vg : Value) (gr : List Int) (js : List Jb) (w : World) (h : LN w lo g 0 step 7 false vg (.func (.func 48) #[] #[]) (fun _ => 0) js) (hlg : lo ≤ g) (hA : areJb js = true)
    (hgr : RI w lo vg gr) (hgl : gr.length = 8) (hgb : ∀ c, c < 8 → 1 ≤ gr.getD c 0 ∧ gr.getD c 0 ≤ 40) :
    Calls Try.prog 29 #[.pointer (some ⟨g, 0, none⟩), .func (.func 64) #[] #[]] w (RetStarts 3 lo g w (inTurnOf prL js gr)) := by
  obtain ⟨i0, hi, hz0, hz1, hz2⟩ := info_parts int_info
  have hgw := h.lt
  have hn := (areJb_in hA).1
  have hisJ := cntJ_all (l := js) (fun y hy => isJ_ok ((areJb_in hA).2.1 y hy).2.2.2.2.1)
  obtain ⟨cs, v, hbk, hlc, hol⟩ := h.cells
  have c1 := (hbk.cell 1).trans hlc.left
  have hv : ∃ A c, v = .slice A js.length c := by obtain ⟨A, c, hv, _⟩ := hol.rk; exact ⟨A, c, hv⟩
  obtain ⟨A, c, rfl⟩ := hv
  obtain ⟨R, hR⟩ : ∃ R, R = inTurnOf prL js gr := ⟨_, rfl⟩
  rw [← hR]
  have hRL : R.length = js.length := by rw [hR, inTurnOf_len]
  have HR : Hid (R = runT gr prL 4000 0 js (List.replicate js.length 0) 7 false (fun _ => 0)) := hR
  have HFU0 := Lib.hid (Fu.start js hA)
  obtain ⟨n, hN⟩ : ∃ n, js.length = n := ⟨_, rfl⟩
  rw [hN] at c1 hn hisJ HR hRL
  have hn' : (n : Int) ≤ 20 := by omega
  have HN := Lib.hid hN
  have HA := Lib.hid hA
  have HLN := Lib.hid h
  have HCN := Lib.hid hisJ
  have HRL := Lib.hid hRL
  have HGR := Lib.hid hgr
  have HGB := Lib.hid hgb
  have HGL := Lib.hid hgl
  clear hR hRL hbk hlc hol h hA hN hisJ hgr hgb hgl
  go_enter Try.func29, Try.ntmps29
  go_wp2_with (at_make; refine wpList_make_full _ rfl _ _ 26 rfl w.heap.size 3 i0 _ 1 Try.underlying26 hi hz0 hz1 _ _ _ _ n rfl rfl rfl rfl (by rw [hz2]; omega) (by unfold maxLen; omega) (Nat.le_refl _) ?_; intro w1 hown hg2)
  have hown1 : w1.ownsRow w.heap.size 3 1 (.slice (some ⟨w.heap.size, 0, none⟩) n n) n (ics (List.replicate n 0)) := by
    have h1 : (Value.int IntKind.i64 0).cells = #[Value.int IntKind.i64 0] := rfl
    rw [Nat.mul_one, h1, toList_madeCells_one] at hown
    simpa [ics] using hown
  have hb1 : Below w.heap.size w w1 := (Below.refl _ _).grown hg2 (Nat.le_refl _) (by intro k hk; cases hk)
  have HL1 := Lib.hid (HLN.out.step hb1)
  have HW1 : Hid (Wr lo (g + 1) w w1) := Wr.of_below hb1 _ _
  have HO1 := Lib.hid hown1
  clear hown hg2 hb1 hown1 c1
  go_loopg [6] n (fun f s6 wr => ∃ (tick : Int) (l : List Jb) (out : List Int) (tx : Nat) (bx : Bool) (cx : Nat → Int) (ff : Nat), f = cntJ l ∧ LeftOf js l ∧ Hid (R = runT gr prL ff tick l out tx bx cx) ∧ out.length = n ∧ 0 ≤ tick ∧ tick + 20 * f ≤ 1000 + 20 * n ∧
    tx < 8 ∧ ff ≤ 4000 ∧ Cb ff cx ∧ Fu ff tick l tx bx cx ∧
    LN wr lo g tick step (tx : Nat) bx vg (.func (.func 48) #[] #[]) cx l ∧ wr.ownsRow w.heap.size 3 1 (.slice (some ⟨w.heap.size, 0, none⟩) n n) n (ics out) ∧ Wr lo (g + 1) w wr)
  case atStart => exact ⟨0, js, List.replicate n 0, 7, false, fun _ => 0, 4000, HCN.out.symm, LeftOf.refl _, HR, by simp, by omega, by omega, by omega, Nat.le_refl _, Cb.zero (Nat.le_refl _), HFU0.out, HL1.out, HO1.out, HW1.out⟩
  case round =>
    obtain ⟨tick, l, out, tx, bx, cx, ff, hgk, hleft, hr, hol, ht0, ht1, htx, hff, hcb, hfu, hln, hrow, hwr⟩ := hrel
    have hll : l.length = n := by rw [hleft.1]; exact HN.out
    have HAW := Lib.hid (await_any lo g tick step (tx : Nat) bx vg (.func (.func 48) #[] #[]) cx l wr hln (by omega))
    have hsw := hwr.size
    have HLEFT := Lib.hid hleft
    have HRW := Lib.hid hrow
    have HWR := Lib.hid hwr
    have HLW := Lib.hid hln
    have HGK := Lib.hid hgk
    have HLL := Lib.hid hll
    have HOL := Lib.hid hol
    have HCB := Lib.hid hcb
    have HFU := Lib.hid hfu
    have HTX := Lib.hid htx
    have HFF := Lib.hid hff
    clear hleft hrow hwr hln hll hol hcb hfu htx hff
    by_cases hf : gk = 0
    · have h0 : cntJ l = 0 := by rw [← HGK.out]; exact hf
      have HOUT : Hid (out = R) := by
        have h9 := hr.out
        rw [runT_off _ _ _ _ _ _ _ _ _ h0] at h9
        exact h9.symm
      clear hr hgk hf
      go_wp2_with fail
      refine HAW.out.mono ?_; rintro e w2 hret
      obtain ⟨rfl, hb2⟩ := await_offT hret h0
      have hs2 := hb2.size
      obtain ⟨_, hgs, _⟩ := row_parts HRW.out
      have HOI : Hid (OI 3 w2 w.heap.size w2.heap.size (.slice (some ⟨w.heap.size, 0, none⟩) n n) out) := by
        have h9 := row_far HRW.out (Wr.of_below hb2 wr.heap.size wr.heap.size) (.inl hgs)
        exact OI.of_row (by rw [HOL.out]; exact h9)
      have HW2 : Hid (Wr lo (g + 1) w w2) := HWR.out.trans (Wr.of_below hb2 _ _)
      clear hret hb2 h0
      go_wp2_with fail
      go_ret
      exact ⟨_, rfl, by rw [← HOUT.out]; exact HOI.out, HW2.out⟩
    · have hp : 0 < cntJ l := by rw [← HGK.out]; omega
      obtain ⟨u, f, k0, u1, u2, u3, hT, hfst, hpk, hkl, hkj, hT0, hT1, hbd0⟩ := step_of (rk := rk0) HA.out HLEFT.out hp ht0
      have HAON := Lib.hid (fun (e : Ending) (w2 : World) hret => await_onT (e := e) (w' := w2) hlg HLW.out hret u1 u2 u3 hT)
      have HFST := Lib.hid hfst
      have HNRM : Hid (∀ out, runT gr prL ff tick l out tx bx cx = runT gr prL ff (tickOf tick l) l out (nTc tick l tx) (nTb tick l bx) (nCr tick l cx)) := fun out => runT_norm _ _ _ _ _ _ _ _ _ (tickOf_idem tick)
      have HIDM : Hid (tickOf (tickOf tick l) l = tickOf tick l) := tickOf_idem tick
      have HFUN : Hid (FuN ff (tickOf tick l) l (nTc tick l tx) (nTb tick l bx) (nCr tick l cx)) := HFU.out
      have HTX2 := Lib.hid (nTc_lt (tick := tick) (l := l) HTX.out)
      have HCB2 := Lib.hid (Cb.norm (tick := tick) (l := l) HCB.out HFF.out)
      clear hT hfst hpk u3 u2 hkj hkl hbd0
      generalize tickOf tick l = T at HAON HFST HNRM HIDM HFUN hT0 hT1
      generalize nTc tick l tx = tn at HAON HNRM HFUN HTX2
      generalize nTb tick l bx = bn at HAON HNRM HFUN
      generalize nCr tick l cx = cn at HAON HNRM HFUN HCB2
      go_wp2_with fail
      refine HAW.out.mono ?_; rintro e w2 hret
      obtain ⟨rfl, hl2, hw2⟩ := HAON.out e w2 hret
      have hs2 := hw2.size
      have hr2 := row_far HRW.out hw2 (.inr (by omega))
      have HL2 := Lib.hid hl2
      have HR2 := Lib.hid hr2
      have HW2 := Lib.hid (HWR.out.trans hw2)
      have HCH := Lib.hid (inTurnL_any lo g T step tn bn vg cn l gr ff f w2 hl2 (by rw [HLL.out]; omega) HFST.out HIDM.out HTX2.out (HGR.out.below ((HWR.out.trans hw2).below (Nat.le_refl _) (by omega))) HGL.out hlg HGB.out HCB2.out HFF.out HFUN.out (HLEFT.out.ok HA.out))
      clear hret hl2 hw2 hr2
      go_wp2_with fail
      refine HCH.out.mono ?_; rintro e w3 ⟨k, ff1, tc', cr', hkl, hkw, rfl, hl3, htc', hcb', hff1, hfu', heq', hw3⟩
      have hs3 := hw3.size
      have hkj := (isW_t.1 hkw).1
      have hbd := tick_at HA.out (show k < js.length by rw [HN.out, ← HLL.out]; exact hkl)
      rw [← HLEFT.out.is (by rw [HN.out, ← HLL.out]; exact hkl) hkj] at hbd
      obtain ⟨f1, hf1⟩ : ∃ f1, gk = f1 + 1 := ⟨gk - 1, by omega⟩
      have HNEXT : Hid (R = runT gr prL ff1 (T + l[k]!.l) (l.set k jbZ) (out.set k T) tc' true cr') := by
        show _ = _
        rw [hr.out, HNRM.out, heq']
      have HCNT : Hid (f1 = cntJ (l.set k jbZ)) := by
        have h9 := cntJ_set hkl hkj
        have h8 := HGK.out
        show _ = _
        omega
      have HFU2 : Hid (Fu ff1 (T + l[k]!.l) (l.set k jbZ) tc' true cr') := hfu' _
      have hkn : k < n := by rw [← HLL.out]; exact hkl
      have hki : (k : Int) < (n : Int) := by omega
      obtain ⟨_, hgs2, _⟩ := row_parts HR2.out
      have hr3 := row_far HR2.out hw3 (.inr (by omega))
      have HW3 : Hid (Wr lo (g + 1) w w3) := HW2.out.trans (hw3.wide hlg (Nat.le_refl _))
      have HCB3 := Lib.hid hcb'
      have HTC3 := Lib.hid htc'
      have HFF3 : Hid (ff1 ≤ 4000) := by have := HFF.out; show _ ≤ _; omega
      clear hr heq' hfu' hcb' htc' hff1
      have hcy : ∃ u, w3.cell? ⟨w.heap.size, k, none⟩ = some u := by
        rw [World.ownsRow.cellAt hr3 k (by omega)]
        exact ⟨_, List.getElem?_eq_getElem (by rw [ics_length, HOL.out]; omega)⟩
      obtain ⟨u0, hcu⟩ := hcy
      have hfz := World.ownsRow.frozenAt hr3 k
      obtain ⟨cs3, v3, hbk3, hlc3, _⟩ := hl3.cells
      have d0 := (hbk3.cell 0).trans hlc3.tick
      have HR4 : Hid (World.ownsRow (w3.setCell ⟨w.heap.size, k, none⟩ (.int .i64 T)) w.heap.size 3 1 (.slice (some ⟨w.heap.size, 0, none⟩) n n) n (ics (out.set k T))) := out_row hr3
      have HL4 : Hid (LN (w3.setCell ⟨w.heap.size, k, none⟩ (.int .i64 T)) lo g T step (tc' : Nat) true vg (.func (.func 48) #[] #[]) cr' l) := hl3.far ((Wr.refl w.heap.size (w.heap.size + 1) w3).at k _) hgw
      have HW4 : Hid (Wr lo (g + 1) w (w3.setCell ⟨w.heap.size, k, none⟩ (.int .i64 T))) := ⟨HW3.out.os, HW3.out.tape, HW3.out.output, by simpa [World.setCell] using HW3.out.size, fun q hq hn => (Below.heap_setCell _ _ _ _ (by simp; omega)).trans (HW3.out.block q hq hn)⟩
      have hs4 : w3.heap.size ≤ (w3.setCell ⟨w.heap.size, k, none⟩ (.int .i64 T)).heap.size := by simp [World.setCell]
      clear hl3 hr3 hbk3 hlc3 hw3
      go_upto_region 5 with fail
      generalize w3.setCell ⟨w.heap.size, k, none⟩ (.int .i64 T) = w4 at HR4 HL4 HW4 hs4 ⊢
      clear d0 hcu hfz
      obtain ⟨cs4, v4, hbk4, hlc4, hol4⟩ := HL4.out.cells
      obtain ⟨b, c9, hv4, hlb, hbg, hbs, x0, x1, x2, hfr, _⟩ := ojb_at hol4 k hkl
      rw [HLL.out] at hv4
      subst hv4
      have d0 := (hbk4.cell 0).trans hlc4.tick
      have d1 := (hbk4.cell 1).trans hlc4.left
      have e0 := hbk4.free 0
      have HL5 : Hid (LN (w4.setCell ⟨g, 0, none⟩ (.int .i64 (T + l[k]!.l))) lo g (T + l[k]!.l) step (tc' : Nat) true vg (.func (.func 48) #[] #[]) cr' l) := HL4.out.putTick _
      have HR5 : Hid (World.ownsRow (w4.setCell ⟨g, 0, none⟩ (.int .i64 (T + l[k]!.l))) w.heap.size 3 1 (.slice (some ⟨w.heap.size, 0, none⟩) n n) n (ics (out.set k T))) := row_far HR4.out ((Wr.refl g (g + 1) w4).at 0 _) (.inr (by omega))
      have HW5 : Hid (Wr lo (g + 1) w (w4.setCell ⟨g, 0, none⟩ (.int .i64 (T + l[k]!.l)))) := HW4.out.trans (((Wr.refl g (g + 1) w4).at 0 _).wide hlg (Nat.le_refl _))
      have hb5 : 1 ≤ l[k]!.l ∧ l[k]!.l ≤ 20 := ⟨hbd.2.2.2.2.1, hbd.2.2.2.2.2⟩
      have HKJ := Lib.hid hkj
      clear hbk4 hlc4 hol4 hfr x0 x1 hbd hkw hkj
      generalize l[k]!.l = LL at HL5 HR5 HW5 hb5 x2 HNEXT HFU2
      have e1 : IntKind.i64.wrap (T + LL) = T + LL := IntWalk.i64_in _ (by omega)
      clear hf1
      go_region
      all_goals
        obtain ⟨cs5, v5, hbk5, hlc5, hol5⟩ := HL5.out.cells
        obtain ⟨b5, c5, hv5, hlb5, hbg5, hbs5, x0, x1, x2, hfr, hz⟩ := ojb_at hol5 k hkl
        rw [HLL.out] at hv5
        subst hv5
        have d1 := (hbk5.cell 1).trans hlc5.left
        have fz0 := hfr (k * 3)
        have fz1 := hfr (k * 3 + 1)
        have fz2 := hfr (k * 3 + 2)
        have HZ := Lib.hid hz
        have HBK5 := Lib.hid hbk5
        have HLC5 := Lib.hid hlc5
        clear d0 e0 hz hbk5 hlc5 hol5 hfr
        go_wp2_with fail
        have hw6 := ((((Wr.refl b5 (b5 + 1) (w4.setCell ⟨g, 0, none⟩ (.int .i64 (T + LL)))).at (k * 3) (.int .i64 0)).at (k * 3 + 1) (.int .i64 0)).at (k * 3 + 2) (.int .i64 0))
        have hw8 := Wr.wide hw6 hlb5 (show b5 + 1 ≤ g + 1 by omega)
        have hk8 := HBK5.out.far hw6 (.inr hbg5)
        have hr8 := row_far HR5.out hw6 (.inr (show b5 + 1 ≤ w.heap.size by omega))
        have hcl := cntJ_le l
        have hgg := HGK.out
        have hlnn := HLL.out
        have hct := cntJ_set hkl HKJ.out
        go_roundg f1
        case rel => exact ⟨T + LL, l.set k jbZ, out.set k T, tc', true, cr', ff1, HCNT.out, HLEFT.out.set k (by rw [HN.out]; omega), HNEXT, by rw [List.length_set]; exact HOL.out, by omega, by have := HCNT.out; omega, HTC3.out, HFF3.out, HCB3.out, HFU2.out,
          ⟨⟨cs5, _, hk8, HLC5.out, HZ.out⟩⟩, hr8, HW5.out.trans ⟨hw8.os, hw8.tape, hw8.output, hw8.size, hw8.block⟩⟩
        case measure => have := HCNT.out; omega

theorem areForClasses_any (v : Value) (gr : List Int) (most : Int) (w : World) (h : RI w w.heap.size v gr) (hn : gr.length ≤ 1048576) :
    Calls Try.prog 40 #[v, .int .i64 most] w fun e w' => e = .returned (.bool (eightB gr most)) ∧ w = w' := by
  obtain ⟨A, c, rfl, hlc, hc⟩ := h
  have hn' : (gr.length : Int) ≤ 1048576 := by omega
  obtain ⟨R, hR⟩ : ∃ R, eightB gr most = R := ⟨_, rfl⟩
  rw [hR]
  have HNO : Hid (∀ k, k < gr.length → ¬ (1 ≤ gr.getD k 0 ∧ gr.getD k 0 ≤ most) → R = false) := fun k hk h9 => by
    rw [← hR, eightB, okAll_no hk h9, Bool.and_false]
  have HYES : Hid ((∀ k, k < gr.length → 1 ≤ gr.getD k 0 ∧ gr.getD k 0 ≤ most) → R = decide (gr.length = 8)) := fun h9 => by
    rw [← hR, eightB, okAll_of h9, Bool.and_true]
  clear hR
  obtain ⟨n, hN⟩ : ∃ n, gr.length = n := ⟨_, rfl⟩
  rw [hN] at hc hn' HNO HYES ⊢
  clear hN hn
  go_enter Try.func40, Try.ntmps40
  go_wp2
  go_loop [9] (fun i => ∃ k : Nat, k ≤ n ∧ i = .int .i64 k ∧ ∀ j, j < k → 1 ≤ gr.getD j 0 ∧ gr.getD j 0 ≤ most) (fun i => n - (intOf i).toNat)
  case atStart => exact ⟨0, Nat.zero_le _, rfl, fun j hj => absurd hj (by omega)⟩
  case round =>
    obtain ⟨k, hk, rfl, hall⟩ := hrel
    have HAL := Lib.hid hall
    clear hall
    by_cases hlt : k < n
    · obtain ⟨b, off, rfl, hbB, hcell⟩ := hc (by omega)
      have hcx : w.cell? ⟨b, off + k, none⟩ = some (.int .i64 (gr.getD k 0)) := hcell k hlt
      have HN1 := Lib.hid (HNO.out k hlt)
      have HNX : Hid (1 ≤ gr.getD k 0 ∧ gr.getD k 0 ≤ most → ∀ j, j < k + 1 → 1 ≤ gr.getD j 0 ∧ gr.getD j 0 ≤ most) := fun h9 j hj => by
        by_cases e : j = k
        · rw [e]; exact h9
        · exact HAL.out j (by omega)
      have HC := Lib.hid hcell
      clear hcell hc
      generalize gr.getD k 0 = x at hcx HN1 HNX
      by_cases hw : 1 ≤ x ∧ x ≤ most
      · have HX := Lib.hid (HNX.out hw)
        go_wp2_with (go_at_call 32; refine (isWithin_is _ _ _ _ true (by simp [hw])).mono ?_; rintro e w' ⟨rfl, rfl⟩)
        go_round
        case rel => exact ⟨k + 1, by omega, by go_num, HX.out⟩
        case measure => simp [intOf]; omega
      · have HX := Lib.hid (HN1.out hw)
        have HNW := Lib.hid hw
        clear hw
        go_wp2_with (go_at_call 32; refine (isWithin_is _ _ _ _ false (by simpa using HNW.out)).mono ?_; rintro e w' ⟨rfl, rfl⟩)
        go_ret
        exact ⟨ret_bool HX.out.symm, rfl⟩
    · obtain rfl : n = k := by omega
      have HX := Lib.hid (HYES.out HAL.out)
      by_cases h8 : n = 8
      · subst h8
        have HX2 : Hid (R = true) := by show _ = _; rw [HX.out]; rfl
        go_wp2
        go_ret
        exact ⟨ret_bool HX2.out.symm, rfl⟩
      · have HX2 : Hid (R = false) := by show _ = _; rw [HX.out, decide_eq_false h8]
        have hq : ((n : Int) == 8) = false := by simp; omega
        go_wp2
        go_ret
        exact ⟨ret_bool HX2.out.symm, rfl⟩

end
section
open Go.RowKit
set_option maxRecDepth 100000
set_option linter.unusedVariables false

theorem LC.putGr {cs : Array Value} {tick : Int} {v : Value} {step tc : Int} {tb : Bool} {gr pr : Value} {cr : Nat → Int} (h : LC cs tick v step tc tb gr pr cr) (x : Value) : LC (cs.setIfInBounds 5 x) tick v step tc tb x pr cr := by
  have hs := h.size
  refine ⟨by simp [hs], ?_, ?_, ?_, ?_, ?_, ?_, ?_, ?_⟩
  · simp [h.tick]
  · simp [h.left]
  · simp [h.step]
  · simp [h.tc]
  · simp [h.tb]
  · simp [hs]
  · simp [h.pr]
  · intro i hi
    rw [Array.getElem?_setIfInBounds, if_neg (by omega)]
    exact h.cr i hi
theorem LC.putPr {cs : Array Value} {tick : Int} {v : Value} {step tc : Int} {tb : Bool} {gr pr : Value} {cr : Nat → Int} (h : LC cs tick v step tc tb gr pr cr) (x : Value) : LC (cs.setIfInBounds 6 x) tick v step tc tb gr x cr := by
  have hs := h.size
  refine ⟨by simp [hs], ?_, ?_, ?_, ?_, ?_, ?_, ?_, ?_⟩
  · simp [h.tick]
  · simp [h.left]
  · simp [h.step]
  · simp [h.tc]
  · simp [h.tb]
  · simp [h.gr]
  · simp [hs]
  · intro i hi
    rw [Array.getElem?_setIfInBounds, if_neg (by omega)]
    exact h.cr i hi
theorem LN.putGr {w : World} {lo g : Nat} {tick step tc : Int} {tb : Bool} {gr pr : Value} {cr : Nat → Int} {l : List Jb} (h : LN w lo g tick step tc tb gr pr cr l) (x : Value) : LN (w.setCell ⟨g, 5, none⟩ x) lo g tick step tc tb x pr cr l := by
  obtain ⟨cs, v, h1, h2, h3⟩ := h.cells
  exact ⟨_, v, h1.put _ _, h2.putGr x, OK.far h3 ((Wr.refl g (g + 1) w).at _ _) (.inl (Nat.le_refl _))⟩
theorem LN.putPr {w : World} {lo g : Nat} {tick step tc : Int} {tb : Bool} {gr pr : Value} {cr : Nat → Int} {l : List Jb} (h : LN w lo g tick step tc tb gr pr cr l) (x : Value) : LN (w.setCell ⟨g, 6, none⟩ x) lo g tick step tc tb gr x cr l := by
  obtain ⟨cs, v, h1, h2, h3⟩ := h.cells
  exact ⟨_, v, h1.put _ _, h2.putPr x, OK.far h3 ((Wr.refl g (g + 1) w).at _ _) (.inl (Nat.le_refl _))⟩
theorem eightB_in {gr : List Int} {most : Int} (h : eightB gr most = true) : gr.length = 8 ∧ ∀ c, c < 8 → 1 ≤ gr.getD c 0 ∧ gr.getD c 0 ≤ most := by
  simp only [eightB, Bool.and_eq_true, decide_eq_true_eq] at h
  exact ⟨h.1, fun c hc => okAll_at h.2 c (by omega)⟩

set_option maxHeartbeats 2000000 in
theorem startsInTurn1_any (v vg : Value) (js : List Jb) (gr : List Int) (w : World) (h : RJbS w w.heap.size v js) (h' : RI w w.heap.size vg gr) (hA : areJb js = true) (hE : eightB gr 20 = true) :
    Calls Try.prog 41 #[v, vg, (.func (.func 42) #[] #[])] w (RetL 3 w (inTurnOf pr1 js gr)) := by
  have hn := (areJb_in hA).1
  obtain ⟨hgl, hgb⟩ := eightB_in hE
  have HL := Lib.hid (lineFor_any v js w h (by omega))
  obtain ⟨A, c, rfl, _⟩ := h
  have HG := Lib.hid h'
  obtain ⟨A2, c2, rfl, _⟩ := h'
  rw [hgl] at HG ⊢
  obtain ⟨R, hR⟩ : ∃ R, inTurnOf pr1 js gr = R := ⟨_, rfl⟩
  have HSB := Lib.hid (fun (g : Nat) (w1 : World) (h1 : LN w1 w.heap.size g 0 0 7 false (.slice A2 8 c2) (.func (.func 42) #[] #[]) (fun _ => 0) js) (hlg : w.heap.size ≤ g) (hg1 : RI w1 w.heap.size (.slice A2 8 c2) gr) => startsBy_turn1 w.heap.size g 0 _ gr js w1 h1 hlg hA hg1 hgl (fun c hc => by have := hgb c hc; omega))
  rw [hR] at HSB ⊢
  clear hR hA hE hgb hgl
  go_enter Try.func41, Try.ntmps41
  go_wp2_with fail
  refine HL.out.mono ?_; rintro e w1 ⟨g, rfl, hlg, hgs, hln, hb⟩
  have HB := Lib.hid hb
  obtain ⟨_, _, _, d5, d6, _, dz⟩ := hln.at
  have f5 := dz 5
  have HL2 := Lib.hid (hln.putGr (.slice A2 8 c2))
  obtain ⟨_, _, _, _, x6, _, xz⟩ := HL2.out.at
  have f6 := xz 6
  have HL3 := Lib.hid (HL2.out.putPr (.func (.func 42) #[] #[]))
  have HB3 : Hid (Below w.heap.size w ((w1.setCell ⟨g, 5, none⟩ (.slice A2 8 c2)).setCell ⟨g, 6, none⟩ (.func (.func 42) #[] #[]))) := (HB.out.setCell (p := ⟨g, 5, none⟩) hlg _).setCell (p := ⟨g, 6, none⟩) hlg _
  have HS := Lib.hid (HSB.out g _ HL3.out hlg (HG.out.below HB3.out))
  clear hln hb dz xz
  go_wp2_with fail
  refine HS.out.mono ?_; rintro e w2 ⟨u, rfl, ho, hw⟩
  have HO := Lib.hid (ho.wide (lo' := w.heap.size) (hi' := w2.heap.size) HB3.out.size (Nat.le_refl _))
  have HW := Lib.hid hw
  obtain ⟨A3, c3, rfl, _⟩ := ho.ri
  clear ho hw
  go_wp2_with fail
  go_ret
  exact ⟨_, rfl, HO.out, HB3.out.trans (HW.out.below (Nat.le_refl _) HB3.out.size)⟩
set_option maxHeartbeats 2000000 in
theorem implTurnStarts_any (v vg : Value) (js : List Jb) (gr : List Int) (w : World) (h : RJbS w w.heap.size v js) (h' : RI w w.heap.size vg gr) (hn : js.length ≤ 1048576) (hn2 : gr.length ≤ 1048576) :
    Calls Try.prog 17 #[v, vg] w (RetLB 3 w (turnOf js gr).1 (turnOf js gr).2) := by
  have HA := Lib.hid (implAreJobs_any v js w h hn)
  cases hg : areJb js
  · have HF : turnOf js gr = ([], false) := by simp [turnOf, hg]
    rw [HF]
    rw [hg] at HA
    clear hg HF
    go_enter Try.func17, Try.ntmps17
    go_wp2_with fail
    refine HA.out.mono ?_; rintro e w1 ⟨rfl, T⟩
    go_wp2_with fail
    go_ret2
    exact ⟨_, rfl, .inl ⟨rfl, none, 0, rfl, by simp, fun _ => rfl⟩, T⟩
  have HE := Lib.hid (fun (w' : World) (hb : Below w.heap.size w w') => areForClasses_any vg gr 20 w' ((h'.step hb (Nat.le_refl _)).more hb.size) hn2)
  cases hwa : eightB gr 20
  · have HF : turnOf js gr = ([], false) := by simp [turnOf, hwa]
    rw [HF]
    rw [hg] at HA
    rw [hwa] at HE
    clear hg HF hwa
    go_enter Try.func17, Try.ntmps17
    go_wp2_with fail
    refine HA.out.mono ?_; rintro e w1 ⟨rfl, T⟩
    go_wp2_with fail
    refine (HE.out _ T).mono ?_; rintro e w2 ⟨rfl, rfl⟩
    go_wp2_with fail
    go_ret2
    exact ⟨_, rfl, .inl ⟨rfl, none, 0, rfl, by simp, fun _ => rfl⟩, T⟩
  have HF : turnOf js gr = (inTurnOf pr1 js gr, true) := by simp [turnOf, hg, hwa]
  rw [HF]
  have HS := Lib.hid (fun (w' : World) (hb : Below w.heap.size w w') => startsInTurn1_any v vg js gr w' ((h.step hb (Nat.le_refl _)).more hb.size) ((h'.step hb (Nat.le_refl _)).more hb.size) hg hwa)
  rw [hg] at HA
  rw [hwa] at HE
  clear hg HF hwa
  go_enter Try.func17, Try.ntmps17
  go_wp2_with fail
  refine HA.out.mono ?_; rintro e w1 ⟨rfl, T⟩
  have hT := T.size
  go_wp2_with fail
  refine (HE.out _ T).mono ?_; rintro e w2 ⟨rfl, rfl⟩
  go_wp2_with fail
  refine (HS.out _ T).mono ?_; rintro e w3 ⟨u, rfl, ho, hb3⟩
  have HO := Lib.hid (ho.wide (lo' := w.heap.size) (hi' := w3.heap.size) hT (Nat.le_refl _))
  have HB := Lib.hid (T.trans (hb3.mono hT))
  obtain ⟨A3, c3, rfl, _⟩ := ho.ri
  clear ho hb3 T
  go_wp2_with fail
  go_ret2
  exact ⟨_, rfl, HO.out, HB.out⟩

set_option maxHeartbeats 2000000 in
theorem startsInTurnL_any (v vg : Value) (js : List Jb) (gr : List Int) (w : World) (h : RJbS w w.heap.size v js) (h' : RI w w.heap.size vg gr) (hA : areJb js = true) (hE : eightB gr 40 = true) :
    Calls Try.prog 41 #[v, vg, (.func (.func 48) #[] #[])] w (RetL 3 w (inTurnOf prL js gr)) := by
  have hn := (areJb_in hA).1
  obtain ⟨hgl, hgb⟩ := eightB_in hE
  have HL := Lib.hid (lineFor_any v js w h (by omega))
  obtain ⟨A, c, rfl, _⟩ := h
  have HG := Lib.hid h'
  obtain ⟨A2, c2, rfl, _⟩ := h'
  rw [hgl] at HG ⊢
  obtain ⟨R, hR⟩ : ∃ R, inTurnOf prL js gr = R := ⟨_, rfl⟩
  have HSB := Lib.hid (fun (g : Nat) (w1 : World) (h1 : LN w1 w.heap.size g 0 0 7 false (.slice A2 8 c2) (.func (.func 48) #[] #[]) (fun _ => 0) js) (hlg : w.heap.size ≤ g) (hg1 : RI w1 w.heap.size (.slice A2 8 c2) gr) => startsBy_turnL w.heap.size g 0 _ gr js w1 h1 hlg hA hg1 hgl (fun c hc => by have := hgb c hc; omega))
  rw [hR] at HSB ⊢
  clear hR hA hE hgb hgl
  go_enter Try.func41, Try.ntmps41
  go_wp2_with fail
  refine HL.out.mono ?_; rintro e w1 ⟨g, rfl, hlg, hgs, hln, hb⟩
  have HB := Lib.hid hb
  obtain ⟨_, _, _, d5, d6, _, dz⟩ := hln.at
  have f5 := dz 5
  have HL2 := Lib.hid (hln.putGr (.slice A2 8 c2))
  obtain ⟨_, _, _, _, x6, _, xz⟩ := HL2.out.at
  have f6 := xz 6
  have HL3 := Lib.hid (HL2.out.putPr (.func (.func 48) #[] #[]))
  have HB3 : Hid (Below w.heap.size w ((w1.setCell ⟨g, 5, none⟩ (.slice A2 8 c2)).setCell ⟨g, 6, none⟩ (.func (.func 48) #[] #[]))) := (HB.out.setCell (p := ⟨g, 5, none⟩) hlg _).setCell (p := ⟨g, 6, none⟩) hlg _
  have HS := Lib.hid (HSB.out g _ HL3.out hlg (HG.out.below HB3.out))
  clear hln hb dz xz
  go_wp2_with fail
  refine HS.out.mono ?_; rintro e w2 ⟨u, rfl, ho, hw⟩
  have HO := Lib.hid (ho.wide (lo' := w.heap.size) (hi' := w2.heap.size) HB3.out.size (Nat.le_refl _))
  have HW := Lib.hid hw
  obtain ⟨A3, c3, rfl, _⟩ := ho.ri
  clear ho hw
  go_wp2_with fail
  go_ret
  exact ⟨_, rfl, HO.out, HB3.out.trans (HW.out.below (Nat.le_refl _) HB3.out.size)⟩
set_option maxHeartbeats 2000000 in
theorem implDeficitStarts_any (v vg : Value) (js : List Jb) (gr : List Int) (w : World) (h : RJbS w w.heap.size v js) (h' : RI w w.heap.size vg gr) (hn : js.length ≤ 1048576) (hn2 : gr.length ≤ 1048576) :
    Calls Try.prog 20 #[v, vg] w (RetLB 3 w (defOf js gr).1 (defOf js gr).2) := by
  have HA := Lib.hid (implAreJobs_any v js w h hn)
  cases hg : areJb js
  · have HF : defOf js gr = ([], false) := by simp [defOf, hg]
    rw [HF]
    rw [hg] at HA
    clear hg HF
    go_enter Try.func20, Try.ntmps20
    go_wp2_with fail
    refine HA.out.mono ?_; rintro e w1 ⟨rfl, T⟩
    go_wp2_with fail
    go_ret2
    exact ⟨_, rfl, .inl ⟨rfl, none, 0, rfl, by simp, fun _ => rfl⟩, T⟩
  have HE := Lib.hid (fun (w' : World) (hb : Below w.heap.size w w') => areForClasses_any vg gr 40 w' ((h'.step hb (Nat.le_refl _)).more hb.size) hn2)
  cases hwa : eightB gr 40
  · have HF : defOf js gr = ([], false) := by simp [defOf, hwa]
    rw [HF]
    rw [hg] at HA
    rw [hwa] at HE
    clear hg HF hwa
    go_enter Try.func20, Try.ntmps20
    go_wp2_with fail
    refine HA.out.mono ?_; rintro e w1 ⟨rfl, T⟩
    go_wp2_with fail
    refine (HE.out _ T).mono ?_; rintro e w2 ⟨rfl, rfl⟩
    go_wp2_with fail
    go_ret2
    exact ⟨_, rfl, .inl ⟨rfl, none, 0, rfl, by simp, fun _ => rfl⟩, T⟩
  have HF : defOf js gr = (inTurnOf prL js gr, true) := by simp [defOf, hg, hwa]
  rw [HF]
  have HS := Lib.hid (fun (w' : World) (hb : Below w.heap.size w w') => startsInTurnL_any v vg js gr w' ((h.step hb (Nat.le_refl _)).more hb.size) ((h'.step hb (Nat.le_refl _)).more hb.size) hg hwa)
  rw [hg] at HA
  rw [hwa] at HE
  clear hg HF hwa
  go_enter Try.func20, Try.ntmps20
  go_wp2_with fail
  refine HA.out.mono ?_; rintro e w1 ⟨rfl, T⟩
  have hT := T.size
  go_wp2_with fail
  refine (HE.out _ T).mono ?_; rintro e w2 ⟨rfl, rfl⟩
  go_wp2_with fail
  refine (HS.out _ T).mono ?_; rintro e w3 ⟨u, rfl, ho, hb3⟩
  have HO := Lib.hid (ho.wide (lo' := w.heap.size) (hi' := w3.heap.size) hT (Nat.le_refl _))
  have HB := Lib.hid (T.trans (hb3.mono hT))
  obtain ⟨A3, c3, rfl, _⟩ := ho.ri
  clear ho hb3 T
  go_wp2_with fail
  go_ret2
  exact ⟨_, rfl, HO.out, HB.out⟩

end
end Go.Proofs.Yteoggoopfjkdkaa
