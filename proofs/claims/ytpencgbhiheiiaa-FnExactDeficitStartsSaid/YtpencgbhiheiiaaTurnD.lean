/-
  DeficitStarts, the model's side.
-/
import Derived.Test.YtpencgbhiheiiaaTurnW
namespace Go.Proofs.Ytpencgbhiheiiaa
open Go.RowKit
set_option maxRecDepth 100000
set_option linter.unusedVariables false

theorem LeftOf.ok2 {js l : List Jb} (hA : areJb js = true) (h : LeftOf js l) : JbOk l := by
  intro k hk hj
  have hk' : k < js.length := by rw [← h.1]; exact hk
  rw [h.is hk' hj]
  have := tick_at hA hk'
  omega
theorem nTc_lt2 {tick : Int} {l : List Jb} {tc : Nat} (h : tc < 8) : nTc tick l tc < 8 := by unfold nTc; split <;> omega
theorem Cb.norm2 {f : Nat} {tick : Int} {l : List Jb} {cr : Nat → Int} (h : Cb f cr) (hf : f ≤ 4000) : Cb f (nCr tick l cr) := by
  unfold nCr
  split
  · exact Cb.zero hf
  · exact h
set_option maxHeartbeats 16000000 in
theorem specDeficitStarts_any (v vg : Value) (js : List Jb) (gr : List Int) (w : World) (h : RJbS w w.heap.size v js) (h' : RI w w.heap.size vg gr) (hn : js.length ≤ 1048576) (hn2 : gr.length ≤ 1048576) :
    Calls Try.prog 28 #[v, vg] w (RetLB 3 w (defOf js gr).1 (defOf js gr).2) := by
  have HA := Lib.hid (prJobs_any v js w h hn)
  cases hg : areJb js
  · have HF : defOf js gr = ([], false) := by simp [defOf, hg]
    rw [HF]
    rw [hg] at HA
    clear hg HF
    go_enter Try.func28, Try.ntmps28
    go_wp2_with fail
    refine HA.out.mono ?_; rintro e w1 ⟨rfl, T⟩
    go_wp2_with fail
    go_ret2
    exact ⟨_, rfl, .inl ⟨rfl, none, 0, rfl, by simp, fun _ => rfl⟩, T⟩
  have HE := Lib.hid (fun (w' : World) (hb : Below w.heap.size w w') => prEight_any vg gr 40 w' ((h'.step hb (Nat.le_refl _)).more hb.size) hn2)
  cases hwa : eightB gr 40
  · have HF : defOf js gr = ([], false) := by simp [defOf, hwa]
    rw [HF]
    rw [hg] at HA
    rw [hwa] at HE
    clear hg HF hwa
    go_enter Try.func28, Try.ntmps28
    go_wp2_with fail
    refine HA.out.mono ?_; rintro e w1 ⟨rfl, T⟩
    go_wp2_with fail
    refine (HE.out _ T).mono ?_; rintro e w2 ⟨rfl, rfl⟩
    go_wp2_with fail
    go_ret2
    exact ⟨_, rfl, .inl ⟨rfl, none, 0, rfl, by simp, fun _ => rfl⟩, T⟩
  have HF : defOf js gr = (inTurnOf prL js gr, true) := by simp [defOf, hg, hwa]
  rw [HF]
  obtain ⟨hgl, hgb0⟩ := eightB_in' hwa
  have hgb : ∀ c, c < 8 → 1 ≤ gr.getD c 0 ∧ gr.getD c 0 ≤ 40 := fun c hc => by have := hgb0 c hc; omega
  have hnn := (areJb_in hg).1
  have HNEW := Lib.hid (fun (w' : World) (hb : Below w.heap.size w w') => prNew_any v js w' ((h.step hb (Nat.le_refl _)).more hb.size) hnn)
  have hisJ := cntJ_all (l := js) (fun y hy => isJ_ok ((areJb_in hg).2.1 y hy).2.2.2.2.1)
  obtain ⟨i0, hi, hz0, hz1, hz2⟩ := info_parts int_info
  have hjc : ∃ A c, v = .slice A js.length c ∧ ∀ k, k < js.length → ∃ b off, A = some ⟨b, off, none⟩ ∧ b < w.heap.size ∧ w.cell? ⟨b, off + k * 3, none⟩ = some (.int .i64 js[k]!.t) ∧ w.cell? ⟨b, off + k * 3 + 1, none⟩ = some (.int .i64 js[k]!.c) ∧ w.cell? ⟨b, off + k * 3 + 2, none⟩ = some (.int .i64 js[k]!.l) := by
    obtain ⟨A, c, hv, _⟩ := id h
    refine ⟨A, c, hv, fun k hk => ?_⟩
    obtain ⟨b, off, c9, hv9, hb, e0, e1, e2⟩ := left_cells h k hk
    rw [hv] at hv9
    injection hv9 with hA9
    exact ⟨b, off, hA9, hb, e0, e1, e2⟩
  obtain ⟨A, c, rfl, hjc⟩ := hjc
  have HTK := Lib.hid (fun k (hk : k < js.length) => tick_at hg hk)
  obtain ⟨R, hR⟩ : ∃ R, R = inTurnOf prL js gr := ⟨_, rfl⟩
  rw [← hR]
  have HR : Hid (R = runT gr prL 4000 0 js (List.replicate js.length 0) 7 false (fun _ => 0)) := hR
  have HFU0 := Lib.hid (Fu.start js hg)
  have HMS := Lib.hid (Mod.start js)
  obtain ⟨n, hN⟩ : ∃ n, js.length = n := ⟨_, rfl⟩
  unfold RetNew at HNEW
  have HGX : Hid (∃ A2 c2, vg = .slice A2 8 c2 ∧ ∃ b off, A2 = some ⟨b, off, none⟩ ∧ b < w.heap.size ∧ ∀ k, k < 8 → w.cell? ⟨b, off + k, none⟩ = some (.int .i64 (gr.getD k 0))) := by
    obtain ⟨A2, c2, hv, _, hc⟩ := h'
    obtain ⟨b, off, hA2, hb, hcell⟩ := hc (by omega)
    exact ⟨A2, c2, by rw [hv, hgl], b, off, hA2, hb, fun k hk => hcell k (by omega)⟩
  obtain ⟨A2, c2, rfl, b2, off2, rfl, hb2, hgc⟩ := HGX.out
  rw [hg] at HA
  rw [hwa] at HE
  rw [hN] at hnn HA HNEW HR hisJ HTK HMS hjc ⊢
  have HJC := Lib.hid hjc
  clear hjc
  have hn' : (n : Int) ≤ 20 := by omega
  have HN := Lib.hid hN
  have HJ := Lib.hid hg
  have HCN := Lib.hid hisJ
  have HGC := Lib.hid hgc
  have HGB := Lib.hid hgb
  have HGL := Lib.hid hgl
  clear h h' hn hn2 hN hg hwa HF hisJ hR hgc hgb hgb0 hgl HGX
  go_enter Try.func28, Try.ntmps28
  go_wp2_with fail
  refine HA.out.mono ?_; rintro e w1 ⟨rfl, T1⟩
  have hT1 := T1.size
  have HT1 := Lib.hid T1
  go_wp2_with fail
  refine (HE.out _ T1).mono ?_; rintro e w2 ⟨rfl, rfl⟩
  go_wp2_with fail
  refine (HNEW.out _ T1).mono ?_; rintro e w3 ⟨vs1, rfl, hp1, hb1⟩
  have HP1 := Lib.hid hp1
  have HB1 := Lib.hid (T1.trans (hb1.mono hT1))
  clear hp1 hb1 T1
  obtain ⟨g, hgw⟩ : ∃ g, w1.heap.size = g := ⟨_, rfl⟩
  rw [hgw] at HP1 hT1 ⊢
  clear hgw
  have hgs3 := HP1.out.lt
  have HVX := Lib.hid (row_lt HP1.out.row)
  have q7 := HGC.out 7 (by omega)
  obtain ⟨G7, hG7⟩ : ∃ x, gr.getD 7 0 = x := ⟨_, rfl⟩
  rw [hG7] at q7
  have HG7 := Lib.hid hG7
  clear hG7
  have HGW := Lib.hid hb2
  go_wp2_with (at_make; refine wpList_make_full _ rfl _ _ 29 rfl w3.heap.size 3 i0 _ 1 Try.underlying29 hi hz0 hz1 _ _ _ _ 8 rfl rfl rfl rfl (by rw [hz2]; omega) (by unfold maxLen; omega) (Nat.le_refl _) ?_; intro w4 hown hg4; have hown1 := made_row 8 hown; have hb4 : Below w3.heap.size w3 w4 := (Below.refl _ _).grown hg4 (Nat.le_refl _) (by intro k hk; cases hk); have HO1 := Lib.hid hown1; have HB4 := Lib.hid hb4; have hx4 := (((HB1.out.trans (hb4.mono HB1.out.size))).cell (p := ⟨b2, off2 + 7, none⟩) HGW.out).trans q7; have hc4 := row_cell hown1 rfl 7 (by omega); have hf4 := World.ownsRow.frozenAt hown1 7; clear hown hg4 hown1 hb4)
  have hw5 := (Wr.refl w3.heap.size (w3.heap.size + 1) w4).at 7 (.int .i64 G7)
  have HO5 := Lib.hid (out_row8 (k := 7) (x := G7) HO1.out)
  have HP5 := Lib.hid (PN.far5 (HP1.out.step HB4.out) hw5 (by omega) HVX.out)
  have HB5 : Hid (Below w.heap.size w (w4.setCell ⟨w3.heap.size, 7, none⟩ (.int .i64 G7))) := (HB1.out.trans (HB4.out.mono HB1.out.size)).trans (hw5.below (by have := HB1.out.size; omega) (by have := HB1.out.size; have := HB4.out.size; omega))
  clear hw5
  generalize w4.setCell ⟨w3.heap.size, 7, none⟩ (.int .i64 G7) = w5 at HO5 HP5 HB5 ⊢
  obtain ⟨C0, hC0⟩ : ∃ C0, (List.replicate 8 (0 : Int)).set 7 G7 = C0 := ⟨_, rfl⟩
  have HC0 : Hid (CrD gr 7 false (fun _ => 0) C0) := by show CrD _ _ _ _ _; rw [← hC0, ← HG7.out]; exact CrD.new (by omega)
  rw [hC0] at HO5
  clear hC0 hx4 hc4 hf4 q7 HO1 HB4 HB1 HP1
  have hb3g : g < w3.heap.size := hgs3
  generalize w3.heap.size = hb at HO5 HVX hb3g ⊢
  clear hgs3
  go_loopg [7, 8] 4000 (fun ff z x wr => ∃ (now : Int) (l : List Jb) (sp out : List Int) (tx : Nat) (bx : Bool) (cx : Nat → Int) (C : List Int) (b8 c8 : Nat), z = .slice (some ⟨b8, 0, none⟩) 8 c8 ∧ x = .int .i64 tx ∧ Mod js l sp out ∧ Hid (R = runT gr prL ff now l out tx bx cx) ∧
    0 ≤ now ∧ now + 20 * cntJ l ≤ 1000 + 20 * n ∧ tx < 8 ∧ ff ≤ 4000 ∧ Cb ff cx ∧ Fu ff now l tx bx cx ∧ CrD gr tx bx cx C ∧ hb ≤ b8 ∧ wr.ownsRow hb 3 1 (.slice (some ⟨b8, 0, none⟩) 8 c8) 8 (ics C) ∧ PN wr g (.slice A n c) js vs1 sp now (n - cntJ l) ∧ Below w.heap.size w wr)
  case atStart => exact ⟨0, js, _, _, 7, false, fun _ => 0, C0, hb, 8, rfl, rfl, HMS.out, HR, by omega, by rw [HCN.out]; omega, by omega, Nat.le_refl _, Cb.zero (Nat.le_refl _), HFU0.out, HC0.out, Nat.le_refl _, HO5.out, by rw [HCN.out, Int.sub_self]; exact HP5.out, HB5.out⟩
  case round =>
    obtain ⟨now, l, sp, out, tx, bx, cx, C, b8, c8, rfl, rfl, hmod, hr, ht0, ht1, htx, hff, hcb, hfu, hct, hb8, hrow, hpn, hbw⟩ := hrel
    have HRW := Lib.hid hrow
    clear hrow
    have hcn : cntJ l ≤ n := by
      have h1 := cntJ_le l
      have h2 := hmod.left.1
      have h3 := HN.out
      omega
    have hgs := hpn.lt
    have c3 := hpn.bk.cell 3
    simp at c3
    have HPN := Lib.hid hpn
    have HBW := Lib.hid hbw
    have HMOD := Lib.hid hmod
    have HCB := Lib.hid hcb
    have HFU := Lib.hid hfu
    have HCT := Lib.hid hct
    have HTX := Lib.hid htx
    have HFF := Lib.hid hff
    have HSL : Hid (sp.length = js.length) := hmod.lsp
    obtain ⟨dn, hdn⟩ : ∃ x, (n : Int) - (cntJ l : Int) = x := ⟨_, rfl⟩
    rw [hdn] at c3
    have HDN := Lib.hid hdn
    have HPN2 : Hid (PN wr g (.slice A n c) js vs1 sp now dn) := by have := HPN.out; rw [hdn] at this; exact this
    have hdb : 0 ≤ dn ∧ dn ≤ n := by omega
    have hd0 : (cntJ l = 0 ↔ dn = n) := by omega
    clear hmod hcb hfu hct htx hff hpn hbw hdn HPN
    by_cases h0 : cntJ l = 0
    · have hdd : dn = n := hd0.1 h0
      have HOUT : Hid (sp = R) := by
        show _ = _
        rw [HMOD.out.done HJ.out h0]
        have h9 := hr.out
        rw [runT_off _ _ _ _ _ _ _ _ _ h0] at h9
        exact h9.symm
      have c1 := HPN2.out.bk.cell 1
      simp at c1
      have hro := Acc.oi HPN2.out.row
      obtain ⟨A3, c9, hv3, _⟩ := hro.ri
      subst hv3
      have HRO := Lib.hid hro
      subst hdd
      clear hr hro h0 hd0 hcn
      go_wp2_with fail
      go_ret2
      exact ⟨_, rfl, by rw [← HOUT.out]; exact HRO.out.wide (by omega) (Nat.le_refl _), HBW.out⟩
    · have hp : 0 < cntJ l := by omega
      have hdlt : dn < n := by omega
      obtain ⟨u, f0, k0, u1, u2, u3, hT, hfst, hpk, hkl0, hkj0, hT0, hT1b, hbd0⟩ := step_of (rk := rk0) HJ.out HMOD.out.left hp ht0
      have hdj : dn ≠ js.length := by rw [HN.out]; omega
      obtain ⟨hsk, hsb⟩ := HMOD.out.skip HJ.out hp now dn hdj
      have hsb2 := HMOD.out.skipB HJ.out hfst
      have HSKIP := Lib.hid (prSkipW_any g _ vs1 js sp now dn wr HPN2.out HSL.out HJ.out (by rw [HN.out]; omega))
      unfold RetSkipW at HSKIP
      rw [hsk, hsb, hsb2] at HSKIP
      obtain ⟨ff1, rfl⟩ := HFU.out.pos hfst
      have HEQ : Hid (R = stepR gr prL (runT gr prL ff1) (tickOf now l) l out (nTc now l tx) (nTb now l bx) (nCr now l cx)) := by
        show _ = _
        rw [hr.out, runT_on _ _ _ _ _ _ _ _ _ h0]
      have HFUN : Hid (FuN (ff1 + 1) (tickOf now l) l (nTc now l tx) (nTb now l bx) (nCr now l cx)) := HFU.out
      have HTX2 := Lib.hid (nTc_lt2 (tick := now) (l := l) HTX.out)
      have HCB2 := Lib.hid (Cb.norm2 (tick := now) (l := l) HCB.out HFF.out)
      have HIDM : Hid (tickOf (tickOf now l) l = tickOf now l) := tickOf_idem now
      have HFST := Lib.hid hfst
      have HNY := Lib.hid (fun h9 => norm_yes (now := now) (l := l) h9 tx bx cx)
      have HNNO := Lib.hid (fun h9 => norm_no (now := now) (l := l) h9 tx bx cx)
      have HOKJ := Lib.hid (HMOD.out.left.ok2 HJ.out)
      clear hT hpk hkl0 hkj0 hbd0 u1 u2 u3 hsk hsb hsb2 hr hdj hd0 h0 hfst
      generalize tickOf now l = T at HSKIP HEQ HFUN HIDM HFST HNY HNNO hT0 hT1b
      generalize nTc now l tx = tn at HEQ HFUN HTX2 HNY HNNO
      generalize nTb now l bx = bn at HEQ HFUN HNY HNNO
      generalize nCr now l cx = cn at HEQ HFUN HCB2 HNY HNNO
      have hT2 : T + 20 * cntJ l ≤ 1000 + 20 * (n : Int) := by omega
      have HT2 := Lib.hid hT2
      by_cases hskp : now < T
      · have hdummy : True := trivial
        clear hdummy
        obtain ⟨rfl, rfl, rfl⟩ := HNY.out hskp
        have hsd : decide (now < T) = true := decide_eq_true hskp
        have htn : 7 < 8 := HTX2.out
        have htni : ((7 : Nat) : Int) < 8 := by omega
        rw [hsd] at HSKIP
        clear hskp hsd HNY HNNO HCT
        have hgle : w.heap.size ≤ g := by omega
        have HX : Hid (nextC 7 = 6) := rfl
        have hX8 : (6 : Nat) < 8 := by omega
        have q7 := HGC.out 7 (by omega)
        rw [HG7.out] at q7
        go_wp2_with fail
        refine HSKIP.out.mono ?_; rintro e w6 ⟨rfl, hp6, hb6b, hw6⟩
        have HP6 := Lib.hid hp6
        have HB6 := Lib.hid (HBW.out.trans (hb6b.mono hgle))
        have hsz6 : hb ≤ w6.heap.size := by
          have := (row_parts HRW.out).2.1
          have := hw6.size
          omega
        clear hp6 hb6b hw6
        go_wp2_with (at_make; refine wpList_make_full _ rfl _ _ 29 rfl w6.heap.size 3 i0 _ 1 Try.underlying29 hi hz0 hz1 _ _ _ _ 8 rfl rfl rfl rfl (by rw [hz2]; omega) (by unfold maxLen; omega) (Nat.le_refl _) ?_; intro w7 hown hg7; have hown1 := made_row 8 hown; have hb7 : Below w6.heap.size w6 w7 := (Below.refl _ _).grown hg7 (Nat.le_refl _) (by intro k hk; cases hk); have HO1 := Lib.hid hown1; have HB7 := Lib.hid hb7; have hx7 := (((HB6.out.trans (hb7.mono HB6.out.size))).cell (p := ⟨b2, off2 + 7, none⟩) HGW.out).trans q7; have hc7 := row_cell hown1 rfl 7 (by omega); have hf7 := World.ownsRow.frozenAt hown1 7; clear hown hg7 hown1 hb7)
        have hw8 := (Wr.refl w6.heap.size (w6.heap.size + 1) w7).at 7 (.int .i64 G7)
        have HO8 := Lib.hid (row_lower (out_row8 (k := 7) (x := G7) HO1.out) hsz6)
        have HP8 := Lib.hid (PN.far5 (HP6.out.step HB7.out) hw8 (by omega) (fun b o n' c' hv => Nat.lt_of_lt_of_le (HVX.out b o n' c' hv) hsz6))
        have HB8 : Hid (Below w.heap.size w (w7.setCell ⟨w6.heap.size, 7, none⟩ (.int .i64 G7))) := (HB6.out.trans (HB7.out.mono HB6.out.size)).trans (hw8.below HB6.out.size (Nat.le_trans HB6.out.size HB7.out.size))
        clear hw8
        generalize w7.setCell ⟨w6.heap.size, 7, none⟩ (.int .i64 G7) = w8 at HO8 HP8 HB8 ⊢
        obtain ⟨C2, hC2⟩ : ∃ C2, (List.replicate 8 (0 : Int)).set 7 G7 = C2 := ⟨_, rfl⟩
        have HCT2 : Hid (CrD gr 7 false (fun _ => 0) C2) := by show CrD _ _ _ _ _; rw [← hC2, ← HG7.out]; exact CrD.new (by omega)
        rw [hC2] at HO8
        clear hC2 hx7 hc7 hf7 q7 HO1 HB7
        clear HRW hb8
        generalize w6.heap.size = b8 at HO8 hsz6 ⊢
        obtain ⟨c8, hc8⟩ : ∃ x : Nat, 8 = x := ⟨8, rfl⟩
        have hb8 : hb ≤ b8 := hsz6
        clear hc8 c8
        have HFC := Lib.hid (prFirst_any g _ vs1 js sp T dn ((7 : Nat) : Int) w8 HP8.out HSL.out (by rw [HN.out]; exact hnn))
        have HFE := Lib.hid (HMOD.out.firstC HJ.out T 7)
        rw [← HFE.out] at HFC
        have HC1 := Lib.hid (crB_bd (gr := gr) (tb := false) HGB.out htn HCB2.out)
        have ct := HCT2.out.2 7 htn
        have cX := HCT2.out.2 6 hX8
        have c1t := HC1.out 7 htn
        have c1X := HC1.out 6 hX8
        have gX := HGB.out 6 hX8
        have gcX := HGC.out 6 hX8
        have HCL := HCT2.out.1
        cases ho : firstC T 7 l with
        | none =>
          rw [ho] at HFC
          have HRN : Hid (R = runT gr prL ff1 T l out 6 false (setC (crB gr 7 false (fun _ => 0)) 7 0)) := by
            show _ = _
            rw [HEQ.out, stepR_none ho, HX.out]
          have HFN : Hid (FuN ff1 T l 6 false (setC (crB gr 7 false (fun _ => 0)) 7 0)) := by
            have h9 := FuN.on (pr := prL) (cr' := setC (crB gr 7 false (fun _ => 0)) 7 0) HFUN.out HGB.out htn (fun k hk hw => by have := HOKJ.out k hk (isW_t.1 hw).1; omega) (fun k hk hw => by have := HOKJ.out k hk (isW_t.1 hw).1; show l[k]!.l ≤ 20; omega) (.inl ⟨ho, rfl⟩)
            rw [HX.out] at h9
            exact h9
          have HCT3 := Lib.hid (HCT2.out.none htn hX8)
          have hbn : bI none = -1 := rfl
          unfold RetFst at HFC
          rw [hbn] at HFC
          clear ho hbn
          go_wp2_with fail
          refine HFC.out.mono ?_; rintro e w9a ⟨rfl, hb9a⟩
          go_wp2_with fail
          go_quiet (fail)
          obtain ⟨w9, hw9⟩ : ∃ w9, w9a.drewN nq = w9 := ⟨_, rfl⟩
          have hb9 : Below w8.heap.size w8 w9 := by rw [← hw9]; exact below_drewN hb9a _
          rw [hw9]
          clear hw9 hb9a
          have hs9 := (row_parts HO8.out).2.1
          have ho9 := row_far HO8.out (Wr.of_below hb9 w8.heap.size w8.heap.size) (.inl hs9)
          have hp9 := HP8.out.step hb9
          have hB9 := HB8.out.trans (hb9.mono HB8.out.size)
          have fz9 := World.ownsRow.frozenAt ho9 7
          have cc9 := row_cell ho9 HCL 7 htn
          have hwa := (Wr.refl b8 (b8 + 1) w9).at 7 (.int .i64 0)
          have hoa := out_row8 (k := 7) (x := 0) ho9
          have hpa := PN.far5 hp9 hwa (by omega) (fun b o n' c' hv => Nat.lt_of_lt_of_le (HVX.out b o n' c' hv) hb8)
          have hBa := hB9.setCell (p := ⟨b8, 7, none⟩) (by show w.heap.size ≤ b8; omega) (.int .i64 0)
          have fza := World.ownsRow.frozenAt hoa 6
          have cca := row_cell hoa (by rw [List.length_set]; exact HCL) 6 hX8
          have xca := (hBa.cell (p := ⟨b2, off2 + 6, none⟩) HGW.out).trans gcX
          have cXb : 0 ≤ (C2.set 7 0).getD 6 0 ∧ (C2.set 7 0).getD 6 0 ≤ 200000 := by
            rw [getD_set _ _ _ _ (by rw [HCL]; exact htn)]
            split
            · omega
            · rw [cX]; omega
          obtain ⟨VX, hVX⟩ : ∃ x, (C2.set 7 0).getD 6 0 = x := ⟨_, rfl⟩
          obtain ⟨GX, hGX⟩ : ∃ x, gr.getD 6 0 = x := ⟨_, rfl⟩
          rw [hVX] at cca cXb HCT3
          rw [hGX] at xca gX HCT3
          have eS : IntKind.i64.wrap (VX + GX) = VX + GX := IntWalk.i64_in _ (by omega)
          have HOA := Lib.hid (out_row8 (k := 6) (x := VX + GX) hoa)
          have HPA := Lib.hid (PN.far5 hpa ((Wr.refl b8 (b8 + 1) _).at 6 (.int .i64 (VX + GX))) (by omega) (fun b o n' c' hv => Nat.lt_of_lt_of_le (HVX.out b o n' c' hv) hb8))
          have HBA := Lib.hid (hBa.setCell (p := ⟨b8, 6, none⟩) (by show w.heap.size ≤ b8; omega) (.int .i64 (VX + GX)))
          clear hb9 hs9 ho9 hp9 hB9 hwa hoa hpa hBa hVX hGX ct cX c1t c1X gcX HCL
          go_wp2_with fail
          go_region
          all_goals
            go_wp2_with fail
            go_roundg ff1
            case rel => exact ⟨T, l, sp, out, 6, false, _, _, b8, 8, rfl, rfl, HMOD.out, HRN, hT0, HT2.out, hX8, by have := HFF.out; omega, HC1.out.set htn (Int.le_refl _) (HC1.out _ htn).1, Fu.norm HFN.out HIDM.out, HCT3.out, hb8, HOA.out, by rw [HDN.out]; exact HPA.out.drewN 1, HBA.out.drew⟩
            case measure => omega
        | some i =>
          rw [ho] at HFC
          obtain ⟨i1, i2, i3⟩ := firstC_some ho
          have hin : i < n := by have := HMOD.out.left.1; have := HN.out; omega
          have hii : (i : Int) < (n : Int) := by omega
          have hi0 : ¬ ((i : Int) < 0) := by omega
          have hi1 : (0 : Int) ≤ (i : Int) := by omega
          have hbn : bI (some i) = (i : Int) := rfl
          unfold RetFst at HFC
          rw [hbn] at HFC
          have HON : Hid (crB gr 7 false (fun _ => 0) 7 < prL l[i]! → FuN ff1 T l 6 false (crB gr 7 false (fun _ => 0)) ∧ R = runT gr prL ff1 T l out 6 false (crB gr 7 false (fun _ => 0))) := fun h9 => by
            have h8 := FuN.on (pr := prL) (cr' := crB gr 7 false (fun _ => 0)) HFUN.out HGB.out htn (fun k hk hw => by have := HOKJ.out k hk (isW_t.1 hw).1; omega) (fun k hk hw => by have := HOKJ.out k hk (isW_t.1 hw).1; show l[k]!.l ≤ 20; omega) (.inr ⟨i, ho, h9, rfl⟩)
            rw [HX.out] at h8
            refine ⟨h8, ?_⟩
            rw [HEQ.out, stepR_on ho h9, HX.out]
          have HGO : Hid (prL l[i]! ≤ crB gr 7 false (fun _ => 0) 7 → R = runT gr prL ff1 (T + l[i]!.l) (l.set i jbZ) (out.set i T) 7 true (setC (crB gr 7 false (fun _ => 0)) 7 (crB gr 7 false (fun _ => 0) 7 - prL l[i]!))) := fun h9 => by
            rw [HEQ.out, stepR_go (pr := prL) ho h9]
          have hlpos : 1 ≤ l[i]!.l := by have := HOKJ.out i i1 (isW_t.1 i2).1; omega
          have HFG : Hid (prL l[i]! ≤ crB gr 7 false (fun _ => 0) 7 → ∀ T', Fu ff1 T' (l.set i jbZ) 7 true (setC (crB gr 7 false (fun _ => 0)) 7 (crB gr 7 false (fun _ => 0) 7 - prL l[i]!))) := fun h9 T' =>
            FuN.begin2 HFUN.out HFST.out i1 (isW_t.1 i2).1 (fun k hk hj => by have := (HOKJ.out.set i i1) k (by rw [List.length_set]; exact hk) hj; omega) (fun c hc => by
              by_cases e : c = 7
              · subst e; rw [setC_same]; omega
              · rw [setC_ne _ _ e]; exact (HC1.out c hc).1)
          have HLI : Hid (l[i]! = js[i]!) := HMOD.out.left.is (by rw [HN.out]; exact hin) (isW_t.1 i2).1
          have HPL : Hid (prL l[i]! = js[i]!.l) := by show _ = _; rw [HLI.out]; rfl
          have HCNT : Hid (cntJ l = cntJ (l.set i jbZ) + 1) := cntJ_set i1 (isW_t.1 i2).1
          have HMD := Lib.hid (HMOD.out.put i (by rw [HN.out]; exact hin) T hT0)
          have lb := HTK.out i hin
          obtain ⟨bj, offj, hAA, hbj, _, _, j2⟩ := HJC.out i hin
          subst hAA
          clear ho hbn i1 i2 i3 hlpos
          obtain ⟨LL, hLL⟩ : ∃ x, js[i]!.l = x := ⟨_, rfl⟩
          have HLL2 := Lib.hid hLL
          rw [hLL] at lb j2
          obtain ⟨CT, hCT⟩ : ∃ x, C2.getD 7 0 = x := ⟨_, rfl⟩
          have HCTE : Hid (CT = crB gr 7 false (fun _ => 0) 7) := by show _ = _; rw [← hCT]; exact ct
          have HCTV := Lib.hid hCT
          have ctb : 0 ≤ CT ∧ CT ≤ 200000 := by rw [← hCT, ct]; omega
          clear hLL
          go_wp2_with fail
          refine HFC.out.mono ?_; rintro e w9a ⟨rfl, hb9a⟩
          have hs9a := (row_parts HO8.out).2.1
          have ho9a := row_far HO8.out (Wr.of_below hb9a w8.heap.size w8.heap.size) (.inl hs9a)
          have cc9a := row_cell ho9a HCL 7 htn
          rw [hCT] at cc9a
          have cj9a := ((HB8.out.trans (hb9a.mono HB8.out.size)).cell (p := ⟨bj, offj + i * 3 + 2, none⟩) hbj).trans j2
          clear ho9a hCT
          go_wp2_with fail
          by_cases hle : LL ≤ CT
          · have HRN := Lib.hid (HGO.out (by rw [HPL.out, HLL2.out, ← HCTE.out]; exact hle))
            have HFG2 := Lib.hid (HFG.out (by rw [HPL.out, HLL2.out, ← HCTE.out]; exact hle))
            have HPV : Hid (prL l[i]! = LL) := HPL.out.trans HLL2.out
            rw [HPV.out] at HRN HFG2
            have HLE := Lib.hid hle
            go_quiet (fail)
            obtain ⟨w9, hw9⟩ : ∃ w9, w9a.drewN nq = w9 := ⟨_, rfl⟩
            have hb9 : Below w8.heap.size w8 w9 := by rw [← hw9]; exact below_drewN hb9a _
            rw [hw9]
            clear hw9 hb9a cc9a cj9a
            have ho9 := row_far HO8.out (Wr.of_below hb9 w8.heap.size w8.heap.size) (.inl hs9a)
            have hp9 := HP8.out.step hb9
            have hB9 := HB8.out.trans (hb9.mono HB8.out.size)
            have fz9 := World.ownsRow.frozenAt ho9 7
            have cc9 := row_cell ho9 HCL 7 htn
            rw [HCTV.out] at cc9
            have cj9 := (hB9.cell (p := ⟨bj, offj + i * 3 + 2, none⟩) hbj).trans j2
            have eS : IntKind.i64.wrap (CT - LL) = CT - LL := IntWalk.i64_in _ (by omega)
            have hwa := (Wr.refl b8 (b8 + 1) w9).at 7 (.int .i64 (CT - LL))
            have HOA := Lib.hid (out_row8 (k := 7) (x := CT - LL) ho9)
            have HPA := Lib.hid (PN.far5 hp9 hwa (by omega) (fun b o n' c' hv => Nat.lt_of_lt_of_le (HVX.out b o n' c' hv) hb8))
            have HBA := Lib.hid (hB9.setCell (p := ⟨b8, 7, none⟩) (by show w.heap.size ≤ b8; omega) (.int .i64 (CT - LL)))
            clear hb9 ho9 hp9 hB9 hwa
            have HBEG := Lib.hid (prBeginW_any g _ vs1 js sp T dn i (w9.setCell ⟨b8, 7, none⟩ (.int .i64 (CT - LL))).drew (HPA.out.drewN 1) (by rw [HN.out]; exact hin) HSL.out (by rw [HN.out]; exact hnn) (by omega) (by omega) (by rw [HLL2.out]; omega) hb hb3g HVX.out)
            have hxb : crB gr 7 false (fun _ => 0) 7 = CT := HCTE.out.symm
            have HCB3 : Hid (Cb ff1 (setC (crB gr 7 false (fun _ => 0)) 7 (crB gr 7 false (fun _ => 0) 7 - LL))) := HC1.out.set htn (by rw [hxb]; omega) (by omega)
            have HCT3 : Hid (CrD gr 7 true (setC (crB gr 7 false (fun _ => 0)) 7 (crB gr 7 false (fun _ => 0) 7 - LL)) (C2.set 7 (CT - LL))) := by
              have h9 := HCT2.out.take htn LL
              rw [HCTV.out] at h9
              exact h9
            clear hxb ct cX c1t c1X gcX HCL hs9a
            go_wp2_with fail
            go_region
            all_goals
              go_wp2_with fail
              refine HBEG.out.mono ?_; rintro e w10 ⟨rfl, hp10, hb10, hw10⟩
              have HP10 := Lib.hid hp10
              have HB10 : Hid (Below w.heap.size w w10) := HBA.out.drew.trans (hb10.mono hgle)
              have HO10 : Hid (w10.ownsRow hb 3 1 (.slice (some ⟨b8, 0, none⟩) 8 8) 8 (ics (C2.set 7 (CT - LL)))) := row_far (show World.ownsRow (w9.setCell ⟨b8, 7, none⟩ (.int .i64 (CT - LL))).drew hb 3 1 (.slice (some ⟨b8, 0, none⟩) 8 8) 8 (ics (C2.set 7 (CT - LL))) from HOA.out) hw10 (.inr hb8)
              clear hp10 hb10 hw10
              go_wp2_with fail
              go_roundg ff1
              case rel =>
                have hlI := HLI.out
                have hcI := HCNT.out
                have hdI := HDN.out
                have hLI := HLL2.out
                refine ⟨T + js[i]!.l, l.set i jbZ, sp.set i T, out.set i T, 7, true, _, _, b8, 8, rfl, rfl, HMD.out, ?_, by omega, by omega, htn, by have := HFF.out; omega, HCB3.out, HFG2.out _, HCT3.out, hb8, HO10.out, ?_, HB10.out⟩
                · rw [← hlI]; exact HRN
                · have e9 : dn + 1 = (n : Int) - (cntJ (l.set i jbZ) : Int) := by omega
                  rw [← e9]; exact HP10.out
              case measure => omega
          · obtain ⟨hfn, hrn⟩ := HON.out (by rw [HPL.out, HLL2.out, ← HCTE.out]; omega)
            have HFN := Lib.hid hfn
            have HRN := Lib.hid hrn
            have hled : decide (LL ≤ CT) = false := decide_eq_false hle
            have HCT3 := Lib.hid (HCT2.out.on hX8)
            clear hfn hrn
            go_quiet (fail)
            obtain ⟨w9, hw9⟩ : ∃ w9, w9a.drewN nq = w9 := ⟨_, rfl⟩
            have hb9 : Below w8.heap.size w8 w9 := by rw [← hw9]; exact below_drewN hb9a _
            rw [hw9]
            clear hw9 hb9a cc9a cj9a hle hled
            have ho9 := row_far HO8.out (Wr.of_below hb9 w8.heap.size w8.heap.size) (.inl hs9a)
            have hp9 := HP8.out.step hb9
            have hB9 := HB8.out.trans (hb9.mono HB8.out.size)
            have fza := World.ownsRow.frozenAt ho9 6
            have cca := row_cell ho9 HCL 6 hX8
            have xca := (hB9.cell (p := ⟨b2, off2 + 6, none⟩) HGW.out).trans gcX
            have cXb : 0 ≤ C2.getD 6 0 ∧ C2.getD 6 0 ≤ 200000 := by rw [cX]; omega
            obtain ⟨VX, hVX⟩ : ∃ x, C2.getD 6 0 = x := ⟨_, rfl⟩
            obtain ⟨GX, hGX⟩ : ∃ x, gr.getD 6 0 = x := ⟨_, rfl⟩
            rw [hVX] at cca cXb HCT3
            rw [hGX] at xca gX HCT3
            have eS : IntKind.i64.wrap (VX + GX) = VX + GX := IntWalk.i64_in _ (by omega)
            have HOA := Lib.hid (out_row8 (k := 6) (x := VX + GX) ho9)
            have HPA := Lib.hid (PN.far5 hp9 ((Wr.refl b8 (b8 + 1) w9).at 6 (.int .i64 (VX + GX))) (by omega) (fun b o n' c' hv => Nat.lt_of_lt_of_le (HVX.out b o n' c' hv) hb8))
            have HBA := Lib.hid (hB9.setCell (p := ⟨b8, 6, none⟩) (by show w.heap.size ≤ b8; omega) (.int .i64 (VX + GX)))
            clear hb9 ho9 hp9 hB9 hVX hGX ct cX c1t c1X gcX HCL hs9a
            go_wp2_with fail
            go_region
            all_goals
              go_wp2_with fail
              go_roundg ff1
              case rel => exact ⟨T, l, sp, out, 6, false, _, _, b8, 8, rfl, rfl, HMOD.out, HRN, hT0, HT2.out, hX8, by have := HFF.out; omega, HC1.out, Fu.norm HFN.out HIDM.out, HCT3.out, hb8, HOA.out, by rw [HDN.out]; exact HPA.out.drewN 1, HBA.out.drew⟩
              case measure => omega
      · have hdummy : True := trivial
        clear hdummy
        obtain ⟨rfl, rfl, rfl⟩ := HNNO.out hskp
        have hsd : decide (now < T) = false := decide_eq_false hskp
        have HCT2 : Hid (CrD gr tn bn cn C) := HCT.out
        have htn : tn < 8 := HTX2.out
        have htni : ((tn : Nat) : Int) < 8 := by omega
        rw [hsd] at HSKIP
        clear hskp hsd HNY HNNO HCT
        have hgle : w.heap.size ≤ g := by omega
        have hm : ((tn : Int) + 7).tmod 8 = ((nextC tn : Nat) : Int) := by
          unfold nextC
          rw [Int.tmod_eq_emod_of_nonneg (by omega)]
          omega
        obtain ⟨X, hX⟩ : ∃ X : Nat, nextC tn = X := ⟨_, rfl⟩
        have hX8 : X < 8 := by rw [← hX]; exact nextC_lt _
        rw [hX] at hm
        have HX := Lib.hid hX
        have e1 : IntKind.i64.wrap ((tn : Int) + 7) = (tn : Int) + 7 := IntWalk.i64_in _ (by omega)
        have e2 : IntKind.i64.wrap (X : Int) = (X : Int) := IntWalk.i64_in _ (by omega)
        have hXi : (X : Int) < 8 := by omega
        clear hX
        go_wp2_with fail
        refine HSKIP.out.mono ?_; rintro e w8 ⟨rfl, hp8, hb8b, hw8⟩
        have HP8 := Lib.hid hp8
        have HB8 := Lib.hid (HBW.out.trans (hb8b.mono hgle))
        have HO8 := Lib.hid (row_far HRW.out hw8 (.inr (by omega)))
        clear hp8 hb8b hw8
        have HFC := Lib.hid (prFirst_any g _ vs1 js sp T dn ((tn : Nat) : Int) w8 HP8.out HSL.out (by rw [HN.out]; exact hnn))
        have HFE := Lib.hid (HMOD.out.firstC HJ.out T tn)
        rw [← HFE.out] at HFC
        have HC1 := Lib.hid (crB_bd (gr := gr) (tb := bn) HGB.out htn HCB2.out)
        have ct := HCT2.out.2 tn htn
        have cX := HCT2.out.2 X hX8
        have c1t := HC1.out tn htn
        have c1X := HC1.out X hX8
        have gX := HGB.out X hX8
        have gcX := HGC.out X hX8
        have HCL := HCT2.out.1
        cases ho : firstC T tn l with
        | none =>
          rw [ho] at HFC
          have HRN : Hid (R = runT gr prL ff1 T l out X false (setC (crB gr tn bn cn) tn 0)) := by
            show _ = _
            rw [HEQ.out, stepR_none ho, HX.out]
          have HFN : Hid (FuN ff1 T l X false (setC (crB gr tn bn cn) tn 0)) := by
            have h9 := FuN.on (pr := prL) (cr' := setC (crB gr tn bn cn) tn 0) HFUN.out HGB.out htn (fun k hk hw => by have := HOKJ.out k hk (isW_t.1 hw).1; omega) (fun k hk hw => by have := HOKJ.out k hk (isW_t.1 hw).1; show l[k]!.l ≤ 20; omega) (.inl ⟨ho, rfl⟩)
            rw [HX.out] at h9
            exact h9
          have HCT3 := Lib.hid (HCT2.out.none htn hX8)
          have hbn : bI none = -1 := rfl
          unfold RetFst at HFC
          rw [hbn] at HFC
          clear ho hbn
          go_wp2_with fail
          refine HFC.out.mono ?_; rintro e w9a ⟨rfl, hb9a⟩
          go_wp2_with fail
          go_quiet (fail)
          obtain ⟨w9, hw9⟩ : ∃ w9, w9a.drewN nq = w9 := ⟨_, rfl⟩
          have hb9 : Below w8.heap.size w8 w9 := by rw [← hw9]; exact below_drewN hb9a _
          rw [hw9]
          clear hw9 hb9a
          have hs9 := (row_parts HO8.out).2.1
          have ho9 := row_far HO8.out (Wr.of_below hb9 w8.heap.size w8.heap.size) (.inl hs9)
          have hp9 := HP8.out.step hb9
          have hB9 := HB8.out.trans (hb9.mono HB8.out.size)
          have fz9 := World.ownsRow.frozenAt ho9 tn
          have cc9 := row_cell ho9 HCL tn htn
          have hwa := (Wr.refl b8 (b8 + 1) w9).at tn (.int .i64 0)
          have hoa := out_row8 (k := tn) (x := 0) ho9
          have hpa := PN.far5 hp9 hwa (by omega) (fun b o n' c' hv => Nat.lt_of_lt_of_le (HVX.out b o n' c' hv) hb8)
          have hBa := hB9.setCell (p := ⟨b8, tn, none⟩) (by show w.heap.size ≤ b8; omega) (.int .i64 0)
          have fza := World.ownsRow.frozenAt hoa X
          have cca := row_cell hoa (by rw [List.length_set]; exact HCL) X hX8
          have xca := (hBa.cell (p := ⟨b2, off2 + X, none⟩) HGW.out).trans gcX
          have cXb : 0 ≤ (C.set tn 0).getD X 0 ∧ (C.set tn 0).getD X 0 ≤ 200000 := by
            rw [getD_set _ _ _ _ (by rw [HCL]; exact htn)]
            split
            · omega
            · rw [cX]; omega
          obtain ⟨VX, hVX⟩ : ∃ x, (C.set tn 0).getD X 0 = x := ⟨_, rfl⟩
          obtain ⟨GX, hGX⟩ : ∃ x, gr.getD X 0 = x := ⟨_, rfl⟩
          rw [hVX] at cca cXb HCT3
          rw [hGX] at xca gX HCT3
          have eS : IntKind.i64.wrap (VX + GX) = VX + GX := IntWalk.i64_in _ (by omega)
          have HOA := Lib.hid (out_row8 (k := X) (x := VX + GX) hoa)
          have HPA := Lib.hid (PN.far5 hpa ((Wr.refl b8 (b8 + 1) _).at X (.int .i64 (VX + GX))) (by omega) (fun b o n' c' hv => Nat.lt_of_lt_of_le (HVX.out b o n' c' hv) hb8))
          have HBA := Lib.hid (hBa.setCell (p := ⟨b8, X, none⟩) (by show w.heap.size ≤ b8; omega) (.int .i64 (VX + GX)))
          clear hb9 hs9 ho9 hp9 hB9 hwa hoa hpa hBa hVX hGX ct cX c1t c1X gcX HCL
          go_wp2_with fail
          go_region
          all_goals
            go_wp2_with fail
            go_roundg ff1
            case rel => exact ⟨T, l, sp, out, X, false, _, _, b8, c8, rfl, rfl, HMOD.out, HRN, hT0, HT2.out, hX8, by have := HFF.out; omega, HC1.out.set htn (Int.le_refl _) (HC1.out _ htn).1, Fu.norm HFN.out HIDM.out, HCT3.out, hb8, HOA.out, by rw [HDN.out]; exact HPA.out.drewN 1, HBA.out.drew⟩
            case measure => omega
        | some i =>
          rw [ho] at HFC
          obtain ⟨i1, i2, i3⟩ := firstC_some ho
          have hin : i < n := by have := HMOD.out.left.1; have := HN.out; omega
          have hii : (i : Int) < (n : Int) := by omega
          have hi0 : ¬ ((i : Int) < 0) := by omega
          have hi1 : (0 : Int) ≤ (i : Int) := by omega
          have hbn : bI (some i) = (i : Int) := rfl
          unfold RetFst at HFC
          rw [hbn] at HFC
          have HON : Hid (crB gr tn bn cn tn < prL l[i]! → FuN ff1 T l X false (crB gr tn bn cn) ∧ R = runT gr prL ff1 T l out X false (crB gr tn bn cn)) := fun h9 => by
            have h8 := FuN.on (pr := prL) (cr' := crB gr tn bn cn) HFUN.out HGB.out htn (fun k hk hw => by have := HOKJ.out k hk (isW_t.1 hw).1; omega) (fun k hk hw => by have := HOKJ.out k hk (isW_t.1 hw).1; show l[k]!.l ≤ 20; omega) (.inr ⟨i, ho, h9, rfl⟩)
            rw [HX.out] at h8
            refine ⟨h8, ?_⟩
            rw [HEQ.out, stepR_on ho h9, HX.out]
          have HGO : Hid (prL l[i]! ≤ crB gr tn bn cn tn → R = runT gr prL ff1 (T + l[i]!.l) (l.set i jbZ) (out.set i T) tn true (setC (crB gr tn bn cn) tn (crB gr tn bn cn tn - prL l[i]!))) := fun h9 => by
            rw [HEQ.out, stepR_go (pr := prL) ho h9]
          have hlpos : 1 ≤ l[i]!.l := by have := HOKJ.out i i1 (isW_t.1 i2).1; omega
          have HFG : Hid (prL l[i]! ≤ crB gr tn bn cn tn → ∀ T', Fu ff1 T' (l.set i jbZ) tn true (setC (crB gr tn bn cn) tn (crB gr tn bn cn tn - prL l[i]!))) := fun h9 T' =>
            FuN.begin2 HFUN.out HFST.out i1 (isW_t.1 i2).1 (fun k hk hj => by have := (HOKJ.out.set i i1) k (by rw [List.length_set]; exact hk) hj; omega) (fun c hc => by
              by_cases e : c = tn
              · subst e; rw [setC_same]; omega
              · rw [setC_ne _ _ e]; exact (HC1.out c hc).1)
          have HLI : Hid (l[i]! = js[i]!) := HMOD.out.left.is (by rw [HN.out]; exact hin) (isW_t.1 i2).1
          have HPL : Hid (prL l[i]! = js[i]!.l) := by show _ = _; rw [HLI.out]; rfl
          have HCNT : Hid (cntJ l = cntJ (l.set i jbZ) + 1) := cntJ_set i1 (isW_t.1 i2).1
          have HMD := Lib.hid (HMOD.out.put i (by rw [HN.out]; exact hin) T hT0)
          have lb := HTK.out i hin
          obtain ⟨bj, offj, hAA, hbj, _, _, j2⟩ := HJC.out i hin
          subst hAA
          clear ho hbn i1 i2 i3 hlpos
          obtain ⟨LL, hLL⟩ : ∃ x, js[i]!.l = x := ⟨_, rfl⟩
          have HLL2 := Lib.hid hLL
          rw [hLL] at lb j2
          obtain ⟨CT, hCT⟩ : ∃ x, C.getD tn 0 = x := ⟨_, rfl⟩
          have HCTE : Hid (CT = crB gr tn bn cn tn) := by show _ = _; rw [← hCT]; exact ct
          have HCTV := Lib.hid hCT
          have ctb : 0 ≤ CT ∧ CT ≤ 200000 := by rw [← hCT, ct]; omega
          clear hLL
          go_wp2_with fail
          refine HFC.out.mono ?_; rintro e w9a ⟨rfl, hb9a⟩
          have hs9a := (row_parts HO8.out).2.1
          have ho9a := row_far HO8.out (Wr.of_below hb9a w8.heap.size w8.heap.size) (.inl hs9a)
          have cc9a := row_cell ho9a HCL tn htn
          rw [hCT] at cc9a
          have cj9a := ((HB8.out.trans (hb9a.mono HB8.out.size)).cell (p := ⟨bj, offj + i * 3 + 2, none⟩) hbj).trans j2
          clear ho9a hCT
          go_wp2_with fail
          by_cases hle : LL ≤ CT
          · have HRN := Lib.hid (HGO.out (by rw [HPL.out, HLL2.out, ← HCTE.out]; exact hle))
            have HFG2 := Lib.hid (HFG.out (by rw [HPL.out, HLL2.out, ← HCTE.out]; exact hle))
            have HPV : Hid (prL l[i]! = LL) := HPL.out.trans HLL2.out
            rw [HPV.out] at HRN HFG2
            have HLE := Lib.hid hle
            go_quiet (fail)
            obtain ⟨w9, hw9⟩ : ∃ w9, w9a.drewN nq = w9 := ⟨_, rfl⟩
            have hb9 : Below w8.heap.size w8 w9 := by rw [← hw9]; exact below_drewN hb9a _
            rw [hw9]
            clear hw9 hb9a cc9a cj9a
            have ho9 := row_far HO8.out (Wr.of_below hb9 w8.heap.size w8.heap.size) (.inl hs9a)
            have hp9 := HP8.out.step hb9
            have hB9 := HB8.out.trans (hb9.mono HB8.out.size)
            have fz9 := World.ownsRow.frozenAt ho9 tn
            have cc9 := row_cell ho9 HCL tn htn
            rw [HCTV.out] at cc9
            have cj9 := (hB9.cell (p := ⟨bj, offj + i * 3 + 2, none⟩) hbj).trans j2
            have eS : IntKind.i64.wrap (CT - LL) = CT - LL := IntWalk.i64_in _ (by omega)
            have hwa := (Wr.refl b8 (b8 + 1) w9).at tn (.int .i64 (CT - LL))
            have HOA := Lib.hid (out_row8 (k := tn) (x := CT - LL) ho9)
            have HPA := Lib.hid (PN.far5 hp9 hwa (by omega) (fun b o n' c' hv => Nat.lt_of_lt_of_le (HVX.out b o n' c' hv) hb8))
            have HBA := Lib.hid (hB9.setCell (p := ⟨b8, tn, none⟩) (by show w.heap.size ≤ b8; omega) (.int .i64 (CT - LL)))
            clear hb9 ho9 hp9 hB9 hwa
            have HBEG := Lib.hid (prBeginW_any g _ vs1 js sp T dn i (w9.setCell ⟨b8, tn, none⟩ (.int .i64 (CT - LL))).drew (HPA.out.drewN 1) (by rw [HN.out]; exact hin) HSL.out (by rw [HN.out]; exact hnn) (by omega) (by omega) (by rw [HLL2.out]; omega) hb hb3g HVX.out)
            have hxb : crB gr tn bn cn tn = CT := HCTE.out.symm
            have HCB3 : Hid (Cb ff1 (setC (crB gr tn bn cn) tn (crB gr tn bn cn tn - LL))) := HC1.out.set htn (by rw [hxb]; omega) (by omega)
            have HCT3 : Hid (CrD gr tn true (setC (crB gr tn bn cn) tn (crB gr tn bn cn tn - LL)) (C.set tn (CT - LL))) := by
              have h9 := HCT2.out.take htn LL
              rw [HCTV.out] at h9
              exact h9
            clear hxb ct cX c1t c1X gcX HCL hs9a
            go_wp2_with fail
            go_region
            all_goals
              go_wp2_with fail
              refine HBEG.out.mono ?_; rintro e w10 ⟨rfl, hp10, hb10, hw10⟩
              have HP10 := Lib.hid hp10
              have HB10 : Hid (Below w.heap.size w w10) := HBA.out.drew.trans (hb10.mono hgle)
              have HO10 : Hid (w10.ownsRow hb 3 1 (.slice (some ⟨b8, 0, none⟩) 8 c8) 8 (ics (C.set tn (CT - LL)))) := row_far (show World.ownsRow (w9.setCell ⟨b8, tn, none⟩ (.int .i64 (CT - LL))).drew hb 3 1 (.slice (some ⟨b8, 0, none⟩) 8 c8) 8 (ics (C.set tn (CT - LL))) from HOA.out) hw10 (.inr hb8)
              clear hp10 hb10 hw10
              go_wp2_with fail
              go_roundg ff1
              case rel =>
                have hlI := HLI.out
                have hcI := HCNT.out
                have hdI := HDN.out
                have hLI := HLL2.out
                refine ⟨T + js[i]!.l, l.set i jbZ, sp.set i T, out.set i T, tn, true, _, _, b8, c8, rfl, rfl, HMD.out, ?_, by omega, by omega, htn, by have := HFF.out; omega, HCB3.out, HFG2.out _, HCT3.out, hb8, HO10.out, ?_, HB10.out⟩
                · rw [← hlI]; exact HRN
                · have e9 : dn + 1 = (n : Int) - (cntJ (l.set i jbZ) : Int) := by omega
                  rw [← e9]; exact HP10.out
              case measure => omega
          · obtain ⟨hfn, hrn⟩ := HON.out (by rw [HPL.out, HLL2.out, ← HCTE.out]; omega)
            have HFN := Lib.hid hfn
            have HRN := Lib.hid hrn
            have hled : decide (LL ≤ CT) = false := decide_eq_false hle
            have HCT3 := Lib.hid (HCT2.out.on hX8)
            clear hfn hrn
            go_quiet (fail)
            obtain ⟨w9, hw9⟩ : ∃ w9, w9a.drewN nq = w9 := ⟨_, rfl⟩
            have hb9 : Below w8.heap.size w8 w9 := by rw [← hw9]; exact below_drewN hb9a _
            rw [hw9]
            clear hw9 hb9a cc9a cj9a hle hled
            have ho9 := row_far HO8.out (Wr.of_below hb9 w8.heap.size w8.heap.size) (.inl hs9a)
            have hp9 := HP8.out.step hb9
            have hB9 := HB8.out.trans (hb9.mono HB8.out.size)
            have fza := World.ownsRow.frozenAt ho9 X
            have cca := row_cell ho9 HCL X hX8
            have xca := (hB9.cell (p := ⟨b2, off2 + X, none⟩) HGW.out).trans gcX
            have cXb : 0 ≤ C.getD X 0 ∧ C.getD X 0 ≤ 200000 := by rw [cX]; omega
            obtain ⟨VX, hVX⟩ : ∃ x, C.getD X 0 = x := ⟨_, rfl⟩
            obtain ⟨GX, hGX⟩ : ∃ x, gr.getD X 0 = x := ⟨_, rfl⟩
            rw [hVX] at cca cXb HCT3
            rw [hGX] at xca gX HCT3
            have eS : IntKind.i64.wrap (VX + GX) = VX + GX := IntWalk.i64_in _ (by omega)
            have HOA := Lib.hid (out_row8 (k := X) (x := VX + GX) ho9)
            have HPA := Lib.hid (PN.far5 hp9 ((Wr.refl b8 (b8 + 1) w9).at X (.int .i64 (VX + GX))) (by omega) (fun b o n' c' hv => Nat.lt_of_lt_of_le (HVX.out b o n' c' hv) hb8))
            have HBA := Lib.hid (hB9.setCell (p := ⟨b8, X, none⟩) (by show w.heap.size ≤ b8; omega) (.int .i64 (VX + GX)))
            clear hb9 ho9 hp9 hB9 hVX hGX ct cX c1t c1X gcX HCL hs9a
            go_wp2_with fail
            go_region
            all_goals
              go_wp2_with fail
              go_roundg ff1
              case rel => exact ⟨T, l, sp, out, X, false, _, _, b8, c8, rfl, rfl, HMOD.out, HRN, hT0, HT2.out, hX8, by have := HFF.out; omega, HC1.out, Fu.norm HFN.out HIDM.out, HCT3.out, hb8, HOA.out, by rw [HDN.out]; exact HPA.out.drewN 1, HBA.out.drew⟩
              case measure => omega
end Go.Proofs.Ytpencgbhiheiiaa
