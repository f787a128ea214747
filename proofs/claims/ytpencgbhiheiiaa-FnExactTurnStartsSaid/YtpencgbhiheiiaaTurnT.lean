/-
  TurnStarts, the model's side.
-/
import Derived.Test.YtpencgbhiheiiaaTurnS
import Derived.Test.YtpencgbhiheiiaaTurnJ
namespace Go.Proofs.Ytpencgbhiheiiaa
open Go.RowKit
set_option maxRecDepth 100000
set_option linter.unusedVariables false

theorem LeftOf.ok' {js l : List Jb} (hA : areJb js = true) (h : LeftOf js l) : JbOk l := by
  intro k hk hj
  have hk' : k < js.length := by rw [← h.1]; exact hk
  rw [h.is hk' hj]
  have := tick_at hA hk'
  omega
theorem nTc_lt' {tick : Int} {l : List Jb} {tc : Nat} (h : tc < 8) : nTc tick l tc < 8 := by unfold nTc; split <;> omega
theorem Cb.norm' {f : Nat} {tick : Int} {l : List Jb} {cr : Nat → Int} (h : Cb f cr) (hf : f ≤ 4000) : Cb f (nCr tick l cr) := by
  unfold nCr
  split
  · exact Cb.zero hf
  · exact h
set_option maxHeartbeats 16000000 in
theorem specTurnStarts_any (v vg : Value) (js : List Jb) (gr : List Int) (w : World) (h : RJbS w w.heap.size v js) (h' : RI w w.heap.size vg gr) (hn : js.length ≤ 1048576) (hn2 : gr.length ≤ 1048576) :
    Calls Try.prog 25 #[v, vg] w (RetLB 3 w (turnOf js gr).1 (turnOf js gr).2) := by
  have HA := Lib.hid (prJobs_any v js w h hn)
  cases hg : areJb js
  · have HF : turnOf js gr = ([], false) := by simp [turnOf, hg]
    rw [HF]
    rw [hg] at HA
    clear hg HF
    go_enter Try.func25, Try.ntmps25
    go_wp2_with fail
    refine HA.out.mono ?_; rintro e w1 ⟨rfl, T⟩
    go_wp2_with fail
    go_ret2
    exact ⟨_, rfl, .inl ⟨rfl, none, 0, rfl, by simp, fun _ => rfl⟩, T⟩
  have HE := Lib.hid (fun (w' : World) (hb : Below w.heap.size w w') => prEight_any vg gr 20 w' ((h'.step hb (Nat.le_refl _)).more hb.size) hn2)
  cases hwa : eightB gr 20
  · have HF : turnOf js gr = ([], false) := by simp [turnOf, hwa]
    rw [HF]
    rw [hg] at HA
    rw [hwa] at HE
    clear hg HF hwa
    go_enter Try.func25, Try.ntmps25
    go_wp2_with fail
    refine HA.out.mono ?_; rintro e w1 ⟨rfl, T⟩
    go_wp2_with fail
    refine (HE.out _ T).mono ?_; rintro e w2 ⟨rfl, rfl⟩
    go_wp2_with fail
    go_ret2
    exact ⟨_, rfl, .inl ⟨rfl, none, 0, rfl, by simp, fun _ => rfl⟩, T⟩
  have HF : turnOf js gr = (inTurnOf pr1 js gr, true) := by simp [turnOf, hg, hwa]
  rw [HF]
  obtain ⟨hgl, hgb0⟩ := eightB_in' hwa
  have hgb : ∀ c, c < 8 → 1 ≤ gr.getD c 0 ∧ gr.getD c 0 ≤ 40 := fun c hc => by have := hgb0 c hc; omega
  have hnn := (areJb_in hg).1
  have HNEW := Lib.hid (fun (w' : World) (hb : Below w.heap.size w w') => prNew_any v js w' ((h.step hb (Nat.le_refl _)).more hb.size) hnn)
  have hisJ := cntJ_all (l := js) (fun y hy => isJ_ok ((areJb_in hg).2.1 y hy).2.2.2.2.1)
  have hv : ∃ A c, v = .slice A js.length c := by obtain ⟨A, c, hv, _⟩ := id h; exact ⟨A, c, hv⟩
  obtain ⟨A, c, rfl⟩ := hv
  have HTK := Lib.hid (fun k (hk : k < js.length) => tick_at hg hk)
  obtain ⟨R, hR⟩ : ∃ R, R = inTurnOf pr1 js gr := ⟨_, rfl⟩
  rw [← hR]
  have HR : Hid (R = runT gr pr1 4000 0 js (List.replicate js.length 0) 7 false (fun _ => 0)) := hR
  have HFU0 := Lib.hid (Fu.start js hg)
  have HMS := Lib.hid (Mod.start js)
  obtain ⟨n, hN⟩ : ∃ n, js.length = n := ⟨_, rfl⟩
  unfold RetNew at HNEW
  have HGX : Hid (∃ A2 c2, vg = .slice A2 8 c2 ∧ ∃ b off, A2 = some ⟨b, off, none⟩ ∧ b < w.heap.size ∧ ∀ k, k < 8 → w.cell? ⟨b, off + k, none⟩ = some (.int .i64 (gr.getD k 0))) := by
    obtain ⟨A2, c2, hv, _, hc⟩ := h'
    obtain ⟨b, off, hA2, hb, hcell⟩ := hc (by omega)
    exact ⟨A2, c2, by rw [hv, hgl], b, off, hA2, hb, fun k hk => hcell k (by omega)⟩
  obtain ⟨A2, c2, rfl, b2, off2, rfl, hb2, hgc⟩ := HGX.out
  rw [hg] at HA
  rw [hwa] at HE
  rw [hN] at hnn HA HNEW HR hisJ HTK HMS ⊢
  have hn' : (n : Int) ≤ 20 := by omega
  have HN := Lib.hid hN
  have HJ := Lib.hid hg
  have HCN := Lib.hid hisJ
  have HGC := Lib.hid hgc
  have HGB := Lib.hid hgb
  have HGL := Lib.hid hgl
  clear h h' hn hn2 hN hg hwa HF hisJ hR hgc hgb hgb0 hgl HGX
  go_enter Try.func25, Try.ntmps25
  go_wp2_with fail
  refine HA.out.mono ?_; rintro e w1 ⟨rfl, T1⟩
  have hT1 := T1.size
  have HT1 := Lib.hid T1
  go_wp2_with fail
  refine (HE.out _ T1).mono ?_; rintro e w2 ⟨rfl, rfl⟩
  go_wp2_with fail
  refine (HNEW.out _ T1).mono ?_; rintro e w3 ⟨vs1, rfl, hp1, hb1⟩
  have HP1 := Lib.hid hp1
  have HB1 := Lib.hid (T1.trans (hb1.mono hT1))
  clear hp1 hb1 T1
  obtain ⟨g, hgw⟩ : ∃ g, w1.heap.size = g := ⟨_, rfl⟩
  rw [hgw] at HP1 hT1 ⊢
  clear hgw
  go_wp2_with fail
  go_loopg [7, 8] 4000 (fun ff x y wr => ∃ (now : Int) (l : List Jb) (sp out : List Int) (vs : Value) (tx : Nat) (bx : Bool) (cx : Nat → Int) (bg : Int), x = .int .i64 tx ∧ y = .int .i64 bg ∧ Mod js l sp out ∧ Hid (R = runT gr pr1 ff now l out tx bx cx) ∧
    0 ≤ now ∧ now + 20 * cntJ l ≤ 1000 + 20 * n ∧ tx < 8 ∧ ff ≤ 4000 ∧ Cb ff cx ∧ Fu ff now l tx bx cx ∧ CrT gr tx bx cx bg ∧ PN wr g (.slice A n c) js vs sp now (n - cntJ l) ∧ Below w.heap.size w wr)
  case atStart => exact ⟨0, js, _, _, vs1, 7, false, fun _ => 0, 0, rfl, rfl, HMS.out, HR, by omega, by rw [HCN.out]; omega, by omega, Nat.le_refl _, Cb.zero (Nat.le_refl _), HFU0.out, CrT.new (HGB.out 7 (by omega)).1 (fun _ _ => rfl) (by omega), by rw [HCN.out, Int.sub_self]; exact HP1.out, HB1.out⟩
  case round =>
    obtain ⟨now, l, sp, out, vs, tx, bx, cx, bg, rfl, rfl, hmod, hr, ht0, ht1, htx, hff, hcb, hfu, hct, hpn, hbw⟩ := hrel
    have hcn : cntJ l ≤ n := by
      have h1 := cntJ_le l
      have h2 := hmod.left.1
      have h3 := HN.out
      omega
    have hgs := hpn.lt
    have c3 := hpn.bk.cell 3
    simp at c3
    have HPN := Lib.hid hpn
    have HBW := Lib.hid hbw
    have HMOD := Lib.hid hmod
    have HCB := Lib.hid hcb
    have HFU := Lib.hid hfu
    have HCT := Lib.hid hct
    have HTX := Lib.hid htx
    have HFF := Lib.hid hff
    have HSL : Hid (sp.length = js.length) := hmod.lsp
    obtain ⟨dn, hdn⟩ : ∃ x, (n : Int) - (cntJ l : Int) = x := ⟨_, rfl⟩
    rw [hdn] at c3
    have HDN := Lib.hid hdn
    have HPN2 : Hid (PN wr g (.slice A n c) js vs sp now dn) := by have := HPN.out; rw [hdn] at this; exact this
    have hdb : 0 ≤ dn ∧ dn ≤ n := by omega
    have hd0 : (cntJ l = 0 ↔ dn = n) := by omega
    clear hmod hcb hfu hct htx hff hpn hbw hdn HPN
    by_cases h0 : cntJ l = 0
    · have hdd : dn = n := hd0.1 h0
      have HOUT : Hid (sp = R) := by
        show _ = _
        rw [HMOD.out.done HJ.out h0]
        have h9 := hr.out
        rw [runT_off _ _ _ _ _ _ _ _ _ h0] at h9
        exact h9.symm
      have c1 := HPN2.out.bk.cell 1
      simp at c1
      have hro := Acc.oi HPN2.out.row
      obtain ⟨A3, c9, hv3, _⟩ := hro.ri
      subst hv3
      have HRO := Lib.hid hro
      subst hdd
      clear hr hro h0 hd0 hcn
      go_wp2_with fail
      go_ret2
      exact ⟨_, rfl, by rw [← HOUT.out]; exact HRO.out.wide (by omega) (Nat.le_refl _), HBW.out⟩
    · have hp : 0 < cntJ l := by omega
      have hdlt : dn < n := by omega
      obtain ⟨u, f0, k0, u1, u2, u3, hT, hfst, hpk, hkl0, hkj0, hT0, hT1b, hbd0⟩ := step_of (rk := rk0) HJ.out HMOD.out.left hp ht0
      have hdj : dn ≠ js.length := by rw [HN.out]; omega
      obtain ⟨hsk, hsb⟩ := HMOD.out.skip HJ.out hp now dn hdj
      have hsb2 := HMOD.out.skipB HJ.out hfst
      have HSKIP := Lib.hid (prSkip_any g _ vs js sp now dn wr HPN2.out HSL.out HJ.out (by rw [HN.out]; omega))
      unfold RetSkip at HSKIP
      rw [hsk, hsb, hsb2] at HSKIP
      obtain ⟨ff1, rfl⟩ := HFU.out.pos hfst
      have HEQ : Hid (R = stepR gr pr1 (runT gr pr1 ff1) (tickOf now l) l out (nTc now l tx) (nTb now l bx) (nCr now l cx)) := by
        show _ = _
        rw [hr.out, runT_on _ _ _ _ _ _ _ _ _ h0]
      have HFUN : Hid (FuN (ff1 + 1) (tickOf now l) l (nTc now l tx) (nTb now l bx) (nCr now l cx)) := HFU.out
      have HTX2 := Lib.hid (nTc_lt' (tick := now) (l := l) HTX.out)
      have HCB2 := Lib.hid (Cb.norm' (tick := now) (l := l) HCB.out HFF.out)
      have HIDM : Hid (tickOf (tickOf now l) l = tickOf now l) := tickOf_idem now
      have HFST := Lib.hid hfst
      have HNY := Lib.hid (fun h9 => norm_yes (now := now) (l := l) h9 tx bx cx)
      have HNNO := Lib.hid (fun h9 => norm_no (now := now) (l := l) h9 tx bx cx)
      have HOKJ := Lib.hid (HMOD.out.left.ok' HJ.out)
      clear hT hpk hkl0 hkj0 hbd0 u1 u2 u3 hsk hsb hsb2 hr hdj hd0 h0 hfst
      generalize tickOf now l = T at HSKIP HEQ HFUN HIDM HFST HNY HNNO hT0 hT1b
      generalize nTc now l tx = tn at HEQ HFUN HTX2 HNY HNNO
      generalize nTb now l bx = bn at HEQ HFUN HNY HNNO
      generalize nCr now l cx = cn at HEQ HFUN HCB2 HNY HNNO
      have hT2 : T + 20 * cntJ l ≤ 1000 + 20 * (n : Int) := by omega
      have HT2 := Lib.hid hT2
      by_cases hskp : now < T
      · have hdummy : True := trivial
        clear hdummy
        obtain ⟨rfl, rfl, rfl⟩ := HNY.out hskp
        have hsd : decide (now < T) = true := decide_eq_true hskp
        have HCT2 : Hid (CrT gr 7 false (fun _ => 0) 0) := CrT.new (HGB.out 7 (by omega)).1 (fun _ _ => rfl) (by omega)
        have htn : 7 < 8 := HTX2.out
        have htni : ((7 : Nat) : Int) < 8 := by omega
        rw [hsd] at HSKIP
        clear hskp hsd HNY HNNO HCT
        have gcell := HGC.out 7 htn
        have HGW := Lib.hid hb2
        have bgb : 0 ≤ (0 : Int) ∧ (0 : Int) ≤ gr.getD 7 0 ∧ gr.getD 7 0 ≤ 40 := ⟨HCT2.out.2.1, HCT2.out.2.2.1, (HGB.out 7 htn).2⟩
        have hm : (((7 : Nat) : Int) + 7).tmod 8 = ((nextC 7 : Nat) : Int) := by
          unfold nextC
          rw [Int.tmod_eq_emod_of_nonneg (by omega)]
          omega
        obtain ⟨X, hX⟩ : ∃ X : Nat, nextC 7 = X := ⟨_, rfl⟩
        have hX8 : X < 8 := by rw [← hX]; exact nextC_lt _
        rw [hX] at hm
        have HX := Lib.hid hX
        have e1 : IntKind.i64.wrap (((7 : Nat) : Int) + 7) = ((7 : Nat) : Int) + 7 := IntWalk.i64_in _ (by omega)
        have e2 : IntKind.i64.wrap (X : Int) = (X : Int) := IntWalk.i64_in _ (by omega)
        clear hX
        go_wp2_with fail
        refine HSKIP.out.mono ?_; rintro e w4 ⟨rfl, hp4, hb4⟩
        have HP4 := Lib.hid hp4
        have hgle : w.heap.size ≤ g := by omega
        have HB4 := Lib.hid (HBW.out.trans (hb4.mono hgle))
        have HFC := Lib.hid (prFirst_any g _ vs js sp T dn ((7 : Nat) : Int) w4 hp4 HSL.out (by rw [HN.out]; exact hnn))
        have HFE := Lib.hid (HMOD.out.firstC HJ.out T 7)
        rw [← HFE.out] at HFC
        clear hp4 hb4
        cases ho : firstC T 7 l with
        | none =>
          rw [ho] at HFC
          have HRN : Hid (R = runT gr pr1 ff1 T l out X false (setC (crB gr 7 false (fun _ => 0)) 7 0)) := by
            show _ = _
            rw [HEQ.out, stepR_none ho, HX.out]
          have HC1 := Lib.hid (crB_bd (gr := gr) (tb := false) HGB.out htn HCB2.out)
          have HFN : Hid (FuN ff1 T l X false (setC (crB gr 7 false (fun _ => 0)) 7 0)) := by
            have h9 := FuN.on (pr := pr1) (cr' := setC (crB gr 7 false (fun _ => 0)) 7 0) HFUN.out HGB.out htn (fun k hk hw => by have := HOKJ.out k hk (isW_t.1 hw).1; omega) (fun k hk hw => by simp [pr1]) (.inl ⟨ho, rfl⟩)
            rw [HX.out] at h9
            exact h9
          have HCT3 : Hid (CrT gr X false (setC (crB gr 7 false (fun _ => 0)) 7 0) 0) := by
            refine CrT.new (HGB.out X hX8).1 (fun c hc => ?_) hX8
            by_cases e : c = 7
            · subst e; exact setC_same _ _ _
            · rw [setC_ne _ _ e]
              have : crB gr 7 false (fun _ => 0) c = (fun _ => 0) c := by unfold crB; split <;> first | rfl | exact setC_ne _ _ e
              rw [this]
              try exact HCT2.out.1 c hc e
          have hbn : bI none = -1 := rfl
          unfold RetFst at HFC
          rw [hbn] at HFC
          clear ho hbn
          go_wp2_with fail
          refine HFC.out.mono ?_; rintro e w5 ⟨rfl, hb5⟩
          have HP5 := Lib.hid (HP4.out.step hb5)
          have HB5 := Lib.hid (HB4.out.trans (hb5.mono HB4.out.size))
          clear hb5
          go_wp2_with fail
          go_roundg ff1
          case rel => exact ⟨T, l, sp, out, vs, X, false, _, 0, by rw [← HX.out]; rfl, rfl, HMOD.out, HRN, hT0, HT2.out, hX8, by have := HFF.out; omega, HC1.out.set htn (Int.le_refl _) (HC1.out _ htn).1, Fu.norm HFN.out HIDM.out, HCT3.out, by rw [HDN.out]; exact HP5.out, HB5.out⟩
          case measure => omega
        | some i =>
          rw [ho] at HFC
          obtain ⟨i1, i2, i3⟩ := firstC_some ho
          have hin : i < n := by have := HMOD.out.left.1; have := HN.out; omega
          have hii : (i : Int) < (n : Int) := by omega
          have hi0 : ¬ ((i : Int) < 0) := by omega
          have hbn : bI (some i) = (i : Int) := rfl
          unfold RetFst at HFC
          rw [hbn] at HFC
          have HC1 := Lib.hid (crB_bd (gr := gr) (tb := false) HGB.out htn HCB2.out)
          have HCE : Hid (crB gr 7 false (fun _ => 0) 7 = gr.getD 7 0 - 0) := HCT2.out.2.2.2.1
          have HON : Hid (crB gr 7 false (fun _ => 0) 7 < 1 → FuN ff1 T l X false (crB gr 7 false (fun _ => 0)) ∧ R = runT gr pr1 ff1 T l out X false (crB gr 7 false (fun _ => 0))) := fun h9 => by
            have h8 := FuN.on (pr := pr1) (cr' := crB gr 7 false (fun _ => 0)) HFUN.out HGB.out htn (fun k hk hw => by have := HOKJ.out k hk (isW_t.1 hw).1; omega) (fun k hk hw => by simp [pr1]) (.inr ⟨i, ho, h9, rfl⟩)
            rw [HX.out] at h8
            refine ⟨h8, ?_⟩
            rw [HEQ.out, stepR_on ho h9, HX.out]
          have HCTN : Hid (crB gr 7 false (fun _ => 0) 7 < 1 → CrT gr X false (crB gr 7 false (fun _ => 0)) 0) := fun h9 => by
            refine CrT.new (HGB.out X hX8).1 (fun c hc => ?_) hX8
            by_cases e : c = 7
            · subst e
              have := (HC1.out _ htn).1
              omega
            · have : crB gr 7 false (fun _ => 0) c = (fun _ => 0) c := by unfold crB; split <;> first | rfl | exact setC_ne _ _ e
              rw [this]
              try exact HCT2.out.1 c hc e
          have HGO : Hid (1 ≤ crB gr 7 false (fun _ => 0) 7 → R = runT gr pr1 ff1 (T + l[i]!.l) (l.set i jbZ) (out.set i T) 7 true (setC (crB gr 7 false (fun _ => 0)) 7 (crB gr 7 false (fun _ => 0) 7 - 1))) := fun h9 => by
            rw [HEQ.out, stepR_go (pr := pr1) ho h9]
            rfl
          have HFG : Hid (1 ≤ crB gr 7 false (fun _ => 0) 7 → ∀ T', Fu ff1 T' (l.set i jbZ) 7 true (setC (crB gr 7 false (fun _ => 0)) 7 (crB gr 7 false (fun _ => 0) 7 - 1))) := fun h9 T' =>
            FuN.begin2 HFUN.out HFST.out i1 (isW_t.1 i2).1 (fun k hk hj => by have := (HOKJ.out.set i i1) k (by rw [List.length_set]; exact hk) hj; omega) (fun c hc => by
              by_cases e : c = 7
              · subst e; rw [setC_same]; omega
              · rw [setC_ne _ _ e]; exact (HC1.out c hc).1)
          have HLI : Hid (l[i]! = js[i]!) := HMOD.out.left.is (by rw [HN.out]; exact hin) (isW_t.1 i2).1
          have HCNT : Hid (cntJ l = cntJ (l.set i jbZ) + 1) := cntJ_set i1 (isW_t.1 i2).1
          have HMD := Lib.hid (HMOD.out.put i (by rw [HN.out]; exact hin) T hT0)
          have lb := HTK.out i hin
          clear ho hbn i1 i2 i3
          have HCEV := HCE.out
          generalize gr.getD 7 0 = G at gcell bgb HCE
          clear HCEV
          by_cases hq : 0 = G
          · have hqd : ((0 : Int) == G) = true := by simp [hq]
            have hlt1 : crB gr 7 false (fun _ => 0) 7 < 1 := by rw [HCE.out]; omega
            obtain ⟨hfn, hrn⟩ := HON.out hlt1
            have HFN := Lib.hid hfn
            have HRN := Lib.hid hrn
            have HCT3 := Lib.hid (HCTN.out hlt1)
            clear hq hlt1 hfn hrn
            go_wp2_with fail
            refine HFC.out.mono ?_; rintro e w5 ⟨rfl, hb5⟩
            have HP5 := Lib.hid (HP4.out.step hb5)
            have hB5 := HB4.out.trans (hb5.mono HB4.out.size)
            have HB5 := Lib.hid hB5
            have x5 := (hB5.cell (p := ⟨b2, off2 + 7, none⟩) HGW.out).trans gcell
            clear hb5 hB5
            go_wp2_with fail
            go_roundg ff1
            case rel => exact ⟨T, l, sp, out, vs, X, false, _, 0, by rw [← HX.out]; rfl, rfl, HMOD.out, HRN, hT0, HT2.out, hX8, by have := HFF.out; omega, HC1.out, Fu.norm HFN.out HIDM.out, HCT3.out, by rw [HDN.out]; exact HP5.out, HB5.out⟩
            case measure => omega
          · have hqd : ((0 : Int) == G) = false := by simp; omega
            have hge1 : 1 ≤ crB gr 7 false (fun _ => 0) 7 := by rw [HCE.out]; omega
            have HRN := Lib.hid (HGO.out hge1)
            have HFG2 := Lib.hid (HFG.out hge1)
            have HCE1 := Lib.hid hge1
            have HQ := Lib.hid hq
            clear hq hge1
            have e3 : IntKind.i64.wrap ((0 : Int) + 1) = (0 : Int) + 1 := IntWalk.i64_in _ (by omega)
            go_wp2_with fail
            refine HFC.out.mono ?_; rintro e w5 ⟨rfl, hb5⟩
            have HP5 := Lib.hid (HP4.out.step hb5)
            have hB5 := HB4.out.trans (hb5.mono HB4.out.size)
            have HB5 := Lib.hid hB5
            have x5 := (hB5.cell (p := ⟨b2, off2 + 7, none⟩) HGW.out).trans gcell
            have HBEG := Lib.hid (prBegin_any g _ vs js sp T dn i w5 HP5.out (by rw [HN.out]; exact hin) HSL.out (by rw [HN.out]; exact hnn) (by omega) (by omega) (by omega))
            clear hb5 hB5
            go_wp2_with fail
            refine HBEG.out.mono ?_; rintro e w6 ⟨rfl, hp6, hb6⟩
            have HP6 := Lib.hid hp6
            have HB6 := Lib.hid (HB5.out.trans (hb6.mono hgle))
            have hbg1 : (0 : Int) < G := by have := HQ.out; omega
            have HCT3 : Hid (CrT gr 7 true (setC (crB gr 7 false (fun _ => 0)) 7 (crB gr 7 false (fun _ => 0) 7 - 1)) (0 + 1)) := by
              have hG := HCE.out
              have h8 := HCT2.out.2.2.2.1
              refine ⟨fun c hc hne => ?_, by omega, by omega, ?_, fun h9 => by cases h9⟩
              · rw [setC_ne _ _ hne]
                have : crB gr 7 false (fun _ => 0) c = (fun _ => 0) c := by unfold crB; split <;> first | rfl | exact setC_ne _ _ hne
                rw [this]
                try exact HCT2.out.1 c hc hne
              · have e9 : crB gr 7 true (setC (crB gr 7 false (fun _ => 0)) 7 (crB gr 7 false (fun _ => 0) 7 - 1)) 7 = crB gr 7 false (fun _ => 0) 7 - 1 := by
                  have e10 : ∀ z, crB gr 7 true z = z := fun z => by simp [crB]
                  rw [e10]
                  exact setC_same _ _ _
                rw [e9]
                omega
            have HCB3 : Hid (Cb ff1 (setC (crB gr 7 false (fun _ => 0)) 7 (crB gr 7 false (fun _ => 0) 7 - 1))) := HC1.out.set htn (by have := HCE1.out; omega) (by omega)
            clear hp6 hb6 hbg1
            go_wp2_with fail
            go_roundg ff1
            case rel =>
              have hlI := HLI.out
              have hcI := HCNT.out
              have hdI := HDN.out
              refine ⟨T + js[i]!.l, l.set i jbZ, sp.set i T, out.set i T, vs, 7, true, _, 0 + 1, rfl, rfl, HMD.out, ?_, by omega, by omega, htn, by have := HFF.out; omega, HCB3.out, HFG2.out _, HCT3.out, ?_, HB6.out⟩
              · rw [← hlI]; exact HRN
              · have e9 : dn + 1 = (n : Int) - (cntJ (l.set i jbZ) : Int) := by omega
                rw [← e9]; exact HP6.out
            case measure => omega
      · have hdummy : True := trivial
        clear hdummy
        obtain ⟨rfl, rfl, rfl⟩ := HNNO.out hskp
        have hsd : decide (now < T) = false := decide_eq_false hskp
        have HCT2 : Hid (CrT gr tn bn cn bg) := HCT.out
        have htn : tn < 8 := HTX2.out
        have htni : ((tn : Nat) : Int) < 8 := by omega
        rw [hsd] at HSKIP
        clear hskp hsd HNY HNNO HCT
        have gcell := HGC.out tn htn
        have HGW := Lib.hid hb2
        have bgb : 0 ≤ (bg : Int) ∧ (bg : Int) ≤ gr.getD tn 0 ∧ gr.getD tn 0 ≤ 40 := ⟨HCT2.out.2.1, HCT2.out.2.2.1, (HGB.out tn htn).2⟩
        have hm : (((tn : Nat) : Int) + 7).tmod 8 = ((nextC tn : Nat) : Int) := by
          unfold nextC
          rw [Int.tmod_eq_emod_of_nonneg (by omega)]
          omega
        obtain ⟨X, hX⟩ : ∃ X : Nat, nextC tn = X := ⟨_, rfl⟩
        have hX8 : X < 8 := by rw [← hX]; exact nextC_lt _
        rw [hX] at hm
        have HX := Lib.hid hX
        have e1 : IntKind.i64.wrap (((tn : Nat) : Int) + 7) = ((tn : Nat) : Int) + 7 := IntWalk.i64_in _ (by omega)
        have e2 : IntKind.i64.wrap (X : Int) = (X : Int) := IntWalk.i64_in _ (by omega)
        clear hX
        go_wp2_with fail
        refine HSKIP.out.mono ?_; rintro e w4 ⟨rfl, hp4, hb4⟩
        have HP4 := Lib.hid hp4
        have hgle : w.heap.size ≤ g := by omega
        have HB4 := Lib.hid (HBW.out.trans (hb4.mono hgle))
        have HFC := Lib.hid (prFirst_any g _ vs js sp T dn ((tn : Nat) : Int) w4 hp4 HSL.out (by rw [HN.out]; exact hnn))
        have HFE := Lib.hid (HMOD.out.firstC HJ.out T tn)
        rw [← HFE.out] at HFC
        clear hp4 hb4
        cases ho : firstC T tn l with
        | none =>
          rw [ho] at HFC
          have HRN : Hid (R = runT gr pr1 ff1 T l out X false (setC (crB gr tn bn cn) tn 0)) := by
            show _ = _
            rw [HEQ.out, stepR_none ho, HX.out]
          have HC1 := Lib.hid (crB_bd (gr := gr) (tb := bn) HGB.out htn HCB2.out)
          have HFN : Hid (FuN ff1 T l X false (setC (crB gr tn bn cn) tn 0)) := by
            have h9 := FuN.on (pr := pr1) (cr' := setC (crB gr tn bn cn) tn 0) HFUN.out HGB.out htn (fun k hk hw => by have := HOKJ.out k hk (isW_t.1 hw).1; omega) (fun k hk hw => by simp [pr1]) (.inl ⟨ho, rfl⟩)
            rw [HX.out] at h9
            exact h9
          have HCT3 : Hid (CrT gr X false (setC (crB gr tn bn cn) tn 0) 0) := by
            refine CrT.new (HGB.out X hX8).1 (fun c hc => ?_) hX8
            by_cases e : c = tn
            · subst e; exact setC_same _ _ _
            · rw [setC_ne _ _ e]
              have : crB gr tn bn cn c = cn c := by unfold crB; split <;> first | rfl | exact setC_ne _ _ e
              rw [this]
              try exact HCT2.out.1 c hc e
          have hbn : bI none = -1 := rfl
          unfold RetFst at HFC
          rw [hbn] at HFC
          clear ho hbn
          go_wp2_with fail
          refine HFC.out.mono ?_; rintro e w5 ⟨rfl, hb5⟩
          have HP5 := Lib.hid (HP4.out.step hb5)
          have HB5 := Lib.hid (HB4.out.trans (hb5.mono HB4.out.size))
          clear hb5
          go_wp2_with fail
          go_roundg ff1
          case rel => exact ⟨T, l, sp, out, vs, X, false, _, 0, rfl, rfl, HMOD.out, HRN, hT0, HT2.out, hX8, by have := HFF.out; omega, HC1.out.set htn (Int.le_refl _) (HC1.out _ htn).1, Fu.norm HFN.out HIDM.out, HCT3.out, by rw [HDN.out]; exact HP5.out, HB5.out⟩
          case measure => omega
        | some i =>
          rw [ho] at HFC
          obtain ⟨i1, i2, i3⟩ := firstC_some ho
          have hin : i < n := by have := HMOD.out.left.1; have := HN.out; omega
          have hii : (i : Int) < (n : Int) := by omega
          have hi0 : ¬ ((i : Int) < 0) := by omega
          have hbn : bI (some i) = (i : Int) := rfl
          unfold RetFst at HFC
          rw [hbn] at HFC
          have HC1 := Lib.hid (crB_bd (gr := gr) (tb := bn) HGB.out htn HCB2.out)
          have HCE : Hid (crB gr tn bn cn tn = gr.getD tn 0 - bg) := HCT2.out.2.2.2.1
          have HON : Hid (crB gr tn bn cn tn < 1 → FuN ff1 T l X false (crB gr tn bn cn) ∧ R = runT gr pr1 ff1 T l out X false (crB gr tn bn cn)) := fun h9 => by
            have h8 := FuN.on (pr := pr1) (cr' := crB gr tn bn cn) HFUN.out HGB.out htn (fun k hk hw => by have := HOKJ.out k hk (isW_t.1 hw).1; omega) (fun k hk hw => by simp [pr1]) (.inr ⟨i, ho, h9, rfl⟩)
            rw [HX.out] at h8
            refine ⟨h8, ?_⟩
            rw [HEQ.out, stepR_on ho h9, HX.out]
          have HCTN : Hid (crB gr tn bn cn tn < 1 → CrT gr X false (crB gr tn bn cn) 0) := fun h9 => by
            refine CrT.new (HGB.out X hX8).1 (fun c hc => ?_) hX8
            by_cases e : c = tn
            · subst e
              have := (HC1.out _ htn).1
              omega
            · have : crB gr tn bn cn c = cn c := by unfold crB; split <;> first | rfl | exact setC_ne _ _ e
              rw [this]
              try exact HCT2.out.1 c hc e
          have HGO : Hid (1 ≤ crB gr tn bn cn tn → R = runT gr pr1 ff1 (T + l[i]!.l) (l.set i jbZ) (out.set i T) tn true (setC (crB gr tn bn cn) tn (crB gr tn bn cn tn - 1))) := fun h9 => by
            rw [HEQ.out, stepR_go (pr := pr1) ho h9]
            rfl
          have HFG : Hid (1 ≤ crB gr tn bn cn tn → ∀ T', Fu ff1 T' (l.set i jbZ) tn true (setC (crB gr tn bn cn) tn (crB gr tn bn cn tn - 1))) := fun h9 T' =>
            FuN.begin2 HFUN.out HFST.out i1 (isW_t.1 i2).1 (fun k hk hj => by have := (HOKJ.out.set i i1) k (by rw [List.length_set]; exact hk) hj; omega) (fun c hc => by
              by_cases e : c = tn
              · subst e; rw [setC_same]; omega
              · rw [setC_ne _ _ e]; exact (HC1.out c hc).1)
          have HLI : Hid (l[i]! = js[i]!) := HMOD.out.left.is (by rw [HN.out]; exact hin) (isW_t.1 i2).1
          have HCNT : Hid (cntJ l = cntJ (l.set i jbZ) + 1) := cntJ_set i1 (isW_t.1 i2).1
          have HMD := Lib.hid (HMOD.out.put i (by rw [HN.out]; exact hin) T hT0)
          have lb := HTK.out i hin
          clear ho hbn i1 i2 i3
          have HCEV := HCE.out
          generalize gr.getD tn 0 = G at gcell bgb HCE
          clear HCEV
          by_cases hq : bg = G
          · have hqd : ((bg : Int) == G) = true := by simp [hq]
            have hlt1 : crB gr tn bn cn tn < 1 := by rw [HCE.out]; omega
            obtain ⟨hfn, hrn⟩ := HON.out hlt1
            have HFN := Lib.hid hfn
            have HRN := Lib.hid hrn
            have HCT3 := Lib.hid (HCTN.out hlt1)
            clear hq hlt1 hfn hrn
            go_wp2_with fail
            refine HFC.out.mono ?_; rintro e w5 ⟨rfl, hb5⟩
            have HP5 := Lib.hid (HP4.out.step hb5)
            have hB5 := HB4.out.trans (hb5.mono HB4.out.size)
            have HB5 := Lib.hid hB5
            have x5 := (hB5.cell (p := ⟨b2, off2 + tn, none⟩) HGW.out).trans gcell
            clear hb5 hB5
            go_wp2_with fail
            go_roundg ff1
            case rel => exact ⟨T, l, sp, out, vs, X, false, _, 0, rfl, rfl, HMOD.out, HRN, hT0, HT2.out, hX8, by have := HFF.out; omega, HC1.out, Fu.norm HFN.out HIDM.out, HCT3.out, by rw [HDN.out]; exact HP5.out, HB5.out⟩
            case measure => omega
          · have hqd : ((bg : Int) == G) = false := by simp; omega
            have hge1 : 1 ≤ crB gr tn bn cn tn := by rw [HCE.out]; omega
            have HRN := Lib.hid (HGO.out hge1)
            have HFG2 := Lib.hid (HFG.out hge1)
            have HCE1 := Lib.hid hge1
            have HQ := Lib.hid hq
            clear hq hge1
            have e3 : IntKind.i64.wrap ((bg : Int) + 1) = (bg : Int) + 1 := IntWalk.i64_in _ (by omega)
            go_wp2_with fail
            refine HFC.out.mono ?_; rintro e w5 ⟨rfl, hb5⟩
            have HP5 := Lib.hid (HP4.out.step hb5)
            have hB5 := HB4.out.trans (hb5.mono HB4.out.size)
            have HB5 := Lib.hid hB5
            have x5 := (hB5.cell (p := ⟨b2, off2 + tn, none⟩) HGW.out).trans gcell
            have HBEG := Lib.hid (prBegin_any g _ vs js sp T dn i w5 HP5.out (by rw [HN.out]; exact hin) HSL.out (by rw [HN.out]; exact hnn) (by omega) (by omega) (by omega))
            clear hb5 hB5
            go_wp2_with fail
            refine HBEG.out.mono ?_; rintro e w6 ⟨rfl, hp6, hb6⟩
            have HP6 := Lib.hid hp6
            have HB6 := Lib.hid (HB5.out.trans (hb6.mono hgle))
            have hbg1 : (bg : Int) < G := by have := HQ.out; omega
            have HCT3 : Hid (CrT gr tn true (setC (crB gr tn bn cn) tn (crB gr tn bn cn tn - 1)) (bg + 1)) := by
              have hG := HCE.out
              have h8 := HCT2.out.2.2.2.1
              refine ⟨fun c hc hne => ?_, by omega, by omega, ?_, fun h9 => by cases h9⟩
              · rw [setC_ne _ _ hne]
                have : crB gr tn bn cn c = cn c := by unfold crB; split <;> first | rfl | exact setC_ne _ _ hne
                rw [this]
                try exact HCT2.out.1 c hc hne
              · have e9 : crB gr tn true (setC (crB gr tn bn cn) tn (crB gr tn bn cn tn - 1)) tn = crB gr tn bn cn tn - 1 := by
                  have e10 : ∀ z, crB gr tn true z = z := fun z => by simp [crB]
                  rw [e10]
                  exact setC_same _ _ _
                rw [e9]
                omega
            have HCB3 : Hid (Cb ff1 (setC (crB gr tn bn cn) tn (crB gr tn bn cn tn - 1))) := HC1.out.set htn (by have := HCE1.out; omega) (by omega)
            clear hp6 hb6 hbg1
            go_wp2_with fail
            go_roundg ff1
            case rel =>
              have hlI := HLI.out
              have hcI := HCNT.out
              have hdI := HDN.out
              refine ⟨T + js[i]!.l, l.set i jbZ, sp.set i T, out.set i T, vs, tn, true, _, bg + 1, rfl, rfl, HMD.out, ?_, by omega, by omega, htn, by have := HFF.out; omega, HCB3.out, HFG2.out _, HCT3.out, ?_, HB6.out⟩
              · rw [← hlI]; exact HRN
              · have e9 : dn + 1 = (n : Int) - (cntJ (l.set i jbZ) : Int) := by omega
                rw [← e9]; exact HP6.out
            case measure => omega
end Go.Proofs.Ytpencgbhiheiiaa
