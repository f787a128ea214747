/-
  FnSlotsHeld: the walk.
-/
import Derived.Test.YtehmhkbiofndaaaMathSlM
import Derived.Test.YtehmhkbiofndaaaCurSlM
import Derived.Test.YtehmhkbiofndaaaQuFu
import Derived.Test.YtehmhkbiofndaaaTurnMs
import Derived.Deep.RegionWith
import Derived.Deep.DeepCutAuto
import Derived.Deep.CutRange
namespace Go.Proofs.Ytehmhkbiofndaaa
open Go.RowKit
set_option maxRecDepth 100000
set_option linter.unusedVariables false

theorem hd_slots (x : Sr) (l : List Ms) (tick : Int) : ∃ S O, slotsSays x l tick = (S, O) ∧ S.length ≤ 1048576 ∧ (O = true → ∃ E R C V, filledSays x l = (E, true) ∧ readSays x l = (R, true) ∧ SlF x l tick S E R C V) := by
  cases h : (slOk x l && wi tick 0 400)
  · exact ⟨[], false, slotsSays_no h, by simp, fun h => by cases h⟩
  · simp only [Bool.and_eq_true] at h
    have h5 := slotsSays_len x l tick
    have h6 := slotsSays_yes (x := x) (l := l) (tick := tick) (by rw [h.1, h.2]; rfl)
    rw [h6] at h5
    exact ⟨_, true, h6, h5, fun _ => ⟨_, _, _, _, filledSays_yes h.1, readSays_yes h.1, slF_of h.1 h.2⟩⟩
theorem hd_queue (x : Sr) (l : List Ms) (s tick : Int) : ∃ S O, queueSays x l s tick = (S, O) ∧ S.length ≤ 1048576 ∧ (O = true → ∃ E C, filledSays x l = (E, true) ∧ QuF x l s tick E S C) := by
  cases h : (slOk x l && (wi s 0 (x.n - 1) && wi tick 0 400))
  · exact ⟨[], false, queueSays_no h, by simp, fun h => by cases h⟩
  · have h5 := queueSays_len x l s tick
    have h6 := queueSays_yes h
    rw [h6] at h5
    simp only [Bool.and_eq_true] at h
    exact ⟨_, true, h6, h5, fun _ => ⟨_, _, filledSays_yes h.1, quF_of h.1⟩⟩
theorem hd_full (x : Sr) (l : List Ms) (ticks : Int) : ∃ S O, fullSays x l ticks = (S, O) ∧ (O = true → 0 ≤ S ∧ S ≤ ticks) := by
  cases h : (slOk x l && wi ticks 0 400)
  · exact ⟨_, _, fullSays_no h, fun h => by cases h⟩
  · refine ⟨_, _, fullSays_yes h, fun _ => ?_⟩
    have h1 := fullTo_in x l ticks.toNat
    have h2 : 0 ≤ ticks ∧ ticks ≤ 400 := by
      simp only [Bool.and_eq_true] at h
      simpa [wi] using h.2
    omega
theorem hd_turn (x : Sr) (l : List Ms) (b : Int) : ∃ S O, turned x l b = (S, O) ∧ S.length ≤ 1048576 ∧ (O = true → ∃ E R, (E.length ≤ 1048576 ∧ R.length ≤ 1048576) ∧ filledSays x l = (E, true) ∧ filledSays x S = (E, true) ∧ readSays x S = (R, true) ∧ readSays x l = (R, true)) := by
  cases h : (slOk x l && wi b 0 (x.n - 1))
  · exact ⟨_, _, turned_no h, by simp, fun h => by cases h⟩
  · have h5 := turned_len x l b
    have h6 := turned_yes h
    rw [h6] at h5
    simp only [Bool.and_eq_true] at h
    have hb : 0 ≤ b ∧ b ≤ x.n - 1 := by simpa [wi] using h.2
    have hg := turned_slOk h.1 hb
    have e1 := filledSays_yes hg
    have e2 := readSays_yes hg
    rw [turned_fin h.1 hb] at e1
    rw [turned_read h.1 hb] at e2
    have l1 := filledSays_len x l
    have l2 := readSays_len x l
    rw [filledSays_yes h.1] at l1
    rw [readSays_yes h.1] at l2
    exact ⟨_, true, h6, h5, fun _ => ⟨_, _, ⟨l1, l2⟩, filledSays_yes h.1, e1, e2, readSays_yes h.1⟩⟩
set_option maxHeartbeats 8000000 in
theorem walkHD (c m : Value) (cn mn : Nat) (w : World) (hc : RB w w.heap.size c cn) (hm : RB w w.heap.size m mn) :
    Calls Try.prog 3 #[c, m] w (RetV w (.bool true)) := by
  rcases Nat.lt_or_ge 1048576 (cn + mn) with hbig | hbig
  · have hbg := big_all c m cn mn _ w hc hm
    rw [show (decide ((1048576 : Int) < cn) || decide ((1048576 : Int) - cn < mn)) = true from by simp; omega] at hbg
    go_enter Try.func3, Try.ntmps3
    go_wp2_with fail
    refine hbg.mono ?_; rintro e w1 ⟨rfl, hb⟩
    go_wp2_with fail
    go_ret
    exact ⟨rfl, hb⟩
  have hbg := Lib.hid (big_any c m cn mn _ w hc hm hbig)
  have hcn : cn ≤ 1048576 := by omega
  have hmn : mn ≤ 1048576 := by omega
  have t0 : Below w.heap.size w w := Below.refl _ _
  go_enter Try.func3, Try.ntmps3
  go_wp2_with fail
  refine (hbg.out).mono ?_; rintro e w1 ⟨rfl, hb1⟩
  have s1_ := hb1.size
  have t1 := t0.trans (hb1.mono t0.size)
  clear hb1 s1_ t0
  go_wp2_with fail
  refine (drawSlotsAt_any c cn _ (RB.wide9 (RB.below hc t1) t1.size) hcn).mono ?_; rintro e w2 ⟨x0, u_j, l, tk, rfl, hjl, htk, o_j, hb2⟩
  obtain ⟨xn, xh⟩ := x0
  simp only [SrV]
  have s2_ := hb2.size
  have t2 := t1.trans (hb2.mono t1.size)
  clear hb2 s2_ t1
  have y1_ := Nat.le_refl w2.heap.size
  have hb3 : Below w2.heap.size w2 (w2.alloc (.cells #[.int .i64 xn, .bool xh] 25)) := (Below.refl _ _).alloc (Nat.le_refl _) _
  have x_b := BK.made w2 25 #[.int .i64 xn, .bool xh]
  have s3_ := hb3.size
  have t3 := t2.trans (hb3.mono t2.size)
  have f2 := OK.step o_j hb3
  have y2_ := Nat.le_trans y1_ s3_
  clear o_j y1_
  clear hb3 s3_ t2
  obtain ⟨S, O, hS, hSl, hSF⟩ := hd_slots ⟨xn, xh⟩ l tk
  have HSimpl : Hid (∀ u w, RMsS w w.heap.size u l → Calls Try.prog 6 #[.agg #[.int .i64 xn, .bool xh], u, .int .i64 tk] w (RetLB 3 w S O)) := by
    show ∀ u w, RMsS w w.heap.size u l → Calls Try.prog 6 #[.agg #[.int .i64 xn, .bool xh], u, .int .i64 tk] w (RetLB 3 w S O)
    intro u w q
    have h5 := implSlotsAt_any u ⟨xn, xh⟩ l tk w q (by omega) (WalkArith.wf_i64 (by omega))
    rw [hS] at h5
    exact h5
  have HSspec : Hid (∀ u w, RMsS w w.heap.size u l → Calls Try.prog 7 #[.agg #[.int .i64 xn, .bool xh], u, .int .i64 tk] w (RetLB 3 w S O)) := by
    show ∀ u w, RMsS w w.heap.size u l → Calls Try.prog 7 #[.agg #[.int .i64 xn, .bool xh], u, .int .i64 tk] w (RetLB 3 w S O)
    intro u w q
    have h5 := specSlotsAt_any u ⟨xn, xh⟩ l tk w q (by omega) (WalkArith.wf_i64 (by omega))
    rw [hS] at h5
    exact h5
  have HF := Lib.hid hSF
  clear hS hSF
  have j3 := x_b.cell 0
  have j4 := x_b.cell 1
  simp at j3 j4
  go_wp2_with fail
  refine (HSimpl.out _ _ (RK.more (OK.rk f2) y2_)).mono ?_; rintro e w4 ⟨s_u, rfl, o_s, hb4⟩
  have s4_ := hb4.size
  have t4 := t3.trans (hb4.mono t3.size)
  clear j3 j4
  have f5 := OK.step f2 hb4
  have y5_ := Nat.le_trans y2_ s4_
  clear f2 y2_
  have f6 := x_b.step hb4
  clear x_b
  clear hb4 s4_ t3
  have y7_ := Nat.le_refl w4.heap.size
  have j8 := f6.cell 0
  have j9 := f6.cell 1
  simp at j8 j9
  go_wp2_with fail
  refine (HSspec.out _ _ (RK.more (OK.rk f5) y5_)).mono ?_; rintro e w5 ⟨sr_u, rfl, o_sr, hb5⟩
  have s5_ := hb5.size
  have t5 := t4.trans (hb5.mono t4.size)
  clear j8 j9
  have f10 := OK.step f5 hb5
  have y10_ := Nat.le_trans y5_ s5_
  clear f5 y5_
  have f11 := f6.step hb5
  clear f6
  have f12 := o_s.step hb5
  have y12_ := Nat.le_trans y7_ s5_
  clear o_s y7_
  clear hb5 s5_ t4
  have y13_ := Nat.le_refl w5.heap.size
  clear HSimpl HSspec
  go_upto_region 6 with fail
  go_cut [90] from 90 to 90 (fun s_90 wx => s_90 = .bool false ∧ Below w5.heap.size w5 wx)
  case first =>
    have QS : RI w5 w5.heap.size s_u S := (f12.ri.more y12_)
    have QT : RI w5 w5.heap.size sr_u S := (o_sr.ri.more y13_)
    clear HF
    cases O
    ·
      as_aux_lemma =>
      go_wp2_with (first | (go_at_call 8; (with_reducible refine (kSame_any _ _ S _ _ QS QT hSl).mono ?_); rintro e wq ⟨rfl, hq1⟩; have HQ := Lib.hid hq1))
      go_meet
      exact ⟨by first | rfl | trivial | simp, HQ.out⟩
    ·
      as_aux_lemma =>
      go_wp2_with (first | (go_at_call 8; (with_reducible refine (kSame_any _ _ S _ _ QS QT hSl).mono ?_); rintro e wq ⟨rfl, hq1⟩; have HQ := Lib.hid hq1))
      go_meet
      exact ⟨by first | rfl | trivial | simp, HQ.out⟩
  case rest =>
    obtain ⟨rfl, hb6⟩ := hcut
    have s6_ := hb6.size
    have t6 := t5.trans (hb6.mono t5.size)
    have f14 := OK.step f10 hb6
    have y14_ := Nat.le_trans y10_ s6_
    clear f10 y10_
    have f15 := f11.step hb6
    clear f11
    have f16 := f12.step hb6
    have y16_ := Nat.le_trans y12_ s6_
    clear f12 y12_
    have f17 := o_sr.step hb6
    have y17_ := Nat.le_trans y13_ s6_
    clear o_sr y13_
    clear hb6 s6_ t5
    clear f17
    obtain ⟨Aj, cj, rfl, _, _, _⟩ := id (RK.more (OK.rk f14) y14_)
    obtain ⟨As, cs, rfl, _, _⟩ := id (f16.ri.more y16_)
    go_upto_if 91 with fail
    go_cut [] from 91 to 91 (fun wx => Below wc.heap.size wc wx)
    case first =>
      have z6 : Below wc.heap.size wc wc := Below.refl _ _
      cases O
      · go_wp2_with fail
        go_meet
        exact z6
      obtain ⟨E, R, C, V, hE, hR, hf⟩ := HF.out rfl
      clear HF
      have HFE : Hid (∀ u w, RMsS w w.heap.size u l → Calls Try.prog 9 #[.agg #[.int .i64 xn, .bool xh], u] w (RetLB 3 w E true)) := by
        show ∀ u w, RMsS w w.heap.size u l → Calls Try.prog 9 #[.agg #[.int .i64 xn, .bool xh], u] w (RetLB 3 w E true)
        intro u w q
        have h5 := implFilledAt_any u ⟨xn, xh⟩ l w q (by omega)
        rw [hE] at h5
        exact h5
      have HFR : Hid (∀ u w, RMsS w w.heap.size u l → Calls Try.prog 10 #[.agg #[.int .i64 xn, .bool xh], u] w (RetLB 3 w R true)) := by
        show ∀ u w, RMsS w w.heap.size u l → Calls Try.prog 10 #[.agg #[.int .i64 xn, .bool xh], u] w (RetLB 3 w R true)
        intro u w q
        have h5 := implReadAt_any u ⟨xn, xh⟩ l w q (by omega)
        rw [hR] at h5
        exact h5
      have H := Lib.hid hf
      clear hf hE hR
      have j18 := f15.cell 0
      have j19 := f15.cell 1
      simp at j18 j19
      go_wp2_with fail
      refine (HFE.out _ _ (RK.more (OK.rk f14) y14_)).mono ?_; rintro e w7 ⟨e_u, rfl, o_e, hb7⟩
      have s7_ := hb7.size
      have t7 := t6.trans (hb7.mono t6.size)
      clear j18 j19
      have f20 := OK.step f14 hb7
      have y20_ := Nat.le_trans y14_ s7_
      clear f14 y14_
      have f21 := f15.step hb7
      clear f15
      have f22 := f16.step hb7
      have y22_ := Nat.le_trans y16_ s7_
      clear f16 y16_
      have z7 := z6.trans (hb7.mono z6.size)
      clear hb7 s7_ t6 z6
      have y23_ := Nat.le_refl w7.heap.size
      have j24 := f21.cell 0
      have j25 := f21.cell 1
      simp at j24 j25
      go_wp2_with fail
      refine (HFR.out _ _ (RK.more (OK.rk f20) y20_)).mono ?_; rintro e w8 ⟨r_u, rfl, o_r, hb8⟩
      have s8_ := hb8.size
      have t8 := t7.trans (hb8.mono t7.size)
      clear j24 j25
      have f26 := OK.step f20 hb8
      have y26_ := Nat.le_trans y20_ s8_
      clear f20 y20_
      have f27 := f21.step hb8
      clear f21
      have f28 := f22.step hb8
      have y28_ := Nat.le_trans y22_ s8_
      clear f22 y22_
      have f29 := o_e.step hb8
      have y29_ := Nat.le_trans y23_ s8_
      clear o_e y23_
      have z8 := z7.trans (hb8.mono z7.size)
      clear hb8 s8_ t7 z7
      have y30_ := Nat.le_refl w8.heap.size
      clear HFE HFR
      obtain ⟨Ae, ce, rfl, _, _⟩ := id (f29.ri.more y29_)
      obtain ⟨Ar, cr, rfl, _, _⟩ := id (o_r.ri.more y30_)
      have hlS : ((S.length : Int) != xn) = false := by have := H.out.lenL; simp only at this; rw [this]; exact bne_self_eq_false _
      have HTK := Lib.hid H.out.tk
      have hZ := Lib.hid z8
      have QJ : RMsS w8 w8.heap.size (.slice Aj l.length cj) l := (RK.more (OK.rk f26) y26_)
      have QS : RI w8 w8.heap.size (.slice As S.length cs) S := (f28.ri.more y28_)
      have QE : RI w8 w8.heap.size (.slice Ae E.length ce) E := (f29.ri.more y29_)
      have QR : RI w8 w8.heap.size (.slice Ar R.length cr) R := (o_r.ri.more y30_)
      have HQJ := Lib.hid QJ
      have HQS := Lib.hid QS
      have HQE := Lib.hid QE
      have HQR := Lib.hid QR
      have HBB := Lib.hid f27
      clear QJ QS QE QR
      have a0 := HBB.out.cell 0
      have a1 := HBB.out.cell 1
      simp at a0 a1
      go_wp2_with fail
      clear a0 a1 hlS
      go_loopw [16, 119] (fun u i wr => ∃ k0 : Nat, k0 ≤ S.length ∧ u = .int .i64 (C k0) ∧ i = .int .i64 k0 ∧ Below w8.heap.size w8 wr) (fun _ i _ => S.length - (intOf i).toNat)
      case atStart => exact ⟨0, Nat.zero_le _, by rw [H.out.c0], rfl, Below.refl _ _⟩
      case round =>
        obtain ⟨k0, hk0, rfl, rfl, hT⟩ := hrel
        have HT := Lib.hid hT
        by_cases hlt : k0 < S.length
        · have hkI : (k0 : Int) < (S.length : Int) := by omega
          have hwr := hT.size
          obtain ⟨As, cs, hvs, _, hcells⟩ := HQS.out.step hT (Nat.le_refl _)
          injection hvs with es1 es2 es3
          subst es1
          subst es3
          obtain ⟨bs, oos, rfl, hbs, ps⟩ := hcells (by omega)
          have xs := ps k0 (by omega)
          clear es2 hcells
          have hcb := H.out.cb k0
          rcases H.out.full k0 hlt with ⟨f1, f2⟩ | ⟨i, fi, f1, f2, f3, f4, f5⟩
          · rw [f1] at xs
            have HC := Lib.hid f2
            clear f1 f2 ps H hcb
            generalize C k0 = ch at HC ⊢
            as_aux_lemma =>
            go_wp2_with fail
            go_roundw
            case rel => exact ⟨k0 + 1, by omega, by rw [HC.out], by go_num, HT.out⟩
            case measure => simp [intOf]; omega
          · have hltE : (i : Int) < (E.length : Int) := by rw [H.out.lenE]; omega
            have hltR : (i : Int) < (R.length : Int) := by rw [H.out.lenR]; omega
            have hltJ : (i : Int) < (l.length : Int) := by omega
            have hbd := H.out.bnd i fi
            have hnn : 2 ≤ xn ∧ xn ≤ 12 := H.out.isr
            have htt := H.out.tk
            rw [f1] at xs
            have HC := Lib.hid f2
            clear f1 f2 ps
            obtain ⟨v, hv⟩ : ∃ v, v = (i : Int) + 1 := ⟨_, rfl⟩
            rw [← hv] at xs
            have n0 : ¬ v = 0 := by omega
            have hw1 : IntKind.i64.wrap (v - 1) = (i : Int) := by rw [IntWalk.i64_in _ (by omega)]; omega
            clear hv
            obtain ⟨Ae, ce, hve, _, hcelle⟩ := HQE.out.step hT (Nat.le_refl _)
            injection hve with ee1 ee2 ee3
            subst ee1
            subst ee3
            obtain ⟨be, ooe, rfl, hbe, pe⟩ := hcelle (by omega)
            have xe := pe i (by omega)
            clear ee2 hcelle
            obtain ⟨Ar, cr, hvr, _, hcellr⟩ := HQR.out.step hT (Nat.le_refl _)
            injection hvr with er1 er2 er3
            subst er1
            subst er3
            obtain ⟨br, oor, rfl, hbr, pr⟩ := hcellr (by omega)
            have xr := pr i (by omega)
            clear er2 hcellr
            obtain ⟨_, _, _, hcj⟩ := RMsS.parts (l := l) (RK.step HQJ.out hT (Nat.le_refl _))
            obtain ⟨bj, oj, rfl, hbj, hcellj⟩ := hcj (by omega)
            obtain ⟨j0, j1, j2⟩ := hcellj i fi
            clear hcj hcellj pe pr H
            generalize l[i]! = y at j0 j1 j2 f4
            obtain ⟨yt, yf, yo⟩ := y
            simp only at j0 j1 j2 f4
            generalize E.getD i 0 = e at xe f3 f4 f5 hbd
            generalize R.getD i 0 = r at xr f5 hbd
            generalize C k0 = ch at HC hcb ⊢
            have hk12 : (k0 : Int) ≤ 1048576 := by omega
            obtain ⟨⟨v1, v2⟩, v3, v4⟩ := hbd
            have n1 : decide (tk < e) = false := decide_eq_false (by omega)
            have hw2 : IntKind.i64.wrap ((k0 : Int) + e) = (k0 : Int) + e := IntWalk.i64_in _ (by omega)
            have hm0 : (0 : Int) ≤ yf ∧ yf < xn := by
              rw [← f4, Int.tmod_eq_emod_of_nonneg (by omega)]
              exact ⟨Int.emod_nonneg _ (by omega), Int.emod_lt_of_pos _ (by omega)⟩
            have hw3 : IntKind.i64.wrap (((k0 : Int) + e).tmod xn) = yf := by rw [f4]; exact IntWalk.i64_in _ (by omega)
            have hx0 : ¬ xn = 0 := by omega
            have hw5 : IntKind.i64.wrap (ch + 1) = ch + 1 := IntWalk.i64_in _ (by omega)
            have hw4 : IntKind.i64.wrap (e + xn) = e + xn := IntWalk.i64_in _ (by omega)
            have hw6 : ((k0 : Int) + e) % xn = yf := by rw [← f4, Int.tmod_eq_emod_of_nonneg (by omega)]
            have hw7 : (yf != yf) = false := bne_self_eq_false _
            have hw8 : decide (yf = yf) = true := decide_eq_true rfl
            clear hm0 f3
            have hbk := BK.made wr 35 #[.int .i64 yt, .int .i64 yf, .int .i64 yo]
            have hal : Below wr.heap.size wr (wr.alloc (.cells #[.int .i64 yt, .int .i64 yf, .int .i64 yo] 35)) := (Below.refl _ _).alloc (Nat.le_refl _) _
            have hbb := (HBB.out.step hT).alloc (.cells #[.int .i64 yt, .int .i64 yf, .int .i64 yo] 35)
            obtain ⟨W1, hW1⟩ : ∃ W1, wr.alloc (.cells #[.int .i64 yt, .int .i64 yf, .int .i64 yo] 35) = W1 := ⟨_, rfl⟩
            have hT1 := HT.out.trans (hal.mono hwr)
            rw [hW1] at hbk hal hT1 hbb
            have a0 := hbb.cell 0
            have a1 := hbb.cell 1
            have c1 := hbk.cell 1
            simp at a0 a1 c1
            have XE := (hal.cell (p := ⟨be, ooe + i, none⟩) (Nat.lt_of_lt_of_le hbe hwr)).trans xe
            have XR := (hal.cell (p := ⟨br, oor + i, none⟩) (Nat.lt_of_lt_of_le hbr hwr)).trans xr
            have HT1 := Lib.hid hT1
            clear hbk hal hT1 hT xe xr hbb
            go_upto_region 20 with fail
            clear hW1 j0 j1 j2 xs n0 hw1
            cases xh
            · have n2 : decide (r ≤ tk) = false := decide_eq_false (by simp at f5; omega)
              clear f5
              as_aux_lemma =>
              go_quiet (fail)
              go_wp2_with fail
              go_roundw
              case rel => exact ⟨k0 + 1, by omega, by rw [HC.out], by go_num, below_drewN HT1.out _⟩
              case measure => simp [intOf]; omega
            · have n2 : decide (e + xn ≤ tk) = false := decide_eq_false (by simp at f5; omega)
              clear f5
              as_aux_lemma =>
              go_quiet (fail)
              go_wp2_with fail
              go_roundw
              case rel => exact ⟨k0 + 1, by omega, by rw [HC.out], by go_num, below_drewN HT1.out _⟩
              case measure => simp [intOf]; omega
        · obtain rfl : k0 = S.length := by omega
          rw [H.out.held]
          have hbb := HBB.out.step hT
          have a0 := hbb.cell 0
          have a1 := hbb.cell 1
          simp at a0 a1
          obtain ⟨vl, hvl⟩ : ∃ v, v = V l.length := ⟨_, rfl⟩
          have HVL := Lib.hid hvl
          rw [← hvl]
          clear hbb HBB HQS hvl
          go_wp2_with fail
          go_loopw [21, 185] (fun u i wx => ∃ i0 : Nat, i0 ≤ l.length ∧ u = .int .i64 (V i0) ∧ i = .int .i64 i0 ∧ ∃ n, wx = wr.drewN n) (fun _ i _ => l.length - (intOf i).toNat)
          case atStart => exact ⟨0, Nat.zero_le _, by rw [H.out.v0], rfl, 0, by first | rfl | simp⟩
          case round =>
            obtain ⟨i0, hi0, rfl, rfl, nn, rfl⟩ := hrel
            by_cases hlt : i0 < l.length
            · have hlI : (i0 : Int) < (l.length : Int) := by omega
              have hlE : (i0 : Int) < (E.length : Int) := by rw [H.out.lenE]; omega
              have hlR : (i0 : Int) < (R.length : Int) := by rw [H.out.lenR]; omega
              have hbd := H.out.bnd i0 hlt
              have hnn : 2 ≤ xn ∧ xn ≤ 12 := H.out.isr
              have hvb := H.out.vb i0
              have hvs := H.out.vs i0 hlt
              have n20 := H.out.n20
              have htt := H.out.tk
              obtain ⟨Ae, ce, hve, _, hcelle⟩ := HQE.out.step hT (Nat.le_refl _)
              injection hve with ee1 ee2 ee3
              subst ee1
              subst ee3
              obtain ⟨be, ooe, rfl, hbe, pe⟩ := hcelle (by omega)
              have xe := pe i0 (by omega)
              clear ee2 hcelle
              obtain ⟨Ar, cr, hvr, _, hcellr⟩ := HQR.out.step hT (Nat.le_refl _)
              injection hvr with er1 er2 er3
              subst er1
              subst er3
              obtain ⟨br, oor, rfl, hbr, pr⟩ := hcellr (by omega)
              have xr := pr i0 (by omega)
              clear er2 hcellr
              clear pe pr H HT hT HQE HQR HQJ
              generalize E.getD i0 0 = e at xe hbd hvs
              generalize R.getD i0 0 = r at xr hbd hvs
              generalize hvq : V i0 = vh at hvb hvs ⊢
              obtain ⟨⟨v1, v2⟩, v3, v4⟩ := hbd
              simp only at hvs
              have hw4 : IntKind.i64.wrap (e + xn) = e + xn := IntWalk.i64_in _ (by omega)
              have hw5 : IntKind.i64.wrap (vh + 1) = vh + 1 := IntWalk.i64_in _ (by omega)
              clear hvq
              cases xh
              · have e9 : (if (false : Bool) = true then e + xn else r) = r := if_neg (by simp)
                rw [e9] at hvs
                clear e9
                by_cases h1 : e ≤ tk
                · have n1 : decide (e ≤ tk) = true := decide_eq_true h1
                  by_cases h2 : tk < r
                  · have n2 : decide (tk < r) = true := decide_eq_true h2
                    rw [if_pos ⟨h1, h2⟩] at hvs
                    have HV := Lib.hid hvs
                    clear hvs
                    as_aux_lemma =>
                    go_wp2_with fail
                    go_roundw
                    case rel => exact ⟨i0 + 1, by omega, by rw [HV.out], by go_num, _, rfl⟩
                    case measure => simp [intOf]; omega
                  · have n2 : decide (tk < r) = false := decide_eq_false h2
                    rw [if_neg (fun h => h2 h.2), Int.add_zero] at hvs
                    have HV := Lib.hid hvs
                    clear hvs
                    as_aux_lemma =>
                    go_wp2_with fail
                    go_roundw
                    case rel => exact ⟨i0 + 1, by omega, by rw [HV.out], by go_num, _, rfl⟩
                    case measure => simp [intOf]; omega
                · have n1 : decide (e ≤ tk) = false := decide_eq_false h1
                  rw [if_neg (fun h => h1 h.1), Int.add_zero] at hvs
                  have HV := Lib.hid hvs
                  clear hvs
                  as_aux_lemma =>
                  go_wp2_with fail
                  go_roundw
                  case rel => exact ⟨i0 + 1, by omega, by rw [HV.out], by go_num, _, rfl⟩
                  case measure => simp [intOf]; omega
              · have e9 : (if (true : Bool) = true then e + xn else r) = e + xn := if_pos rfl
                rw [e9] at hvs
                clear e9
                by_cases h1 : e ≤ tk
                · have n1 : decide (e ≤ tk) = true := decide_eq_true h1
                  by_cases h2 : tk < e + xn
                  · have n2 : decide (tk < e + xn) = true := decide_eq_true h2
                    rw [if_pos ⟨h1, h2⟩] at hvs
                    have HV := Lib.hid hvs
                    clear hvs
                    as_aux_lemma =>
                    go_wp2_with fail
                    go_quiet (fail)
                    go_wp2_with fail
                    go_roundw
                    case rel => exact ⟨i0 + 1, by omega, by rw [HV.out], by go_num, _, rfl⟩
                    case measure => simp [intOf]; omega
                  · have n2 : decide (tk < e + xn) = false := decide_eq_false h2
                    rw [if_neg (fun h => h2 h.2), Int.add_zero] at hvs
                    have HV := Lib.hid hvs
                    clear hvs
                    as_aux_lemma =>
                    go_wp2_with fail
                    go_quiet (fail)
                    go_wp2_with fail
                    go_roundw
                    case rel => exact ⟨i0 + 1, by omega, by rw [HV.out], by go_num, _, rfl⟩
                    case measure => simp [intOf]; omega
                · have n1 : decide (e ≤ tk) = false := decide_eq_false h1
                  rw [if_neg (fun h => h1 h.1), Int.add_zero] at hvs
                  have HV := Lib.hid hvs
                  clear hvs
                  as_aux_lemma =>
                  go_wp2_with fail
                  go_quiet (fail)
                  go_wp2_with fail
                  go_roundw
                  case rel => exact ⟨i0 + 1, by omega, by rw [HV.out], by go_num, _, rfl⟩
                  case measure => simp [intOf]; omega
            · obtain rfl : i0 = l.length := by omega
              rw [← HVL.out]
              clear H HQJ HQE HQR hT
              as_aux_lemma =>
              go_wp2_with fail
              go_meet
              exact hZ.out.trans (below_drewN (HT.out.mono hZ.out.size) _)
    case rest =>
      have hb7 := hcut
      clear hcut
      have s7_ := hb7.size
      have t7 := t6.trans (hb7.mono t6.size)
      have f31 := OK.step f14 hb7
      have y31_ := Nat.le_trans y14_ s7_
      clear f14 y14_
      have f32 := f15.step hb7
      clear f15
      have f33 := f16.step hb7
      have y33_ := Nat.le_trans y16_ s7_
      clear f16 y16_
      clear hb7 s7_ t6
      clear f31
      clear f32
      clear f33
      clear HF
      go_wp2_with fail
      refine (drawQueueAt_any m mn _ (RB.wide9 (RB.below hm t7) t7.size) hmn).mono ?_; rintro e w8 ⟨x1, u_q, l1, st, at_, rfl, hql, ⟨hst, hat⟩, o_q, hb8⟩
      obtain ⟨qn, qh⟩ := x1
      simp only [SrV]
      have s8_ := hb8.size
      have t8 := t7.trans (hb8.mono t7.size)
      clear hb8 s8_ t7
      have y34_ := Nat.le_refl w8.heap.size
      have hb9 : Below w8.heap.size w8 (w8.alloc (.cells #[.int .i64 qn, .bool qh] 25)) := (Below.refl _ _).alloc (Nat.le_refl _) _
      have x_bq := BK.made w8 25 #[.int .i64 qn, .bool qh]
      have s9_ := hb9.size
      have t9 := t8.trans (hb9.mono t8.size)
      have f35 := OK.step o_q hb9
      have y35_ := Nat.le_trans y34_ s9_
      clear o_q y34_
      clear hb9 s9_ t8
      obtain ⟨Q, O2, hQ, hQl, hQF⟩ := hd_queue ⟨qn, qh⟩ l1 st at_
      have HQimpl : Hid (∀ u w, RMsS w w.heap.size u l1 → Calls Try.prog 12 #[.agg #[.int .i64 qn, .bool qh], u, .int .i64 st, .int .i64 at_] w (RetLB 3 w Q O2)) := by
        show ∀ u w, RMsS w w.heap.size u l1 → Calls Try.prog 12 #[.agg #[.int .i64 qn, .bool qh], u, .int .i64 st, .int .i64 at_] w (RetLB 3 w Q O2)
        intro u w q
        have h5 := implQueueAt_any u ⟨qn, qh⟩ l1 st at_ w q (by omega) (WalkArith.wf_i64 (by omega)) (WalkArith.wf_i64 (by omega))
        rw [hQ] at h5
        exact h5
      have HQspec : Hid (∀ u w, RMsS w w.heap.size u l1 → Calls Try.prog 13 #[.agg #[.int .i64 qn, .bool qh], u, .int .i64 st, .int .i64 at_] w (RetLB 3 w Q O2)) := by
        show ∀ u w, RMsS w w.heap.size u l1 → Calls Try.prog 13 #[.agg #[.int .i64 qn, .bool qh], u, .int .i64 st, .int .i64 at_] w (RetLB 3 w Q O2)
        intro u w q
        have h5 := specQueueAt_any u ⟨qn, qh⟩ l1 st at_ w q (by omega) (WalkArith.wf_i64 (by omega)) (WalkArith.wf_i64 (by omega))
        rw [hQ] at h5
        exact h5
      have HQF := Lib.hid hQF
      clear hQ hQF
      have j36 := x_bq.cell 0
      have j37 := x_bq.cell 1
      simp at j36 j37
      go_wp2_with fail
      refine (HQimpl.out _ _ (RK.more (OK.rk f35) y35_)).mono ?_; rintro e w10 ⟨p_u, rfl, o_p, hb10⟩
      have s10_ := hb10.size
      have t10 := t9.trans (hb10.mono t9.size)
      clear j36 j37
      have f38 := OK.step f35 hb10
      have y38_ := Nat.le_trans y35_ s10_
      clear f35 y35_
      have f39 := x_bq.step hb10
      clear x_bq
      clear hb10 s10_ t9
      have y40_ := Nat.le_refl w10.heap.size
      have j41 := f39.cell 0
      have j42 := f39.cell 1
      simp at j41 j42
      go_wp2_with fail
      refine (HQspec.out _ _ (RK.more (OK.rk f38) y38_)).mono ?_; rintro e w11 ⟨pr_u, rfl, o_pr, hb11⟩
      have s11_ := hb11.size
      have t11 := t10.trans (hb11.mono t10.size)
      clear j41 j42
      have f43 := OK.step f38 hb11
      have y43_ := Nat.le_trans y38_ s11_
      clear f38 y38_
      have f44 := f39.step hb11
      clear f39
      have f45 := o_p.step hb11
      have y45_ := Nat.le_trans y40_ s11_
      clear o_p y40_
      clear hb11 s11_ t10
      have y46_ := Nat.le_refl w11.heap.size
      clear HQimpl HQspec
      have j47 := f44.cell 0
      have j48 := f44.cell 1
      simp at j47 j48
      go_wp2_with fail
      refine (drawFullTicks_any m mn _ (RB.wide9 (RB.below hm t11) t11.size) hmn).mono ?_; rintro e w12 ⟨x2, u_f, l2, tf, rfl, hfl, htf, o_f, hb12⟩
      obtain ⟨fn, fh⟩ := x2
      simp only [SrV]
      have s12_ := hb12.size
      have t12 := t11.trans (hb12.mono t11.size)
      clear j47 j48
      have f49 := OK.step f43 hb12
      have y49_ := Nat.le_trans y43_ s12_
      clear f43 y43_
      have f50 := f44.step hb12
      clear f44
      have f51 := f45.step hb12
      have y51_ := Nat.le_trans y45_ s12_
      clear f45 y45_
      have f52 := o_pr.step hb12
      have y52_ := Nat.le_trans y46_ s12_
      clear o_pr y46_
      clear hb12 s12_ t11
      have y53_ := Nat.le_refl w12.heap.size
      have hb13 : Below w12.heap.size w12 (w12.alloc (.cells #[.int .i64 fn, .bool fh] 25)) := (Below.refl _ _).alloc (Nat.le_refl _) _
      have x_bf := BK.made w12 25 #[.int .i64 fn, .bool fh]
      have s13_ := hb13.size
      have t13 := t12.trans (hb13.mono t12.size)
      have f54 := OK.step f49 hb13
      have y54_ := Nat.le_trans y49_ s13_
      clear f49 y49_
      have f55 := f50.step hb13
      clear f50
      have f56 := f51.step hb13
      have y56_ := Nat.le_trans y51_ s13_
      clear f51 y51_
      have f57 := f52.step hb13
      have y57_ := Nat.le_trans y52_ s13_
      clear f52 y52_
      have f58 := OK.step o_f hb13
      have y58_ := Nat.le_trans y53_ s13_
      clear o_f y53_
      clear hb13 s13_ t12
      obtain ⟨FT, O3, hFT, hFF⟩ := hd_full ⟨fn, fh⟩ l2 tf
      have HTimpl : Hid (∀ u w, RMsS w w.heap.size u l2 → Calls Try.prog 15 #[.agg #[.int .i64 fn, .bool fh], u, .int .i64 tf] w (RetV w (.tuple #[.int .i64 FT, .bool O3]))) := by
        show ∀ u w, RMsS w w.heap.size u l2 → Calls Try.prog 15 #[.agg #[.int .i64 fn, .bool fh], u, .int .i64 tf] w (RetV w (.tuple #[.int .i64 FT, .bool O3]))
        intro u w q
        have h5 := implFullTicks_any u ⟨fn, fh⟩ l2 tf w q (by omega) (WalkArith.wf_i64 (by omega))
        rw [hFT] at h5
        exact h5
      have HTspec : Hid (∀ u w, RMsS w w.heap.size u l2 → Calls Try.prog 16 #[.agg #[.int .i64 fn, .bool fh], u, .int .i64 tf] w (RetV w (.tuple #[.int .i64 FT, .bool O3]))) := by
        show ∀ u w, RMsS w w.heap.size u l2 → Calls Try.prog 16 #[.agg #[.int .i64 fn, .bool fh], u, .int .i64 tf] w (RetV w (.tuple #[.int .i64 FT, .bool O3]))
        intro u w q
        have h5 := specFullTicks_any u ⟨fn, fh⟩ l2 tf w q (by omega) (WalkArith.wf_i64 (by omega))
        rw [hFT] at h5
        exact h5
      have HFF := Lib.hid hFF
      clear hFT hFF
      have j59 := f55.cell 0
      have j60 := f55.cell 1
      have j61 := x_bf.cell 0
      have j62 := x_bf.cell 1
      simp at j59 j60 j61 j62
      go_wp2_with fail
      refine (HTimpl.out _ _ (RK.more (OK.rk f58) y58_)).mono ?_; rintro e w14 ⟨rfl, hb14⟩
      have s14_ := hb14.size
      have t14 := t13.trans (hb14.mono t13.size)
      clear j59 j60 j61 j62
      have f63 := OK.step f54 hb14
      have y63_ := Nat.le_trans y54_ s14_
      clear f54 y54_
      have f64 := f55.step hb14
      clear f55
      have f65 := f56.step hb14
      have y65_ := Nat.le_trans y56_ s14_
      clear f56 y56_
      have f66 := f57.step hb14
      have y66_ := Nat.le_trans y57_ s14_
      clear f57 y57_
      have f67 := OK.step f58 hb14
      have y67_ := Nat.le_trans y58_ s14_
      clear f58 y58_
      have f68 := x_bf.step hb14
      clear x_bf
      clear hb14 s14_ t13
      have j69 := f64.cell 0
      have j70 := f64.cell 1
      have j71 := f68.cell 0
      have j72 := f68.cell 1
      simp at j69 j70 j71 j72
      go_wp2_with fail
      refine (HTspec.out _ _ (RK.more (OK.rk f67) y67_)).mono ?_; rintro e w15 ⟨rfl, hb15⟩
      have s15_ := hb15.size
      have t15 := t14.trans (hb15.mono t14.size)
      clear j69 j70 j71 j72
      have f73 := OK.step f63 hb15
      have y73_ := Nat.le_trans y63_ s15_
      clear f63 y63_
      have f74 := f64.step hb15
      clear f64
      have f75 := f65.step hb15
      have y75_ := Nat.le_trans y65_ s15_
      clear f65 y65_
      have f76 := f66.step hb15
      have y76_ := Nat.le_trans y66_ s15_
      clear f66 y66_
      have f77 := OK.step f67 hb15
      have y77_ := Nat.le_trans y67_ s15_
      clear f67 y67_
      have f78 := f68.step hb15
      clear f68
      clear hb15 s15_ t14
      clear HTimpl HTspec
      clear f77
      clear f78
      have j79 := f74.cell 0
      have j80 := f74.cell 1
      simp at j79 j80
      go_wp2_with fail
      refine (drawTurnMessages_any m mn _ (RB.wide9 (RB.below hm t15) t15.size) hmn).mono ?_; rintro e w16 ⟨x3, u_y, l3, ty, rfl, hyl, hty, o_y, hb16⟩
      obtain ⟨yn, yh⟩ := x3
      simp only [SrV]
      have s16_ := hb16.size
      have t16 := t15.trans (hb16.mono t15.size)
      clear j79 j80
      have f81 := OK.step f73 hb16
      have y81_ := Nat.le_trans y73_ s16_
      clear f73 y73_
      have f82 := f74.step hb16
      clear f74
      have f83 := f75.step hb16
      have y83_ := Nat.le_trans y75_ s16_
      clear f75 y75_
      have f84 := f76.step hb16
      have y84_ := Nat.le_trans y76_ s16_
      clear f76 y76_
      clear hb16 s16_ t15
      have y85_ := Nat.le_refl w16.heap.size
      have hb17 : Below w16.heap.size w16 (w16.alloc (.cells #[.int .i64 yn, .bool yh] 25)) := (Below.refl _ _).alloc (Nat.le_refl _) _
      have x_by_ := BK.made w16 25 #[.int .i64 yn, .bool yh]
      have s17_ := hb17.size
      have t17 := t16.trans (hb17.mono t16.size)
      have f86 := OK.step f81 hb17
      have y86_ := Nat.le_trans y81_ s17_
      clear f81 y81_
      have f87 := f82.step hb17
      clear f82
      have f88 := f83.step hb17
      have y88_ := Nat.le_trans y83_ s17_
      clear f83 y83_
      have f89 := f84.step hb17
      have y89_ := Nat.le_trans y84_ s17_
      clear f84 y84_
      have f90 := OK.step o_y hb17
      have y90_ := Nat.le_trans y85_ s17_
      clear o_y y85_
      clear hb17 s17_ t16
      obtain ⟨TL, O5, hTL, hTl, hTF⟩ := hd_turn ⟨yn, yh⟩ l3 ty
      have HUimpl : Hid (∀ u w, RMsS w w.heap.size u l3 → Calls Try.prog 18 #[.agg #[.int .i64 yn, .bool yh], u, .int .i64 ty] w (RetMsSB w TL O5)) := by
        show ∀ u w, RMsS w w.heap.size u l3 → Calls Try.prog 18 #[.agg #[.int .i64 yn, .bool yh], u, .int .i64 ty] w (RetMsSB w TL O5)
        intro u w q
        have h5 := implTurnMessages_any u ⟨yn, yh⟩ l3 ty w q (by omega) (WalkArith.wf_i64 (by omega))
        rw [hTL] at h5
        exact h5
      have HUspec : Hid (∀ u w, RMsS w w.heap.size u l3 → Calls Try.prog 19 #[.agg #[.int .i64 yn, .bool yh], u, .int .i64 ty] w (RetMsSB w TL O5)) := by
        show ∀ u w, RMsS w w.heap.size u l3 → Calls Try.prog 19 #[.agg #[.int .i64 yn, .bool yh], u, .int .i64 ty] w (RetMsSB w TL O5)
        intro u w q
        have h5 := specTurnMessages_any u ⟨yn, yh⟩ l3 ty w q (by omega) (WalkArith.wf_i64 (by omega))
        rw [hTL] at h5
        exact h5
      have HTF := Lib.hid hTF
      clear hTL hTF
      have j91 := f87.cell 0
      have j92 := f87.cell 1
      have j93 := x_by_.cell 0
      have j94 := x_by_.cell 1
      simp at j91 j92 j93 j94
      go_wp2_with fail
      refine (HUimpl.out _ _ (RK.more (OK.rk f90) y90_)).mono ?_; rintro e w18 ⟨t_u, rfl, o_t, hb18⟩
      have s18_ := hb18.size
      have t18 := t17.trans (hb18.mono t17.size)
      clear j91 j92 j93 j94
      have f95 := OK.step f86 hb18
      have y95_ := Nat.le_trans y86_ s18_
      clear f86 y86_
      have f96 := f87.step hb18
      clear f87
      have f97 := f88.step hb18
      have y97_ := Nat.le_trans y88_ s18_
      clear f88 y88_
      have f98 := f89.step hb18
      have y98_ := Nat.le_trans y89_ s18_
      clear f89 y89_
      have f99 := OK.step f90 hb18
      have y99_ := Nat.le_trans y90_ s18_
      clear f90 y90_
      have f100 := x_by_.step hb18
      clear x_by_
      clear hb18 s18_ t17
      have y101_ := Nat.le_refl w18.heap.size
      have j102 := f96.cell 0
      have j103 := f96.cell 1
      have j104 := f100.cell 0
      have j105 := f100.cell 1
      simp at j102 j103 j104 j105
      go_wp2_with fail
      refine (HUspec.out _ _ (RK.more (OK.rk f99) y99_)).mono ?_; rintro e w19 ⟨tr_u, rfl, o_tr, hb19⟩
      have s19_ := hb19.size
      have t19 := t18.trans (hb19.mono t18.size)
      clear j102 j103 j104 j105
      have f106 := OK.step f95 hb19
      have y106_ := Nat.le_trans y95_ s19_
      clear f95 y95_
      have f107 := f96.step hb19
      clear f96
      have f108 := f97.step hb19
      have y108_ := Nat.le_trans y97_ s19_
      clear f97 y97_
      have f109 := f98.step hb19
      have y109_ := Nat.le_trans y98_ s19_
      clear f98 y98_
      have f110 := OK.step f99 hb19
      have y110_ := Nat.le_trans y99_ s19_
      clear f99 y99_
      have f111 := f100.step hb19
      clear f100
      have f112 := OK.step o_t hb19
      have y112_ := Nat.le_trans y101_ s19_
      clear o_t y101_
      clear hb19 s19_ t18
      have y113_ := Nat.le_refl w19.heap.size
      clear HUimpl HUspec
      go_upto_region 45 with fail
      go_cut [322] from 322 to 322 (fun s_322 wx => s_322 = .bool false ∧ Below w19.heap.size w19 wx)
      case first =>
        have QS : RI w19 w19.heap.size p_u Q := (f108.ri.more y108_)
        have QT : RI w19 w19.heap.size pr_u Q := (f109.ri.more y109_)
        have QM : RMsS w19 w19.heap.size t_u TL := (RK.more (OK.rk f112) y112_)
        have QN : RMsS w19 w19.heap.size tr_u TL := (RK.more (OK.rk o_tr) y113_)
        clear HQF HTF
        have hf9 := HFF.out
        clear HFF
        have n1 : O3 = true → decide (FT < 0) = false := fun h => decide_eq_false (by have := hf9 h; omega)
        have n2 : O3 = true → decide (tf < FT) = false := fun h => decide_eq_false (by have := hf9 h; omega)
        clear hf9
        cases O3
        · clear n1 n2
          cases O2 <;> cases O5
          all_goals
            as_aux_lemma =>
            go_wp2_with (first | (go_at_call 8; (with_reducible refine (kSame_any _ _ Q _ _ QS QT hQl).mono ?_); rintro e wq ⟨rfl, hq1⟩; have QM2 : RMsS wq wq.heap.size t_u TL := RK.more (RK.step QM hq1 (Nat.le_refl _)) hq1.size; have QN2 : RMsS wq wq.heap.size tr_u TL := RK.more (RK.step QN hq1 (Nat.le_refl _)) hq1.size; have HQ1 := Lib.hid hq1; clear hq1) | (go_at_call 20; (with_reducible refine (kMessages_any _ _ TL _ QM2 QN2 hTl).mono ?_); rintro e wp ⟨rfl, hq2⟩; have HQ2 := Lib.hid (HQ1.out.trans (hq2.mono HQ1.out.size)); clear hq2))
            go_meet
            exact ⟨by first | rfl | trivial | simp, HQ2.out⟩
        · have n1 := n1 rfl
          have n2 := n2 rfl
          cases O2 <;> cases O5
          all_goals
            as_aux_lemma =>
            go_wp2_with (first | (go_at_call 8; (with_reducible refine (kSame_any _ _ Q _ _ QS QT hQl).mono ?_); rintro e wq ⟨rfl, hq1⟩; have QM2 : RMsS wq wq.heap.size t_u TL := RK.more (RK.step QM hq1 (Nat.le_refl _)) hq1.size; have QN2 : RMsS wq wq.heap.size tr_u TL := RK.more (RK.step QN hq1 (Nat.le_refl _)) hq1.size; have HQ1 := Lib.hid hq1; clear hq1) | (go_at_call 20; (with_reducible refine (kMessages_any _ _ TL _ QM2 QN2 hTl).mono ?_); rintro e wp ⟨rfl, hq2⟩; have HQ2 := Lib.hid (HQ1.out.trans (hq2.mono HQ1.out.size)); clear hq2))
            go_meet
            exact ⟨by first | rfl | trivial | simp, HQ2.out⟩
      case rest =>
        obtain ⟨rfl, hb20⟩ := hcut
        have s20_ := hb20.size
        have t20 := t19.trans (hb20.mono t19.size)
        have f114 := OK.step f106 hb20
        have y114_ := Nat.le_trans y106_ s20_
        clear f106 y106_
        have f115 := f107.step hb20
        clear f107
        have f116 := f108.step hb20
        have y116_ := Nat.le_trans y108_ s20_
        clear f108 y108_
        have f117 := f109.step hb20
        have y117_ := Nat.le_trans y109_ s20_
        clear f109 y109_
        have f118 := OK.step f110 hb20
        have y118_ := Nat.le_trans y110_ s20_
        clear f110 y110_
        have f119 := f111.step hb20
        clear f111
        have f120 := OK.step f112 hb20
        have y120_ := Nat.le_trans y112_ s20_
        clear f112 y112_
        have f121 := OK.step o_tr hb20
        have y121_ := Nat.le_trans y113_ s20_
        clear o_tr y113_
        clear hb20 s20_ t19
        clear f117
        clear f121
        clear HFF
        go_upto_if 323 with fail
        go_cut [] from 323 to 323 (fun wx => Below wc.heap.size wc wx)
        case first =>
          have z20 : Below wc.heap.size wc wc := Below.refl _ _
          cases O5
          · go_wp2_with fail
            go_meet
            exact z20
          obtain ⟨E, R, ⟨hEl, hRl⟩, hE1, hE2, hR2, hR1⟩ := HTF.out rfl
          clear HTF
          have HA : Hid (∀ u w, RMsS w w.heap.size u l3 → Calls Try.prog 9 #[.agg #[.int .i64 yn, .bool yh], u] w (RetLB 3 w E true)) := by
            show ∀ u w, RMsS w w.heap.size u l3 → Calls Try.prog 9 #[.agg #[.int .i64 yn, .bool yh], u] w (RetLB 3 w E true)
            intro u w q
            have h5 := implFilledAt_any u ⟨yn, yh⟩ l3 w q (by omega)
            rw [hE1] at h5
            exact h5
          have HB : Hid (∀ u w, RMsS w w.heap.size u TL → Calls Try.prog 9 #[.agg #[.int .i64 yn, .bool yh], u] w (RetLB 3 w E true)) := by
            show ∀ u w, RMsS w w.heap.size u TL → Calls Try.prog 9 #[.agg #[.int .i64 yn, .bool yh], u] w (RetLB 3 w E true)
            intro u w q
            have h5 := implFilledAt_any u ⟨yn, yh⟩ TL w q (by omega)
            rw [hE2] at h5
            exact h5
          have HC : Hid (∀ u w, RMsS w w.heap.size u TL → Calls Try.prog 10 #[.agg #[.int .i64 yn, .bool yh], u] w (RetLB 3 w R true)) := by
            show ∀ u w, RMsS w w.heap.size u TL → Calls Try.prog 10 #[.agg #[.int .i64 yn, .bool yh], u] w (RetLB 3 w R true)
            intro u w q
            have h5 := implReadAt_any u ⟨yn, yh⟩ TL w q (by omega)
            rw [hR2] at h5
            exact h5
          have HD : Hid (∀ u w, RMsS w w.heap.size u l3 → Calls Try.prog 10 #[.agg #[.int .i64 yn, .bool yh], u] w (RetLB 3 w R true)) := by
            show ∀ u w, RMsS w w.heap.size u l3 → Calls Try.prog 10 #[.agg #[.int .i64 yn, .bool yh], u] w (RetLB 3 w R true)
            intro u w q
            have h5 := implReadAt_any u ⟨yn, yh⟩ l3 w q (by omega)
            rw [hR1] at h5
            exact h5
          clear hE1 hE2 hR1 hR2 HQF
          have j122 := f115.cell 0
          have j123 := f115.cell 1
          have j124 := f119.cell 0
          have j125 := f119.cell 1
          simp at j122 j123 j124 j125
          go_wp2_with fail
          refine (HA.out _ _ (RK.more (OK.rk f118) y118_)).mono ?_; rintro e w21 ⟨e_u, rfl, o_e, hb21⟩
          have s21_ := hb21.size
          have t21 := t20.trans (hb21.mono t20.size)
          clear j122 j123 j124 j125
          have f126 := OK.step f114 hb21
          have y126_ := Nat.le_trans y114_ s21_
          clear f114 y114_
          have f127 := f115.step hb21
          clear f115
          have f128 := f116.step hb21
          have y128_ := Nat.le_trans y116_ s21_
          clear f116 y116_
          have f129 := OK.step f118 hb21
          have y129_ := Nat.le_trans y118_ s21_
          clear f118 y118_
          have f130 := f119.step hb21
          clear f119
          have f131 := OK.step f120 hb21
          have y131_ := Nat.le_trans y120_ s21_
          clear f120 y120_
          have z21 := z20.trans (hb21.mono z20.size)
          clear hb21 s21_ t20 z20
          have y132_ := Nat.le_refl w21.heap.size
          have j133 := f127.cell 0
          have j134 := f127.cell 1
          have j135 := f130.cell 0
          have j136 := f130.cell 1
          simp at j133 j134 j135 j136
          go_wp2_with fail
          refine (HB.out _ _ (RK.more (OK.rk f131) y131_)).mono ?_; rintro e w22 ⟨er_u, rfl, o_er, hb22⟩
          have s22_ := hb22.size
          have t22 := t21.trans (hb22.mono t21.size)
          clear j133 j134 j135 j136
          have f137 := OK.step f126 hb22
          have y137_ := Nat.le_trans y126_ s22_
          clear f126 y126_
          have f138 := f127.step hb22
          clear f127
          have f139 := f128.step hb22
          have y139_ := Nat.le_trans y128_ s22_
          clear f128 y128_
          have f140 := OK.step f129 hb22
          have y140_ := Nat.le_trans y129_ s22_
          clear f129 y129_
          have f141 := f130.step hb22
          clear f130
          have f142 := OK.step f131 hb22
          have y142_ := Nat.le_trans y131_ s22_
          clear f131 y131_
          have f143 := o_e.step hb22
          have y143_ := Nat.le_trans y132_ s22_
          clear o_e y132_
          have z22 := z21.trans (hb22.mono z21.size)
          clear hb22 s22_ t21 z21
          have y144_ := Nat.le_refl w22.heap.size
          have j145 := f138.cell 0
          have j146 := f138.cell 1
          have j147 := f141.cell 0
          have j148 := f141.cell 1
          simp at j145 j146 j147 j148
          go_wp2_with fail
          refine (HC.out _ _ (RK.more (OK.rk f142) y142_)).mono ?_; rintro e w23 ⟨r_u, rfl, o_r, hb23⟩
          have s23_ := hb23.size
          have t23 := t22.trans (hb23.mono t22.size)
          clear j145 j146 j147 j148
          have f149 := OK.step f137 hb23
          have y149_ := Nat.le_trans y137_ s23_
          clear f137 y137_
          have f150 := f138.step hb23
          clear f138
          have f151 := f139.step hb23
          have y151_ := Nat.le_trans y139_ s23_
          clear f139 y139_
          have f152 := OK.step f140 hb23
          have y152_ := Nat.le_trans y140_ s23_
          clear f140 y140_
          have f153 := f141.step hb23
          clear f141
          have f154 := OK.step f142 hb23
          have y154_ := Nat.le_trans y142_ s23_
          clear f142 y142_
          have f155 := f143.step hb23
          have y155_ := Nat.le_trans y143_ s23_
          clear f143 y143_
          have f156 := o_er.step hb23
          have y156_ := Nat.le_trans y144_ s23_
          clear o_er y144_
          have z23 := z22.trans (hb23.mono z22.size)
          clear hb23 s23_ t22 z22
          have y157_ := Nat.le_refl w23.heap.size
          have j158 := f150.cell 0
          have j159 := f150.cell 1
          have j160 := f153.cell 0
          have j161 := f153.cell 1
          simp at j158 j159 j160 j161
          go_wp2_with fail
          refine (HD.out _ _ (RK.more (OK.rk f152) y152_)).mono ?_; rintro e w24 ⟨rr_u, rfl, o_rr, hb24⟩
          have s24_ := hb24.size
          have t24 := t23.trans (hb24.mono t23.size)
          clear j158 j159 j160 j161
          have f162 := OK.step f149 hb24
          have y162_ := Nat.le_trans y149_ s24_
          clear f149 y149_
          have f163 := f150.step hb24
          clear f150
          have f164 := f151.step hb24
          have y164_ := Nat.le_trans y151_ s24_
          clear f151 y151_
          have f165 := OK.step f152 hb24
          have y165_ := Nat.le_trans y152_ s24_
          clear f152 y152_
          have f166 := f153.step hb24
          clear f153
          have f167 := OK.step f154 hb24
          have y167_ := Nat.le_trans y154_ s24_
          clear f154 y154_
          have f168 := f155.step hb24
          have y168_ := Nat.le_trans y155_ s24_
          clear f155 y155_
          have f169 := f156.step hb24
          have y169_ := Nat.le_trans y156_ s24_
          clear f156 y156_
          have f170 := o_r.step hb24
          have y170_ := Nat.le_trans y157_ s24_
          clear o_r y157_
          have z24 := z23.trans (hb24.mono z23.size)
          clear hb24 s24_ t23 z23
          have y171_ := Nat.le_refl w24.heap.size
          clear HA HB HC HD
          have QE : RI w24 w24.heap.size e_u E := (f168.ri.more y168_)
          have QG : RI w24 w24.heap.size er_u E := (f169.ri.more y169_)
          have QR : RI w24 w24.heap.size r_u R := (f170.ri.more y170_)
          have QS : RI w24 w24.heap.size rr_u R := (o_rr.ri.more y171_)
          have hZ := Lib.hid z24
          as_aux_lemma =>
          go_wp2_with (first | (go_at_call 8; (with_reducible refine (kSame_any _ _ E _ _ QE QG hEl).mono ?_); rintro e wq ⟨rfl, hq1⟩; have QR2 := (QR.step hq1 (Nat.le_refl _)).more hq1.size; have QS2 := (QS.step hq1 (Nat.le_refl _)).more hq1.size; have HQ1 := Lib.hid hq1; clear hq1) | (go_at_call 8; (with_reducible refine (kSame_any _ _ R _ _ QR2 QS2 hRl).mono ?_); rintro e wp ⟨rfl, hq2⟩; have HQ2 := Lib.hid (HQ1.out.trans (hq2.mono HQ1.out.size)); clear hq2))
          go_meet
          exact hZ.out.trans (HQ2.out.mono hZ.out.size)
        case rest =>
          have hb21 := hcut
          clear hcut
          have s21_ := hb21.size
          have t21 := t20.trans (hb21.mono t20.size)
          have f172 := OK.step f114 hb21
          have y172_ := Nat.le_trans y114_ s21_
          clear f114 y114_
          have f173 := f115.step hb21
          clear f115
          have f174 := f116.step hb21
          have y174_ := Nat.le_trans y116_ s21_
          clear f116 y116_
          have f175 := OK.step f118 hb21
          have y175_ := Nat.le_trans y118_ s21_
          clear f118 y118_
          have f176 := f119.step hb21
          clear f119
          have f177 := OK.step f120 hb21
          have y177_ := Nat.le_trans y120_ s21_
          clear f120 y120_
          clear hb21 s21_ t20
          clear f175
          clear f176
          clear f177
          clear HTF
          obtain ⟨Aq, cq, rfl, _, _, _⟩ := id (RK.more (OK.rk f172) y172_)
          obtain ⟨Ap, cp, rfl, _, _⟩ := id (f174.ri.more y174_)
          go_upto_if 374 with fail
          have z21 : Below wc.heap.size wc wc := Below.refl _ _
          cases O2
          · go_wp2_with fail
            go_ret
            exact ⟨rfl, t21⟩
          obtain ⟨E, C, hE, hf⟩ := HQF.out rfl
          clear HQF
          have HFE : Hid (∀ u w, RMsS w w.heap.size u l1 → Calls Try.prog 9 #[.agg #[.int .i64 qn, .bool qh], u] w (RetLB 3 w E true)) := by
            show ∀ u w, RMsS w w.heap.size u l1 → Calls Try.prog 9 #[.agg #[.int .i64 qn, .bool qh], u] w (RetLB 3 w E true)
            intro u w q
            have h5 := implFilledAt_any u ⟨qn, qh⟩ l1 w q (by omega)
            rw [hE] at h5
            exact h5
          have H := Lib.hid hf
          clear hf hE
          have j178 := f173.cell 0
          have j179 := f173.cell 1
          simp at j178 j179
          go_wp2_with fail
          refine (HFE.out _ _ (RK.more (OK.rk f172) y172_)).mono ?_; rintro e w22 ⟨e_u, rfl, o_e, hb22⟩
          have s22_ := hb22.size
          have t22 := t21.trans (hb22.mono t21.size)
          clear j178 j179
          have f180 := OK.step f172 hb22
          have y180_ := Nat.le_trans y172_ s22_
          clear f172 y172_
          have f181 := f173.step hb22
          clear f173
          have f182 := f174.step hb22
          have y182_ := Nat.le_trans y174_ s22_
          clear f174 y174_
          have z22 := z21.trans (hb22.mono z21.size)
          clear hb22 s22_ t21 z21
          have y183_ := Nat.le_refl w22.heap.size
          clear HFE
          obtain ⟨Ae, ce, rfl, _, _⟩ := id (o_e.ri.more y183_)
          have hW := Lib.hid t22
          have QJ : RMsS w22 w22.heap.size (.slice Aq l1.length cq) l1 := (RK.more (OK.rk f180) y180_)
          have QE : RI w22 w22.heap.size (.slice Ae E.length ce) E := (o_e.ri.more y183_)
          have HQJ := Lib.hid QJ
          have HQE := Lib.hid QE
          clear QJ QE
          go_wp2_with fail
          go_loopw [56, 383] (fun u i wr => ∃ i0 : Nat, i0 ≤ l1.length ∧ u = .int .i64 (C i0) ∧ i = .int .i64 i0 ∧ Below w22.heap.size w22 wr) (fun _ i _ => l1.length - (intOf i).toNat)
          case atStart => exact ⟨0, Nat.zero_le _, by rw [H.out.c0], rfl, Below.refl _ _⟩
          case round =>
            obtain ⟨i0, hi0, rfl, rfl, hT⟩ := hrel
            have HT := Lib.hid hT
            by_cases hlt : i0 < l1.length
            · have hltI : (i0 : Int) < (l1.length : Int) := by omega
              have hltE : (i0 : Int) < (E.length : Int) := by rw [H.out.lenE]; omega
              have hwr := hT.size
              have hvb := H.out.cb i0
              have hvs := H.out.cs i0 hlt
              have n20 := H.out.n20
              obtain ⟨Ae, ce, hve, _, hcelle⟩ := HQE.out.step hT (Nat.le_refl _)
              injection hve with ee1 ee2 ee3
              subst ee1
              subst ee3
              obtain ⟨be, ooe, rfl, hbe, pe⟩ := hcelle (by omega)
              have xe := pe i0 (by omega)
              clear ee2 hcelle
              obtain ⟨_, _, _, hcj⟩ := RMsS.parts (l := l1) (RK.step HQJ.out hT (Nat.le_refl _))
              obtain ⟨bj, oj, rfl, hbj, hcellj⟩ := hcj (by omega)
              obtain ⟨j0, j1, j2⟩ := hcellj i0 hlt
              clear hcj hcellj pe H
              generalize l1[i0]! = y at j0 j1 j2 hvs
              obtain ⟨yt, yf, yo⟩ := y
              simp only at j0 j1 j2 hvs
              generalize E.getD i0 0 = e at xe hvs
              generalize C i0 = ch at hvs hvb ⊢
              have hw5 : IntKind.i64.wrap (ch + 1) = ch + 1 := IntWalk.i64_in _ (by omega)
              have hbk := BK.made wr 35 #[.int .i64 yt, .int .i64 yf, .int .i64 yo]
              have hal : Below wr.heap.size wr (wr.alloc (.cells #[.int .i64 yt, .int .i64 yf, .int .i64 yo] 35)) := (Below.refl _ _).alloc (Nat.le_refl _) _
              obtain ⟨W1, hW1⟩ : ∃ W1, wr.alloc (.cells #[.int .i64 yt, .int .i64 yf, .int .i64 yo] 35) = W1 := ⟨_, rfl⟩
              have hT1 := HT.out.trans (hal.mono hwr)
              rw [hW1] at hbk hal hT1
              have c0 := hbk.cell 0
              have c1 := hbk.cell 1
              simp at c0 c1
              have XE := (hal.cell (p := ⟨be, ooe + i0, none⟩) (Nat.lt_of_lt_of_le hbe hwr)).trans xe
              have HT1 := Lib.hid hT1
              clear hbk hal hT1 hT xe HQJ HQE
              go_upto_region 60 with fail
              clear hW1 j0 j1 j2
              by_cases h1 : yf = st
              · have n1 : decide (yf = st) = true := decide_eq_true h1
                by_cases h2 : yt ≤ at_
                · have n2 : decide (yt ≤ at_) = true := decide_eq_true h2
                  by_cases h3 : at_ < e
                  · have n3 : decide (at_ < e) = true := decide_eq_true h3
                    rw [if_pos ⟨h1, h2, h3⟩] at hvs
                    subst h1
                    have HV := Lib.hid hvs
                    clear hvs
                    as_aux_lemma =>
                    go_wp2_with fail
                    go_roundw
                    case rel => exact ⟨i0 + 1, by omega, by rw [HV.out], by go_num, HT1.out⟩
                    case measure => simp [intOf]; omega
                  · have n3 : decide (at_ < e) = false := decide_eq_false h3
                    rw [if_neg (fun h => h3 h.2.2), Int.add_zero] at hvs
                    subst h1
                    have HV := Lib.hid hvs
                    clear hvs
                    as_aux_lemma =>
                    go_wp2_with fail
                    go_roundw
                    case rel => exact ⟨i0 + 1, by omega, by rw [HV.out], by go_num, HT1.out⟩
                    case measure => simp [intOf]; omega
                · have n2 : decide (yt ≤ at_) = false := decide_eq_false h2
                  rw [if_neg (fun h => h2 h.2.1), Int.add_zero] at hvs
                  subst h1
                  have HV := Lib.hid hvs
                  clear hvs
                  as_aux_lemma =>
                  go_wp2_with fail
                  go_roundw
                  case rel => exact ⟨i0 + 1, by omega, by rw [HV.out], by go_num, HT1.out⟩
                  case measure => simp [intOf]; omega
              · have n1 : decide (yf = st) = false := decide_eq_false h1
                rw [if_neg (fun h => h1 h.1), Int.add_zero] at hvs
                have HV := Lib.hid hvs
                clear hvs
                as_aux_lemma =>
                go_wp2_with fail
                go_roundw
                case rel => exact ⟨i0 + 1, by omega, by rw [HV.out], by go_num, HT1.out⟩
                case measure => simp [intOf]; omega
            · obtain rfl : i0 = l1.length := by omega
              rw [H.out.all]
              clear H HQJ HQE hT
              go_wp2_with fail
              go_ret
              exact ⟨by first | rfl | simp, hW.out.trans (HT.out.mono hW.out.size)⟩
end Go.Proofs.Ytehmhkbiofndaaa
