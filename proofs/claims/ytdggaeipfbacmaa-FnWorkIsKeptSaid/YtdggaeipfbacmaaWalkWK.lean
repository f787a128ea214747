/-
  FnWorkIsKept: the walk.
-/
import Derived.Test.YtdggaeipfbacmaaMathKw
import Derived.Test.YtdggaeipfbacmaaCurE
import Derived.Test.YtdggaeipfbacmaaCurF
import Derived.Test.YtdggaeipfbacmaaCurG
import Derived.Test.YtdggaeipfbacmaaBusy
import Derived.Test.YtdggaeipfbacmaaWork
import Derived.Test.YtdggaeipfbacmaaPre
import Derived.Test.YtdggaeipfbacmaaPreS
import Derived.Deep.RegionWith
import Derived.Deep.DeepCutAuto
import Derived.Deep.CutRange
namespace Go.Proofs.Ytdggaeipfbacmaa
open Go.RowKit
set_option maxRecDepth 100000
set_option linter.unusedVariables false

theorem RB.wide9 {w : World} {B B' : Nat} {v : Value} {n : Nat} (h : RB w B v n) (hB : B ≤ B') : RB w B' v n := by
  obtain ⟨A, c, rfl, hlc, hc⟩ := h
  exact ⟨A, c, rfl, hlc, fun h => by obtain ⟨b, off, h1, h2, h3⟩ := hc h; exact ⟨b, off, h1, by omega, h3⟩⟩
set_option maxHeartbeats 8000000 in
theorem walkWK (c m : Value) (cn mn : Nat) (w : World) (hc : RB w w.heap.size c cn) (hm : RB w w.heap.size m mn) :
    Calls Try.prog 3 #[c, m] w (RetV w (.bool true)) := by
  rcases Nat.lt_or_ge 1048576 (cn + mn) with hbig | hbig
  · have hbg := big_all c m cn mn _ w hc hm
    rw [show (decide ((1048576 : Int) < cn) || decide ((1048576 : Int) - cn < mn)) = true from by simp; omega] at hbg
    go_enter Try.func3, Try.ntmps3
    go_wp2_with fail
    refine hbg.mono ?_; rintro e w1 ⟨rfl, hb⟩
    go_wp2_with fail
    go_ret
    exact ⟨rfl, hb⟩
  have hbg := Lib.hid (big_any c m cn mn _ w hc hm hbig)
  have hcn : cn ≤ 1048576 := by omega
  have hmn : mn ≤ 1048576 := by omega
  have t0 : Below w.heap.size w w := Below.refl _ _
  go_enter Try.func3, Try.ntmps3
  go_wp2_with fail
  refine (hbg.out).mono ?_; rintro e w1 ⟨rfl, hb1⟩
  have s1_ := hb1.size
  have t1 := t0.trans (hb1.mono t0.size)
  clear hb1 s1_ t0
  go_wp2_with fail
  refine (drawBusyPeriods_any c cn _ (RB.wide9 (RB.below hc t1) t1.size) hcn).mono ?_; rintro e w2 ⟨u_j, js, rfl, hjl, o_j, hb2⟩
  have s2_ := hb2.size
  have t2 := t1.trans (hb2.mono t1.size)
  clear hb2 s2_ t1
  have y1_ := Nat.le_refl w2.heap.size
  have hj1 : js.length ≤ 1048576 := by omega
  obtain ⟨L, O, hL⟩ : ∃ S O, (S, O) = busyOf js := ⟨_, _, rfl⟩
  obtain ⟨E, hE⟩ : ∃ S, (S, O) = preOf js := ⟨(preOf js).1, by rw [show O = (busyOf js).2 from by rw [← hL], busy_snd, ← pre_snd]⟩
  have hLl : L.length ≤ 20 := by have := (busyOf_in js).1; rw [← hL] at this; exact this
  have hLr : ∀ l ∈ L, l.length ≤ 1048576 := by have := (busyOf_in js).2; rw [← hL] at this; exact this
  have hEl : E.length ≤ 1048576 := by have := preOf_in js; rw [← hE] at this; exact this
  have hF : O = true → WkF js L E (startsOf rkC js) ∧ areJb js = true := fun h => by
    have h1 : areJb js = true := by rw [← busy_snd, ← hL]; exact h
    have h5 := wkF_of h1
    have h6 : busyOf js = (bpL js js.length, true) := by rw [busyOf, if_pos h1]
    have h7 : preOf js = (endsOf js, true) := by rw [preOf, if_pos h1]
    rw [← hL] at h6
    rw [← hE] at h7
    injection h6 with h6 _
    injection h7 with h7 _
    rw [← h6, ← h7] at h5
    exact ⟨h5, h1⟩
  have HPimpl : Hid (∀ u w, RJbS w w.heap.size u js → Calls Try.prog 6 #[u] w (RetSB w L O)) := by
    show ∀ u w, RJbS w w.heap.size u js → Calls Try.prog 6 #[u] w (RetSB w L O)
    intro u w q
    have h5 := implBusyPeriods_any u js w q hj1
    rw [← hL] at h5
    exact h5
  have HEimpl : Hid (∀ u w, RJbS w w.heap.size u js → Calls Try.prog 8 #[u] w (RetLB 3 w E O)) := by
    show ∀ u w, RJbS w w.heap.size u js → Calls Try.prog 8 #[u] w (RetLB 3 w E O)
    intro u w q
    have h5 := implPreemptEnds_any u js w q hj1
    rw [← hE] at h5
    exact h5
  have HPspec : Hid (∀ u w, RJbS w w.heap.size u js → Calls Try.prog 7 #[u] w (RetSB w L O)) := by
    show ∀ u w, RJbS w w.heap.size u js → Calls Try.prog 7 #[u] w (RetSB w L O)
    intro u w q
    have h5 := specBusyPeriods_any u js w q hj1
    rw [← hL] at h5
    exact h5
  have HEspec : Hid (∀ u w, RJbS w w.heap.size u js → Calls Try.prog 9 #[u] w (RetLB 3 w E O)) := by
    show ∀ u w, RJbS w w.heap.size u js → Calls Try.prog 9 #[u] w (RetLB 3 w E O)
    intro u w q
    have h5 := specPreemptEnds_any u js w q hj1
    rw [← hE] at h5
    exact h5
  have HF := Lib.hid hF
  have HLr := Lib.hid hLr
  clear hL hE hF hLr
  go_wp2_with fail
  refine (HPimpl.out _ _ (RK.more (OK.rk o_j) y1_)).mono ?_; rintro e w3 ⟨p_u, rfl, o_p, hb3⟩
  have s3_ := hb3.size
  have t3 := t2.trans (hb3.mono t2.size)
  have f2 := OK.step o_j hb3
  have y2_ := Nat.le_trans y1_ s3_
  clear o_j y1_
  clear hb3 s3_ t2
  have y3_ := Nat.le_refl w3.heap.size
  go_wp2_with fail
  refine (HPspec.out _ _ (RK.more (OK.rk f2) y2_)).mono ?_; rintro e w4 ⟨pr_u, rfl, o_pr, hb4⟩
  have s4_ := hb4.size
  have t4 := t3.trans (hb4.mono t3.size)
  have f4 := OK.step f2 hb4
  have y4_ := Nat.le_trans y2_ s4_
  clear f2 y2_
  have f5 := OS.step o_p hb4 y3_
  have y5_ := Nat.le_trans y3_ s4_
  clear o_p y3_
  clear hb4 s4_ t3
  have y6_ := Nat.le_refl w4.heap.size
  go_wp2_with fail
  refine (HEimpl.out _ _ (RK.more (OK.rk f4) y4_)).mono ?_; rintro e w5 ⟨e_u, rfl, o_e, hb5⟩
  have s5_ := hb5.size
  have t5 := t4.trans (hb5.mono t4.size)
  have f7 := OK.step f4 hb5
  have y7_ := Nat.le_trans y4_ s5_
  clear f4 y4_
  have f8 := OS.step f5 hb5 y5_
  have y8_ := Nat.le_trans y5_ s5_
  clear f5 y5_
  have f9 := OS.step o_pr hb5 y6_
  have y9_ := Nat.le_trans y6_ s5_
  clear o_pr y6_
  clear hb5 s5_ t4
  have y10_ := Nat.le_refl w5.heap.size
  go_wp2_with fail
  refine (HEspec.out _ _ (RK.more (OK.rk f7) y7_)).mono ?_; rintro e w6 ⟨er_u, rfl, o_er, hb6⟩
  have s6_ := hb6.size
  have t6 := t5.trans (hb6.mono t5.size)
  have f11 := OK.step f7 hb6
  have y11_ := Nat.le_trans y7_ s6_
  clear f7 y7_
  have f12 := OS.step f8 hb6 y8_
  have y12_ := Nat.le_trans y8_ s6_
  clear f8 y8_
  have f13 := OS.step f9 hb6 y9_
  have y13_ := Nat.le_trans y9_ s6_
  clear f9 y9_
  have f14 := o_e.step hb6
  have y14_ := Nat.le_trans y10_ s6_
  clear o_e y10_
  clear hb6 s6_ t5
  have y15_ := Nat.le_refl w6.heap.size
  clear HPimpl HPspec HEimpl HEspec
  go_upto_region 8 with fail
  go_cut [87] from 87 to 87 (fun s_87 wx => s_87 = .bool false ∧ Below w6.heap.size w6 wx)
  case first =>
    as_aux_lemma =>
    have QP : RS w6 w6.heap.size p_u L := (RS.more (OS.rd f12) y12_)
    have QR : RS w6 w6.heap.size pr_u L := (RS.more (OS.rd f13) y13_)
    have QE : RI w6 w6.heap.size e_u E := (f14.ri.more y14_)
    have QF : RI w6 w6.heap.size er_u E := (o_er.ri.more y15_)
    have HR := Lib.hid (kRows_any p_u pr_u L w6 QP QR (by omega) HLr.out)
    go_wp2_with (first | (go_at_call 10; refine HR.out.mono ?_; rintro e wq ⟨rfl, hq1⟩; have sq1 := hq1.size; have QE2 := (QE.step hq1 (Nat.le_refl _)).more sq1; have QF2 := (QF.step hq1 (Nat.le_refl _)).more sq1) | (go_at_call 11; refine (kSame_any _ _ E _ _ QE2 QF2 hEl).mono ?_; rintro e wz ⟨rfl, hq2⟩))
    go_meet
    exact ⟨by first | rfl | trivial | simp, hq1.trans (hq2.mono sq1)⟩
  case rest =>
    obtain ⟨rfl, hb7⟩ := hcut
    have s7_ := hb7.size
    have t7 := t6.trans (hb7.mono t6.size)
    have f16 := OK.step f11 hb7
    have y16_ := Nat.le_trans y11_ s7_
    clear f11 y11_
    have f17 := OS.step f12 hb7 y12_
    have y17_ := Nat.le_trans y12_ s7_
    clear f12 y12_
    have f18 := OS.step f13 hb7 y13_
    have y18_ := Nat.le_trans y13_ s7_
    clear f13 y13_
    have f19 := f14.step hb7
    have y19_ := Nat.le_trans y14_ s7_
    clear f14 y14_
    have f20 := o_er.step hb7
    have y20_ := Nat.le_trans y15_ s7_
    clear o_er y15_
    clear hb7 s7_ t6
    clear f18
    clear f20
    clear HLr
    obtain ⟨Ap, cp, rfl⟩ := RS.form (RS.more (OS.rd f17) y17_)
    obtain ⟨Ae, ce, rfl, _, _⟩ := id (f19.ri.more y19_)
    obtain ⟨Aj, cj, rfl, _, _, _⟩ := id (RK.more (OK.rk f16) y16_)
    go_upto_if 88 with fail
    go_cut [] from 88 to 88 (fun wx => Below wc.heap.size wc wx)
    case first =>
      have z7 : Below wc.heap.size wc wc := Below.refl _ _
      cases O
      · go_wp2_with fail
        go_meet
        exact z7
      obtain ⟨hf, hA⟩ := HF.out rfl
      obtain ⟨T, hT⟩ : ∃ T, startsOf rkC js = T := ⟨_, rfl⟩
      have HST : Hid (∀ u w, RJbS w w.heap.size u js → Calls Try.prog 12 #[u] w (RetLB 3 w T true)) := by
        intro u w q
        have h5 := implStrictStarts_any u js w q hj1
        rw [show strictOf js = (T, true) from by rw [strictOf, if_pos hA, hT]] at h5
        exact h5
      obtain ⟨TOT, hTOT⟩ : ∃ x, x = sumJ js := ⟨_, rfl⟩
      have HKW : Hid (∀ u w, RJbS w w.heap.size u js → Calls Try.prog 13 #[u] w (RetV w (.int .i64 TOT))) := by
        intro u w q
        have h5 := kWork_any u js w q hj1 (fun x hx => by have := (areJb_in hA).2.1 x hx; omega)
        rw [← hTOT] at h5
        exact h5
      rw [hT] at hf
      have hjn : js.length ≤ 20 := hf.n20
      have HTOT : Hid (totL L L.length = TOT) := by show _ = _; rw [hTOT]; exact hf.tot
      have hLE : E.length = js.length := hf.lenE
      have hLT : T.length = js.length := hf.lenT
      have HLE := Lib.hid hLE
      have HLT := Lib.hid hLT
      have hei : (E.length : Int) = (js.length : Int) := by omega
      have HEI := Lib.hid hei
      have H := Lib.hid hf
      clear hf hT hTOT hA HF hLE hLT hei
      have QP : RS wc wc.heap.size (.slice Ap L.length cp) L := (RS.more (OS.rd f17) y17_)
      have HQP := Lib.hid QP
      clear QP
      go_wp2_with fail
      go_loopw [14, 91] (fun u i wr => ∃ j : Nat, j ≤ L.length ∧ u = .int .i64 (totL L j) ∧ i = .int .i64 j ∧ Below wc.heap.size wc wr) (fun _ i _ => L.length - (intOf i).toNat)
      case atStart => exact ⟨0, Nat.zero_le _, rfl, rfl, Below.refl _ _⟩
      case round =>
        obtain ⟨j, hj, rfl, rfl, hT⟩ := hrel
        have HT := Lib.hid hT
        by_cases hlt : j < L.length
        · have hpj := RS.step HQP.out hT (Nat.le_refl _)
          obtain ⟨b, off, b2, off2, c2, rfl, _, hbB, hb2, d0, d1, d2⟩ := hpj.row2 j hlt (H.out.two _ (getD_mem _ _ _ hlt))
          have hbd := H.out.row j hlt
          have htot := H.out.tots j hj
          have htot2 : (1400 : Int) * (j : Int) ≤ 28000 := by omega
          have HSUM : Hid (totL L (j + 1) = totL L j + ((L.getD j []).getD 1 0 - (L.getD j []).getD 0 0)) := by show _ = _; rw [totL]
          have hjL : (j : Int) < (L.length : Int) := by omega
          clear hT
          cases j with
          | zero =>
            generalize totL L 0 = s at htot HSUM ⊢
            generalize (L.getD 0 []).getD 0 0 = x0 at d1 hbd HSUM
            generalize (L.getD 0 []).getD 1 0 = x1 at d2 hbd HSUM
            obtain ⟨v0, v1, v2⟩ := hbd
            obtain ⟨v3, v4⟩ := htot
            simp only [Nat.add_zero] at d0
            have n1 : decide (x1 ≤ x0) = false := by simp; omega
            have n2 : IntKind.i64.wrap (x1 - x0) = x1 - x0 := IntWalk.i64_in _ (by omega)
            have n3 : IntKind.i64.wrap (s + (x1 - x0)) = s + (x1 - x0) := IntWalk.i64_in _ (by omega)
            clear hpj H HTOT HST HKW
            as_aux_lemma =>
            go_wp2_with fail
            go_quiet (fail)
            go_wp2_with fail
            go_quiet (fail)
            go_wp2_with fail
            go_roundw
            case rel => exact ⟨1, by omega, by rw [HSUM.out], by go_num, below_drewN HT.out _⟩
            case measure => simp [intOf]; omega
          | succ r =>
            obtain ⟨b', off', b3, off3, c3, hbe, _, _, hb3, y0, y1, y2⟩ := hpj.row2 r (by omega) (H.out.two _ (getD_mem _ _ _ (by omega)))
            injection hbe with hbe
            injection hbe with q1 q2 q3
            subst q1; subst q2
            have hsep := H.out.sep r hlt
            have hrow := H.out.row r (by omega)
            generalize totL L (r + 1) = s at htot HSUM ⊢
            generalize (L.getD (r + 1) []).getD 0 0 = x0 at d1 hbd HSUM hsep
            generalize (L.getD (r + 1) []).getD 1 0 = x1 at d2 hbd HSUM
            generalize (L.getD r []).getD 1 0 = z1 at y2 hsep hrow
            generalize (L.getD r []).getD 0 0 = z0 at y1 hrow
            obtain ⟨v0, v1, v2⟩ := hbd
            obtain ⟨v3, v4⟩ := htot
            have n1 : decide (x1 ≤ x0) = false := by simp; omega
            have n5 : decide (x0 ≤ z1) = false := by simp; omega
            have n2 : IntKind.i64.wrap (x1 - x0) = x1 - x0 := IntWalk.i64_in _ (by omega)
            have n3 : IntKind.i64.wrap (s + (x1 - x0)) = s + (x1 - x0) := IntWalk.i64_in _ (by omega)
            have n4 : (r : Int) + 1 < (L.length : Int) := by omega
            have n6 : (r : Int) < (L.length : Int) := by omega
            clear hpj H HTOT HST HKW
            as_aux_lemma =>
            go_wp2_with fail
            go_quiet (fail)
            go_wp2_with fail
            go_quiet (fail)
            go_wp2_with fail
            go_roundw
            case rel => exact ⟨r + 2, by omega, by rw [HSUM.out], by go_num, below_drewN HT.out _⟩
            case measure => simp [intOf]; omega
        · obtain rfl : j = L.length := by omega
          rw [HTOT.out]
          have hb8 := HT.out
          clear HT hT HQP
          have s8_ := hb8.size
          have t8 := t7.trans (hb8.mono t7.size)
          have f21 := OK.step f16 hb8
          have y21_ := Nat.le_trans y16_ s8_
          clear f16 y16_
          have f22 := OS.step f17 hb8 y17_
          have y22_ := Nat.le_trans y17_ s8_
          clear f17 y17_
          have f23 := f19.step hb8
          have y23_ := Nat.le_trans y19_ s8_
          clear f19 y19_
          have z8 := z7.trans (hb8.mono z7.size)
          clear hb8 s8_ t7 z7
          go_wp2_with fail
          refine (HST.out _ _ (RK.more (OK.rk f21) y21_)).mono ?_; rintro e w9 ⟨s_u, rfl, o_s, hb9⟩
          have s9_ := hb9.size
          have t9 := t8.trans (hb9.mono t8.size)
          have f24 := OK.step f21 hb9
          have y24_ := Nat.le_trans y21_ s9_
          clear f21 y21_
          have f25 := OS.step f22 hb9 y22_
          have y25_ := Nat.le_trans y22_ s9_
          clear f22 y22_
          have f26 := f23.step hb9
          have y26_ := Nat.le_trans y23_ s9_
          clear f23 y23_
          have z9 := z8.trans (hb9.mono z8.size)
          clear hb9 s9_ t8 z8
          have y27_ := Nat.le_refl w9.heap.size
          go_upto_region 20 with fail
          go_cut [154] from 154 to 154 (fun s_154 wx => s_154 = .bool false ∧ Below w9.heap.size w9 wx)
          case first =>
            have QJ : RJbS w9 w9.heap.size (.slice Aj js.length cj) js := (RK.more (OK.rk f24) y24_)
            have hei := HEI.out
            as_aux_lemma =>
            go_wp2_with (go_at_call 13; refine (HKW.out _ _ QJ).mono ?_; rintro e wq ⟨rfl, hq1⟩)
            go_meet
            exact ⟨by first | rfl | trivial | (simp; omega), hq1⟩
          case rest =>
            obtain ⟨rfl, hb10⟩ := hcut
            have s10_ := hb10.size
            have t10 := t9.trans (hb10.mono t9.size)
            have f28 := OK.step f24 hb10
            have y28_ := Nat.le_trans y24_ s10_
            clear f24 y24_
            have f29 := OS.step f25 hb10 y25_
            have y29_ := Nat.le_trans y25_ s10_
            clear f25 y25_
            have f30 := f26.step hb10
            have y30_ := Nat.le_trans y26_ s10_
            clear f26 y26_
            have f31 := o_s.step hb10
            have y31_ := Nat.le_trans y27_ s10_
            clear o_s y27_
            have z10 := z9.trans (hb10.mono z9.size)
            clear hb10 s10_ t9 z9
            clear HKW HST HTOT
            obtain ⟨As, cs, rfl, _, _⟩ := id (f31.ri.more y31_)
            have hZ := Lib.hid z10
            have QJ : RJbS wc wc.heap.size (.slice Aj js.length cj) js := (RK.more (OK.rk f28) y28_)
            have QP : RS wc wc.heap.size (.slice Ap L.length cp) L := (RS.more (OS.rd f29) y29_)
            have QE : RI wc wc.heap.size (.slice Ae E.length ce) E := (f30.ri.more y30_)
            have QT : RI wc wc.heap.size (.slice As T.length cs) T := (f31.ri.more y31_)
            have HQJ := Lib.hid QJ
            have HQP := Lib.hid QP
            have HQE := Lib.hid QE
            have HQT := Lib.hid QT
            clear QJ QP QE QT
            have hLEi : (js.length : Int) ≤ (E.length : Int) := by rw [HEI.out]; exact Int.le_refl _
            have hLTi : (js.length : Int) ≤ (T.length : Int) := by rw [HLT.out]; exact Int.le_refl _
            go_wp2_with fail
            go_loopw [157] (fun i wr => ∃ i0 : Nat, i0 ≤ js.length ∧ i = .int .i64 i0 ∧ Below wc.heap.size wc wr) (fun i _ => js.length - (intOf i).toNat)
            case atStart => exact ⟨0, Nat.zero_le _, rfl, Below.refl _ _⟩
            case round =>
              obtain ⟨i0, hi0, rfl, hT⟩ := hrel
              have HT := Lib.hid hT
              by_cases hlt : i0 < js.length
              · have hltI : (i0 : Int) < (js.length : Int) := by omega
                have hltE : (i0 : Int) < (E.length : Int) := by omega
                have hltT : (i0 : Int) < (T.length : Int) := by omega
                have hwr := hT.size
                obtain ⟨_, _, _, hcj⟩ := RJbS.parts (l := js) (RK.step HQJ.out hT (Nat.le_refl _))
                obtain ⟨bj, oj, rfl, hbj, hcellj⟩ := hcj (by omega)
                have HCJ := Lib.hid hcellj
                obtain ⟨j0, j1, j2⟩ := hcellj i0 hlt
                obtain ⟨A2, ce2, hv2, _, hcell2⟩ := HQE.out.step hT (Nat.le_refl _)
                injection hv2 with e1 e2 e3
                subst e1
                subst e3
                have qe1 := HLE.out
                have qe2 := HLT.out
                obtain ⟨be, oe, rfl, hbe, pe⟩ := hcell2 (by omega)
                have xe := pe i0 (by omega)
                obtain ⟨A3, cs2, hv3, _, hcell3⟩ := HQT.out.step hT (Nat.le_refl _)
                injection hv3 with e4 e5 e6
                subst e4
                subst e6
                obtain ⟨bs, os, rfl, hbs, ps⟩ := hcell3 (by omega)
                have xs := ps i0 (by omega)
                have hjob := H.out.job i0 hlt
                have hbnd := H.out.bnd i0 hlt
                have hlate := H.out.late i0 hlt
                have htop := H.out.top i0 hlt
                have hheld := H.out.held i0 hlt
                have HAH := Lib.hid (fun k (hk : k ≤ i0) => H.out.ahead k (by omega))
                have HJB := Lib.hid H.out.job
                have HROW := Lib.hid H.out.row
                have HTWO := Lib.hid H.out.two
                obtain ⟨y, hy⟩ : ∃ y, y = js[i0]! := ⟨_, rfl⟩
                rw [← hy] at j0 j1 j2 hjob hlate htop hheld
                obtain ⟨yt, yc, yl⟩ := y
                obtain ⟨e, he⟩ : ∃ e, e = E.getD i0 0 := ⟨_, rfl⟩
                obtain ⟨s, hs⟩ : ∃ s, s = T.getD i0 0 := ⟨_, rfl⟩
                rw [← he] at xe hbnd hlate htop hheld
                rw [← hs] at xs hbnd hheld
                simp only at j0 j1 j2 hjob hlate htop hheld
                have HHELD := Lib.hid hheld
                have HTOP := Lib.hid htop
                have Hyc : Hid ((js[i0]!).c = yc) := by show _ = _; rw [← hy]
                clear hheld htop hy he hs pe ps hcell2 hcell3 hcellj hcj H e2 e5 qe1 qe2
                obtain ⟨v0, v1, v2, v3, v4, v5⟩ := hjob
                obtain ⟨v6, v7, v8, v9⟩ := hbnd
                have hbk := BK.made wr 36 #[.int .i64 yt, .int .i64 yc, .int .i64 yl]
                have hal : Below wr.heap.size wr (wr.alloc (.cells #[.int .i64 yt, .int .i64 yc, .int .i64 yl] 36)) := (Below.refl _ _).alloc (Nat.le_refl _) _
                obtain ⟨W1, hW1⟩ : ∃ W1, wr.alloc (.cells #[.int .i64 yt, .int .i64 yc, .int .i64 yl] 36) = W1 := ⟨_, rfl⟩
                have hT1 := HT.out.trans (hal.mono hwr)
                rw [hW1] at hbk hal hT1
                have HBK := Lib.hid hbk
                have HT1 := Lib.hid hT1
                have HAL := Lib.hid hal
                have HQP1 := Lib.hid (RS.step HQP.out hT1 (Nat.le_refl _))
                have XE := Lib.hid ((hal.cell (p := ⟨be, oe + i0, none⟩) (Nat.lt_of_lt_of_le hbe hwr)).trans xe)
                have XS := Lib.hid ((hal.cell (p := ⟨bs, os + i0, none⟩) (Nat.lt_of_lt_of_le hbs hwr)).trans xs)
                have HCJ1 : Hid (∀ i, i < js.length → W1.cell? ⟨bj, oj + i * 3 + 1, none⟩ = some (.int .i64 js[i]!.c) ∧ W1.cell? ⟨bj, oj + i * 3 + 2, none⟩ = some (.int .i64 js[i]!.l)) := fun i hi => ⟨(hal.cell (p := ⟨bj, oj + i * 3 + 1, none⟩) (Nat.lt_of_lt_of_le hbj hwr)).trans (HCJ.out i hi).2.1, (hal.cell (p := ⟨bj, oj + i * 3 + 2, none⟩) (Nat.lt_of_lt_of_le hbj hwr)).trans (HCJ.out i hi).2.2⟩
                have hsW := hT1.size
                have hbe1 := Nat.lt_of_lt_of_le hbe hsW
                have hbs1 := Nat.lt_of_lt_of_le hbs hsW
                have hbj1 := Nat.lt_of_lt_of_le hbj hsW
                clear hbk hal hT1 hT xe xs HCJ
                go_wp2_with fail
                go_loopw [21, 164] (fun f i wq => ∃ q : Nat, q ≤ L.length ∧ f = .bool (fnd L s yl e q) ∧ i = .int .i64 q ∧ Below W1.heap.size W1 wq) (fun _ i _ => L.length - (intOf i).toNat)
                case atStart => exact ⟨0, Nat.zero_le _, rfl, rfl, Below.refl _ _⟩
                case round =>
                  obtain ⟨q, hq, rfl, rfl, hB⟩ := hrel
                  have HB := Lib.hid hB
                  have xe := (hB.cell (p := ⟨be, oe + i0, none⟩) hbe1).trans XE.out
                  have hbk := HBK.out.step hB
                  have k0 := hbk.cell 0
                  have k1 := hbk.cell 1
                  have k2 := hbk.cell 2
                  simp at k0 k1 k2
                  by_cases hql : q < L.length
                  · have hpj := RS.step HQP1.out hB hsW
                    obtain ⟨b, off, b2, off2, c2, rfl, _, hbB, hb2, d0, d1, d2⟩ := hpj.row2 q hql (HTWO.out _ (getD_mem _ _ _ hql))
                    have xs := (hB.cell (p := ⟨bs, os + i0, none⟩) hbs1).trans XS.out
                    have hbd := HROW.out q hql
                    have hqL : (q : Int) < (L.length : Int) := by omega
                    have hS : fnd L s yl e (q + 1) = (fnd L s yl e q || (decide ((L.getD q []).getD 0 0 ≤ s) && (decide (s + yl ≤ (L.getD q []).getD 1 0) && (decide (e ≤ (L.getD q []).getD 1 0) && decide ((L.getD q []).getD 0 0 < e))))) := rfl
                    generalize (L.getD q []).getD 0 0 = x0 at d1 hbd hS
                    generalize (L.getD q []).getD 1 0 = x1 at d2 hbd hS
                    obtain ⟨y0, y1, y2⟩ := hbd
                    have hw : IntKind.i64.wrap (s + yl) = s + yl := IntWalk.i64_in _ (by omega)
                    obtain ⟨fq, hfq⟩ : ∃ f, f = fnd L s yl e q := ⟨_, rfl⟩
                    rw [← hfq] at hS ⊢
                    clear hfq hpj hB hbk HHELD HTOP HAH HJB HCJ1 HTWO HROW XE XS HBK HQP1 Hyc HAL
                    cases fq
                    · by_cases h0 : x0 ≤ s
                      · by_cases h1 : s + yl ≤ x1
                        · by_cases h2 : e ≤ x1
                          · by_cases h3 : x0 < e
                            · have n0 : decide (x0 ≤ s) = true := by simp; omega
                              have n1 : decide (s + yl ≤ x1) = true := by simp; omega
                              have n2 : decide (e ≤ x1) = true := by simp; omega
                              have n3 : decide (x0 < e) = true := by simp; omega
                              have HS : Hid (fnd L s yl e (q + 1) = true) := by show _ = _; rw [hS, n0, n1, n2, n3]; simp
                              clear hS
                              as_aux_lemma =>
                              go_wp2_with fail
                              go_quiet (fail)
                              go_wp2_with fail
                              go_roundw
                              case rel => exact ⟨q + 1, by omega, by rw [HS.out], by go_num, below_drewN HB.out _⟩
                              case measure => simp [intOf]; omega
                            · have n0 : decide (x0 ≤ s) = true := by simp; omega
                              have n1 : decide (s + yl ≤ x1) = true := by simp; omega
                              have n2 : decide (e ≤ x1) = true := by simp; omega
                              have n3 : decide (x0 < e) = false := by simp; omega
                              have HS : Hid (fnd L s yl e (q + 1) = false) := by show _ = _; rw [hS, n0, n1, n2, n3]; simp
                              clear hS
                              as_aux_lemma =>
                              go_wp2_with fail
                              go_quiet (fail)
                              go_wp2_with fail
                              go_roundw
                              case rel => exact ⟨q + 1, by omega, by rw [HS.out], by go_num, below_drewN HB.out _⟩
                              case measure => simp [intOf]; omega
                          · have n0 : decide (x0 ≤ s) = true := by simp; omega
                            have n1 : decide (s + yl ≤ x1) = true := by simp; omega
                            have n2 : decide (e ≤ x1) = false := by simp; omega
                            have HS : Hid (fnd L s yl e (q + 1) = false) := by show _ = _; rw [hS, n0, n1, n2]; simp
                            clear hS
                            as_aux_lemma =>
                            go_wp2_with fail
                            go_quiet (fail)
                            go_wp2_with fail
                            go_roundw
                            case rel => exact ⟨q + 1, by omega, by rw [HS.out], by go_num, below_drewN HB.out _⟩
                            case measure => simp [intOf]; omega
                        · have n0 : decide (x0 ≤ s) = true := by simp; omega
                          have n1 : decide (s + yl ≤ x1) = false := by simp; omega
                          have HS : Hid (fnd L s yl e (q + 1) = false) := by show _ = _; rw [hS, n0, n1]; simp
                          clear hS
                          as_aux_lemma =>
                          go_wp2_with fail
                          go_quiet (fail)
                          go_wp2_with fail
                          go_roundw
                          case rel => exact ⟨q + 1, by omega, by rw [HS.out], by go_num, below_drewN HB.out _⟩
                          case measure => simp [intOf]; omega
                      · have n0 : decide (x0 ≤ s) = false := by simp; omega
                        have HS : Hid (fnd L s yl e (q + 1) = false) := by show _ = _; rw [hS, n0]; simp
                        clear hS
                        as_aux_lemma =>
                        go_wp2_with fail
                        go_quiet (fail)
                        go_wp2_with fail
                        go_roundw
                        case rel => exact ⟨q + 1, by omega, by rw [HS.out], by go_num, below_drewN HB.out _⟩
                        case measure => simp [intOf]; omega
                    · have HS : Hid (fnd L s yl e (q + 1) = true) := by show _ = _; rw [hS]; rfl
                      clear hS
                      as_aux_lemma =>
                      go_wp2_with fail
                      go_quiet (fail)
                      go_wp2_with fail
                      go_roundw
                      case rel => exact ⟨q + 1, by omega, by rw [HS.out], by go_num, below_drewN HB.out _⟩
                      case measure => simp [intOf]; omega
                  · obtain rfl : q = L.length := by omega
                    rw [HHELD.out]
                    have HTW := Lib.hid (HT1.out.trans (hB.mono hsW))
                    have n1 : decide (e < yt + yl) = false := by simp; omega
                    have n2 : IntKind.i64.wrap (yt + yl) = yt + yl := IntWalk.i64_in _ (by omega)
                    clear hB hbk HQP1 HHELD
                    by_cases h7 : yc = 7
                    · have htop := HTOP.out h7
                      have hah := HAH.out i0 (Nat.le_refl _)
                      clear HTOP
                      have HAQ : Hid (decide (yt + yl + sumP topP js i0 < e) = false ∧ IntKind.i64.wrap (yt + yl + sumP topP js i0) = yt + yl + sumP topP js i0) := ⟨by simp; omega, IntWalk.i64_in _ (by omega)⟩
                      subst h7
                      clear htop hah
                      as_aux_lemma =>
                      go_wp2_with fail
                      go_quiet (fail)
                      go_wp2_with fail
                      go_loopw [24, 25] (fun a k wx => ∃ k0 : Nat, k0 ≤ i0 ∧ a = .int .i64 (sumP topP js k0) ∧ k = .int .i64 k0 ∧ ∃ n, wx = wr.drewN n) (fun _ k _ => i0 - (intOf k).toNat)
                      case atStart => exact ⟨0, Nat.zero_le _, rfl, rfl, _, rfl⟩
                      case round =>
                        obtain ⟨k0, hk0, rfl, rfl, nn, rfl⟩ := hrel
                        by_cases hk : k0 < i0
                        · have hS : sumP topP js (k0 + 1) = sumP topP js k0 + if topP js[k0]! = true then js[k0]!.l else 0 := rfl
                          have hcl := HCJ1.out k0 (by omega)
                          have hz := HJB.out k0 (by omega)
                          have ha := HAH.out k0 (by omega)
                          generalize js[k0]! = z at hS hcl hz
                          obtain ⟨zt, zc, zl⟩ := z
                          simp only at hcl hz
                          obtain ⟨g1, g2⟩ := hcl
                          have g3 := (HB.out.cell (p := ⟨bj, oj + k0 * 3 + 1, none⟩) hbj1).trans g1
                          have g4 := (HB.out.cell (p := ⟨bj, oj + k0 * 3 + 2, none⟩) hbj1).trans g2
                          obtain ⟨z0, z1, z2, z3, z4, z5⟩ := hz
                          have hkI : (k0 : Int) < (i0 : Int) := by omega
                          have hkJ : (k0 : Int) < (js.length : Int) := by omega
                          generalize sumP topP js k0 = A at hS ha ⊢
                          obtain ⟨a0, a1⟩ := ha
                          have a2 : A ≤ 400 := by omega
                          clear g1 g2 HCJ1 HJB HAH HAQ HBK XE XS xe n1 n2 a1
                          by_cases h7 : zc = 7
                          · subst h7
                            have HS : Hid (sumP topP js (k0 + 1) = A + zl) := by show _ = _; rw [hS, if_pos (by simp [topP])]
                            clear hS
                            as_aux_lemma =>
                            go_wp2_with fail
                            go_roundw
                            case rel => exact ⟨k0 + 1, by omega, by rw [HS.out], by go_num, _, rfl⟩
                            case measure => simp [intOf]; omega
                          · have HS : Hid (sumP topP js (k0 + 1) = A) := by show _ = _; rw [hS, if_neg (by simp [topP]; exact h7), Int.add_zero]
                            clear hS
                            as_aux_lemma =>
                            go_wp2_with fail
                            go_roundw
                            case rel => exact ⟨k0 + 1, by omega, by rw [HS.out], by go_num, _, rfl⟩
                            case measure => simp [intOf]; omega
                        · obtain rfl : k0 = i0 := by omega
                          obtain ⟨n3, n4⟩ := HAQ.out
                          generalize sumP topP js k0 = A at n3 n4 ⊢
                          clear HCJ1 HJB HAH HAQ HBK XE XS
                          as_aux_lemma =>
                          go_wp2_with fail
                          go_quiet (fail)
                          go_wp2_with fail
                          go_roundw
                          case rel => exact ⟨k0 + 1, by omega, by go_num, below_drewN HTW.out _⟩
                          case measure => simp [intOf]; omega
                    · clear HTOP HAH HJB HCJ1
                      as_aux_lemma =>
                      go_wp2_with fail
                      go_quiet (fail)
                      go_wp2_with fail
                      go_roundw
                      case rel => exact ⟨i0 + 1, by omega, by go_num, below_drewN HTW.out _⟩
                      case measure => simp [intOf]; omega
              · obtain rfl : i0 = js.length := by omega
                go_wp2_with fail
                go_meet
                exact hZ.out.trans (HT.out.mono hZ.out.size)
    case rest =>
      have hb8 := hcut
      clear hcut
      have s8_ := hb8.size
      have t8 := t7.trans (hb8.mono t7.size)
      have f32 := OK.step f16 hb8
      have y32_ := Nat.le_trans y16_ s8_
      clear f16 y16_
      have f33 := OS.step f17 hb8 y17_
      have y33_ := Nat.le_trans y17_ s8_
      clear f17 y17_
      have f34 := f19.step hb8
      have y34_ := Nat.le_trans y19_ s8_
      clear f19 y19_
      clear hb8 s8_ t7
      clear f32
      clear f33
      clear f34
      clear HF
      go_wp2_with fail
      refine (drawWorkLeft_any m mn _ (RB.wide9 (RB.below hm t8) t8.size) hmn).mono ?_; rintro e w9 ⟨u_k, lk, tk, rfl, hkl, hk0, hk1, o_k, hb9⟩
      have s9_ := hb9.size
      have t9 := t8.trans (hb9.mono t8.size)
      clear hb9 s9_ t8
      have y35_ := Nat.le_refl w9.heap.size
      have hnk : lk.length ≤ 1048576 := by omega
      have htw : (Lit.int .i64 tk).wf = true := WalkArith.wf_i64 (by omega)
      obtain ⟨X, O2, hX⟩ : ∃ S O, (S, O) = workOf lk tk := ⟨_, _, rfl⟩
      have HXimpl : Hid (∀ u w, RJbS w w.heap.size u lk → Calls Try.prog 15 #[u, .int .i64 tk] w (RetV w (.tuple #[.int .i64 X, .bool O2]))) := by
        show ∀ u w, RJbS w w.heap.size u lk → Calls Try.prog 15 #[u, .int .i64 tk] w (RetV w (.tuple #[.int .i64 X, .bool O2]))
        intro u w q
        have h5 := implWorkLeft_any u lk tk w q hnk htw
        rw [← hX] at h5
        exact h5
      have HXspec : Hid (∀ u w, RJbS w w.heap.size u lk → Calls Try.prog 16 #[u, .int .i64 tk] w (RetV w (.tuple #[.int .i64 X, .bool O2]))) := by
        show ∀ u w, RJbS w w.heap.size u lk → Calls Try.prog 16 #[u, .int .i64 tk] w (RetV w (.tuple #[.int .i64 X, .bool O2]))
        intro u w q
        have h5 := specWorkLeft_any u lk tk w q hnk htw
        rw [← hX] at h5
        exact h5
      have XX := Lib.hid hX
      clear hX htw
      go_wp2_with fail
      refine (HXimpl.out _ _ (RK.more (OK.rk o_k) y35_)).mono ?_; rintro e w10 ⟨rfl, hb10⟩
      have s10_ := hb10.size
      have t10 := t9.trans (hb10.mono t9.size)
      have f36 := OK.step o_k hb10
      have y36_ := Nat.le_trans y35_ s10_
      clear o_k y35_
      clear hb10 s10_ t9
      go_wp2_with fail
      refine (HXspec.out _ _ (RK.more (OK.rk f36) y36_)).mono ?_; rintro e w11 ⟨rfl, hb11⟩
      have s11_ := hb11.size
      have t11 := t10.trans (hb11.mono t10.size)
      have f37 := OK.step f36 hb11
      have y37_ := Nat.le_trans y36_ s11_
      clear f36 y36_
      clear hb11 s11_ t10
      go_upto_region 46 with fail
      go_cut [285] from 285 to 285 (fun s_285 wx => s_285 = .bool false ∧ Below w11.heap.size w11 wx)
      case first =>
        as_aux_lemma =>
        go_wp2_with fail
        go_meet
        exact ⟨by first | rfl | trivial | simp, Below.refl _ _⟩
      case rest =>
        obtain ⟨rfl, hb12⟩ := hcut
        have s12_ := hb12.size
        have t12 := t11.trans (hb12.mono t11.size)
        have f38 := OK.step f37 hb12
        have y38_ := Nat.le_trans y37_ s12_
        clear f37 y37_
        clear hb12 s12_ t11
        cases O2
        · go_wp2_with fail
          go_ret
          exact ⟨rfl, t12⟩
        obtain ⟨hfs, hlf⟩ := lfF_of (js := lk) (tick := tk) (by rw [← XX.out])
        rw [← XX.out] at hlf
        simp only at hlf
        obtain ⟨G, hG⟩ : ∃ G, fifo lk = G := ⟨_, rfl⟩
        rw [hG] at hfs hlf
        have HFS : Hid (∀ u w, RJbS w w.heap.size u lk → Calls Try.prog 17 #[u] w (RetLB 3 w G true)) := by
          intro u w q
          have h5 := implFirstStarts_any u lk w q hnk
          rw [hfs] at h5
          exact h5
        have hn20 := hlf.n20
        have hGl := hlf.lenF
        have htk := hlf.tk
        have H := Lib.hid hlf
        have HGL := Lib.hid hGl
        clear hfs hlf hG XX HXimpl HXspec hGl
        go_wp2_with fail
        refine (HFS.out _ _ (RK.more (OK.rk f38) y38_)).mono ?_; rintro e w13 ⟨g_u, rfl, o_g, hb13⟩
        have s13_ := hb13.size
        have t13 := t12.trans (hb13.mono t12.size)
        have f39 := OK.step f38 hb13
        have y39_ := Nat.le_trans y38_ s13_
        clear f38 y38_
        clear hb13 s13_ t12
        have y40_ := Nat.le_refl w13.heap.size
        obtain ⟨Ag, cg, rfl, _, _⟩ := id (o_g.ri.more y40_)
        obtain ⟨Ak, ck, rfl, _, _, _⟩ := id (RK.more (OK.rk f39) y39_)
        have QK : RJbS w13 w13.heap.size (.slice Ak lk.length ck) lk := (RK.more (OK.rk f39) y39_)
        have QG : RI w13 w13.heap.size (.slice Ag G.length cg) G := (o_g.ri.more y40_)
        have HQK := Lib.hid QK
        have HQG := Lib.hid QG
        have hGi : (lk.length : Int) ≤ (G.length : Int) := by rw [HGL.out]; exact Int.le_refl _
        have hZ := Lib.hid t13
        obtain ⟨w0, w1⟩ := htk
        clear QK QG HFS
        go_wp2_with fail
        go_loopw [34, 294] (fun u i wr => ∃ j : Nat, j ≤ lk.length ∧ u = .int .i64 (lawL lk tk j) ∧ i = .int .i64 j ∧ Below w13.heap.size w13 wr) (fun _ i _ => lk.length - (intOf i).toNat)
        case atStart => exact ⟨0, Nat.zero_le _, rfl, rfl, Below.refl _ _⟩
        case round =>
          obtain ⟨j, hj, rfl, rfl, hT⟩ := hrel
          have HT := Lib.hid hT
          have hwr := hT.size
          by_cases hlt : j < lk.length
          · have hltI : (j : Int) < (lk.length : Int) := by omega
            have hltG : (j : Int) < (G.length : Int) := by omega
            obtain ⟨_, _, _, hcj⟩ := RJbS.parts (l := lk) (RK.step HQK.out hT (Nat.le_refl _))
            obtain ⟨bj, oj, rfl, hbj, hcellj⟩ := hcj (by omega)
            obtain ⟨j0, j1, j2⟩ := hcellj j hlt
            obtain ⟨A2, cg2, hv2, _, hcell2⟩ := HQG.out.step hT (Nat.le_refl _)
            injection hv2 with e1 e2 e3
            subst e1
            subst e3
            have qg := HGL.out
            obtain ⟨bg, og, rfl, hbg, pg⟩ := hcell2 (by omega)
            have xg := pg j (by omega)
            have hjob := H.out.job j hlt
            have hstep := H.out.step j hlt
            have hsum := H.out.sum j hj
            generalize lk[j]! = y at j0 j1 j2 hjob hstep
            obtain ⟨yt, yc, yl⟩ := y
            generalize G.getD j 0 = f at xg hjob hstep
            generalize lawL lk tk j = s at hstep hsum ⊢
            simp only at j0 j1 j2 hjob hstep
            obtain ⟨v0, v1, v2, v3, v4, v5⟩ := hjob
            obtain ⟨v6, v7⟩ := hsum
            have v8 : s ≤ 400 := by omega
            have xg1 := (((Below.refl wr.heap.size wr).alloc (Nat.le_refl _) (.cells #[.int .i64 yt, .int .i64 yc, .int .i64 yl] 36)).cell (p := ⟨bg, og + j, none⟩) (Nat.lt_of_lt_of_le hbg hwr)).trans xg
            clear pg hcell2 hcellj hcj e2 qg hT H HQK HQG HGL v7
            by_cases h1 : tk < yt
            · have HS : Hid (lawL lk tk (j + 1) = s) := by show _ = _; rw [hstep, if_pos h1, Int.add_zero]
              clear hstep
              as_aux_lemma =>
              go_wp2_with fail
              go_roundw
              case rel => exact ⟨j + 1, by omega, by rw [HS.out], by go_num, HT.out.alloc hwr _⟩
              case measure => simp [intOf]; omega
            · rw [if_neg h1] at hstep
              by_cases h2 : tk - f < 0
              · have HS : Hid (lawL lk tk (j + 1) = s + yl) := by show _ = _; rw [hstep, clI, if_pos (by omega)]; omega
                clear hstep
                as_aux_lemma =>
                go_wp2_with fail
                go_roundw
                case rel => exact ⟨j + 1, by omega, by rw [HS.out], by go_num, HT.out.alloc hwr _⟩
                case measure => simp [intOf]; omega
              · by_cases h3 : yl < tk - f
                · have HS : Hid (lawL lk tk (j + 1) = s) := by show _ = _; rw [hstep, clI, if_neg (by omega), if_neg (by omega)]; omega
                  clear hstep
                  as_aux_lemma =>
                  go_wp2_with fail
                  go_roundw
                  case rel => exact ⟨j + 1, by omega, by rw [HS.out], by go_num, HT.out.alloc hwr _⟩
                  case measure => simp [intOf]; omega
                · have HS : Hid (lawL lk tk (j + 1) = s + (yl - (tk - f))) := by
                    show _ = _
                    rw [hstep, clI]
                    split
                    · omega
                    · split <;> omega
                  clear hstep
                  as_aux_lemma =>
                  go_wp2_with fail
                  go_roundw
                  case rel => exact ⟨j + 1, by omega, by rw [HS.out], by go_num, HT.out.alloc hwr _⟩
                  case measure => simp [intOf]; omega
          · obtain rfl : j = lk.length := by omega
            rw [H.out.all]
            have HTT := Lib.hid (hZ.out.trans (hT.mono hZ.out.size))
            clear hT HT H HQK HQG
            go_wp2_with fail
            go_ret
            exact ⟨rfl, HTT.out⟩
end Go.Proofs.Ytdggaeipfbacmaa
