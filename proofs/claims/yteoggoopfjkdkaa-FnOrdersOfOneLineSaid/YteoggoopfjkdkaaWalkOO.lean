/-
  FnOrdersOfOneLine: the walk.
-/
import Derived.Test.YteoggoopfjkdkaaMathRO
import Derived.Test.YteoggoopfjkdkaaCurEM
import Derived.Test.YteoggoopfjkdkaaStarts
import Derived.Test.YteoggoopfjkdkaaByC
import Derived.Test.YteoggoopfjkdkaaIsBusy
import Derived.Test.YteoggoopfjkdkaaWaits
import Derived.Test.YteoggoopfjkdkaaOver
import Derived.Test.YteoggoopfjkdkaaTurnKN
import Derived.Test.YteoggoopfjkdkaaTurnZ
import Derived.Deep.RegionWith
import Derived.Deep.DeepCutAuto
import Derived.Deep.CutRange
import Derived.BigQuiet
namespace Go.Proofs.Yteoggoopfjkdkaa
open Go.RowKit
set_option maxRecDepth 100000
set_option linter.unusedVariables false

theorem RB.wide9 {w : World} {B B' : Nat} {v : Value} {n : Nat} (h : RB w B v n) (hB : B ≤ B') : RB w B' v n := by
  obtain ⟨A, c, hv, hlc, hc⟩ := h
  refine ⟨A, c, hv, hlc, fun hn => ?_⟩
  obtain ⟨b, off, hA, hbB, hcell⟩ := hc hn
  exact ⟨b, off, hA, by omega, hcell⟩
theorem oo_says (js : List Jb) : ∃ (O1 : Bool) (Fi St : List Int), firstOf js = (Fi, O1) ∧ strictOf js = (St, O1) ∧ areJb js = O1 ∧ (Fi.length ≤ 1048576 ∧ St.length ≤ 1048576) ∧ (O1 = true → ∃ A Tn Df wt, OoF js Fi St A Tn Df wt) := by
  cases hA : areJb js
  · exact ⟨false, [], [], by simp [firstOf, hA], by simp [strictOf, hA], rfl, by simp, fun h => by cases h⟩
  · exact ⟨true, startsOf rk0 js, startsOf rkC js, by simp [firstOf, hA], by simp [strictOf, hA], rfl, ⟨startsOf_len2 hA, startsOf_len2 hA⟩, fun _ => ooF_of hA⟩
theorem litN9 {E : TypeId} {w : World} (l : List Int) (m : Nat) (cs : Array Value) (hm : m = l.length) (hm0 : 0 < m) (hcs : cs.toList = ics l) (hl : l.length ≤ 100) : RI (w.alloc (.cells cs E)) (w.alloc (.cells cs E)).heap.size (.slice (some ⟨w.heap.size, 0, none⟩) m m) l := (litN l m cs hm hm0 hcs hl).ri
set_option maxHeartbeats 16000000 in
theorem walkOO (c m : Value) (cn mn : Nat) (w : World) (hc : RB w w.heap.size c cn) (hm : RB w w.heap.size m mn) :
    Calls Try.prog 3 #[c, m] w (RetV w (.bool true)) := by
  rcases Nat.lt_or_ge 1048576 (cn + mn) with hbig | hbig
  · have hbg := big_all c m cn mn _ w hc hm
    rw [show (decide ((1048576 : Int) < cn) || decide ((1048576 : Int) - cn < mn)) = true from by simp; omega] at hbg
    go_enter Try.func3, Try.ntmps3
    go_wp2_with fail
    refine hbg.mono ?_; rintro e w1 ⟨rfl, hb⟩
    go_wp2_with fail
    go_ret
    exact ⟨rfl, hb⟩
  have hbg := Lib.hid (big_any c m cn mn _ w hc hm hbig)
  have hcn : cn ≤ 1048576 := by omega
  have hmn : mn ≤ 1048576 := by omega
  have t0 : Below w.heap.size w w := Below.refl _ _
  go_enter Try.func3, Try.ntmps3
  go_wp2_with fail
  refine (hbg.out).mono ?_; rintro e w1 ⟨rfl, hb1⟩
  have s1_ := hb1.size
  have t1 := t0.trans (hb1.mono t0.size)
  clear hb1 s1_ t0
  go_wp2_with fail
  refine (drawFirstStarts_any c cn _ (RB.wide9 (RB.below hc t1) t1.size) hcn).mono ?_; rintro e w2 ⟨u_j, l, rfl, hl, o_j, hb2⟩
  have s2_ := hb2.size
  have t2 := t1.trans (hb2.mono t1.size)
  clear hb2 s2_ t1
  have y1_ := Nat.le_refl w2.heap.size
  obtain ⟨O1, Fi, St, e1, e2, e3, ⟨hFl, hSl⟩, hHT⟩ := oo_says l
  have HAimpl : Hid (∀ u w, RJbS w w.heap.size u l → Calls Try.prog 6 #[u] w (RetLB 3 w Fi O1)) := by
    show ∀ u w, RJbS w w.heap.size u l → Calls Try.prog 6 #[u] w (RetLB 3 w Fi O1)
    intro u w q
    have h5 := implFirstStarts_any u l w q (by omega)
    rw [e1] at h5
    exact h5
  have HAspec : Hid (∀ u w, RJbS w w.heap.size u l → Calls Try.prog 7 #[u] w (RetLB 3 w Fi O1)) := by
    show ∀ u w, RJbS w w.heap.size u l → Calls Try.prog 7 #[u] w (RetLB 3 w Fi O1)
    intro u w q
    have h5 := specFirstStarts_any u l w q (by omega)
    rw [e1] at h5
    exact h5
  have HBimpl : Hid (∀ u w, RJbS w w.heap.size u l → Calls Try.prog 8 #[u] w (RetLB 3 w St O1)) := by
    show ∀ u w, RJbS w w.heap.size u l → Calls Try.prog 8 #[u] w (RetLB 3 w St O1)
    intro u w q
    have h5 := implStrictStarts_any u l w q (by omega)
    rw [e2] at h5
    exact h5
  have HBspec : Hid (∀ u w, RJbS w w.heap.size u l → Calls Try.prog 9 #[u] w (RetLB 3 w St O1)) := by
    show ∀ u w, RJbS w w.heap.size u l → Calls Try.prog 9 #[u] w (RetLB 3 w St O1)
    intro u w q
    have h5 := specStrictStarts_any u l w q (by omega)
    rw [e2] at h5
    exact h5
  have HJimpl : Hid (∀ u w, RJbS w w.heap.size u l → Calls Try.prog 11 #[u] w (RetV w (.bool O1))) := by
    show ∀ u w, RJbS w w.heap.size u l → Calls Try.prog 11 #[u] w (RetV w (.bool O1))
    intro u w q
    have h5 := implAreJobs_any u l w q (by omega)
    rw [e3] at h5
    exact h5
  have HJspec : Hid (∀ u w, RJbS w w.heap.size u l → Calls Try.prog 12 #[u] w (RetV w (.bool O1))) := by
    show ∀ u w, RJbS w w.heap.size u l → Calls Try.prog 12 #[u] w (RetV w (.bool O1))
    intro u w q
    have h5 := specAreJobs_any u l w q (by omega)
    rw [e3] at h5
    exact h5
  have HT := Lib.hid hHT
  clear e1 e2 e3 hHT
  go_wp2_with fail
  refine (HAimpl.out _ _ (RK.more (OK.rk o_j) y1_)).mono ?_; rintro e w3 ⟨f_u, rfl, o_f, hb3⟩
  have s3_ := hb3.size
  have t3 := t2.trans (hb3.mono t2.size)
  have f2 := OK.step o_j hb3
  have y2_ := Nat.le_trans y1_ s3_
  clear o_j y1_
  clear hb3 s3_ t2
  have y3_ := Nat.le_refl w3.heap.size
  go_wp2_with fail
  refine (HAspec.out _ _ (RK.more (OK.rk f2) y2_)).mono ?_; rintro e w4 ⟨fr_u, rfl, o_fr, hb4⟩
  have s4_ := hb4.size
  have t4 := t3.trans (hb4.mono t3.size)
  have f4 := OK.step f2 hb4
  have y4_ := Nat.le_trans y2_ s4_
  clear f2 y2_
  have f5 := o_f.step hb4
  have y5_ := Nat.le_trans y3_ s4_
  clear o_f y3_
  clear hb4 s4_ t3
  have y6_ := Nat.le_refl w4.heap.size
  go_wp2_with fail
  refine (HBimpl.out _ _ (RK.more (OK.rk f4) y4_)).mono ?_; rintro e w5 ⟨s_u, rfl, o_s, hb5⟩
  have s5_ := hb5.size
  have t5 := t4.trans (hb5.mono t4.size)
  have f7 := OK.step f4 hb5
  have y7_ := Nat.le_trans y4_ s5_
  clear f4 y4_
  have f8 := f5.step hb5
  have y8_ := Nat.le_trans y5_ s5_
  clear f5 y5_
  have f9 := o_fr.step hb5
  have y9_ := Nat.le_trans y6_ s5_
  clear o_fr y6_
  clear hb5 s5_ t4
  have y10_ := Nat.le_refl w5.heap.size
  go_wp2_with fail
  refine (HBspec.out _ _ (RK.more (OK.rk f7) y7_)).mono ?_; rintro e w6 ⟨sr_u, rfl, o_sr, hb6⟩
  have s6_ := hb6.size
  have t6 := t5.trans (hb6.mono t5.size)
  have f11 := OK.step f7 hb6
  have y11_ := Nat.le_trans y7_ s6_
  clear f7 y7_
  have f12 := f8.step hb6
  have y12_ := Nat.le_trans y8_ s6_
  clear f8 y8_
  have f13 := f9.step hb6
  have y13_ := Nat.le_trans y9_ s6_
  clear f9 y9_
  have f14 := o_s.step hb6
  have y14_ := Nat.le_trans y10_ s6_
  clear o_s y10_
  clear hb6 s6_ t5
  have y15_ := Nat.le_refl w6.heap.size
  clear HAimpl HAspec HBimpl HBspec
  go_upto_region 8 with fail
  go_cut [111] from 111 to 111 (fun s_111 wx => s_111 = .bool false ∧ Below w6.heap.size w6 wx)
  case first =>
    have QA : RI w6 w6.heap.size f_u Fi := (f12.ri.more y12_)
    have QB : RI w6 w6.heap.size fr_u Fi := (f13.ri.more y13_)
    have QC : RI w6 w6.heap.size s_u St := (f14.ri.more y14_)
    have QE : RI w6 w6.heap.size sr_u St := (o_sr.ri.more y15_)
    have QJ : RJbS w6 w6.heap.size u_j l := (RK.more (OK.rk f11) y11_)
    clear HT
    cases O1
    ·
      as_aux_lemma =>
      go_wp2_with (first | (go_at_call 10; (with_reducible refine (kSame_any _ _ Fi _ _ QA QB hFl).mono ?_); rintro e wq1 ⟨rfl, hq1⟩; clear QA QB; have QC := (QC.step hq1 (Nat.le_refl _)).more hq1.size; have QE := (QE.step hq1 (Nat.le_refl _)).more hq1.size; have QJ : RJbS wq1 wq1.heap.size _ l := RK.more (RK.step QJ hq1 (Nat.le_refl _)) hq1.size; have HQ1 := Lib.hid (hq1); clear hq1) | (go_at_call 10; (with_reducible refine (kSame_any _ _ St _ _ QC QE hSl).mono ?_); rintro e wq2 ⟨rfl, hq2⟩; clear QC QE; have QJ : RJbS wq2 wq2.heap.size _ l := RK.more (RK.step QJ hq2 (Nat.le_refl _)) hq2.size; have HQ2 := Lib.hid (HQ1.out.trans (hq2.mono HQ1.out.size)); clear hq2) | (go_at_call 11; refine (HJimpl.out _ _ QJ).mono ?_; rintro e wq3 ⟨rfl, hq3⟩; have QK : RJbS wq3 wq3.heap.size _ l := RK.more (RK.step QJ hq3 (Nat.le_refl _)) hq3.size; clear QJ; have HQ3 := Lib.hid (HQ2.out.trans (hq3.mono HQ2.out.size)); clear hq3) | (go_at_call 11; refine (HJimpl.out _ _ QK).mono ?_; rintro e wq4 ⟨rfl, hq4⟩; have QL : RJbS wq4 wq4.heap.size _ l := RK.more (RK.step QK hq4 (Nat.le_refl _)) hq4.size; clear QK; have HQ4 := Lib.hid (HQ3.out.trans (hq4.mono HQ3.out.size)); clear hq4) | (go_at_call 12; refine (HJspec.out _ _ QL).mono ?_; rintro e wq5 ⟨rfl, hq5⟩; have QM : RJbS wq5 wq5.heap.size _ l := RK.more (RK.step QL hq5 (Nat.le_refl _)) hq5.size; clear QL; have HQ5 := Lib.hid (HQ4.out.trans (hq5.mono HQ4.out.size)); clear hq5))
      go_meet
      exact ⟨by first | rfl | trivial | simp, HQ5.out⟩
    ·
      as_aux_lemma =>
      go_wp2_with (first | (go_at_call 10; (with_reducible refine (kSame_any _ _ Fi _ _ QA QB hFl).mono ?_); rintro e wq1 ⟨rfl, hq1⟩; clear QA QB; have QC := (QC.step hq1 (Nat.le_refl _)).more hq1.size; have QE := (QE.step hq1 (Nat.le_refl _)).more hq1.size; have QJ : RJbS wq1 wq1.heap.size _ l := RK.more (RK.step QJ hq1 (Nat.le_refl _)) hq1.size; have HQ1 := Lib.hid (hq1); clear hq1) | (go_at_call 10; (with_reducible refine (kSame_any _ _ St _ _ QC QE hSl).mono ?_); rintro e wq2 ⟨rfl, hq2⟩; clear QC QE; have QJ : RJbS wq2 wq2.heap.size _ l := RK.more (RK.step QJ hq2 (Nat.le_refl _)) hq2.size; have HQ2 := Lib.hid (HQ1.out.trans (hq2.mono HQ1.out.size)); clear hq2) | (go_at_call 11; refine (HJimpl.out _ _ QJ).mono ?_; rintro e wq3 ⟨rfl, hq3⟩; have QK : RJbS wq3 wq3.heap.size _ l := RK.more (RK.step QJ hq3 (Nat.le_refl _)) hq3.size; clear QJ; have HQ3 := Lib.hid (HQ2.out.trans (hq3.mono HQ2.out.size)); clear hq3) | (go_at_call 11; refine (HJimpl.out _ _ QK).mono ?_; rintro e wq4 ⟨rfl, hq4⟩; have QL : RJbS wq4 wq4.heap.size _ l := RK.more (RK.step QK hq4 (Nat.le_refl _)) hq4.size; clear QK; have HQ4 := Lib.hid (HQ3.out.trans (hq4.mono HQ3.out.size)); clear hq4) | (go_at_call 12; refine (HJspec.out _ _ QL).mono ?_; rintro e wq5 ⟨rfl, hq5⟩; have QM : RJbS wq5 wq5.heap.size _ l := RK.more (RK.step QL hq5 (Nat.le_refl _)) hq5.size; clear QL; have HQ5 := Lib.hid (HQ4.out.trans (hq5.mono HQ4.out.size)); clear hq5))
      go_meet
      exact ⟨by first | rfl | trivial | simp, HQ5.out⟩
  case rest =>
    obtain ⟨rfl, hb7⟩ := hcut
    have s7_ := hb7.size
    have t7 := t6.trans (hb7.mono t6.size)
    have f16 := OK.step f11 hb7
    have y16_ := Nat.le_trans y11_ s7_
    clear f11 y11_
    have f17 := f12.step hb7
    have y17_ := Nat.le_trans y12_ s7_
    clear f12 y12_
    have f18 := f13.step hb7
    have y18_ := Nat.le_trans y13_ s7_
    clear f13 y13_
    have f19 := f14.step hb7
    have y19_ := Nat.le_trans y14_ s7_
    clear f14 y14_
    have f20 := o_sr.step hb7
    have y20_ := Nat.le_trans y15_ s7_
    clear o_sr y15_
    clear hb7 s7_ t6
    clear f18
    clear f20
    clear HJimpl HJspec
    go_wp2_with fail
    refine (drawAgedStarts_any m mn _ (RB.wide9 (RB.below hm t7) t7.size) hmn).mono ?_; rintro e w8 ⟨u_a, la, st, rfl, hla, hst0, hst1, o_a, hb8⟩
    have s8_ := hb8.size
    have t8 := t7.trans (hb8.mono t7.size)
    have f21 := OK.step f16 hb8
    have y21_ := Nat.le_trans y16_ s8_
    clear f16 y16_
    have f22 := f17.step hb8
    have y22_ := Nat.le_trans y17_ s8_
    clear f17 y17_
    have f23 := f19.step hb8
    have y23_ := Nat.le_trans y19_ s8_
    clear f19 y19_
    clear hb8 s8_ t7
    have y24_ := Nat.le_refl w8.heap.size
    obtain ⟨Ag, O2, eA⟩ : ∃ A b, agedOf la st = (A, b) := ⟨_, _, rfl⟩
    have hAl : Ag.length ≤ 1048576 := by have := agedOf_len la st; rw [eA] at this; exact this
    have HCimpl : Hid (∀ u w, RJbS w w.heap.size u la → Calls Try.prog 14 #[u, .int .i64 st] w (RetLB 3 w Ag O2)) := by
      show ∀ u w, RJbS w w.heap.size u la → Calls Try.prog 14 #[u, .int .i64 st] w (RetLB 3 w Ag O2)
      intro u w q
      have h5 := implAgedStarts_any u la st w q (by omega) (WalkArith.wf_i64 (by omega))
      rw [eA] at h5
      exact h5
    have HCspec : Hid (∀ u w, RJbS w w.heap.size u la → Calls Try.prog 15 #[u, .int .i64 st] w (RetLB 3 w Ag O2)) := by
      show ∀ u w, RJbS w w.heap.size u la → Calls Try.prog 15 #[u, .int .i64 st] w (RetLB 3 w Ag O2)
      intro u w q
      have h5 := specAgedStarts_any u la st w q (by omega) (WalkArith.wf_i64 (by omega))
      rw [eA] at h5
      exact h5
    clear eA
    go_wp2_with fail
    refine (HCimpl.out _ _ (RK.more (OK.rk o_a) y24_)).mono ?_; rintro e w9 ⟨x_u, rfl, o_x, hb9⟩
    have s9_ := hb9.size
    have t9 := t8.trans (hb9.mono t8.size)
    have f25 := OK.step f21 hb9
    have y25_ := Nat.le_trans y21_ s9_
    clear f21 y21_
    have f26 := f22.step hb9
    have y26_ := Nat.le_trans y22_ s9_
    clear f22 y22_
    have f27 := f23.step hb9
    have y27_ := Nat.le_trans y23_ s9_
    clear f23 y23_
    have f28 := OK.step o_a hb9
    have y28_ := Nat.le_trans y24_ s9_
    clear o_a y24_
    clear hb9 s9_ t8
    have y29_ := Nat.le_refl w9.heap.size
    go_wp2_with fail
    refine (HCspec.out _ _ (RK.more (OK.rk f28) y28_)).mono ?_; rintro e w10 ⟨xr_u, rfl, o_xr, hb10⟩
    have s10_ := hb10.size
    have t10 := t9.trans (hb10.mono t9.size)
    have f30 := OK.step f25 hb10
    have y30_ := Nat.le_trans y25_ s10_
    clear f25 y25_
    have f31 := f26.step hb10
    have y31_ := Nat.le_trans y26_ s10_
    clear f26 y26_
    have f32 := f27.step hb10
    have y32_ := Nat.le_trans y27_ s10_
    clear f27 y27_
    have f33 := OK.step f28 hb10
    have y33_ := Nat.le_trans y28_ s10_
    clear f28 y28_
    have f34 := o_x.step hb10
    have y34_ := Nat.le_trans y29_ s10_
    clear o_x y29_
    clear hb10 s10_ t9
    have y35_ := Nat.le_refl w10.heap.size
    clear HCimpl HCspec
    clear f33
    go_wp2_with fail
    refine (drawTurnStarts_any m mn _ (RB.wide9 (RB.below hm t10) t10.size) hmn).mono ?_; rintro e w11 ⟨u_b, v_b, lb, gb, rfl, ⟨hlb, hgb⟩, r_b, r_bg, hb11⟩
    have s11_ := hb11.size
    have t11 := t10.trans (hb11.mono t10.size)
    have f36 := OK.step f30 hb11
    have y36_ := Nat.le_trans y30_ s11_
    clear f30 y30_
    have f37 := f31.step hb11
    have y37_ := Nat.le_trans y31_ s11_
    clear f31 y31_
    have f38 := f32.step hb11
    have y38_ := Nat.le_trans y32_ s11_
    clear f32 y32_
    have f39 := f34.step hb11
    have y39_ := Nat.le_trans y34_ s11_
    clear f34 y34_
    have f40 := o_xr.step hb11
    have y40_ := Nat.le_trans y35_ s11_
    clear o_xr y35_
    clear hb11 s11_ t10
    have y41_ := Nat.le_refl w11.heap.size
    have y42_ := Nat.le_refl w11.heap.size
    obtain ⟨Tb, OTb, eTb⟩ : ∃ A b, turnOf lb gb = (A, b) := ⟨_, _, rfl⟩
    have hTbl : Tb.length ≤ 1048576 := by have := turnOf_len lb gb; rw [eTb] at this; exact this
    have HTbimpl : Hid (∀ u v w, RJbS w w.heap.size u lb → RI w w.heap.size v gb → Calls Try.prog 17 #[u, v] w (RetLB 3 w Tb OTb)) := by
      show ∀ u v w, RJbS w w.heap.size u lb → RI w w.heap.size v gb → Calls Try.prog 17 #[u, v] w (RetLB 3 w Tb OTb)
      intro u v w q r
      have h5 := implTurnStarts_any u v lb gb w q r (by omega) (by omega)
      rw [eTb] at h5
      exact h5
    have HTbspec : Hid (∀ u v w, RJbS w w.heap.size u lb → RI w w.heap.size v gb → Calls Try.prog 18 #[u, v] w (RetLB 3 w Tb OTb)) := by
      show ∀ u v w, RJbS w w.heap.size u lb → RI w w.heap.size v gb → Calls Try.prog 18 #[u, v] w (RetLB 3 w Tb OTb)
      intro u v w q r
      have h5 := specTurnStarts_any u v lb gb w q r (by omega) (by omega)
      rw [eTb] at h5
      exact h5
    clear eTb
    go_wp2_with fail
    refine (HTbimpl.out _ _ _ (r_b.more y41_) (r_bg.more y42_)).mono ?_; rintro e w12 ⟨yb_u, rfl, o_yb, hb12⟩
    have s12_ := hb12.size
    have t12 := t11.trans (hb12.mono t11.size)
    have f43 := OK.step f36 hb12
    have y43_ := Nat.le_trans y36_ s12_
    clear f36 y36_
    have f44 := f37.step hb12
    have y44_ := Nat.le_trans y37_ s12_
    clear f37 y37_
    have f45 := f38.step hb12
    have y45_ := Nat.le_trans y38_ s12_
    clear f38 y38_
    have f46 := f39.step hb12
    have y46_ := Nat.le_trans y39_ s12_
    clear f39 y39_
    have f47 := f40.step hb12
    have y47_ := Nat.le_trans y40_ s12_
    clear f40 y40_
    have f48 := r_b.step hb12 y41_
    have y48_ := Nat.le_trans y41_ s12_
    clear r_b y41_
    have f49 := r_bg.step hb12 y42_
    have y49_ := Nat.le_trans y42_ s12_
    clear r_bg y42_
    clear hb12 s12_ t11
    have y50_ := Nat.le_refl w12.heap.size
    go_wp2_with fail
    refine (HTbspec.out _ _ _ (f48.more y48_) (f49.more y49_)).mono ?_; rintro e w13 ⟨ybr_u, rfl, o_ybr, hb13⟩
    have s13_ := hb13.size
    have t13 := t12.trans (hb13.mono t12.size)
    have f51 := OK.step f43 hb13
    have y51_ := Nat.le_trans y43_ s13_
    clear f43 y43_
    have f52 := f44.step hb13
    have y52_ := Nat.le_trans y44_ s13_
    clear f44 y44_
    have f53 := f45.step hb13
    have y53_ := Nat.le_trans y45_ s13_
    clear f45 y45_
    have f54 := f46.step hb13
    have y54_ := Nat.le_trans y46_ s13_
    clear f46 y46_
    have f55 := f47.step hb13
    have y55_ := Nat.le_trans y47_ s13_
    clear f47 y47_
    have f56 := f48.step hb13 y48_
    have y56_ := Nat.le_trans y48_ s13_
    clear f48 y48_
    have f57 := f49.step hb13 y49_
    have y57_ := Nat.le_trans y49_ s13_
    clear f49 y49_
    have f58 := o_yb.step hb13
    have y58_ := Nat.le_trans y50_ s13_
    clear o_yb y50_
    clear hb13 s13_ t12
    have y59_ := Nat.le_refl w13.heap.size
    clear HTbimpl HTbspec
    clear f56
    clear f57
    go_wp2_with fail
    refine (drawDeficitStarts_any m mn _ (RB.wide9 (RB.below hm t13) t13.size) hmn).mono ?_; rintro e w14 ⟨u_d, v_d, ld, gd, rfl, ⟨hld, hgd⟩, r_d, r_dg, hb14⟩
    have s14_ := hb14.size
    have t14 := t13.trans (hb14.mono t13.size)
    have f60 := OK.step f51 hb14
    have y60_ := Nat.le_trans y51_ s14_
    clear f51 y51_
    have f61 := f52.step hb14
    have y61_ := Nat.le_trans y52_ s14_
    clear f52 y52_
    have f62 := f53.step hb14
    have y62_ := Nat.le_trans y53_ s14_
    clear f53 y53_
    have f63 := f54.step hb14
    have y63_ := Nat.le_trans y54_ s14_
    clear f54 y54_
    have f64 := f55.step hb14
    have y64_ := Nat.le_trans y55_ s14_
    clear f55 y55_
    have f65 := f58.step hb14
    have y65_ := Nat.le_trans y58_ s14_
    clear f58 y58_
    have f66 := o_ybr.step hb14
    have y66_ := Nat.le_trans y59_ s14_
    clear o_ybr y59_
    clear hb14 s14_ t13
    have y67_ := Nat.le_refl w14.heap.size
    have y68_ := Nat.le_refl w14.heap.size
    obtain ⟨Db, ODb, eDb⟩ : ∃ A b, defOf ld gd = (A, b) := ⟨_, _, rfl⟩
    have hDbl : Db.length ≤ 1048576 := by have := defOf_len ld gd; rw [eDb] at this; exact this
    have HDbimpl : Hid (∀ u v w, RJbS w w.heap.size u ld → RI w w.heap.size v gd → Calls Try.prog 20 #[u, v] w (RetLB 3 w Db ODb)) := by
      show ∀ u v w, RJbS w w.heap.size u ld → RI w w.heap.size v gd → Calls Try.prog 20 #[u, v] w (RetLB 3 w Db ODb)
      intro u v w q r
      have h5 := implDeficitStarts_any u v ld gd w q r (by omega) (by omega)
      rw [eDb] at h5
      exact h5
    have HDbspec : Hid (∀ u v w, RJbS w w.heap.size u ld → RI w w.heap.size v gd → Calls Try.prog 21 #[u, v] w (RetLB 3 w Db ODb)) := by
      show ∀ u v w, RJbS w w.heap.size u ld → RI w w.heap.size v gd → Calls Try.prog 21 #[u, v] w (RetLB 3 w Db ODb)
      intro u v w q r
      have h5 := specDeficitStarts_any u v ld gd w q r (by omega) (by omega)
      rw [eDb] at h5
      exact h5
    clear eDb
    go_wp2_with fail
    refine (HDbimpl.out _ _ _ (r_d.more y67_) (r_dg.more y68_)).mono ?_; rintro e w15 ⟨yd_u, rfl, o_yd, hb15⟩
    have s15_ := hb15.size
    have t15 := t14.trans (hb15.mono t14.size)
    have f69 := OK.step f60 hb15
    have y69_ := Nat.le_trans y60_ s15_
    clear f60 y60_
    have f70 := f61.step hb15
    have y70_ := Nat.le_trans y61_ s15_
    clear f61 y61_
    have f71 := f62.step hb15
    have y71_ := Nat.le_trans y62_ s15_
    clear f62 y62_
    have f72 := f63.step hb15
    have y72_ := Nat.le_trans y63_ s15_
    clear f63 y63_
    have f73 := f64.step hb15
    have y73_ := Nat.le_trans y64_ s15_
    clear f64 y64_
    have f74 := f65.step hb15
    have y74_ := Nat.le_trans y65_ s15_
    clear f65 y65_
    have f75 := f66.step hb15
    have y75_ := Nat.le_trans y66_ s15_
    clear f66 y66_
    have f76 := r_d.step hb15 y67_
    have y76_ := Nat.le_trans y67_ s15_
    clear r_d y67_
    have f77 := r_dg.step hb15 y68_
    have y77_ := Nat.le_trans y68_ s15_
    clear r_dg y68_
    clear hb15 s15_ t14
    have y78_ := Nat.le_refl w15.heap.size
    go_wp2_with fail
    refine (HDbspec.out _ _ _ (f76.more y76_) (f77.more y77_)).mono ?_; rintro e w16 ⟨ydr_u, rfl, o_ydr, hb16⟩
    have s16_ := hb16.size
    have t16 := t15.trans (hb16.mono t15.size)
    have f79 := OK.step f69 hb16
    have y79_ := Nat.le_trans y69_ s16_
    clear f69 y69_
    have f80 := f70.step hb16
    have y80_ := Nat.le_trans y70_ s16_
    clear f70 y70_
    have f81 := f71.step hb16
    have y81_ := Nat.le_trans y71_ s16_
    clear f71 y71_
    have f82 := f72.step hb16
    have y82_ := Nat.le_trans y72_ s16_
    clear f72 y72_
    have f83 := f73.step hb16
    have y83_ := Nat.le_trans y73_ s16_
    clear f73 y73_
    have f84 := f74.step hb16
    have y84_ := Nat.le_trans y74_ s16_
    clear f74 y74_
    have f85 := f75.step hb16
    have y85_ := Nat.le_trans y75_ s16_
    clear f75 y75_
    have f86 := f76.step hb16 y76_
    have y86_ := Nat.le_trans y76_ s16_
    clear f76 y76_
    have f87 := f77.step hb16 y77_
    have y87_ := Nat.le_trans y77_ s16_
    clear f77 y77_
    have f88 := o_yd.step hb16
    have y88_ := Nat.le_trans y78_ s16_
    clear o_yd y78_
    clear hb16 s16_ t15
    have y89_ := Nat.le_refl w16.heap.size
    clear HDbimpl HDbspec
    clear f86
    clear f87
    go_upto_region 19 with fail
    go_cut [193] from 193 to 193 (fun s_193 wx => s_193 = .bool false ∧ Below w16.heap.size w16 wx)
    case first =>
      have QA : RI w16 w16.heap.size x_u Ag := (f82.ri.more y82_)
      have QB : RI w16 w16.heap.size xr_u Ag := (f83.ri.more y83_)
      have QC : RI w16 w16.heap.size yb_u Tb := (f84.ri.more y84_)
      have QE : RI w16 w16.heap.size ybr_u Tb := (f85.ri.more y85_)
      have QG : RI w16 w16.heap.size yd_u Db := (f88.ri.more y88_)
      have QH : RI w16 w16.heap.size ydr_u Db := (o_ydr.ri.more y89_)
      clear HT
      cases O2 <;> cases OTb <;> cases ODb
      all_goals
        as_aux_lemma =>
        go_wp2_with (first | (go_at_call 10; (with_reducible refine (kSame_any _ _ Ag _ _ QA QB hAl).mono ?_); rintro e wq1 ⟨rfl, hq1⟩; clear QA QB; have QC := (QC.step hq1 (Nat.le_refl _)).more hq1.size; have QE := (QE.step hq1 (Nat.le_refl _)).more hq1.size; have QG := (QG.step hq1 (Nat.le_refl _)).more hq1.size; have QH := (QH.step hq1 (Nat.le_refl _)).more hq1.size; have HQ1 := Lib.hid (hq1); clear hq1) | (go_at_call 10; (with_reducible refine (kSame_any _ _ Tb _ _ QC QE hTbl).mono ?_); rintro e wq2 ⟨rfl, hq2⟩; clear QC QE; have QG := (QG.step hq2 (Nat.le_refl _)).more hq2.size; have QH := (QH.step hq2 (Nat.le_refl _)).more hq2.size; have HQ2 := Lib.hid (HQ1.out.trans (hq2.mono HQ1.out.size)); clear hq2) | (go_at_call 10; (with_reducible refine (kSame_any _ _ Db _ _ QG QH hDbl).mono ?_); rintro e wq3 ⟨rfl, hq3⟩; clear QG QH; have HQ3 := Lib.hid (HQ2.out.trans (hq3.mono HQ2.out.size)); clear hq3))
        go_meet
        exact ⟨by first | rfl | trivial | simp, HQ3.out⟩
    case rest =>
      obtain ⟨rfl, hb17⟩ := hcut
      have s17_ := hb17.size
      have t17 := t16.trans (hb17.mono t16.size)
      have f90 := OK.step f79 hb17
      have y90_ := Nat.le_trans y79_ s17_
      clear f79 y79_
      have f91 := f80.step hb17
      have y91_ := Nat.le_trans y80_ s17_
      clear f80 y80_
      have f92 := f81.step hb17
      have y92_ := Nat.le_trans y81_ s17_
      clear f81 y81_
      have f93 := f82.step hb17
      have y93_ := Nat.le_trans y82_ s17_
      clear f82 y82_
      have f94 := f83.step hb17
      have y94_ := Nat.le_trans y83_ s17_
      clear f83 y83_
      have f95 := f84.step hb17
      have y95_ := Nat.le_trans y84_ s17_
      clear f84 y84_
      have f96 := f85.step hb17
      have y96_ := Nat.le_trans y85_ s17_
      clear f85 y85_
      have f97 := f88.step hb17
      have y97_ := Nat.le_trans y88_ s17_
      clear f88 y88_
      have f98 := o_ydr.step hb17
      have y98_ := Nat.le_trans y89_ s17_
      clear o_ydr y89_
      clear hb17 s17_ t16
      clear f93
      clear f94
      clear f95
      clear f96
      clear f97
      clear f98
      go_upto_if 194 with fail
      have z17 : Below wc.heap.size wc wc := Below.refl _ _
      cases O1
      · go_wp2_with fail
        go_ret
        exact ⟨rfl, t17⟩
      obtain ⟨A, Tn, Df, wt, hf⟩ := HT.out rfl
      clear HT
      have H := Lib.hid hf
      clear hf
      have HBU : Hid (∀ X u v w, isBusyOf l X = (true, true) ∧ weighted l X = (wt, true) → X.length ≤ 1048576 → RJbS w w.heap.size u l → RI w w.heap.size v X → Calls Try.prog 24 #[u, v] w (RetV w (.tuple #[.bool true, .bool true]))) := by
        show ∀ X, _
        intro X u v w hb hX q r
        have h5 := implIsBusySchedule_any u v l X w q r (by omega) hX
        rw [hb.1] at h5
        exact h5
      have HWE : Hid (∀ X u v w, isBusyOf l X = (true, true) ∧ weighted l X = (wt, true) → X.length ≤ 1048576 → RJbS w w.heap.size u l → RI w w.heap.size v X → Calls Try.prog 22 #[u, v] w (RetV w (.tuple #[.int .i64 wt, .bool true]))) := by
        show ∀ X, _
        intro X u v w hb hX q r
        have h5 := implWeightedWait_any u v l X w q r (by omega) hX
        rw [hb.2] at h5
        exact h5
      have HOV : Hid (∀ u v w, RJbS w w.heap.size u l → RI w w.heap.size v St → Calls Try.prog 23 #[u, v] w (RetV w (.tuple #[.int .i64 0, .bool true]))) := by
        show ∀ u, _
        intro u v w q r
        have h5 := implCountOvertaken_any u v l St w q r (by omega) hSl
        rw [H.out.strict] at h5
        exact h5
      have HAG : Hid (∀ u w, RJbS w w.heap.size u l → Calls Try.prog 14 #[u, .int .i64 100] w (RetLB 3 w A true)) := by
        show ∀ u, _
        intro u w q
        have h5 := implAgedStarts_any u l 100 w q (by omega) (WalkArith.wf_i64 (by omega))
        rw [H.out.aged] at h5
        exact h5
      have HTN : Hid (∀ u w, RJbS w w.heap.size u l → Calls Try.prog 17 #[u, .slice (some ⟨w.heap.size, 0, none⟩) 8 8] (w.alloc (.cells #[.int .i64 1, .int .i64 2, .int .i64 3, .int .i64 1, .int .i64 2, .int .i64 3, .int .i64 1, .int .i64 2] 3)) (RetLB 3 w Tn true)) := by
        show ∀ u, _
        intro u w q
        have hb : Below w.heap.size w (w.alloc (.cells #[.int .i64 1, .int .i64 2, .int .i64 3, .int .i64 1, .int .i64 2, .int .i64 3, .int .i64 1, .int .i64 2] 3)) := (Below.refl _ _).alloc (Nat.le_refl _) _
        have h5 := implTurnStarts_any u (.slice (some ⟨w.heap.size, 0, none⟩) 8 8) l [1, 2, 3, 1, 2, 3, 1, 2] (w.alloc (.cells #[.int .i64 1, .int .i64 2, .int .i64 3, .int .i64 1, .int .i64 2, .int .i64 3, .int .i64 1, .int .i64 2] 3)) (RK.more (RK.step q hb (Nat.le_refl _)) hb.size) (litN9 [1, 2, 3, 1, 2, 3, 1, 2] 8 _ rfl (by omega) rfl (by simp)) (by omega) (by simp)
        rw [H.out.turn] at h5
        refine h5.mono ?_
        rintro e w' ⟨v, he, ho, hb2⟩
        exact ⟨v, he, OI.wide ho hb.size (Nat.le_refl _), hb.trans (hb2.mono hb.size)⟩
      have HDF : Hid (∀ u w, RJbS w w.heap.size u l → Calls Try.prog 20 #[u, .slice (some ⟨w.heap.size, 0, none⟩) 8 8] (w.alloc (.cells #[.int .i64 5, .int .i64 4, .int .i64 3, .int .i64 2, .int .i64 1, .int .i64 5, .int .i64 4, .int .i64 3] 3)) (RetLB 3 w Df true)) := by
        show ∀ u, _
        intro u w q
        have hb : Below w.heap.size w (w.alloc (.cells #[.int .i64 5, .int .i64 4, .int .i64 3, .int .i64 2, .int .i64 1, .int .i64 5, .int .i64 4, .int .i64 3] 3)) := (Below.refl _ _).alloc (Nat.le_refl _) _
        have h5 := implDeficitStarts_any u (.slice (some ⟨w.heap.size, 0, none⟩) 8 8) l [5, 4, 3, 2, 1, 5, 4, 3] (w.alloc (.cells #[.int .i64 5, .int .i64 4, .int .i64 3, .int .i64 2, .int .i64 1, .int .i64 5, .int .i64 4, .int .i64 3] 3)) (RK.more (RK.step q hb (Nat.le_refl _)) hb.size) (litN9 [5, 4, 3, 2, 1, 5, 4, 3] 8 _ rfl (by omega) rfl (by simp)) (by omega) (by simp)
        rw [H.out.defi] at h5
        refine h5.mono ?_
        rintro e w' ⟨v, he, ho, hb2⟩
        exact ⟨v, he, OI.wide ho hb.size (Nat.le_refl _), hb.trans (hb2.mono hb.size)⟩
      go_wp2_with fail
      refine (HWE.out Fi _ _ _ H.out.b0 hFl (RK.more (OK.rk f90) y90_) (f91.ri.more y91_)).mono ?_; rintro e w18 ⟨rfl, hb18⟩
      have s18_ := hb18.size
      have t18 := t17.trans (hb18.mono t17.size)
      have f99 := OK.step f90 hb18
      have y99_ := Nat.le_trans y90_ s18_
      clear f90 y90_
      have f100 := f91.step hb18
      have y100_ := Nat.le_trans y91_ s18_
      clear f91 y91_
      have f101 := f92.step hb18
      have y101_ := Nat.le_trans y92_ s18_
      clear f92 y92_
      have z18 := z17.trans (hb18.mono z17.size)
      clear hb18 s18_ t17 z17
      go_wp2_with fail
      refine (HOV.out _ _ _ (RK.more (OK.rk f99) y99_) (f101.ri.more y101_)).mono ?_; rintro e w19 ⟨rfl, hb19⟩
      have s19_ := hb19.size
      have t19 := t18.trans (hb19.mono t18.size)
      have f102 := OK.step f99 hb19
      have y102_ := Nat.le_trans y99_ s19_
      clear f99 y99_
      have f103 := f100.step hb19
      have y103_ := Nat.le_trans y100_ s19_
      clear f100 y100_
      have f104 := f101.step hb19
      have y104_ := Nat.le_trans y101_ s19_
      clear f101 y101_
      have z19 := z18.trans (hb19.mono z18.size)
      clear hb19 s19_ t18 z18
      go_wp2_with fail
      refine (HAG.out _ _ (RK.more (OK.rk f102) y102_)).mono ?_; rintro e w20 ⟨a_u, rfl, o_a2, hb20⟩
      have s20_ := hb20.size
      have t20 := t19.trans (hb20.mono t19.size)
      have f105 := OK.step f102 hb20
      have y105_ := Nat.le_trans y102_ s20_
      clear f102 y102_
      have f106 := f103.step hb20
      have y106_ := Nat.le_trans y103_ s20_
      clear f103 y103_
      have f107 := f104.step hb20
      have y107_ := Nat.le_trans y104_ s20_
      clear f104 y104_
      have z20 := z19.trans (hb20.mono z19.size)
      clear hb20 s20_ t19 z19
      have y108_ := Nat.le_refl w20.heap.size
      go_wp2_with fail
      refine (HTN.out _ _ (RK.more (OK.rk f105) y105_)).mono ?_; rintro e w21 ⟨n_u, rfl, o_n2, hb21⟩
      have s21_ := hb21.size
      have t21 := t20.trans (hb21.mono t20.size)
      have f109 := OK.step f105 hb21
      have y109_ := Nat.le_trans y105_ s21_
      clear f105 y105_
      have f110 := f106.step hb21
      have y110_ := Nat.le_trans y106_ s21_
      clear f106 y106_
      have f111 := f107.step hb21
      have y111_ := Nat.le_trans y107_ s21_
      clear f107 y107_
      have f112 := o_a2.step hb21
      have y112_ := Nat.le_trans y108_ s21_
      clear o_a2 y108_
      have z21 := z20.trans (hb21.mono z20.size)
      clear hb21 s21_ t20 z20
      have y113_ := Nat.le_refl w21.heap.size
      go_wp2_with fail
      refine (HDF.out _ _ (RK.more (OK.rk f109) y109_)).mono ?_; rintro e w22 ⟨d_u, rfl, o_d2, hb22⟩
      have s22_ := hb22.size
      have t22 := t21.trans (hb22.mono t21.size)
      have f114 := OK.step f109 hb22
      have y114_ := Nat.le_trans y109_ s22_
      clear f109 y109_
      have f115 := f110.step hb22
      have y115_ := Nat.le_trans y110_ s22_
      clear f110 y110_
      have f116 := f111.step hb22
      have y116_ := Nat.le_trans y111_ s22_
      clear f111 y111_
      have f117 := f112.step hb22
      have y117_ := Nat.le_trans y112_ s22_
      clear f112 y112_
      have f118 := o_n2.step hb22
      have y118_ := Nat.le_trans y113_ s22_
      clear o_n2 y113_
      have z22 := z21.trans (hb22.mono z21.size)
      clear hb22 s22_ t21 z21
      have y119_ := Nat.le_refl w22.heap.size
      clear HOV HAG HTN HDF
      obtain ⟨Aj, cj, rfl, _, _, _⟩ := id (RK.more (OK.rk f114) y114_)
      obtain ⟨Af, cf, rfl, _, _⟩ := id (f115.ri.more y115_)
      obtain ⟨As, cs, rfl, _, _⟩ := id (f116.ri.more y116_)
      obtain ⟨Aa, ca, rfl, _, _⟩ := id (f117.ri.more y117_)
      obtain ⟨An, c9n, rfl, _, _⟩ := id (f118.ri.more y118_)
      obtain ⟨Ad, cd, rfl, _, _⟩ := id (o_d2.ri.more y119_)
      have hb23 : Below w22.heap.size w22 (w22.alloc (.cells #[.slice Af Fi.length cf, .slice As St.length cs, .slice Aa A.length ca, .slice An Tn.length c9n, .slice Ad Df.length cd] 26)) := (Below.refl _ _).alloc (Nat.le_refl _) _
      have x_rows := BK.made w22 26 #[.slice Af Fi.length cf, .slice As St.length cs, .slice Aa A.length ca, .slice An Tn.length c9n, .slice Ad Df.length cd]
      have s23_ := hb23.size
      have t23 := t22.trans (hb23.mono t22.size)
      have f120 := OK.step f114 hb23
      have y120_ := Nat.le_trans y114_ s23_
      clear f114 y114_
      have f121 := f115.step hb23
      have y121_ := Nat.le_trans y115_ s23_
      clear f115 y115_
      have f122 := f116.step hb23
      have y122_ := Nat.le_trans y116_ s23_
      clear f116 y116_
      have f123 := f117.step hb23
      have y123_ := Nat.le_trans y117_ s23_
      clear f117 y117_
      have f124 := f118.step hb23
      have y124_ := Nat.le_trans y118_ s23_
      clear f118 y118_
      have f125 := o_d2.step hb23
      have y125_ := Nat.le_trans y119_ s23_
      clear o_d2 y119_
      have z23 := z22.trans (hb23.mono z22.size)
      clear hb23 s23_ t22 z22
      have hT0 := Lib.hid t23
      have QJ : RJbS (w22.alloc (.cells #[.slice Af Fi.length cf, .slice As St.length cs, .slice Aa A.length ca, .slice An Tn.length c9n, .slice Ad Df.length cd] 26)) (w22.alloc (.cells #[.slice Af Fi.length cf, .slice As St.length cs, .slice Aa A.length ca, .slice An Tn.length c9n, .slice Ad Df.length cd] 26)).heap.size (.slice Aj l.length cj) l := (RK.more (OK.rk f120) y120_)
      have QF : RI (w22.alloc (.cells #[.slice Af Fi.length cf, .slice As St.length cs, .slice Aa A.length ca, .slice An Tn.length c9n, .slice Ad Df.length cd] 26)) (w22.alloc (.cells #[.slice Af Fi.length cf, .slice As St.length cs, .slice Aa A.length ca, .slice An Tn.length c9n, .slice Ad Df.length cd] 26)).heap.size (.slice Af Fi.length cf) Fi := (f121.ri.more y121_)
      have QS : RI (w22.alloc (.cells #[.slice Af Fi.length cf, .slice As St.length cs, .slice Aa A.length ca, .slice An Tn.length c9n, .slice Ad Df.length cd] 26)) (w22.alloc (.cells #[.slice Af Fi.length cf, .slice As St.length cs, .slice Aa A.length ca, .slice An Tn.length c9n, .slice Ad Df.length cd] 26)).heap.size (.slice As St.length cs) St := (f122.ri.more y122_)
      have QA : RI (w22.alloc (.cells #[.slice Af Fi.length cf, .slice As St.length cs, .slice Aa A.length ca, .slice An Tn.length c9n, .slice Ad Df.length cd] 26)) (w22.alloc (.cells #[.slice Af Fi.length cf, .slice As St.length cs, .slice Aa A.length ca, .slice An Tn.length c9n, .slice Ad Df.length cd] 26)).heap.size (.slice Aa A.length ca) A := (f123.ri.more y123_)
      have QN : RI (w22.alloc (.cells #[.slice Af Fi.length cf, .slice As St.length cs, .slice Aa A.length ca, .slice An Tn.length c9n, .slice Ad Df.length cd] 26)) (w22.alloc (.cells #[.slice Af Fi.length cf, .slice As St.length cs, .slice Aa A.length ca, .slice An Tn.length c9n, .slice Ad Df.length cd] 26)).heap.size (.slice An Tn.length c9n) Tn := (f124.ri.more y124_)
      have QD : RI (w22.alloc (.cells #[.slice Af Fi.length cf, .slice As St.length cs, .slice Aa A.length ca, .slice An Tn.length c9n, .slice Ad Df.length cd] 26)) (w22.alloc (.cells #[.slice Af Fi.length cf, .slice As St.length cs, .slice Aa A.length ca, .slice An Tn.length c9n, .slice Ad Df.length cd] 26)).heap.size (.slice Ad Df.length cd) Df := (f125.ri.more y125_)
      obtain ⟨g9, hg9⟩ : ∃ g9, w22.heap.size = g9 := ⟨_, rfl⟩
      have QB : BK (w22.alloc (.cells #[.slice Af Fi.length cf, .slice As St.length cs, .slice Aa A.length ca, .slice An Tn.length c9n, .slice Ad Df.length cd] 26)) g9 26 #[.slice Af Fi.length cf, .slice As St.length cs, .slice Aa A.length ca, .slice An Tn.length c9n, .slice Ad Df.length cd] := by rw [← hg9]; exact x_rows
      obtain ⟨W0, hW0⟩ : ∃ W0, (w22.alloc (.cells #[.slice Af Fi.length cf, .slice As St.length cs, .slice Aa A.length ca, .slice An Tn.length c9n, .slice Ad Df.length cd] 26)) = W0 := ⟨_, rfl⟩
      rw [hW0] at hT0 QJ QF QS QA QN QD QB
      have HX : Hid (∀ j : Nat, j < 5 → ∃ v X, (#[.slice Af Fi.length cf, .slice As St.length cs, .slice Aa A.length ca, .slice An Tn.length c9n, .slice Ad Df.length cd] : Array Value)[j]? = some v ∧ RI W0 W0.heap.size v X ∧ (isBusyOf l X = (true, true) ∧ weighted l X = (wt, true)) ∧ X.length ≤ 1048576) := by
        show ∀ j : Nat, _
        intro j hj
        match j, hj with
        | 0, _ => exact ⟨_, _, rfl, QF, H.out.b0, hFl⟩
        | 1, _ => exact ⟨_, _, rfl, QS, H.out.b1, hSl⟩
        | 2, _ => exact ⟨_, _, rfl, QA, H.out.b2, H.out.lens.2.2.1⟩
        | 3, _ => exact ⟨_, _, rfl, QN, H.out.b3, H.out.lens.2.2.2.1⟩
        | 4, _ => exact ⟨_, _, rfl, QD, H.out.b4, H.out.lens.2.2.2.2⟩
      have HQJ := Lib.hid QJ
      have HQF := Lib.hid QF
      have HQB := Lib.hid QB
      clear QJ QF QS QA QN QD QB
      go_upto_region 31 with fail
      go_wp2_with fail
      try rw [hg9]
      try rw [hW0]
      clear hg9 hW0
      go_loopw [251] (fun i wr => ∃ j0 : Nat, j0 ≤ 5 ∧ i = .int .i64 j0 ∧ Below W0.heap.size W0 wr) (fun i _ => 5 - (intOf i).toNat)
      case atStart => exact ⟨0, Nat.zero_le _, rfl, Below.refl _ _⟩
      case round =>
        obtain ⟨j0, hj0, rfl, hT⟩ := hrel
        have HT := Lib.hid hT
        have hsz := hT.size
        by_cases hlt : j0 < 5
        · have hjI : (j0 : Int) < 5 := by omega
          obtain ⟨v, X, hv, hr, hbw, hXl⟩ := HX.out j0 hlt
          have cj0 := (HQB.out.step hT).cell j0
          rw [hv] at cj0
          have qj : RJbS wr wr.heap.size (.slice Aj l.length cj) l := RK.more (RK.step HQJ.out hT (Nat.le_refl _)) hsz
          have qx := (hr.step hT (Nat.le_refl _)).more hsz
          have e12 : (wt != wt) = false := bne_self_eq_false _
          clear hv hr H HX HQB HQF hT
          go_wp2_with fail
          refine (HBU.out X _ _ _ hbw hXl qj qx).mono ?_; rintro e w2 ⟨rfl, hb2⟩
          have qj2 : RJbS w2 w2.heap.size (.slice Aj l.length cj) l := RK.more (RK.step qj hb2 (Nat.le_refl _)) hb2.size
          have qx2 := (qx.step hb2 (Nat.le_refl _)).more hb2.size
          clear qj qx cj0
          go_wp2_with fail
          refine (HWE.out X _ _ _ hbw hXl qj2 qx2).mono ?_; rintro e w3 ⟨rfl, hb3⟩
          have HT3 := Lib.hid (HT.out.trans ((hb2.trans (hb3.mono hb2.size)).mono hsz))
          clear qj2 qx2 hb2 hb3 hbw HBU HWE
          as_aux_lemma =>
          go_wp2_with fail
          go_roundw
          case rel => exact ⟨j0 + 1, by omega, by go_num, HT3.out⟩
          case measure => simp [intOf]; omega
        · obtain rfl : j0 = 5 := by omega
          clear HX HQB HBU HWE hT
          go_wp2_with fail
          go_loopw [48] (fun i wx => ∃ i0 : Nat, 1 ≤ i0 ∧ i0 ≤ Fi.length + 1 ∧ i = .int .i64 i0 ∧ ∃ n, wx = wr.drewN n) (fun i _ => Fi.length + 1 - (intOf i).toNat)
          case atStart => exact ⟨1, Nat.le_refl _, by omega, rfl, 0, by first | rfl | simp⟩
          case round =>
            obtain ⟨i0, hi1, hi0, rfl, nn, rfl⟩ := hrel
            by_cases hlt2 : i0 < Fi.length
            · obtain ⟨q, rfl⟩ : ∃ q, i0 = q + 1 := ⟨i0 - 1, by omega⟩
              have hlF := H.out.lens.1.1
              have n20 := H.out.n20
              have hqI : (q : Int) + 1 < (Fi.length : Int) := by omega
              have hqF : (q : Int) < (Fi.length : Int) := by omega
              have hqJ : (q : Int) < (l.length : Int) := by omega
              have s1 := H.out.start q (by omega)
              have s2 := H.out.start (q + 1) (by omega)
              have s3 := H.out.job q (by omega)
              have s4 := H.out.chain q (by omega)
              obtain ⟨A2, c2, hv2, _, hcell2⟩ := HQF.out.step HT.out (Nat.le_refl _)
              injection hv2 with e4 e5 e6
              subst e4
              subst e6
              obtain ⟨bf, oof, rfl, hbf, pf⟩ := hcell2 (by omega)
              have y1 := pf q (by omega)
              have y2 := pf (q + 1) (by omega)
              obtain ⟨_, _, _, hcj⟩ := RJbS.parts (l := l) (RK.step HQJ.out HT.out (Nat.le_refl _))
              obtain ⟨bj, oj, rfl, hbj, hcellj⟩ := hcj (by omega)
              have y3 := (hcellj q (by omega)).2.2
              have hwq2 : IntKind.i64.wrap (q : Int) = (q : Int) := IntWalk.i64_in _ (by omega)
              have hwq : IntKind.i64.wrap ((q : Int) + 1 - 1) = (q : Int) := by rw [IntWalk.i64_in _ (by omega)]; omega
              clear H HQJ HQF pf hcj hcellj hcell2 e5 hlF
              generalize l[q]! = z at y3 s3 s4
              obtain ⟨zt, zc, zl⟩ := z
              simp only at y3 s3 s4
              generalize Fi.getD q 0 = fa at y1 s1 s4
              generalize Fi.getD (q + 1) 0 = fb at y2 s2 s4
              have hwz : IntKind.i64.wrap (fa + zl) = fa + zl := IntWalk.i64_in _ (by omega)
              have n4 : decide (fb < fa + zl) = false := decide_eq_false (by omega)
              have n5 : ¬ fb < fa + zl := by omega
              as_aux_lemma =>
              go_wp2_with fail
              go_quiet (fail)
              go_wp2_with fail
              go_roundw
              case rel => exact ⟨_, .int .i64 ((q : Int) + 1 + 1), _, _, _, _, _, _, _, _, _, _, _, _, _, _, _, _, _, _, _, _, _, _, _, ⟨q + 1 + 1, by omega, by omega, by first | rfl | go_num, _, rfl⟩, rfl⟩
              case measure => simp [intOf]; omega
            · have hlI : ¬ (i0 : Int) < (Fi.length : Int) := by omega
              clear H HQJ HQF
              as_aux_lemma =>
              go_wp2_with fail
              go_ret
              exact ⟨by first | rfl | simp, hT0.out.trans ((below_drewN HT.out _).mono hT0.out.size)⟩
end Go.Proofs.Yteoggoopfjkdkaa
