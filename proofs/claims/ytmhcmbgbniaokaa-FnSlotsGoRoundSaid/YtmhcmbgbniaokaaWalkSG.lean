/-
  FnSlotsGoRound: the walk.
-/
import Derived.Test.YtmhcmbgbniaokaaMathSg
import Derived.Test.YtmhcmbgbniaokaaCurSm
import Derived.Test.YtmhcmbgbniaokaaSlC
import Derived.Test.YtmhcmbgbniaokaaSlD
import Derived.Test.YtmhcmbgbniaokaaLoads2
import Derived.Deep.RegionWith
import Derived.Deep.DeepCutAuto
import Derived.Deep.CutRange
namespace Go.Proofs.Ytmhcmbgbniaokaa
open Go.RowKit
set_option maxRecDepth 100000
set_option linter.unusedVariables false

theorem sg_snd (x : Sr) (l : List Ms) : (readSays x l).2 = slOk x l ∧ (filledSays x l).2 = slOk x l ∧ (lastSays x l).2 = slOk x l ∧ (slBound x l).2 = slOk x l ∧ (loads x l).2 = slOk x l := by
  cases h : slOk x l
  · simp [readSays, filledSays, lastSays, slBound, loads, h]
  · simp [readSays, filledSays, lastSays, slBound, loads, h]
theorem sg_are (x : Sr) (l : List Ms) : (areMsOf x l).2 = isSr x ∧ slOk x l = ((areMsOf x l).2 && (areMsOf x l).1) := by
  cases h : isSr x
  · simp [areMsOf, slOk, h]
  · simp [areMsOf, slOk, h]
theorem hops_in {x : Sr} {y : Ms} (h : (hopsMsOf x y).2 = true) : 1 ≤ (hopsMsOf x y).1 ∧ (hopsMsOf x y).1 < x.n := by
  cases hg : slOk x [⟨y.t, y.f, y.o⟩]
  · simp [hopsMsOf, hopsMs, hg] at h
  · have h1 := slOk_in hg
    have h2 := isSr_in h1.1
    have h3 := hopsI_in h2.1 ((areMs_in h1.2).2.1 ⟨y.t, y.f, y.o⟩ (by simp))
    simp only [hopsMsOf, hopsMs, hg, if_true]
    omega
set_option maxHeartbeats 8000000 in
theorem walkSG (c m : Value) (cn mn : Nat) (w : World) (hc : RB w w.heap.size c cn) (hm : RB w w.heap.size m mn) :
    Calls Try.prog 3 #[c, m] w (RetV w (.bool true)) := by
  rcases Nat.lt_or_ge 1048576 (cn + mn) with hbig | hbig
  · have hbg := big_all c m cn mn _ w hc hm
    rw [show (decide ((1048576 : Int) < cn) || decide ((1048576 : Int) - cn < mn)) = true from by simp; omega] at hbg
    go_enter Try.func3, Try.ntmps3
    go_wp2_with fail
    refine hbg.mono ?_; rintro e w1 ⟨rfl, hb⟩
    go_wp2_with fail
    go_ret
    exact ⟨rfl, hb⟩
  have hbg := Lib.hid (big_any c m cn mn _ w hc hm hbig)
  have hcn : cn ≤ 1048576 := by omega
  have hmn : mn ≤ 1048576 := by omega
  have t0 : Below w.heap.size w w := Below.refl _ _
  go_enter Try.func3, Try.ntmps3
  go_wp2_with fail
  refine (hbg.out).mono ?_; rintro e w1 ⟨rfl, hb1⟩
  have s1_ := hb1.size
  have t1 := t0.trans (hb1.mono t0.size)
  clear hb1 s1_ t0
  go_wp2_with fail
  refine (drawReadAt_any c cn _ (RB.wide9 (RB.below hc t1) t1.size) hcn).mono ?_; rintro e w2 ⟨x0, u_j, l, rfl, hjl, o_j, hb2⟩
  obtain ⟨xn, xh⟩ := x0
  simp only [SrV]
  have s2_ := hb2.size
  have t2 := t1.trans (hb2.mono t1.size)
  clear hb2 s2_ t1
  have y1_ := Nat.le_refl w2.heap.size
  have hb3 : Below w2.heap.size w2 (w2.alloc (.cells #[.int .i64 xn, .bool xh] 25)) := (Below.refl _ _).alloc (Nat.le_refl _) _
  have x_b := BK.made w2 25 #[.int .i64 xn, .bool xh]
  have s3_ := hb3.size
  have t3 := t2.trans (hb3.mono t2.size)
  have f2 := OK.step o_j hb3
  have y2_ := Nat.le_trans y1_ s3_
  clear o_j y1_
  clear hb3 s3_ t2
  have hn : l.length ≤ 1048576 := by omega
  obtain ⟨O, hO⟩ : ∃ b, b = slOk ⟨xn, xh⟩ l := ⟨_, rfl⟩
  obtain ⟨s1, s2, s3, s4, s5⟩ := sg_snd ⟨xn, xh⟩ l
  rw [← hO] at s1 s2 s3 s4 s5
  obtain ⟨R, hR⟩ : ∃ S, readSays ⟨xn, xh⟩ l = (S, O) := ⟨(readSays ⟨xn, xh⟩ l).1, by rw [← s1]⟩
  obtain ⟨E, hE⟩ : ∃ S, filledSays ⟨xn, xh⟩ l = (S, O) := ⟨(filledSays ⟨xn, xh⟩ l).1, by rw [← s2]⟩
  obtain ⟨LA, hLA⟩ : ∃ S, lastSays ⟨xn, xh⟩ l = (S, O) := ⟨(lastSays ⟨xn, xh⟩ l).1, by rw [← s3]⟩
  obtain ⟨BN, hBN⟩ : ∃ S, slBound ⟨xn, xh⟩ l = (S, O) := ⟨(slBound ⟨xn, xh⟩ l).1, by rw [← s4]⟩
  obtain ⟨LD, hLD⟩ : ∃ S, loads ⟨xn, xh⟩ l = (S, O) := ⟨(loads ⟨xn, xh⟩ l).1, by rw [← s5]⟩
  obtain ⟨AR, NI, hAR⟩ : ∃ a b, areMsOf ⟨xn, xh⟩ l = (a, b) := ⟨_, _, rfl⟩
  have eNI : isSr ⟨xn, xh⟩ = NI := by rw [← (sg_are ⟨xn, xh⟩ l).1, hAR]
  have eO : O = (NI && AR) := by rw [hO, (sg_are ⟨xn, xh⟩ l).2, hAR]
  have hRl : R.length ≤ 1048576 := by have := readSays_len ⟨xn, xh⟩ l; rw [hR] at this; exact this
  have hEl : E.length ≤ 1048576 := by have := filledSays_len ⟨xn, xh⟩ l; rw [hE] at this; exact this
  have hDl : LD.length ≤ 1048576 := by have := loads_len ⟨xn, xh⟩ l; rw [hLD] at this; exact this
  have hF : O = true → SgF ⟨xn, xh⟩ l E R LA BN LD := fun h => by
    rw [h] at hO
    have h5 := sgF_of hO.symm
    rw [readSays_yes hO.symm] at hR
    rw [filledSays_yes hO.symm] at hE
    rw [lastSays_yes hO.symm] at hLA
    rw [loads_yes hO.symm] at hLD
    injection hR with hR _
    injection hE with hE _
    injection hLA with hLA _
    injection hLD with hLD _
    rw [hLA, hR, hE, hBN, hLD] at h5
    exact h5
  have HRimpl : Hid (∀ u w, RMsS w w.heap.size u l → Calls Try.prog 6 #[.agg #[.int .i64 xn, .bool xh], u] w (RetLB 3 w R O)) := by
    show ∀ u w, RMsS w w.heap.size u l → Calls Try.prog 6 #[.agg #[.int .i64 xn, .bool xh], u] w (RetLB 3 w R O)
    intro u w q
    have h5 := implReadAt_any u ⟨xn, xh⟩ l w q hn
    rw [hR] at h5
    exact h5
  have HEimpl : Hid (∀ u w, RMsS w w.heap.size u l → Calls Try.prog 8 #[.agg #[.int .i64 xn, .bool xh], u] w (RetLB 3 w E O)) := by
    show ∀ u w, RMsS w w.heap.size u l → Calls Try.prog 8 #[.agg #[.int .i64 xn, .bool xh], u] w (RetLB 3 w E O)
    intro u w q
    have h5 := implFilledAt_any u ⟨xn, xh⟩ l w q hn
    rw [hE] at h5
    exact h5
  have HLimpl : Hid (∀ u w, RMsS w w.heap.size u l → Calls Try.prog 10 #[.agg #[.int .i64 xn, .bool xh], u] w (RetV w (.tuple #[.int .i64 LA, .bool O]))) := by
    show ∀ u w, RMsS w w.heap.size u l → Calls Try.prog 10 #[.agg #[.int .i64 xn, .bool xh], u] w (RetV w (.tuple #[.int .i64 LA, .bool O]))
    intro u w q
    have h5 := implLastRead_any u ⟨xn, xh⟩ l w q hn
    rw [hLA] at h5
    exact h5
  have HBimpl : Hid (∀ u w, RMsS w w.heap.size u l → Calls Try.prog 12 #[.agg #[.int .i64 xn, .bool xh], u] w (RetV w (.tuple #[.int .i64 BN, .bool O]))) := by
    show ∀ u w, RMsS w w.heap.size u l → Calls Try.prog 12 #[.agg #[.int .i64 xn, .bool xh], u] w (RetV w (.tuple #[.int .i64 BN, .bool O]))
    intro u w q
    have h5 := implSlotBound_any u ⟨xn, xh⟩ l w q hn
    rw [hBN] at h5
    exact h5
  have HDimpl : Hid (∀ u w, RMsS w w.heap.size u l → Calls Try.prog 14 #[.agg #[.int .i64 xn, .bool xh], u] w (RetLB 3 w LD O)) := by
    show ∀ u w, RMsS w w.heap.size u l → Calls Try.prog 14 #[.agg #[.int .i64 xn, .bool xh], u] w (RetLB 3 w LD O)
    intro u w q
    have h5 := implLoadOfLinks_any u ⟨xn, xh⟩ l w q hn
    rw [hLD] at h5
    exact h5
  have HAimpl : Hid (∀ u w, RMsS w w.heap.size u l → Calls Try.prog 16 #[.agg #[.int .i64 xn, .bool xh], u] w (RetV w (.tuple #[.bool AR, .bool NI]))) := by
    show ∀ u w, RMsS w w.heap.size u l → Calls Try.prog 16 #[.agg #[.int .i64 xn, .bool xh], u] w (RetV w (.tuple #[.bool AR, .bool NI]))
    intro u w q
    have h5 := implAreMessages_any u ⟨xn, xh⟩ l w q hn
    rw [hAR] at h5
    exact h5
  have HRspec : Hid (∀ u w, RMsS w w.heap.size u l → Calls Try.prog 7 #[.agg #[.int .i64 xn, .bool xh], u] w (RetLB 3 w R O)) := by
    show ∀ u w, RMsS w w.heap.size u l → Calls Try.prog 7 #[.agg #[.int .i64 xn, .bool xh], u] w (RetLB 3 w R O)
    intro u w q
    have h5 := specReadAt_any u ⟨xn, xh⟩ l w q hn
    rw [hR] at h5
    exact h5
  have HEspec : Hid (∀ u w, RMsS w w.heap.size u l → Calls Try.prog 9 #[.agg #[.int .i64 xn, .bool xh], u] w (RetLB 3 w E O)) := by
    show ∀ u w, RMsS w w.heap.size u l → Calls Try.prog 9 #[.agg #[.int .i64 xn, .bool xh], u] w (RetLB 3 w E O)
    intro u w q
    have h5 := specFilledAt_any u ⟨xn, xh⟩ l w q hn
    rw [hE] at h5
    exact h5
  have HLspec : Hid (∀ u w, RMsS w w.heap.size u l → Calls Try.prog 11 #[.agg #[.int .i64 xn, .bool xh], u] w (RetV w (.tuple #[.int .i64 LA, .bool O]))) := by
    show ∀ u w, RMsS w w.heap.size u l → Calls Try.prog 11 #[.agg #[.int .i64 xn, .bool xh], u] w (RetV w (.tuple #[.int .i64 LA, .bool O]))
    intro u w q
    have h5 := specLastRead_any u ⟨xn, xh⟩ l w q hn
    rw [hLA] at h5
    exact h5
  have HBspec : Hid (∀ u w, RMsS w w.heap.size u l → Calls Try.prog 13 #[.agg #[.int .i64 xn, .bool xh], u] w (RetV w (.tuple #[.int .i64 BN, .bool O]))) := by
    show ∀ u w, RMsS w w.heap.size u l → Calls Try.prog 13 #[.agg #[.int .i64 xn, .bool xh], u] w (RetV w (.tuple #[.int .i64 BN, .bool O]))
    intro u w q
    have h5 := specSlotBound_any u ⟨xn, xh⟩ l w q hn
    rw [hBN] at h5
    exact h5
  have HDspec : Hid (∀ u w, RMsS w w.heap.size u l → Calls Try.prog 15 #[.agg #[.int .i64 xn, .bool xh], u] w (RetLB 3 w LD O)) := by
    show ∀ u w, RMsS w w.heap.size u l → Calls Try.prog 15 #[.agg #[.int .i64 xn, .bool xh], u] w (RetLB 3 w LD O)
    intro u w q
    have h5 := specLoadOfLinks_any u ⟨xn, xh⟩ l w q hn
    rw [hLD] at h5
    exact h5
  have HAspec : Hid (∀ u w, RMsS w w.heap.size u l → Calls Try.prog 17 #[.agg #[.int .i64 xn, .bool xh], u] w (RetV w (.tuple #[.bool AR, .bool NI]))) := by
    show ∀ u w, RMsS w w.heap.size u l → Calls Try.prog 17 #[.agg #[.int .i64 xn, .bool xh], u] w (RetV w (.tuple #[.bool AR, .bool NI]))
    intro u w q
    have h5 := specAreMessages_any u ⟨xn, xh⟩ l w q hn
    rw [hAR] at h5
    exact h5
  have HI : Hid (∀ w, Calls Try.prog 19 #[.agg #[.int .i64 xn, .bool xh]] w (RetV w (.bool NI))) := by
    show ∀ w, Calls Try.prog 19 #[.agg #[.int .i64 xn, .bool xh]] w (RetV w (.bool NI))
    intro w
    have h5 := implIsSlotRing_any ⟨xn, xh⟩ w
    rw [eNI] at h5
    exact h5
  have HF := Lib.hid hF
  have EO := Lib.hid eO
  clear hR hE hLA hBN hLD hAR eNI eO hO s1 s2 s3 s4 s5 hF
  have j3 := x_b.cell 0
  have j4 := x_b.cell 1
  simp at j3 j4
  go_wp2_with fail
  refine (HRimpl.out _ _ (RK.more (OK.rk f2) y2_)).mono ?_; rintro e w4 ⟨r_u, rfl, o_r, hb4⟩
  have s4_ := hb4.size
  have t4 := t3.trans (hb4.mono t3.size)
  clear j3 j4
  have f5 := OK.step f2 hb4
  have y5_ := Nat.le_trans y2_ s4_
  clear f2 y2_
  have f6 := x_b.step hb4
  clear x_b
  clear hb4 s4_ t3
  have y7_ := Nat.le_refl w4.heap.size
  have j8 := f6.cell 0
  have j9 := f6.cell 1
  simp at j8 j9
  go_wp2_with fail
  refine (HRspec.out _ _ (RK.more (OK.rk f5) y5_)).mono ?_; rintro e w5 ⟨rr_u, rfl, o_rr, hb5⟩
  have s5_ := hb5.size
  have t5 := t4.trans (hb5.mono t4.size)
  clear j8 j9
  have f10 := OK.step f5 hb5
  have y10_ := Nat.le_trans y5_ s5_
  clear f5 y5_
  have f11 := f6.step hb5
  clear f6
  have f12 := o_r.step hb5
  have y12_ := Nat.le_trans y7_ s5_
  clear o_r y7_
  clear hb5 s5_ t4
  have y13_ := Nat.le_refl w5.heap.size
  have j14 := f11.cell 0
  have j15 := f11.cell 1
  simp at j14 j15
  go_wp2_with fail
  refine (HEimpl.out _ _ (RK.more (OK.rk f10) y10_)).mono ?_; rintro e w6 ⟨e_u, rfl, o_e, hb6⟩
  have s6_ := hb6.size
  have t6 := t5.trans (hb6.mono t5.size)
  clear j14 j15
  have f16 := OK.step f10 hb6
  have y16_ := Nat.le_trans y10_ s6_
  clear f10 y10_
  have f17 := f11.step hb6
  clear f11
  have f18 := f12.step hb6
  have y18_ := Nat.le_trans y12_ s6_
  clear f12 y12_
  have f19 := o_rr.step hb6
  have y19_ := Nat.le_trans y13_ s6_
  clear o_rr y13_
  clear hb6 s6_ t5
  have y20_ := Nat.le_refl w6.heap.size
  have j21 := f17.cell 0
  have j22 := f17.cell 1
  simp at j21 j22
  go_wp2_with fail
  refine (HEspec.out _ _ (RK.more (OK.rk f16) y16_)).mono ?_; rintro e w7 ⟨er_u, rfl, o_er, hb7⟩
  have s7_ := hb7.size
  have t7 := t6.trans (hb7.mono t6.size)
  clear j21 j22
  have f23 := OK.step f16 hb7
  have y23_ := Nat.le_trans y16_ s7_
  clear f16 y16_
  have f24 := f17.step hb7
  clear f17
  have f25 := f18.step hb7
  have y25_ := Nat.le_trans y18_ s7_
  clear f18 y18_
  have f26 := f19.step hb7
  have y26_ := Nat.le_trans y19_ s7_
  clear f19 y19_
  have f27 := o_e.step hb7
  have y27_ := Nat.le_trans y20_ s7_
  clear o_e y20_
  clear hb7 s7_ t6
  have y28_ := Nat.le_refl w7.heap.size
  have j29 := f24.cell 0
  have j30 := f24.cell 1
  simp at j29 j30
  go_wp2_with fail
  refine (HLimpl.out _ _ (RK.more (OK.rk f23) y23_)).mono ?_; rintro e w8 ⟨rfl, hb8⟩
  have s8_ := hb8.size
  have t8 := t7.trans (hb8.mono t7.size)
  clear j29 j30
  have f31 := OK.step f23 hb8
  have y31_ := Nat.le_trans y23_ s8_
  clear f23 y23_
  have f32 := f24.step hb8
  clear f24
  have f33 := f25.step hb8
  have y33_ := Nat.le_trans y25_ s8_
  clear f25 y25_
  have f34 := f26.step hb8
  have y34_ := Nat.le_trans y26_ s8_
  clear f26 y26_
  have f35 := f27.step hb8
  have y35_ := Nat.le_trans y27_ s8_
  clear f27 y27_
  have f36 := o_er.step hb8
  have y36_ := Nat.le_trans y28_ s8_
  clear o_er y28_
  clear hb8 s8_ t7
  have j37 := f32.cell 0
  have j38 := f32.cell 1
  simp at j37 j38
  go_wp2_with fail
  refine (HLspec.out _ _ (RK.more (OK.rk f31) y31_)).mono ?_; rintro e w9 ⟨rfl, hb9⟩
  have s9_ := hb9.size
  have t9 := t8.trans (hb9.mono t8.size)
  clear j37 j38
  have f39 := OK.step f31 hb9
  have y39_ := Nat.le_trans y31_ s9_
  clear f31 y31_
  have f40 := f32.step hb9
  clear f32
  have f41 := f33.step hb9
  have y41_ := Nat.le_trans y33_ s9_
  clear f33 y33_
  have f42 := f34.step hb9
  have y42_ := Nat.le_trans y34_ s9_
  clear f34 y34_
  have f43 := f35.step hb9
  have y43_ := Nat.le_trans y35_ s9_
  clear f35 y35_
  have f44 := f36.step hb9
  have y44_ := Nat.le_trans y36_ s9_
  clear f36 y36_
  clear hb9 s9_ t8
  have j45 := f40.cell 0
  have j46 := f40.cell 1
  simp at j45 j46
  go_wp2_with fail
  refine (HBimpl.out _ _ (RK.more (OK.rk f39) y39_)).mono ?_; rintro e w10 ⟨rfl, hb10⟩
  have s10_ := hb10.size
  have t10 := t9.trans (hb10.mono t9.size)
  clear j45 j46
  have f47 := OK.step f39 hb10
  have y47_ := Nat.le_trans y39_ s10_
  clear f39 y39_
  have f48 := f40.step hb10
  clear f40
  have f49 := f41.step hb10
  have y49_ := Nat.le_trans y41_ s10_
  clear f41 y41_
  have f50 := f42.step hb10
  have y50_ := Nat.le_trans y42_ s10_
  clear f42 y42_
  have f51 := f43.step hb10
  have y51_ := Nat.le_trans y43_ s10_
  clear f43 y43_
  have f52 := f44.step hb10
  have y52_ := Nat.le_trans y44_ s10_
  clear f44 y44_
  clear hb10 s10_ t9
  have j53 := f48.cell 0
  have j54 := f48.cell 1
  simp at j53 j54
  go_wp2_with fail
  refine (HBspec.out _ _ (RK.more (OK.rk f47) y47_)).mono ?_; rintro e w11 ⟨rfl, hb11⟩
  have s11_ := hb11.size
  have t11 := t10.trans (hb11.mono t10.size)
  clear j53 j54
  have f55 := OK.step f47 hb11
  have y55_ := Nat.le_trans y47_ s11_
  clear f47 y47_
  have f56 := f48.step hb11
  clear f48
  have f57 := f49.step hb11
  have y57_ := Nat.le_trans y49_ s11_
  clear f49 y49_
  have f58 := f50.step hb11
  have y58_ := Nat.le_trans y50_ s11_
  clear f50 y50_
  have f59 := f51.step hb11
  have y59_ := Nat.le_trans y51_ s11_
  clear f51 y51_
  have f60 := f52.step hb11
  have y60_ := Nat.le_trans y52_ s11_
  clear f52 y52_
  clear hb11 s11_ t10
  have j61 := f56.cell 0
  have j62 := f56.cell 1
  simp at j61 j62
  go_wp2_with fail
  refine (HDimpl.out _ _ (RK.more (OK.rk f55) y55_)).mono ?_; rintro e w12 ⟨d_u, rfl, o_d, hb12⟩
  have s12_ := hb12.size
  have t12 := t11.trans (hb12.mono t11.size)
  clear j61 j62
  have f63 := OK.step f55 hb12
  have y63_ := Nat.le_trans y55_ s12_
  clear f55 y55_
  have f64 := f56.step hb12
  clear f56
  have f65 := f57.step hb12
  have y65_ := Nat.le_trans y57_ s12_
  clear f57 y57_
  have f66 := f58.step hb12
  have y66_ := Nat.le_trans y58_ s12_
  clear f58 y58_
  have f67 := f59.step hb12
  have y67_ := Nat.le_trans y59_ s12_
  clear f59 y59_
  have f68 := f60.step hb12
  have y68_ := Nat.le_trans y60_ s12_
  clear f60 y60_
  clear hb12 s12_ t11
  have y69_ := Nat.le_refl w12.heap.size
  have j70 := f64.cell 0
  have j71 := f64.cell 1
  simp at j70 j71
  go_wp2_with fail
  refine (HDspec.out _ _ (RK.more (OK.rk f63) y63_)).mono ?_; rintro e w13 ⟨dr_u, rfl, o_dr, hb13⟩
  have s13_ := hb13.size
  have t13 := t12.trans (hb13.mono t12.size)
  clear j70 j71
  have f72 := OK.step f63 hb13
  have y72_ := Nat.le_trans y63_ s13_
  clear f63 y63_
  have f73 := f64.step hb13
  clear f64
  have f74 := f65.step hb13
  have y74_ := Nat.le_trans y65_ s13_
  clear f65 y65_
  have f75 := f66.step hb13
  have y75_ := Nat.le_trans y66_ s13_
  clear f66 y66_
  have f76 := f67.step hb13
  have y76_ := Nat.le_trans y67_ s13_
  clear f67 y67_
  have f77 := f68.step hb13
  have y77_ := Nat.le_trans y68_ s13_
  clear f68 y68_
  have f78 := o_d.step hb13
  have y78_ := Nat.le_trans y69_ s13_
  clear o_d y69_
  clear hb13 s13_ t12
  have y79_ := Nat.le_refl w13.heap.size
  have j80 := f73.cell 0
  have j81 := f73.cell 1
  simp at j80 j81
  go_wp2_with fail
  refine (HAimpl.out _ _ (RK.more (OK.rk f72) y72_)).mono ?_; rintro e w14 ⟨rfl, hb14⟩
  have s14_ := hb14.size
  have t14 := t13.trans (hb14.mono t13.size)
  clear j80 j81
  have f82 := OK.step f72 hb14
  have y82_ := Nat.le_trans y72_ s14_
  clear f72 y72_
  have f83 := f73.step hb14
  clear f73
  have f84 := f74.step hb14
  have y84_ := Nat.le_trans y74_ s14_
  clear f74 y74_
  have f85 := f75.step hb14
  have y85_ := Nat.le_trans y75_ s14_
  clear f75 y75_
  have f86 := f76.step hb14
  have y86_ := Nat.le_trans y76_ s14_
  clear f76 y76_
  have f87 := f77.step hb14
  have y87_ := Nat.le_trans y77_ s14_
  clear f77 y77_
  have f88 := f78.step hb14
  have y88_ := Nat.le_trans y78_ s14_
  clear f78 y78_
  have f89 := o_dr.step hb14
  have y89_ := Nat.le_trans y79_ s14_
  clear o_dr y79_
  clear hb14 s14_ t13
  have j90 := f83.cell 0
  have j91 := f83.cell 1
  simp at j90 j91
  go_wp2_with fail
  refine (HAspec.out _ _ (RK.more (OK.rk f82) y82_)).mono ?_; rintro e w15 ⟨rfl, hb15⟩
  have s15_ := hb15.size
  have t15 := t14.trans (hb15.mono t14.size)
  clear j90 j91
  have f92 := OK.step f82 hb15
  have y92_ := Nat.le_trans y82_ s15_
  clear f82 y82_
  have f93 := f83.step hb15
  clear f83
  have f94 := f84.step hb15
  have y94_ := Nat.le_trans y84_ s15_
  clear f84 y84_
  have f95 := f85.step hb15
  have y95_ := Nat.le_trans y85_ s15_
  clear f85 y85_
  have f96 := f86.step hb15
  have y96_ := Nat.le_trans y86_ s15_
  clear f86 y86_
  have f97 := f87.step hb15
  have y97_ := Nat.le_trans y87_ s15_
  clear f87 y87_
  have f98 := f88.step hb15
  have y98_ := Nat.le_trans y88_ s15_
  clear f88 y88_
  have f99 := f89.step hb15
  have y99_ := Nat.le_trans y89_ s15_
  clear f89 y89_
  clear hb15 s15_ t14
  clear HRimpl HRspec HEimpl HEspec HLimpl HLspec HBimpl HBspec HDimpl HDspec HAimpl HAspec
  go_upto_region 16 with fail
  go_cut [217] from 217 to 217 (fun s_217 wx => s_217 = .bool false ∧ Below w15.heap.size w15 wx)
  case first =>
    have QR : RI w15 w15.heap.size r_u R := (f94.ri.more y94_)
    have QS : RI w15 w15.heap.size rr_u R := (f95.ri.more y95_)
    have QE : RI w15 w15.heap.size e_u E := (f96.ri.more y96_)
    have QG : RI w15 w15.heap.size er_u E := (f97.ri.more y97_)
    have QD : RI w15 w15.heap.size d_u LD := (f98.ri.more y98_)
    have QH : RI w15 w15.heap.size dr_u LD := (f99.ri.more y99_)
    have BQ := f93
    have eO := EO.out
    clear EO HF
    cases NI
    · obtain rfl : O = false := by simpa using eO
      clear eO
      as_aux_lemma =>
      go_wp2_with (first | (go_at_call 18; (with_reducible refine (kSame_any _ _ R _ _ QR QS hRl).mono ?_); rintro e wq ⟨rfl, hq1⟩; have sq1 := hq1.size; have QE2 := (QE.step hq1 (Nat.le_refl _)).more sq1; have QG2 := (QG.step hq1 (Nat.le_refl _)).more sq1; have QD2 := (QD.step hq1 (Nat.le_refl _)).more sq1; have QH2 := (QH.step hq1 (Nat.le_refl _)).more sq1; have BQ2 := BQ.step hq1) | (go_at_call 18; (with_reducible refine (kSame_any _ _ E _ _ QE2 QG2 hEl).mono ?_); rintro e wp ⟨rfl, hq2⟩; have sq2 := hq2.size; have QD3 := (QD2.step hq2 (Nat.le_refl _)).more sq2; have QH3 := (QH2.step hq2 (Nat.le_refl _)).more sq2; have BQ3 := BQ2.step hq2; have hq12 := hq1.trans (hq2.mono sq1)) | (go_at_call 18; (with_reducible refine (kSame_any _ _ LD _ _ QD3 QH3 hDl).mono ?_); rintro e wo ⟨rfl, hq3⟩; have sq3 := hq3.size; have BQ4 := BQ3.step hq3; have a0 := BQ4.cell 0; have a1 := BQ4.cell 1; simp at a0 a1; have hq13 := hq12.trans (hq3.mono hq12.size)) | (go_at_call 19; refine (HI.out _).mono ?_; rintro e wn ⟨rfl, hq4⟩; have HQ14 := Lib.hid (hq13.trans (hq4.mono hq13.size))))
      go_meet
      exact ⟨by first | rfl | trivial | simp, HQ14.out⟩
    cases AR
    · obtain rfl : O = false := by simpa using eO
      clear eO
      as_aux_lemma =>
      go_wp2_with (first | (go_at_call 18; (with_reducible refine (kSame_any _ _ R _ _ QR QS hRl).mono ?_); rintro e wq ⟨rfl, hq1⟩; have sq1 := hq1.size; have QE2 := (QE.step hq1 (Nat.le_refl _)).more sq1; have QG2 := (QG.step hq1 (Nat.le_refl _)).more sq1; have QD2 := (QD.step hq1 (Nat.le_refl _)).more sq1; have QH2 := (QH.step hq1 (Nat.le_refl _)).more sq1; have BQ2 := BQ.step hq1) | (go_at_call 18; (with_reducible refine (kSame_any _ _ E _ _ QE2 QG2 hEl).mono ?_); rintro e wp ⟨rfl, hq2⟩; have sq2 := hq2.size; have QD3 := (QD2.step hq2 (Nat.le_refl _)).more sq2; have QH3 := (QH2.step hq2 (Nat.le_refl _)).more sq2; have BQ3 := BQ2.step hq2; have hq12 := hq1.trans (hq2.mono sq1)) | (go_at_call 18; (with_reducible refine (kSame_any _ _ LD _ _ QD3 QH3 hDl).mono ?_); rintro e wo ⟨rfl, hq3⟩; have sq3 := hq3.size; have BQ4 := BQ3.step hq3; have a0 := BQ4.cell 0; have a1 := BQ4.cell 1; simp at a0 a1; have hq13 := hq12.trans (hq3.mono hq12.size)) | (go_at_call 19; refine (HI.out _).mono ?_; rintro e wn ⟨rfl, hq4⟩; have HQ14 := Lib.hid (hq13.trans (hq4.mono hq13.size))))
      go_meet
      exact ⟨by first | rfl | trivial | simp, HQ14.out⟩
    · obtain rfl : O = true := by simpa using eO
      clear eO
      as_aux_lemma =>
      go_wp2_with (first | (go_at_call 18; (with_reducible refine (kSame_any _ _ R _ _ QR QS hRl).mono ?_); rintro e wq ⟨rfl, hq1⟩; have sq1 := hq1.size; have QE2 := (QE.step hq1 (Nat.le_refl _)).more sq1; have QG2 := (QG.step hq1 (Nat.le_refl _)).more sq1; have QD2 := (QD.step hq1 (Nat.le_refl _)).more sq1; have QH2 := (QH.step hq1 (Nat.le_refl _)).more sq1; have BQ2 := BQ.step hq1) | (go_at_call 18; (with_reducible refine (kSame_any _ _ E _ _ QE2 QG2 hEl).mono ?_); rintro e wp ⟨rfl, hq2⟩; have sq2 := hq2.size; have QD3 := (QD2.step hq2 (Nat.le_refl _)).more sq2; have QH3 := (QH2.step hq2 (Nat.le_refl _)).more sq2; have BQ3 := BQ2.step hq2; have hq12 := hq1.trans (hq2.mono sq1)) | (go_at_call 18; (with_reducible refine (kSame_any _ _ LD _ _ QD3 QH3 hDl).mono ?_); rintro e wo ⟨rfl, hq3⟩; have sq3 := hq3.size; have BQ4 := BQ3.step hq3; have a0 := BQ4.cell 0; have a1 := BQ4.cell 1; simp at a0 a1; have hq13 := hq12.trans (hq3.mono hq12.size)) | (go_at_call 19; refine (HI.out _).mono ?_; rintro e wn ⟨rfl, hq4⟩; have HQ14 := Lib.hid (hq13.trans (hq4.mono hq13.size))))
      go_meet
      exact ⟨by first | rfl | trivial | simp, HQ14.out⟩
  case rest =>
    obtain ⟨rfl, hb16⟩ := hcut
    have s16_ := hb16.size
    have t16 := t15.trans (hb16.mono t15.size)
    have f100 := OK.step f92 hb16
    have y100_ := Nat.le_trans y92_ s16_
    clear f92 y92_
    have f101 := f93.step hb16
    clear f93
    have f102 := f94.step hb16
    have y102_ := Nat.le_trans y94_ s16_
    clear f94 y94_
    have f103 := f95.step hb16
    have y103_ := Nat.le_trans y95_ s16_
    clear f95 y95_
    have f104 := f96.step hb16
    have y104_ := Nat.le_trans y96_ s16_
    clear f96 y96_
    have f105 := f97.step hb16
    have y105_ := Nat.le_trans y97_ s16_
    clear f97 y97_
    have f106 := f98.step hb16
    have y106_ := Nat.le_trans y98_ s16_
    clear f98 y98_
    have f107 := f99.step hb16
    have y107_ := Nat.le_trans y99_ s16_
    clear f99 y99_
    clear hb16 s16_ t15
    clear f103
    clear f105
    clear f107
    clear HI EO
    obtain ⟨Aj, cj, rfl, _, _, _⟩ := id (RK.more (OK.rk f100) y100_)
    obtain ⟨Ae, ce, rfl, _, _⟩ := id (f104.ri.more y104_)
    obtain ⟨Ar, cr, rfl, _, _⟩ := id (f102.ri.more y102_)
    obtain ⟨Ad, cd, rfl, _, _⟩ := id (f106.ri.more y106_)
    go_upto_if 218 with fail
    go_cut [] from 218 to 218 (fun wx => Below wc.heap.size wc wx)
    case first =>
      have z16 : Below wc.heap.size wc wc := Below.refl _ _
      cases O
      · go_wp2_with fail
        go_meet
        exact z16
      have hf := HF.out rfl
      clear HF
      have hl20 : (l.length : Int) ≤ 20 := by have := hf.n20; omega
      have hn20 := hf.n20
      have hlE := hf.lenE
      have hlR := hf.lenR
      have HLE := Lib.hid hlE
      have HLR := Lib.hid hlR
      obtain ⟨Z, hZ⟩ : ∃ z, z = sumL LD := ⟨_, rfl⟩
      have HKU : Hid (∀ u w, RI w w.heap.size u LD → Calls Try.prog 22 #[u] w (fun e w' => e = .returned (.int .i64 Z) ∧ w = w')) := by
        intro u w q
        have h5 := kSum_any u LD w q (by have := hf.lenL; omega) hf.memL
        rw [← hZ] at h5
        exact h5
      have HKM : Hid (∀ u w, RI w w.heap.size u R → Calls Try.prog 21 #[u] w (fun e w' => e = .returned (.int .i64 LA) ∧ w = w')) := by
        intro u w q
        have h5 := kMost_any u R w q (by omega)
        rw [hf.last] at h5
        exact h5
      have HZ9 : Hid (hpS xn l l.length = Z) := by show _ = _; rw [hZ]; exact hf.hops
      have hup := hf.upto
      have H := Lib.hid hf
      clear hf hZ hlE hlR
      have hZ := Lib.hid z16
      have QJ : RMsS wc wc.heap.size (.slice Aj l.length cj) l := (RK.more (OK.rk f100) y100_)
      have QE : RI wc wc.heap.size (.slice Ae E.length ce) E := (f104.ri.more y104_)
      have QR : RI wc wc.heap.size (.slice Ar R.length cr) R := (f102.ri.more y102_)
      have QD : RI wc wc.heap.size (.slice Ad LD.length cd) LD := (f106.ri.more y106_)
      have HQJ := Lib.hid QJ
      have HQE := Lib.hid QE
      have HQR := Lib.hid QR
      have HQD := Lib.hid QD
      have HBB := Lib.hid f101
      clear QJ QE QR QD
      have hLEi : (l.length : Int) ≤ (E.length : Int) := by rw [HLE.out]; exact Int.le_refl _
      have hLRi : (l.length : Int) ≤ (R.length : Int) := by rw [HLR.out]; exact Int.le_refl _
      go_wp2_with fail
      go_loopw [31, 221] (fun u i wr => ∃ i0 : Nat, i0 ≤ l.length ∧ u = .int .i64 (hpS xn l i0) ∧ i = .int .i64 i0 ∧ Below wc.heap.size wc wr) (fun _ i _ => l.length - (intOf i).toNat)
      case atStart => exact ⟨0, Nat.zero_le _, rfl, rfl, Below.refl _ _⟩
      case round =>
        obtain ⟨i0, hi0, rfl, rfl, hT⟩ := hrel
        have HT := Lib.hid hT
        by_cases hlt : i0 < l.length
        · have hltI : (i0 : Int) < (l.length : Int) := by omega
          have hltE : (i0 : Int) < (E.length : Int) := by omega
          have hltR : (i0 : Int) < (R.length : Int) := by omega
          have hwr := hT.size
          obtain ⟨_, _, _, hcj⟩ := RMsS.parts (l := l) (RK.step HQJ.out hT (Nat.le_refl _))
          obtain ⟨bj, oj, rfl, hbj, hcellj⟩ := hcj (by omega)
          obtain ⟨j0, j1, j2⟩ := hcellj i0 hlt
          have qe := HLE.out
          have qr := HLR.out
          obtain ⟨A2, ce2, hv2, _, hcell2⟩ := HQE.out.step hT (Nat.le_refl _)
          injection hv2 with e1 e2 e3
          subst e1
          subst e3
          obtain ⟨be, oe, rfl, hbe, pe⟩ := hcell2 (by omega)
          have xe := pe i0 (by omega)
          obtain ⟨A3, cr2, hv3, _, hcell3⟩ := HQR.out.step hT (Nat.le_refl _)
          injection hv3 with e4 e5 e6
          subst e4
          subst e6
          obtain ⟨br, or_, rfl, hbr, pr⟩ := hcell3 (by omega)
          have xr := pr i0 (by omega)
          have hjob := H.out.job i0 hlt
          have hhop := H.out.hop i0 hlt
          have hbnd := H.out.bnd i0 hlt
          have htick := H.out.tick i0 hlt
          have hread := H.out.read i0 hlt
          have HORD := Lib.hid fun k (hk : k < i0) => H.out.ord k i0 hk hlt
          have HBND := Lib.hid H.out.bnd
          have hhb := H.out.hopb i0 hi0
          have HHP : Hid (hpS xn l (i0 + 1) = hpS xn l i0 + hopsI xn l[i0]!) := by show _ = _; rw [hpS]
          rw [hread] at xr
          have HPE := Lib.hid pe
          have HPJ := Lib.hid hcellj
          obtain ⟨y, hy⟩ : ∃ y, y = l[i0]! := ⟨_, rfl⟩
          rw [← hy] at j0 j1 j2 hjob hhop htick hread HHP xr HORD
          obtain ⟨yt, yf, yo⟩ := y
          obtain ⟨e, he⟩ : ∃ e, e = E.getD i0 0 := ⟨_, rfl⟩
          rw [← he] at xe hbnd htick hread xr HORD
          simp only at j0 j1 j2 hjob hhop htick hread HORD
          obtain ⟨hp, hph⟩ : ∃ h, h = hopsI xn ⟨yt, yf, yo⟩ := ⟨_, rfl⟩
          rw [← hph] at hhop hread HHP xr
          obtain ⟨hh1, hh2, hh3⟩ := hhop
          have HHM : Hid (∀ w, Calls Try.prog 20 #[.agg #[.int .i64 xn, .bool xh], .agg #[.int .i64 yt, .int .i64 yf, .int .i64 yo]] w (RetV w (.tuple #[.int .i64 hp, .bool true]))) := by
            intro w
            have h5 := implHopsOfMessage_any ⟨xn, xh⟩ ⟨yt, yf, yo⟩ w
            rw [show hopsMsOf ⟨xn, xh⟩ ⟨yt, yf, yo⟩ = (hp, true) from hh1] at h5
            exact h5
          clear hph hh1 hy he hread pe pr hcell2 hcell3 hcellj hcj e2 e5 qe qr H
          generalize hpS xn l i0 = s at hhb HHP ⊢
          obtain ⟨v0, v1⟩ := hjob
          obtain ⟨v2, v3⟩ := hbnd
          obtain ⟨v4, v5⟩ := hhb
          have v6 : s ≤ 220 := by omega
          have n1 : decide (e < yt) = false := decide_eq_false (by omega)
          have n2 : IntKind.i64.wrap (e + hp) = e + hp := IntWalk.i64_in _ (by omega)
          clear v5
          have hbk := BK.made wr 39 #[.int .i64 yt, .int .i64 yf, .int .i64 yo]
          have hal : Below wr.heap.size wr (wr.alloc (.cells #[.int .i64 yt, .int .i64 yf, .int .i64 yo] 39)) := (Below.refl _ _).alloc (Nat.le_refl _) _
          have hbb := (HBB.out.step hT).alloc (.cells #[.int .i64 yt, .int .i64 yf, .int .i64 yo] 39)
          obtain ⟨W1, hW1⟩ : ∃ W1, wr.alloc (.cells #[.int .i64 yt, .int .i64 yf, .int .i64 yo] 39) = W1 := ⟨_, rfl⟩
          have hT1 := HT.out.trans (hal.mono hwr)
          rw [hW1] at hbk hal hT1 hbb
          have a0 := hbb.cell 0
          have a1 := hbb.cell 1
          have c0 := hbk.cell 0
          have c1 := hbk.cell 1
          have c2 := hbk.cell 2
          simp at a0 a1 c0 c1 c2
          have hbe1 := Nat.lt_of_lt_of_le hbe hwr
          have hbr1 := Nat.lt_of_lt_of_le hbr hwr
          have hbj1 := Nat.lt_of_lt_of_le hbj hwr
          have XE := Lib.hid ((hal.cell (p := ⟨be, oe + i0, none⟩) hbe1).trans xe)
          have XR := Lib.hid ((hal.cell (p := ⟨br, or_ + i0, none⟩) hbr1).trans xr)
          have HBK := Lib.hid hbk
          have HT1 := Lib.hid hT1
          have HAL := Lib.hid hal
          clear hbk hal hT1 hT xe xr hbb
          go_upto_region 23 with fail
          clear hW1 j0 j1 j2
          go_wp2_with fail
          refine (HHM.out _).mono ?_; rintro e9 W2 ⟨rfl, hb2⟩
          clear a0 a1 c0 c1 c2 HHM
          have hs1 := HT1.out.size
          have hs2 := HAL.out.size
          have hbk := HBK.out.step hb2
          have c0 := hbk.cell 0
          have c1 := hbk.cell 1
          simp at c0 c1
          have xe := (hb2.cell (p := ⟨be, oe + i0, none⟩) (Nat.lt_of_lt_of_le hbe hs1)).trans XE.out
          have xr := (hb2.cell (p := ⟨br, or_ + i0, none⟩) (Nat.lt_of_lt_of_le hbr hs1)).trans XR.out
          have HT2 := Lib.hid (HT1.out.trans (hb2.mono hs1))
          have HPE2 : Hid (∀ j, j < E.length → W2.cell? ⟨be, oe + j, none⟩ = some (.int .i64 (E.getD j 0))) := fun j hj => (hb2.cell (p := ⟨be, oe + j, none⟩) (Nat.lt_of_lt_of_le hbe hs1)).trans ((HAL.out.cell (p := ⟨be, oe + j, none⟩) hbe1).trans (HPE.out j hj))
          have HPJ2 : Hid (∀ i, i < l.length → W2.cell? ⟨bj, oj + i * 3 + 1, none⟩ = some (.int .i64 l[i]!.f)) := fun i hi => (hb2.cell (p := ⟨bj, oj + i * 3 + 1, none⟩) (Nat.lt_of_lt_of_le hbj hs1)).trans ((HAL.out.cell (p := ⟨bj, oj + i * 3 + 1, none⟩) hbj1).trans (HPJ.out i hi).2.1)
          clear hbk hb2 XE XR HBK HAL HPE HPJ HBB
          go_wp2_with fail
          go_quiet (fail)
          go_wp2_with fail
          go_loopw [36] (fun k wx => ∃ k0 : Nat, k0 ≤ i0 ∧ k = .int .i64 k0 ∧ ∃ n, wx = W2.drewN n) (fun k _ => i0 - (intOf k).toNat)
          case atStart => exact ⟨0, Nat.zero_le _, rfl, _, rfl⟩
          case round =>
            obtain ⟨k0, hk0, rfl, nn, rfl⟩ := hrel
            by_cases hk : k0 < i0
            · have hkI : (k0 : Int) < (i0 : Int) := by omega
              have hkJ : (k0 : Int) < (l.length : Int) := by omega
              have hkE : (k0 : Int) < (E.length : Int) := by omega
              have y1 := HPJ2.out k0 (by omega)
              have y2 := HPE2.out k0 (by have := HLE.out; omega)
              have y3 := HORD.out k0 hk
              generalize l[k0]! = z at y1 y3
              obtain ⟨zt, zf, zo⟩ := z
              obtain ⟨ek, hek⟩ : ∃ a, a = E.getD k0 0 := ⟨_, rfl⟩
              rw [← hek] at y2 y3
              simp only at y1 y3
              clear hek HPJ2 HPE2 HORD HBND
              by_cases hzf : zf = yf
              · subst hzf
                have y4 := y3 rfl
                have n3 : decide (e ≤ ek) = false := decide_eq_false (by omega)
                clear y3
                as_aux_lemma =>
                go_wp2_with fail
                go_quiet (fail)
                go_wp2_with fail
                go_roundw
                case rel => exact ⟨k0 + 1, by omega, by go_num, _, rfl⟩
                case measure => simp [intOf]; omega
              · have n3 : decide (zf = yf) = false := decide_eq_false hzf
                clear y3
                as_aux_lemma =>
                go_wp2_with fail
                go_quiet (fail)
                go_wp2_with fail
                go_roundw
                case rel => exact ⟨k0 + 1, by omega, by go_num, _, rfl⟩
                case measure => simp [intOf]; omega
            · clear HPJ2 HPE2 HORD HBND
              have hkI : ¬ ((k0 : Int) < (i0 : Int)) := by omega
              as_aux_lemma =>
              go_wp2_with fail
              go_roundw
              case rel => exact ⟨i0 + 1, by omega, by rw [HHP.out], by go_num, below_drewN HT2.out _⟩
              case measure => simp [intOf]; omega
        · obtain rfl : i0 = l.length := by omega
          rw [HZ9.out]
          have QR9 := (HQR.out.step hT (Nat.le_refl _)).more hT.size
          have QD9 := (HQD.out.step hT (Nat.le_refl _)).more hT.size
          clear H HQJ HQE HQR HQD HBB hT
          as_aux_lemma =>
          go_wp2_with (first | (go_at_call 21; (with_reducible refine (HKM.out _ _ QR9).mono ?_); rintro e wq ⟨rfl, rfl⟩) | (go_at_call 22; (with_reducible refine (HKU.out _ _ QD9).mono ?_); rintro e wq ⟨rfl, rfl⟩))
          go_meet
          exact hZ.out.trans (HT.out.mono hZ.out.size)
    case rest =>
      have hb17 := hcut
      clear hcut
      have s17_ := hb17.size
      have t17 := t16.trans (hb17.mono t16.size)
      have f108 := OK.step f100 hb17
      have y108_ := Nat.le_trans y100_ s17_
      clear f100 y100_
      have f109 := f101.step hb17
      clear f101
      have f110 := f102.step hb17
      have y110_ := Nat.le_trans y102_ s17_
      clear f102 y102_
      have f111 := f104.step hb17
      have y111_ := Nat.le_trans y104_ s17_
      clear f104 y104_
      have f112 := f106.step hb17
      have y112_ := Nat.le_trans y106_ s17_
      clear f106 y106_
      clear hb17 s17_ t16
      clear f108
      clear f109
      clear f110
      clear f111
      clear f112
      clear HF
      go_wp2_with fail
      refine (drawHopsOfMessage_any m mn _ (RB.wide9 (RB.below hm t17) t17.size) hmn).mono ?_; rintro e w18 ⟨x0, y0, rfl, hb18⟩
      obtain ⟨qn, qh⟩ := x0
      obtain ⟨yt, yf, yo⟩ := y0
      simp only [SrV, MsV]
      have s18_ := hb18.size
      have t18 := t17.trans (hb18.mono t17.size)
      clear hb18 s18_ t17
      have hb19 : Below w18.heap.size w18 (w18.alloc (.cells #[.int .i64 qn, .bool qh] 25)) := (Below.refl _ _).alloc (Nat.le_refl _) _
      have x_x := BK.made w18 25 #[.int .i64 qn, .bool qh]
      have s19_ := hb19.size
      have t19 := t18.trans (hb19.mono t18.size)
      clear hb19 s19_ t18
      have hb20 : Below (w18.alloc (.cells #[.int .i64 qn, .bool qh] 25)).heap.size (w18.alloc (.cells #[.int .i64 qn, .bool qh] 25)) ((w18.alloc (.cells #[.int .i64 qn, .bool qh] 25)).alloc (.cells #[.int .i64 yt, .int .i64 yf, .int .i64 yo] 39)) := (Below.refl _ _).alloc (Nat.le_refl _) _
      have x_y := BK.made (w18.alloc (.cells #[.int .i64 qn, .bool qh] 25)) 39 #[.int .i64 yt, .int .i64 yf, .int .i64 yo]
      have s20_ := hb20.size
      have t20 := t19.trans (hb20.mono t19.size)
      have f113 := x_x.step hb20
      clear x_x
      clear hb20 s20_ t19
      obtain ⟨H9, T9, hH9⟩ : ∃ a b, hopsMsOf ⟨qn, qh⟩ ⟨yt, yf, yo⟩ = (a, b) := ⟨_, _, rfl⟩
      have hin : T9 = true → 1 ≤ H9 ∧ H9 < qn := fun h => by
        have h5 := hops_in (x := ⟨qn, qh⟩) (y := ⟨yt, yf, yo⟩) (by rw [hH9]; exact h)
        rw [hH9] at h5
        exact h5
      have HHimpl : Hid (∀ w, Calls Try.prog 20 #[.agg #[.int .i64 qn, .bool qh], .agg #[.int .i64 yt, .int .i64 yf, .int .i64 yo]] w (RetV w (.tuple #[.int .i64 H9, .bool T9]))) := by
        show ∀ w, Calls Try.prog 20 #[.agg #[.int .i64 qn, .bool qh], .agg #[.int .i64 yt, .int .i64 yf, .int .i64 yo]] w (RetV w (.tuple #[.int .i64 H9, .bool T9]))
        intro w
        have h5 := implHopsOfMessage_any ⟨qn, qh⟩ ⟨yt, yf, yo⟩ w
        rw [hH9] at h5
        exact h5
      have HHspec : Hid (∀ w, Calls Try.prog 24 #[.agg #[.int .i64 qn, .bool qh], .agg #[.int .i64 yt, .int .i64 yf, .int .i64 yo]] w (RetV w (.tuple #[.int .i64 H9, .bool T9]))) := by
        show ∀ w, Calls Try.prog 24 #[.agg #[.int .i64 qn, .bool qh], .agg #[.int .i64 yt, .int .i64 yf, .int .i64 yo]] w (RetV w (.tuple #[.int .i64 H9, .bool T9]))
        intro w
        have h5 := specHopsOfMessage_any ⟨qn, qh⟩ ⟨yt, yf, yo⟩ w
        rw [hH9] at h5
        exact h5
      have HIN := Lib.hid hin
      clear hin hH9
      have j114 := f113.cell 0
      have j115 := f113.cell 1
      have j116 := x_y.cell 0
      have j117 := x_y.cell 1
      have j118 := x_y.cell 2
      simp at j114 j115 j116 j117 j118
      go_wp2_with fail
      refine (HHimpl.out _).mono ?_; rintro e w21 ⟨rfl, hb21⟩
      have s21_ := hb21.size
      have t21 := t20.trans (hb21.mono t20.size)
      clear j114 j115 j116 j117 j118
      have f119 := f113.step hb21
      clear f113
      have f120 := x_y.step hb21
      clear x_y
      clear hb21 s21_ t20
      have j121 := f119.cell 0
      have j122 := f119.cell 1
      have j123 := f120.cell 0
      have j124 := f120.cell 1
      have j125 := f120.cell 2
      simp at j121 j122 j123 j124 j125
      go_wp2_with fail
      refine (HHspec.out _).mono ?_; rintro e w22 ⟨rfl, hb22⟩
      have s22_ := hb22.size
      have t22 := t21.trans (hb22.mono t21.size)
      clear j121 j122 j123 j124 j125
      have f126 := f119.step hb22
      clear f119
      have f127 := f120.step hb22
      clear f120
      clear hb22 s22_ t21
      have j128 := f126.cell 0
      have j129 := f126.cell 1
      have j130 := f127.cell 0
      have j131 := f127.cell 1
      have j132 := f127.cell 2
      simp at j128 j129 j130 j131 j132
      cases T9
      · go_wp2_with fail
        go_ret
        exact ⟨by first | rfl | simp, t22⟩
      · obtain ⟨g1, g2⟩ := HIN.out rfl
        go_wp2_with fail
        go_ret
        exact ⟨by first | rfl | (simp; omega), t22⟩
end Go.Proofs.Ytmhcmbgbniaokaa
