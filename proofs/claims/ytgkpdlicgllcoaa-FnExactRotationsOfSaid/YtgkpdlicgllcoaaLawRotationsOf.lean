/-
  RotationsOf answers as its model at every argument, writes into no argument, and its answer owns its memory. No condition.
-/
import Derived.Test.YtgkpdlicgllcoaaBpI
import Derived.Test.YtgkpdlicgllcoaaSTimedRing
import Derived.Test.YtgkpdlicgllcoaaIntSS
import Derived.Test.YtgkpdlicgllcoaaFrameR
import Derived.Test.YtgkpdlicgllcoaaMark2
import Derived.Test.YtgkpdlicgllcoaaIntSS2
import Derived.Deep.RegionWith
import Derived.Deep.DeepCutAuto
import Derived.Lib.SmallJoins
namespace Go.Proofs.Ytgkpdlicgllcoaa.lawRotationsOf
open Go.RowKit Go.ChangeShapes Go.WideShapes Go.ChangeAt
set_option maxRecDepth 100000
set_option linter.unusedVariables false

set_option maxHeartbeats 4000000 in
theorem walk (z0 : Tm) (s0 : Value) (v1 : Value) (d1 : List (List Int)) (w : World) (h0 : RI w w.heap.size s0 z0.d) (hm0 : z0.d.length ≤ maxLen) (h1 : RS w w.heap.size v1 d1) :
    Calls Try.prog 14 #[TmV z0 s0, v1] w (RetV w (.bool true)) := by
  obtain ⟨y0t, y0k, d0⟩ := z0
  simp only [TmV] at h0 hm0 ⊢
  have hr0 := h0
  obtain ⟨A0, c0, rfl, hlc0, hc0⟩ := h0
  clear hc0
  have hr1 := h1
  obtain ⟨_, A1, c1, rfl, _, _, _, _⟩ := h1
  have t0 : Below w.heap.size w w := Below.refl _ _
  have hB1 := BK.made w 24 #[.int .i64 y0t, .int .i64 y0k, .slice A0 d0.length c0]
  have hb0 : Below w.heap.size w (w.alloc (.cells #[.int .i64 y0t, .int .i64 y0k, .slice A0 d0.length c0] 24)) := (Below.refl _ _).alloc (Nat.le_refl _) _
  have hf1 : RTm (w.alloc (.cells #[.int .i64 y0t, .int .i64 y0k, .slice A0 d0.length c0] 24)) (w.alloc (.cells #[.int .i64 y0t, .int .i64 y0k, .slice A0 d0.length c0] 24)).heap.size (TmV ⟨y0t, y0k, d0⟩ (.slice A0 d0.length c0)) ⟨y0t, y0k, d0⟩ := ⟨_, rfl, (hr0.below hb0).more hb0.size⟩
  by_cases hn : 1048576 < (d0.length : Int)
  · go_enter Try.func14, Try.ntmps14
    go_wp2_with fail
    refine (szTimedRing_any _ ⟨y0t, y0k, d0⟩ _ _ hf1 (by omega) (by omega) hm0).mono ?_; rintro e w1 ⟨rfl, hb1⟩
    rw [szLeft_neg (show (1048576 : Int) < (d0.length : Int) by omega)]
    go_wp2_with fail
    go_ret
    exact ⟨rfl, hb0.trans (hb1.mono hb0.size)⟩
  have hn0 : d0.length ≤ 1048576 := by omega
  have hp0 : 0 ≤ 1048576 - (d0.length : Int) := by omega
  have hq0 : (d0.length : Int) ≤ 1048576 := by omega
  obtain ⟨left, hleft⟩ : ∃ left, left = 1048576 - (d0.length : Int) := ⟨_, rfl⟩
  have hz9 : ¬ (left < 0) := by omega
  have HSR := Lib.hid fun W (hb : Below w.heap.size w W) => szIntSS_any (.slice A1 d1.length c1) d1 left W ((hr1.below hb).more hb.size) (by omega) (by omega)
  by_cases hS : left < (d1.length : Int) + total d1
  · have eS : szL left d1 = -1 := if_pos hS
    rw [eS] at HSR
    go_enter Try.func14, Try.ntmps14
    go_wp2_with fail
    refine (szTimedRing_any _ ⟨y0t, y0k, d0⟩ _ _ hf1 (by omega) (by omega) hm0).mono ?_; rintro e w1 ⟨rfl, hb1⟩
    rw [szLeft_pos (show ¬ (1048576 : Int) < (d0.length : Int) by omega), ← hleft]
    have hT1 := hb0.trans (hb1.mono hb0.size)
    clear hleft
    go_wp2_with fail
    refine (HSR.out _ hT1).mono ?_; rintro e w2 ⟨rfl, hb2⟩
    go_wp2_with fail
    go_ret
    exact ⟨rfl, hT1.trans (hb2.mono hT1.size)⟩
  have hn1 : d1.length ≤ 1048576 := by omega
  have ht1 : total d1 ≤ 1048576 := by omega
  have hq1 : (d1.length : Int) ≤ 1048576 := by omega
  have htq1 : (total d1 : Int) ≤ 1048576 := by omega
  obtain ⟨S9, hS9⟩ : ∃ S9, S9 = szL left d1 := ⟨_, rfl⟩
  have hS0 : ¬ (S9 < 0) := by rw [hS9, szL, if_neg hS]; omega
  rw [← hS9] at HSR
  clear hS hS9
  have hlen := rotSays_len ⟨y0t, y0k, d0⟩ d1
  obtain ⟨X, b, hX⟩ : ∃ X b, (X, b) = rotSays ⟨y0t, y0k, d0⟩ d1 := ⟨_, _, rfl⟩
  rw [← hX] at hlen
  simp only at hlen
  have HI : Hid (∀ v0 v1 w, RTm w w.heap.size v0 ⟨y0t, y0k, d0⟩ → RS w w.heap.size v1 d1 → Calls Try.prog 55 #[v0, v1] w (RetLB 3 w X b)) := by
    show ∀ v0 v1 w, RTm w w.heap.size v0 ⟨y0t, y0k, d0⟩ → RS w w.heap.size v1 d1 → Calls Try.prog 55 #[v0, v1] w (RetLB 3 w X b)
    intro v0 v1 w q0 q1
    have h5 := implRotationsOf_any v0 v1 ⟨y0t, y0k, d0⟩ d1 w q0 q1 hn0 hn1 ht1
    rw [← hX] at h5
    exact h5
  have HS : Hid (∀ v0 v1 w, RTm w w.heap.size v0 ⟨y0t, y0k, d0⟩ → RS w w.heap.size v1 d1 → Calls Try.prog 54 #[v0, v1] w (RetLB 3 w X b)) := by
    show ∀ v0 v1 w, RTm w w.heap.size v0 ⟨y0t, y0k, d0⟩ → RS w w.heap.size v1 d1 → Calls Try.prog 54 #[v0, v1] w (RetLB 3 w X b)
    intro v0 v1 w q0 q1
    have h5 := specRotationsOf_any v0 v1 ⟨y0t, y0k, d0⟩ d1 w q0 q1 hn0 hn1 ht1
    rw [← hX] at h5
    exact h5
  clear hX
  have hlen' : (((X).length : Nat) : Int) ≤ 1048576 := by omega
  go_enter Try.func14, Try.ntmps14
  go_wp2_with fail
  refine (szTimedRing_any _ ⟨y0t, y0k, d0⟩ _ _ hf1 (by omega) (by omega) hm0).mono ?_; rintro e w0 ⟨rfl, hb1⟩
  rw [szLeft_pos (show ¬ (1048576 : Int) < (d0.length : Int) by omega), ← hleft]
  have t0_ := hb0.trans (hb1.mono hb0.size)
  have b0_ := hB1.step hb1
  clear hleft hb1 hb0 hB1 hf1
  go_wp2_with fail
  refine (HSR.out _ t0_).mono ?_; rintro e w1 ⟨rfl, hb2⟩
  have s1_ := hb2.size
  have t1 := t0_.trans (hb2.mono t0_.size)
  have b1 := b0_.step hb2
  have r1 := hr0.step t1 (Nat.le_refl _)
  have rr1 := hr1.step t1 (Nat.le_refl _)
  have l1 := b1.1
  clear hb2 t0_ b0_ HSR
  have j1 := b1.cell 0
  have j2 := b1.cell 1
  have j3 := b1.cell 2
  simp at j1 j2 j3
  go_wp2_with fail
  refine (toTimedRing_any _ ⟨y0t, y0k, d0⟩ _ ⟨_, rfl, (r1.more (by omega))⟩ hn0).mono ?_; rintro e w2 ⟨u_p0, rfl, o_p0, hb2⟩
  obtain ⟨s_p0, rfl, o_p0⟩ := o_p0
  obtain ⟨A_p0, c_p0, rfl, _, _⟩ := o_p0.ri
  simp only [TmV]
  have s2_ := hb2.size
  have t2 := t1.trans (hb2.mono (by omega))
  clear j1 j2 j3
  have f4 := r1.step hb2 (by omega)
  clear r1
  have f5 := rr1.step hb2 (by omega)
  clear rr1
  have f6 := b1.step hb2
  clear b1
  have j7 := f6.cell 0
  have j8 := f6.cell 1
  have j9 := f6.cell 2
  simp at j7 j8 j9
  go_wp2_with fail
  refine (toIntSS_any _ _ _ (f5.more (by omega)) hn1 ht1).mono ?_; rintro e w3 ⟨p1, rfl, o_p1, hb3⟩
  have s3_ := hb3.size
  have t3 := t2.trans (hb3.mono (by omega))
  clear j7 j8 j9
  have f10 := f4.step hb3 (by omega)
  clear f4
  have f11 := f5.step hb3 (by omega)
  clear f5
  have f12 := f6.step hb3
  clear f6
  have f13 := o_p0.step hb3
  clear o_p0
  have j14 := f12.cell 0
  have j15 := f12.cell 1
  have j16 := f12.cell 2
  simp at j14 j15 j16
  go_wp2_with fail
  refine (HS.out _ _ _ ⟨_, rfl, (f13.ri.more (by omega))⟩ (o_p1.rd.more (by omega))).mono ?_; rintro e w4 ⟨v0, rfl, o_v0, hb4⟩
  have s4_ := hb4.size
  have t4 := t3.trans (hb4.mono (by omega))
  clear j14 j15 j16
  have f17 := f10.step hb4 (by omega)
  clear f10
  have f18 := f11.step hb4 (by omega)
  clear f11
  have f19 := f12.step hb4
  clear f12
  have f20 := f13.step hb4
  clear f13
  have f21 := o_p1.step hb4 (by omega)
  clear o_p1
  have j22 := f19.cell 0
  have j23 := f19.cell 1
  have j24 := f19.cell 2
  simp at j22 j23 j24
  go_wp2_with fail
  refine (toTimedRing_any _ ⟨y0t, y0k, d0⟩ _ ⟨_, rfl, (f17.more (by omega))⟩ hn0).mono ?_; rintro e w5 ⟨u_x0_, rfl, o_x0_, hb5⟩
  obtain ⟨s_x0_, rfl, o_x0_⟩ := o_x0_
  obtain ⟨A_x0_, c_x0_, rfl, _, _⟩ := o_x0_.ri
  simp only [TmV]
  have s5_ := hb5.size
  have t5 := t4.trans (hb5.mono (by omega))
  clear j22 j23 j24
  have f25 := f17.step hb5 (by omega)
  clear f17
  have f26 := f18.step hb5 (by omega)
  clear f18
  have f27 := f19.step hb5
  clear f19
  have f28 := o_v0.step hb5
  clear o_v0
  have hb6 : Below w5.heap.size w5 (w5.alloc (.cells #[.int .i64 y0t, .int .i64 y0k, .slice A_x0_ d0.length c_x0_] 27)) := (Below.refl _ _).alloc (Nat.le_refl _) _
  have bb_x0_ := BK.made w5 27 #[.int .i64 y0t, .int .i64 y0k, .slice A_x0_ d0.length c_x0_]
  have lb6 := bb_x0_.1
  have s6_ := hb6.size
  have t6 := t5.trans (hb6.mono (by omega))
  have f29 := f25.step hb6 (by omega)
  clear f25
  have f30 := f26.step hb6 (by omega)
  clear f26
  have f31 := f27.step hb6
  clear f27
  have f32 := f28.step hb6
  clear f28
  have f33 := o_x0_.step hb6
  clear o_x0_
  have j34 := f31.cell 0
  have j35 := f31.cell 1
  have j36 := f31.cell 2
  have j37 := bb_x0_.cell 0
  have j38 := bb_x0_.cell 1
  have j39 := bb_x0_.cell 2
  simp at j34 j35 j36 j37 j38 j39
  go_wp2_with fail
  refine (toIntSS_any _ _ _ (f30.more (by omega)) hn1 ht1).mono ?_; rintro e w7 ⟨x1_, rfl, o_x1_, hb7⟩
  have s7_ := hb7.size
  have t7 := t6.trans (hb7.mono (by omega))
  clear j34 j35 j36 j37 j38 j39
  have f40 := f29.step hb7 (by omega)
  clear f29
  have f41 := f30.step hb7 (by omega)
  clear f30
  have f42 := f31.step hb7
  clear f31
  have f43 := f32.step hb7
  clear f32
  have f44 := f33.step hb7
  clear f33
  have f45 := bb_x0_.step hb7
  clear bb_x0_
  have j46 := f42.cell 0
  have j47 := f42.cell 1
  have j48 := f42.cell 2
  have j49 := f45.cell 0
  have j50 := f45.cell 1
  have j51 := f45.cell 2
  simp at j46 j47 j48 j49 j50 j51
  go_wp2_with fail
  refine (HI.out _ _ _ ⟨_, rfl, (f44.ri.more (by omega))⟩ (o_x1_.rd.more (by omega))).mono ?_; rintro e w8 ⟨g0, rfl, o_g0, hb8⟩
  have s8_ := hb8.size
  have t8 := t7.trans (hb8.mono (by omega))
  clear j46 j47 j48 j49 j50 j51
  have f52 := f40.step hb8 (by omega)
  clear f40
  have f53 := f41.step hb8 (by omega)
  clear f41
  have f54 := f42.step hb8
  clear f42
  have f55 := f43.step hb8
  clear f43
  have f56 := f44.step hb8
  clear f44
  have f57 := f45.step hb8
  clear f45
  have f58 := o_x1_.step hb8 (by omega)
  clear o_x1_
  have j59 := f54.cell 0
  have j60 := f54.cell 1
  have j61 := f54.cell 2
  have j62 := f57.cell 0
  have j63 := f57.cell 1
  have j64 := f57.cell 2
  simp at j59 j60 j61 j62 j63 j64
  go_wp2_with fail
  refine (eqIntS_same _ _ _ _ (o_g0.ri.more (by omega)) (f55.ri.more (by omega)) hlen).mono ?_; rintro e w9 ⟨rfl, hb9⟩
  have s9_ := hb9.size
  have t9 := t8.trans (hb9.mono (by omega))
  clear j59 j60 j61 j62 j63 j64
  have f65 := f52.step hb9 (by omega)
  clear f52
  have f66 := f53.step hb9 (by omega)
  clear f53
  have f67 := f54.step hb9
  clear f54
  have f68 := f55.step hb9
  clear f55
  have f69 := f56.step hb9
  clear f56
  have f70 := f57.step hb9
  clear f57
  have f71 := f58.step hb9 (by omega)
  clear f58
  have f72 := o_g0.step hb9
  clear o_g0
  have j73 := f67.cell 0
  have j74 := f67.cell 1
  have j75 := f67.cell 2
  have j76 := f70.cell 0
  have j77 := f70.cell 1
  have j78 := f70.cell 2
  simp at j73 j74 j75 j76 j77 j78
  go_upto_region 14 with fail
  go_cut [58] (fun s9 wx => s9 = .bool false ∧ Below w9.heap.size w9 wx)
  case first =>
    have R6 := RI.drewN f65 1
    have Q6 := RI.drewN f69.ri 1
    have X6 : BK (w9.drewN 1) _ _ _ := f70
    have T6 := below_drewN (Below.refl w9.heap.size w9) 1
    have y6 := T6.size
    go_region_with (first
      | (go_at_call 18; refine (toTimedRing_any _ ⟨y0t, y0k, d0⟩ _ ⟨_, rfl, R6.more (by omega)⟩ hn0).mono ?_; rintro e w7 ⟨u7, rfl, ho7, hb7⟩; have t7 := T6.trans (hb7.mono (by omega)); have q7 := Q6.step hb7 (by omega); have x7 := X6.step hb7; have s7 := hb7.size; have d70 := x7.cell 0; have d71 := x7.cell 1; have d72 := x7.cell 2; simp at d70 d71 d72)
      | (go_at_call 20; refine (eqTimedRing_same _ _ ⟨y0t, y0k, d0⟩ _ ⟨_, rfl, q7.more (by omega)⟩ ho7.rd hn0).mono ?_; rintro e w8 ⟨rfl, hb8⟩))
    all_goals
      go_wp2_with fail
      go_meet
      exact ⟨rfl, t7.trans (hb8.mono (by have := t7.size; omega))⟩
  case rest =>
    obtain ⟨rfl, hb10⟩ := hcut
    have s10_ := hb10.size
    have t10 := t9.trans (hb10.mono (by omega))
    clear j73 j74 j75 j76 j77 j78
    have f79 := f65.step hb10 (by omega)
    clear f65
    have f80 := f66.step hb10 (by omega)
    clear f66
    have f81 := f67.step hb10
    clear f67
    have f82 := f68.step hb10
    clear f68
    have f83 := f69.step hb10
    clear f69
    have f84 := f70.step hb10
    clear f70
    have f85 := f71.step hb10 (by omega)
    clear f71
    have f86 := f72.step hb10
    clear f72
    have j87 := f81.cell 0
    have j88 := f81.cell 1
    have j89 := f81.cell 2
    have j90 := f84.cell 0
    have j91 := f84.cell 1
    have j92 := f84.cell 2
    simp at j87 j88 j89 j90 j91 j92
    go_wp2_with fail
    refine (toIntSS_any _ _ _ (f80.more (by omega)) hn1 ht1).mono ?_; rintro e w11 ⟨y, rfl, o_y, hb11⟩
    have s11_ := hb11.size
    have t11 := t10.trans (hb11.mono (by omega))
    clear j87 j88 j89 j90 j91 j92
    have f93 := f79.step hb11 (by omega)
    clear f79
    have f94 := f80.step hb11 (by omega)
    clear f80
    have f95 := f81.step hb11
    clear f81
    have f96 := f82.step hb11
    clear f82
    have f97 := f83.step hb11
    clear f83
    have f98 := f84.step hb11
    clear f84
    have f99 := f85.step hb11 (by omega)
    clear f85
    have f100 := f86.step hb11
    clear f86
    have j101 := f95.cell 0
    have j102 := f95.cell 1
    have j103 := f95.cell 2
    have j104 := f98.cell 0
    have j105 := f98.cell 1
    have j106 := f98.cell 2
    simp at j101 j102 j103 j104 j105 j106
    go_wp2_with fail
    refine (eqIntSS_same _ _ _ _ (f99.rd.more (by omega)) (o_y.rd.more (by omega)) hn1 ht1).mono ?_; rintro e w12 ⟨rfl, hb12⟩
    have s12_ := hb12.size
    have t12 := t11.trans (hb12.mono (by omega))
    clear j101 j102 j103 j104 j105 j106
    have f107 := f93.step hb12 (by omega)
    clear f93
    have f108 := f94.step hb12 (by omega)
    clear f94
    have f109 := f95.step hb12
    clear f95
    have f110 := f96.step hb12
    clear f96
    have f111 := f97.step hb12
    clear f97
    have f112 := f98.step hb12
    clear f98
    have f113 := f99.step hb12 (by omega)
    clear f99
    have f114 := f100.step hb12
    clear f100
    have f115 := o_y.step hb12 (by omega)
    clear o_y
    have j116 := f109.cell 0
    have j117 := f109.cell 1
    have j118 := f109.cell 2
    have j119 := f112.cell 0
    have j120 := f112.cell 1
    have j121 := f112.cell 2
    simp at j116 j117 j118 j119 j120 j121
    go_wp2_with fail
    refine (markTimedRing_any _ _ _ ⟨y0t, y0k, d0⟩ _ _ ⟨_, rfl, f111⟩ hn0 (by omega) (by omega)).mono ?_; rintro e w13 ⟨rfl, mx0, hg13⟩
    have s13_ := hg13.size
    have t13 := t12.trans (hg13.below (by omega) (by omega))
    clear j116 j117 j118 j119 j120 j121
    have f122 := f107.far hg13 (by omega) (by omega)
    clear f107
    have f123 := f108.far hg13 (by omega) (by omega)
    clear f108
    have f124 := f109.far hg13 (by omega)
    clear f109
    have f125 := f110.far hg13 (by omega)
    clear f110
    have f126 := f112.far hg13 (by omega)
    clear f112
    have f127 := f113.far hg13 (by omega)
    clear f113
    have f128 := f114.far hg13 (by omega)
    clear f114
    have j129 := f124.cell 0
    have j130 := f124.cell 1
    have j131 := f124.cell 2
    simp at j129 j130 j131
    go_wp2_with fail
    refine (markIntSS2_any (by decide) _ _ _ _ _ _ f127 hn1 ht1 (by omega) (by omega)).mono ?_; rintro e w14 ⟨rfl, mx1, hg14⟩
    have s14_ := hg14.size
    have t14 := t13.trans (hg14.below (by omega) (by omega))
    clear j129 j130 j131
    have f132 := f122.far hg14 (by omega) (by omega)
    clear f122
    have f133 := f123.far hg14 (by omega) (by omega)
    clear f123
    have f134 := f124.far hg14 (by omega)
    clear f124
    have f135 := f125.far hg14 (by omega)
    clear f125
    have f136 := f128.far hg14 (by omega)
    clear f128
    have j137 := f134.cell 0
    have j138 := f134.cell 1
    have j139 := f134.cell 2
    simp at j137 j138 j139
    go_wp2_with fail
    refine (eqIntS_same _ _ _ _ (f136.ri.more (by omega)) (f135.ri.more (by omega)) hlen).mono ?_; rintro e w15 ⟨rfl, hb15⟩
    have s15_ := hb15.size
    have t15 := t14.trans (hb15.mono (by omega))
    clear j137 j138 j139
    have f140 := f132.step hb15 (by omega)
    clear f132
    have f141 := f133.step hb15 (by omega)
    clear f133
    have f142 := f134.step hb15
    clear f134
    have f143 := f135.step hb15
    clear f135
    have f144 := f136.step hb15
    clear f136
    have j145 := f142.cell 0
    have j146 := f142.cell 1
    have j147 := f142.cell 2
    simp at j145 j146 j147
    go_wp2_with fail
    refine (markIntS_any _ _ _ _ _ _ f144 hlen (by omega) (by omega)).mono ?_; rintro e w16 ⟨rfl, mg, hg16⟩
    have s16_ := hg16.size
    have t16 := t15.trans (hg16.below (by omega) (by omega))
    clear j145 j146 j147
    have f148 := f140.far hg16 (by omega) (by omega)
    clear f140
    have f149 := f141.far hg16 (by omega) (by omega)
    clear f141
    have f150 := f142.far hg16 (by omega)
    clear f142
    have f151 := f143.far hg16 (by omega)
    clear f143
    have j152 := f150.cell 0
    have j153 := f150.cell 1
    have j154 := f150.cell 2
    simp at j152 j153 j154
    go_wp2_with fail
    refine (heldIntS_any _ _ _ _ (mg.ri.more (by omega)) hlen (by omega) (by omega)).mono ?_; rintro e w17 ⟨rfl, hb17⟩
    have s17_ := hb17.size
    have t17 := t16.trans (hb17.mono (by omega))
    clear j152 j153 j154
    have f155 := f148.step hb17 (by omega)
    clear f148
    have f156 := f149.step hb17 (by omega)
    clear f149
    have f157 := f150.step hb17
    clear f150
    have f158 := f151.step hb17
    clear f151
    have f159 := mg.step hb17
    clear mg
    have j160 := f157.cell 0
    have j161 := f157.cell 1
    have j162 := f157.cell 2
    simp at j160 j161 j162
    go_wp2_with fail
    refine (toTimedRing_any _ ⟨y0t, y0k, d0⟩ _ ⟨_, rfl, (f155.more (by omega))⟩ hn0).mono ?_; rintro e w18 ⟨u_e0, rfl, o_e0, hb18⟩
    obtain ⟨s_e0, rfl, o_e0⟩ := o_e0
    obtain ⟨A_e0, c_e0, rfl, _, _⟩ := o_e0.ri
    simp only [TmV]
    have s18_ := hb18.size
    have t18 := t17.trans (hb18.mono (by omega))
    clear j160 j161 j162
    have f163 := f155.step hb18 (by omega)
    clear f155
    have f164 := f156.step hb18 (by omega)
    clear f156
    have f165 := f157.step hb18
    clear f157
    have f166 := f158.step hb18
    clear f158
    have f167 := f159.step hb18
    clear f159
    have j168 := f165.cell 0
    have j169 := f165.cell 1
    have j170 := f165.cell 2
    simp at j168 j169 j170
    go_wp2_with fail
    refine (toIntSS_any _ _ _ (f164.more (by omega)) hn1 ht1).mono ?_; rintro e w19 ⟨e1, rfl, o_e1, hb19⟩
    have s19_ := hb19.size
    have t19 := t18.trans (hb19.mono (by omega))
    clear j168 j169 j170
    have f171 := f163.step hb19 (by omega)
    clear f163
    have f172 := f164.step hb19 (by omega)
    clear f164
    have f173 := f165.step hb19
    clear f165
    have f174 := f166.step hb19
    clear f166
    have f175 := f167.step hb19
    clear f167
    have f176 := o_e0.step hb19
    clear o_e0
    have j177 := f173.cell 0
    have j178 := f173.cell 1
    have j179 := f173.cell 2
    simp at j177 j178 j179
    go_wp2_with fail
    refine (HI.out _ _ _ ⟨_, rfl, (f176.ri.more (by omega))⟩ (o_e1.rd.more (by omega))).mono ?_; rintro e w20 ⟨h0, rfl, o_h0, hb20⟩
    have s20_ := hb20.size
    have t20 := t19.trans (hb20.mono (by omega))
    clear j177 j178 j179
    have f180 := f171.step hb20 (by omega)
    clear f171
    have f181 := f172.step hb20 (by omega)
    clear f172
    have f182 := f173.step hb20
    clear f173
    have f183 := f174.step hb20
    clear f174
    have f184 := f175.step hb20
    clear f175
    have f185 := f176.step hb20
    clear f176
    have f186 := o_e1.step hb20 (by omega)
    clear o_e1
    have j187 := f182.cell 0
    have j188 := f182.cell 1
    have j189 := f182.cell 2
    simp at j187 j188 j189
    go_wp2_with fail
    refine (eqIntS_same _ _ _ _ (o_h0.ri.more (by omega)) (f183.ri.more (by omega)) hlen).mono ?_; rintro e w21 ⟨rfl, hb21⟩
    have s21_ := hb21.size
    have t21 := t20.trans (hb21.mono (by omega))
    clear j187 j188 j189
    have f190 := f180.step hb21 (by omega)
    clear f180
    have f191 := f181.step hb21 (by omega)
    clear f181
    have f192 := f182.step hb21
    clear f182
    have f193 := f183.step hb21
    clear f183
    have f194 := f184.step hb21
    clear f184
    have f195 := o_h0.step hb21
    clear o_h0
    have j196 := f192.cell 0
    have j197 := f192.cell 1
    have j198 := f192.cell 2
    simp at j196 j197 j198
    go_wp2_with fail
    refine (heldIntS_any _ _ _ _ (f194.ri.more (by omega)) hlen (by omega) (by omega)).mono ?_; rintro e w22 ⟨rfl, hb22⟩
    have s22_ := hb22.size
    have t22 := t21.trans (hb22.mono (by omega))
    clear j196 j197 j198
    have f199 := f190.step hb22 (by omega)
    clear f190
    have f200 := f191.step hb22 (by omega)
    clear f191
    have f201 := f192.step hb22
    clear f192
    have f202 := f193.step hb22
    clear f193
    have f203 := f194.step hb22
    clear f194
    have f204 := f195.step hb22
    clear f195
    have j205 := f201.cell 0
    have j206 := f201.cell 1
    have j207 := f201.cell 2
    simp at j205 j206 j207
    go_wp2_with fail
    go_ret
    exact ⟨rfl, t22⟩

set_option maxRecDepth 100000 in
theorem lifted (os : Os) (started : os.Started) (H : Type) (enc : TypeId × Value → H) :
    ReturnsInHanded {} Try.checked os 14 .any (Rows.fnExactRotationsOfSpec.pre6 enc Try.prog Try.f14 Rows.fnExactRotationsOfRow.domain false) (Rows.fnExactRotationsOfSpec.post enc Try.prog Try.f14 false true false false) := by
  refine returnsInHanded_of_change (C := Try.checked) own started (by kernel_rfl) Try.func14
    (ChangeSpec.witness6 (enc := enc) (C := Try.checked) false ⟨#[], #[.agg #[.int .i64 0, .int .i64 0, .slice none 0 0], .slice none 0 0], []⟩ 8 (by kernel_rfl) (by kernel_rfl) (by kernel_rfl) (by kernel_rfl)) ?_
  intro W base args ds gs before hval0 hW hcnd _
  have hval : ∀ (j : Nat) t v, Try.f14.params[j]? = some t → args[j]? = some v → Value.okWide Try.prog W .any base t v := hval0
  have hW' := hW
  obtain ⟨p, q, hA0, hV, rfl, hfz, hnd⟩ := hW
  have hA : DataW.TrodAll enc Try.prog W 0 (fun _ => true) true Try.f14.params.toList args.toList ds p := hA0
  rw [Try.params14] at hA hval
  obtain ⟨v0, vs0, d0, ds0, p0, q0, hargs, rfl, rfl, h0, r0⟩ := trodAll_cons hA
  obtain ⟨v1, vs1, d1, ds1, p1, q1, rfl, rfl, rfl, h1, r1⟩ := trodAll_cons r0
  obtain ⟨rfl, rfl, rfl⟩ := trodAll_nil r1
  obtain rfl : args = #[v0, v1] := by cases args; simp_all
  obtain ⟨rfl, rfl⟩ := trodVars_none hV
  have k0 := h0
  have lt0 : ∀ x ∈ p0, x.block < W.heap.size := by obtain ⟨m, hm⟩ := k0; exact DataW.trod_lt m _ _ _ hm
  obtain ⟨e0_0, e0_1, e0_2, y0_0, y0_1, y0_2, m0, rfl, hd0, hp0, g0_0, g0_1, g0_2⟩ := Go.Joins.open_agg3 Try.underlying24 (by kernel_rfl) (by kernel_rfl) (hval 0 24 v0 rfl rfl) h0
  obtain ⟨x0_0, hx0_0, _, w0_0⟩ := DataW.trod_int Try.underlying3 g0_0
  obtain rfl : e0_0 = .int .i64 x0_0 := by simpa using hx0_0
  obtain ⟨x0_1, hx0_1, _, w0_1⟩ := DataW.trod_int Try.underlying3 g0_1
  obtain rfl : e0_1 = .int .i64 x0_1 := by simpa using hx0_1
  obtain ⟨l0_2, w0_2⟩ : ∃ l, RI W W.heap.size e0_2 l ∧ (∀ x ∈ l, (Lit.int .i64 x).wf = true) ∧ l.length ≤ maxLen := by
    rcases open_ints Try.underlying22 Try.underlying3 (by kernel_rfl) g0_2 with ⟨hcs, _⟩ | ⟨x, l, c, zs, hcs, _, hl, hm, hz, _, hcell, hwz⟩
    · obtain rfl : e0_2 = .slice none 0 0 := by simpa using hcs
      exact ⟨[], ⟨none, 0, rfl, ⟨by simp, by simp, fun _ => rfl⟩, fun h => absurd h (by simp)⟩, by simp, by simp⟩
    · obtain rfl : e0_2 = .slice (some x) l c := by simpa using hcs
      have hz' : zs.length = c := by simpa using hz
      exact ⟨zs.take l, ri_of_cells (by omega) hz' hm hcell, fun y hy => hwz y (List.mem_of_mem_take hy), by simp; omega⟩
  obtain ⟨a1, len1, cap1, rfl⟩ := okWide_slice Try.underlying59 (hval 1 59 v1 rfl rfl)
  have k1 := h1
  have lt1 : ∀ x ∈ p1, x.block < W.heap.size := by obtain ⟨m, hm⟩ := k1; exact DataW.trod_lt m _ _ _ hm
  obtain ⟨l1, n1⟩ : ∃ l, RS W W.heap.size (.slice a1 len1 cap1) l := by
    obtain ⟨fuel, hf⟩ := h1
    exact open_rows9 Try.underlying59 Try.underlying22 Try.underlying3 (by kernel_rfl) (by kernel_rfl) ⟨_, _, _, rfl⟩ hf
  clear hA0 hval0
  refine (walk ⟨x0_0, x0_1, l0_2⟩ e0_2 (.slice a1 len1 cap1) l1 W w0_2.1 w0_2.2.2 n1).mono fun e W' ⟨he, bel⟩ => ?_
  subst he
  exact ⟨_, rfl, _, _, _, [], _, [], hW', trodAll_mk1 (shut_bool Try.underlying4 _), (trodAll_cons_mk (Below.trod laidOut (by kernel_rfl) (of_decide_eq_true (by kernel_rfl)) k0 bel lt0) (trodAll_cons_mk (Below.trod laidOut (by kernel_rfl) (of_decide_eq_true (by kernel_rfl)) k1 bel lt1) trodAll_mk0)), rfl, bel.frame _, fun h => by cases h⟩

theorem closed : joinedFacts Try.pinned.checked.prog 14 Try.f14 Rows.fnExactRotationsOfSpec Rows.fnExactRotationsOfRow = true := by
  unfold joinedFacts
  repeat' (with_reducible refine and_t ?_ ?_)
  all_goals first
    | (with_reducible exact init_mayEnter)
    | (with_reducible refine init_lifted ?_; as_aux_lemma => kernel_rfl)
    | (with_reducible refine init_mk ?_; as_aux_lemma => kernel_rfl)
    | (as_aux_lemma => kernel_rfl)

theorem over : Rows.fnExactRotationsOfRow.holds Try.pinned (OpenSpec.ofChange Rows.fnExactRotationsOfSpec) :=
  OpenClaim.holds_of_wide 14 Try.f14 rfl rfl rfl rfl rfl rfl rfl ⟨rfl, rfl, rfl, rfl, rfl⟩ rfl rfl rfl rfl rfl (by kernel_rfl) Try.func14 closed
    (of_decide_eq_true (by kernel_rfl)) (by unfold Func.isWrapper; first | (rw [if_pos (by decide +kernel)]; kernel_rfl) | (rw [if_neg (by decide +kernel)]; exact ⟨rfl, rfl⟩))
    (fun os started H enc _ => lifted os started H enc)

/-- The given statement. -/
theorem proved : Rows.FnExactRotationsOfSaid := over

end Go.Proofs.Ytgkpdlicgllcoaa.lawRotationsOf
