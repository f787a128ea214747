/-
  LeaveOut answers as its model at every argument, writes into no argument, and its answer owns its memory. No condition.
-/
import Derived.Test.YtffmpkdkifecpaaLeaveS
import Derived.Test.YtffmpkdkifecpaaFrame
import Derived.Deep.RegionWith
import Derived.Deep.DeepCutAuto
import Derived.Lib.SmallJoins
namespace Go.Proofs.Ytffmpkdkifecpaa.lawLeaveOut
open Go.RowKit Go.ChangeShapes Go.WideShapes Go.ChangeAt
set_option maxRecDepth 100000
set_option linter.unusedVariables false

set_option maxHeartbeats 4000000 in
theorem walk (z0 : Rg) (s0 : Value) (x1 : Int) (w : World) (h0 : RI w w.heap.size s0 z0.d) (hm0 : z0.d.length ≤ maxLen) (hx1 : (Lit.int .i64 x1).wf = true) :
    Calls Try.prog 3 #[RgV z0 s0, .int .i64 x1] w (RetV w (.bool true)) := by
  obtain ⟨y0k, d0⟩ := z0
  simp only [RgV] at h0 hm0 ⊢
  have hr0 := h0
  obtain ⟨A0, c0, rfl, hlc0, hc0⟩ := h0
  clear hc0
  have t0 : Below w.heap.size w w := Below.refl _ _
  have hB1 := BK.made w 24 #[.int .i64 y0k, .slice A0 d0.length c0]
  have hb0 : Below w.heap.size w (w.alloc (.cells #[.int .i64 y0k, .slice A0 d0.length c0] 24)) := (Below.refl _ _).alloc (Nat.le_refl _) _
  have hf1 : RRg (w.alloc (.cells #[.int .i64 y0k, .slice A0 d0.length c0] 24)) (w.alloc (.cells #[.int .i64 y0k, .slice A0 d0.length c0] 24)).heap.size (RgV ⟨y0k, d0⟩ (.slice A0 d0.length c0)) ⟨y0k, d0⟩ := ⟨_, rfl, (hr0.below hb0).more hb0.size⟩
  by_cases hn : 1048576 < (d0.length : Int)
  · go_enter Try.func3, Try.ntmps3
    go_wp2_with fail
    refine (szRing_any _ ⟨y0k, d0⟩ _ _ hf1 (by omega) (by omega) hm0).mono ?_; rintro e w1 ⟨rfl, hb1⟩
    rw [szLeft_neg (show (1048576 : Int) < (d0.length : Int) by omega)]
    go_wp2_with fail
    go_ret
    exact ⟨rfl, hb0.trans (hb1.mono hb0.size)⟩
  have hn0 : d0.length ≤ 1048576 := by omega
  have hp0 : 0 ≤ 1048576 - (d0.length : Int) := by omega
  have hq0 : (d0.length : Int) ≤ 1048576 := by omega
  have hlen := leaveRg_len ⟨y0k, d0⟩ x1
  obtain ⟨X, b, hX⟩ : ∃ X b, (X, b) = leaveRg ⟨y0k, d0⟩ x1 := ⟨_, _, rfl⟩
  rw [← hX] at hlen
  have HI : Hid (∀ v0 w, RRg w w.heap.size v0 ⟨y0k, d0⟩ → Calls Try.prog 10 #[v0, .int .i64 x1] w (RetRgB 3 w X b)) := by
    show ∀ v0 w, RRg w w.heap.size v0 ⟨y0k, d0⟩ → Calls Try.prog 10 #[v0, .int .i64 x1] w (RetRgB 3 w X b)
    intro v0 w q0
    have h5 := implLeaveOut_any v0 ⟨y0k, d0⟩ x1 w q0 hn0 hx1
    rw [← hX] at h5
    exact h5
  have HS : Hid (∀ v0 w, RRg w w.heap.size v0 ⟨y0k, d0⟩ → Calls Try.prog 8 #[v0, .int .i64 x1] w (RetRgB 3 w X b)) := by
    show ∀ v0 w, RRg w w.heap.size v0 ⟨y0k, d0⟩ → Calls Try.prog 8 #[v0, .int .i64 x1] w (RetRgB 3 w X b)
    intro v0 w q0
    have h5 := specLeaveOut_any v0 ⟨y0k, d0⟩ x1 w q0 hn0 hx1
    rw [← hX] at h5
    exact h5
  clear hX
  obtain ⟨rk, dX⟩ := X
  simp only at hlen
  have hlen' : (((dX).length : Nat) : Int) ≤ 1048576 := by omega
  go_enter Try.func3, Try.ntmps3
  go_wp2_with fail
  refine (szRing_any _ ⟨y0k, d0⟩ _ _ hf1 (by omega) (by omega) hm0).mono ?_; rintro e w1 ⟨rfl, hb1⟩
  rw [szLeft_pos (show ¬ (1048576 : Int) < (d0.length : Int) by omega)]
  have s1_ := hb1.size
  have t1 := hb0.trans (hb1.mono hb0.size)
  have b1 := hB1.step hb1
  have r1 := hr0.step t1 (Nat.le_refl _)
  have l1 := b1.1
  clear hb1 hb0 hB1 hf1
  have j1 := b1.cell 0
  have j2 := b1.cell 1
  simp at j1 j2
  go_wp2_with fail
  refine (toRing_any _ ⟨y0k, d0⟩ _ ⟨_, rfl, (r1.more (by omega))⟩ hn0).mono ?_; rintro e w2 ⟨u_p0, rfl, o_p0, hb2⟩
  obtain ⟨s_p0, rfl, o_p0⟩ := o_p0
  obtain ⟨A_p0, c_p0, rfl, _, _⟩ := o_p0.ri
  simp only [RgV]
  have s2_ := hb2.size
  have t2 := t1.trans (hb2.mono (by omega))
  clear j1 j2
  have f3 := r1.step hb2 (by omega)
  clear r1
  have f4 := b1.step hb2
  clear b1
  have j5 := f4.cell 0
  have j6 := f4.cell 1
  simp at j5 j6
  go_wp2_with fail
  refine (HS.out _ _ ⟨_, rfl, (o_p0.ri.more (by omega))⟩).mono ?_; rintro e w3 ⟨u_v0, rfl, o_v0, hb3⟩
  obtain ⟨s_v0, rfl, o_v0⟩ := o_v0
  obtain ⟨A_v0, c_v0, rfl, _, _⟩ := o_v0.ri
  simp only [RgV]
  have s3_ := hb3.size
  have t3 := t2.trans (hb3.mono (by omega))
  clear j5 j6
  have f7 := f3.step hb3 (by omega)
  clear f3
  have f8 := f4.step hb3
  clear f4
  have f9 := o_p0.step hb3
  clear o_p0
  have hb4 : Below w3.heap.size w3 (w3.alloc (.cells #[.int .i64 rk, .slice A_v0 dX.length c_v0] 26)) := (Below.refl _ _).alloc (Nat.le_refl _) _
  have bb__v0 := BK.made w3 26 #[.int .i64 rk, .slice A_v0 dX.length c_v0]
  have lb4 := bb__v0.1
  have s4_ := hb4.size
  have t4 := t3.trans (hb4.mono (by omega))
  have f10 := f7.step hb4 (by omega)
  clear f7
  have f11 := f8.step hb4
  clear f8
  have f12 := f9.step hb4
  clear f9
  have f13 := o_v0.step hb4
  clear o_v0
  have j14 := f11.cell 0
  have j15 := f11.cell 1
  have j16 := bb__v0.cell 0
  have j17 := bb__v0.cell 1
  simp at j14 j15 j16 j17
  go_wp2_with fail
  refine (toRing_any _ ⟨y0k, d0⟩ _ ⟨_, rfl, (f10.more (by omega))⟩ hn0).mono ?_; rintro e w5 ⟨u_x0_, rfl, o_x0_, hb5⟩
  obtain ⟨s_x0_, rfl, o_x0_⟩ := o_x0_
  obtain ⟨A_x0_, c_x0_, rfl, _, _⟩ := o_x0_.ri
  simp only [RgV]
  have s5_ := hb5.size
  have t5 := t4.trans (hb5.mono (by omega))
  clear j14 j15 j16 j17
  have f18 := f10.step hb5 (by omega)
  clear f10
  have f19 := f11.step hb5
  clear f11
  have f20 := f13.step hb5
  clear f13
  have f21 := bb__v0.step hb5
  clear bb__v0
  have hb6 : Below w5.heap.size w5 (w5.alloc (.cells #[.int .i64 y0k, .slice A_x0_ d0.length c_x0_] 26)) := (Below.refl _ _).alloc (Nat.le_refl _) _
  have bb_x0_ := BK.made w5 26 #[.int .i64 y0k, .slice A_x0_ d0.length c_x0_]
  have lb6 := bb_x0_.1
  have s6_ := hb6.size
  have t6 := t5.trans (hb6.mono (by omega))
  have f22 := f18.step hb6 (by omega)
  clear f18
  have f23 := f19.step hb6
  clear f19
  have f24 := f20.step hb6
  clear f20
  have f25 := f21.step hb6
  clear f21
  have f26 := o_x0_.step hb6
  clear o_x0_
  have j27 := f23.cell 0
  have j28 := f23.cell 1
  have j29 := f25.cell 0
  have j30 := f25.cell 1
  have j31 := bb_x0_.cell 0
  have j32 := bb_x0_.cell 1
  simp at j27 j28 j29 j30 j31 j32
  go_wp2_with fail
  refine (HI.out _ _ ⟨_, rfl, (f26.ri.more (by omega))⟩).mono ?_; rintro e w7 ⟨u_g0, rfl, o_g0, hb7⟩
  obtain ⟨s_g0, rfl, o_g0⟩ := o_g0
  obtain ⟨A_g0, c_g0, rfl, _, _⟩ := o_g0.ri
  simp only [RgV]
  have s7_ := hb7.size
  have t7 := t6.trans (hb7.mono (by omega))
  clear j27 j28 j29 j30 j31 j32
  have f33 := f22.step hb7 (by omega)
  clear f22
  have f34 := f23.step hb7
  clear f23
  have f35 := f24.step hb7
  clear f24
  have f36 := f25.step hb7
  clear f25
  have f37 := f26.step hb7
  clear f26
  have f38 := bb_x0_.step hb7
  clear bb_x0_
  have hb8 : Below w7.heap.size w7 (w7.alloc (.cells #[.int .i64 rk, .slice A_g0 dX.length c_g0] 26)) := (Below.refl _ _).alloc (Nat.le_refl _) _
  have bb__g0 := BK.made w7 26 #[.int .i64 rk, .slice A_g0 dX.length c_g0]
  have lb8 := bb__g0.1
  have s8_ := hb8.size
  have t8 := t7.trans (hb8.mono (by omega))
  have f39 := f33.step hb8 (by omega)
  clear f33
  have f40 := f34.step hb8
  clear f34
  have f41 := f35.step hb8
  clear f35
  have f42 := f36.step hb8
  clear f36
  have f43 := f37.step hb8
  clear f37
  have f44 := f38.step hb8
  clear f38
  have f45 := o_g0.step hb8
  clear o_g0
  have j46 := f40.cell 0
  have j47 := f40.cell 1
  have j48 := f42.cell 0
  have j49 := f42.cell 1
  have j50 := f44.cell 0
  have j51 := f44.cell 1
  have j52 := bb__g0.cell 0
  have j53 := bb__g0.cell 1
  simp at j46 j47 j48 j49 j50 j51 j52 j53
  go_wp2_with fail
  refine (eqRing_same _ _ ⟨rk, dX⟩ _ ⟨_, rfl, (f45.ri.more (by omega))⟩ ⟨_, rfl, (f41.ri.more (by omega))⟩ hlen).mono ?_; rintro e w9 ⟨rfl, hb9⟩
  have s9_ := hb9.size
  have t9 := t8.trans (hb9.mono (by omega))
  clear j46 j47 j48 j49 j50 j51 j52 j53
  have f54 := f39.step hb9 (by omega)
  clear f39
  have f55 := f40.step hb9
  clear f40
  have f56 := f41.step hb9
  clear f41
  have f57 := f42.step hb9
  clear f42
  have f58 := f43.step hb9
  clear f43
  have f59 := f44.step hb9
  clear f44
  have f60 := f45.step hb9
  clear f45
  have f61 := bb__g0.step hb9
  clear bb__g0
  have j62 := f55.cell 0
  have j63 := f55.cell 1
  have j64 := f57.cell 0
  have j65 := f57.cell 1
  have j66 := f59.cell 0
  have j67 := f59.cell 1
  have j68 := f61.cell 0
  have j69 := f61.cell 1
  simp at j62 j63 j64 j65 j66 j67 j68 j69
  go_upto_region 10 with fail
  go_cut [49] (fun s9 wx => s9 = .bool false ∧ Below w9.heap.size w9 wx)
  case first =>
    have R6 := RI.drewN f54 1
    have Q6 := RI.drewN f58.ri 1
    have X6 : BK (w9.drewN 1) _ _ _ := f59
    have T6 := below_drewN (Below.refl w9.heap.size w9) 1
    have y6 := T6.size
    go_region_with (first
      | (go_at_call 9; refine (toRing_any _ ⟨y0k, d0⟩ _ ⟨_, rfl, R6.more (by omega)⟩ hn0).mono ?_; rintro e w7 ⟨u7, rfl, ho7, hb7⟩; have t7 := T6.trans (hb7.mono (by omega)); have q7 := Q6.step hb7 (by omega); have x7 := X6.step hb7; have s7 := hb7.size; have d70 := x7.cell 0; have d71 := x7.cell 1; simp at d70 d71)
      | (go_at_call 11; refine (eqRing_same _ _ ⟨y0k, d0⟩ _ ⟨_, rfl, q7.more (by omega)⟩ ho7.rd hn0).mono ?_; rintro e w8 ⟨rfl, hb8⟩))
    all_goals
      go_wp2_with fail
      go_meet
      exact ⟨rfl, t7.trans (hb8.mono (by have := t7.size; omega))⟩
  case rest =>
    obtain ⟨rfl, hb10⟩ := hcut
    have s10_ := hb10.size
    have t10 := t9.trans (hb10.mono (by omega))
    clear j62 j63 j64 j65 j66 j67 j68 j69
    have f70 := f54.step hb10 (by omega)
    clear f54
    have f71 := f55.step hb10
    clear f55
    have f72 := f56.step hb10
    clear f56
    have f73 := f57.step hb10
    clear f57
    have f74 := f58.step hb10
    clear f58
    have f75 := f59.step hb10
    clear f59
    have f76 := f60.step hb10
    clear f60
    have f77 := f61.step hb10
    clear f61
    have j78 := f71.cell 0
    have j79 := f71.cell 1
    have j80 := f73.cell 0
    have j81 := f73.cell 1
    have j82 := f75.cell 0
    have j83 := f75.cell 1
    have j84 := f77.cell 0
    have j85 := f77.cell 1
    simp at j78 j79 j80 j81 j82 j83 j84 j85
    go_wp2_with fail
    refine (markRing_any _ _ _ ⟨y0k, d0⟩ _ _ ⟨_, rfl, f74⟩ hn0 (by omega) (by omega)).mono ?_; rintro e w11 ⟨rfl, mx0, hg11⟩
    have s11_ := hg11.size
    have t11 := t10.trans (hg11.below (by omega) (by omega))
    clear j78 j79 j80 j81 j82 j83 j84 j85
    have f86 := f70.far hg11 (by omega) (by omega)
    clear f70
    have f87 := f71.far hg11 (by omega)
    clear f71
    have f88 := f72.far hg11 (by omega)
    clear f72
    have f89 := f73.far hg11 (by omega)
    clear f73
    have f90 := f75.far hg11 (by omega)
    clear f75
    have f91 := f76.far hg11 (by omega)
    clear f76
    have f92 := f77.far hg11 (by omega)
    clear f77
    have j93 := f87.cell 0
    have j94 := f87.cell 1
    have j95 := f89.cell 0
    have j96 := f89.cell 1
    have j97 := f92.cell 0
    have j98 := f92.cell 1
    simp at j93 j94 j95 j96 j97 j98
    go_wp2_with fail
    refine (eqRing_same _ _ ⟨rk, dX⟩ _ ⟨_, rfl, (f91.ri.more (by omega))⟩ ⟨_, rfl, (f88.ri.more (by omega))⟩ hlen).mono ?_; rintro e w12 ⟨rfl, hb12⟩
    have s12_ := hb12.size
    have t12 := t11.trans (hb12.mono (by omega))
    clear j93 j94 j95 j96 j97 j98
    have f99 := f86.step hb12 (by omega)
    clear f86
    have f100 := f87.step hb12
    clear f87
    have f101 := f88.step hb12
    clear f88
    have f102 := f89.step hb12
    clear f89
    have f103 := f91.step hb12
    clear f91
    have f104 := f92.step hb12
    clear f92
    have j105 := f100.cell 0
    have j106 := f100.cell 1
    have j107 := f102.cell 0
    have j108 := f102.cell 1
    have j109 := f104.cell 0
    have j110 := f104.cell 1
    simp at j105 j106 j107 j108 j109 j110
    go_wp2_with fail
    refine (markRing_any _ _ _ ⟨rk, dX⟩ _ _ ⟨_, rfl, f103⟩ hlen (by omega) (by omega)).mono ?_; rintro e w13 ⟨rfl, mg, hg13⟩
    have s13_ := hg13.size
    have t13 := t12.trans (hg13.below (by omega) (by omega))
    clear j105 j106 j107 j108 j109 j110
    have f111 := f99.far hg13 (by omega) (by omega)
    clear f99
    have f112 := f100.far hg13 (by omega)
    clear f100
    have f113 := f101.far hg13 (by omega)
    clear f101
    have f114 := f102.far hg13 (by omega)
    clear f102
    have f115 := f104.far hg13 (by omega)
    clear f104
    obtain ⟨sg2, eg2, mg⟩ := mg
    simp only [RgV] at eg2
    injection eg2 with eg2
    obtain rfl : sg2 = .slice A_g0 dX.length c_g0 := by simpa using eg2.symm
    clear eg2
    have j116 := f112.cell 0
    have j117 := f112.cell 1
    have j118 := f114.cell 0
    have j119 := f114.cell 1
    have j120 := f115.cell 0
    have j121 := f115.cell 1
    simp at j116 j117 j118 j119 j120 j121
    go_wp2_with fail
    refine (heldRing_any _ ⟨rk, dX⟩ dX.length _ _ ⟨_, rfl, (mg.ri.more (by omega))⟩ hlen (by omega) (by omega)).mono ?_; rintro e w14 ⟨rfl, hb14⟩
    have s14_ := hb14.size
    have t14 := t13.trans (hb14.mono (by omega))
    clear j116 j117 j118 j119 j120 j121
    have f122 := f111.step hb14 (by omega)
    clear f111
    have f123 := f112.step hb14
    clear f112
    have f124 := f113.step hb14
    clear f113
    have f125 := f114.step hb14
    clear f114
    have f126 := f115.step hb14
    clear f115
    have f127 := mg.step hb14
    clear mg
    have j128 := f123.cell 0
    have j129 := f123.cell 1
    have j130 := f125.cell 0
    have j131 := f125.cell 1
    have j132 := f126.cell 0
    have j133 := f126.cell 1
    simp at j128 j129 j130 j131 j132 j133
    go_wp2_with fail
    refine (toRing_any _ ⟨y0k, d0⟩ _ ⟨_, rfl, (f122.more (by omega))⟩ hn0).mono ?_; rintro e w15 ⟨u_e0, rfl, o_e0, hb15⟩
    obtain ⟨s_e0, rfl, o_e0⟩ := o_e0
    obtain ⟨A_e0, c_e0, rfl, _, _⟩ := o_e0.ri
    simp only [RgV]
    have s15_ := hb15.size
    have t15 := t14.trans (hb15.mono (by omega))
    clear j128 j129 j130 j131 j132 j133
    have f134 := f122.step hb15 (by omega)
    clear f122
    have f135 := f123.step hb15
    clear f123
    have f136 := f124.step hb15
    clear f124
    have f137 := f125.step hb15
    clear f125
    have f138 := f126.step hb15
    clear f126
    have f139 := f127.step hb15
    clear f127
    have j140 := f135.cell 0
    have j141 := f135.cell 1
    have j142 := f137.cell 0
    have j143 := f137.cell 1
    have j144 := f138.cell 0
    have j145 := f138.cell 1
    simp at j140 j141 j142 j143 j144 j145
    go_wp2_with fail
    refine (HI.out _ _ ⟨_, rfl, (o_e0.ri.more (by omega))⟩).mono ?_; rintro e w16 ⟨u_h0, rfl, o_h0, hb16⟩
    obtain ⟨s_h0, rfl, o_h0⟩ := o_h0
    obtain ⟨A_h0, c_h0, rfl, _, _⟩ := o_h0.ri
    simp only [RgV]
    have s16_ := hb16.size
    have t16 := t15.trans (hb16.mono (by omega))
    clear j140 j141 j142 j143 j144 j145
    have f146 := f134.step hb16 (by omega)
    clear f134
    have f147 := f135.step hb16
    clear f135
    have f148 := f136.step hb16
    clear f136
    have f149 := f137.step hb16
    clear f137
    have f150 := f138.step hb16
    clear f138
    have f151 := f139.step hb16
    clear f139
    have f152 := o_e0.step hb16
    clear o_e0
    have hb17 : Below w16.heap.size w16 (w16.alloc (.cells #[.int .i64 rk, .slice A_h0 dX.length c_h0] 26)) := (Below.refl _ _).alloc (Nat.le_refl _) _
    have bb__h0 := BK.made w16 26 #[.int .i64 rk, .slice A_h0 dX.length c_h0]
    have lb17 := bb__h0.1
    have s17_ := hb17.size
    have t17 := t16.trans (hb17.mono (by omega))
    have f153 := f146.step hb17 (by omega)
    clear f146
    have f154 := f147.step hb17
    clear f147
    have f155 := f148.step hb17
    clear f148
    have f156 := f149.step hb17
    clear f149
    have f157 := f150.step hb17
    clear f150
    have f158 := f151.step hb17
    clear f151
    have f159 := f152.step hb17
    clear f152
    have f160 := o_h0.step hb17
    clear o_h0
    have j161 := f154.cell 0
    have j162 := f154.cell 1
    have j163 := f156.cell 0
    have j164 := f156.cell 1
    have j165 := f157.cell 0
    have j166 := f157.cell 1
    have j167 := bb__h0.cell 0
    have j168 := bb__h0.cell 1
    simp at j161 j162 j163 j164 j165 j166 j167 j168
    go_wp2_with fail
    refine (eqRing_same _ _ ⟨rk, dX⟩ _ ⟨_, rfl, (f160.ri.more (by omega))⟩ ⟨_, rfl, (f155.ri.more (by omega))⟩ hlen).mono ?_; rintro e w18 ⟨rfl, hb18⟩
    have s18_ := hb18.size
    have t18 := t17.trans (hb18.mono (by omega))
    clear j161 j162 j163 j164 j165 j166 j167 j168
    have f169 := f153.step hb18 (by omega)
    clear f153
    have f170 := f154.step hb18
    clear f154
    have f171 := f155.step hb18
    clear f155
    have f172 := f156.step hb18
    clear f156
    have f173 := f157.step hb18
    clear f157
    have f174 := f158.step hb18
    clear f158
    have f175 := f160.step hb18
    clear f160
    have f176 := bb__h0.step hb18
    clear bb__h0
    have j177 := f170.cell 0
    have j178 := f170.cell 1
    have j179 := f172.cell 0
    have j180 := f172.cell 1
    have j181 := f173.cell 0
    have j182 := f173.cell 1
    have j183 := f176.cell 0
    have j184 := f176.cell 1
    simp at j177 j178 j179 j180 j181 j182 j183 j184
    go_wp2_with fail
    refine (heldRing_any _ ⟨rk, dX⟩ dX.length _ _ ⟨_, rfl, (f174.ri.more (by omega))⟩ hlen (by omega) (by omega)).mono ?_; rintro e w19 ⟨rfl, hb19⟩
    have s19_ := hb19.size
    have t19 := t18.trans (hb19.mono (by omega))
    clear j177 j178 j179 j180 j181 j182 j183 j184
    have f185 := f169.step hb19 (by omega)
    clear f169
    have f186 := f170.step hb19
    clear f170
    have f187 := f171.step hb19
    clear f171
    have f188 := f172.step hb19
    clear f172
    have f189 := f173.step hb19
    clear f173
    have f190 := f174.step hb19
    clear f174
    have f191 := f175.step hb19
    clear f175
    have f192 := f176.step hb19
    clear f176
    have j193 := f186.cell 0
    have j194 := f186.cell 1
    have j195 := f188.cell 0
    have j196 := f188.cell 1
    have j197 := f189.cell 0
    have j198 := f189.cell 1
    have j199 := f192.cell 0
    have j200 := f192.cell 1
    simp at j193 j194 j195 j196 j197 j198 j199 j200
    go_wp2_with fail
    go_ret
    exact ⟨rfl, t19⟩

set_option maxRecDepth 100000 in
theorem lifted (os : Os) (started : os.Started) (H : Type) (enc : TypeId × Value → H) :
    ReturnsInHanded {} Try.checked os 3 .any (Rows.fnExactLeaveOutSpec.pre6 enc Try.prog Try.f3 Rows.fnExactLeaveOutRow.domain false) (Rows.fnExactLeaveOutSpec.post enc Try.prog Try.f3 false true false false) := by
  refine returnsInHanded_of_change (C := Try.checked) own started (by kernel_rfl) Try.func3
    (ChangeSpec.witness6 (enc := enc) (C := Try.checked) false ⟨#[], #[.agg #[.int .i64 0, .slice none 0 0], .int .i64 0], []⟩ 8 (by kernel_rfl) (by kernel_rfl) (by kernel_rfl) (by kernel_rfl)) ?_
  intro W base args ds gs before hval0 hW hcnd _
  have hval : ∀ (j : Nat) t v, Try.f3.params[j]? = some t → args[j]? = some v → Value.okWide Try.prog W .any base t v := hval0
  have hW' := hW
  obtain ⟨p, q, hA0, hV, rfl, hfz, hnd⟩ := hW
  have hA : DataW.TrodAll enc Try.prog W 0 (fun _ => true) true Try.f3.params.toList args.toList ds p := hA0
  rw [Try.params3] at hA hval
  obtain ⟨v0, vs0, d0, ds0, p0, q0, hargs, rfl, rfl, h0, r0⟩ := trodAll_cons hA
  obtain ⟨v1, vs1, d1, ds1, p1, q1, rfl, rfl, rfl, h1, r1⟩ := trodAll_cons r0
  obtain ⟨rfl, rfl, rfl⟩ := trodAll_nil r1
  obtain rfl : args = #[v0, v1] := by cases args; simp_all
  obtain ⟨rfl, rfl⟩ := trodVars_none hV
  have k0 := h0
  have lt0 : ∀ x ∈ p0, x.block < W.heap.size := by obtain ⟨m, hm⟩ := k0; exact DataW.trod_lt m _ _ _ hm
  obtain ⟨e0_0, e0_1, y0_0, y0_1, m0, rfl, hd0, hp0, g0_0, g0_1⟩ := Go.Joins.open_agg2 Try.underlying24 (by kernel_rfl) (by kernel_rfl) (hval 0 24 v0 rfl rfl) h0
  obtain ⟨x0_0, hx0_0, _, w0_0⟩ := DataW.trod_int Try.underlying3 g0_0
  obtain rfl : e0_0 = .int .i64 x0_0 := by simpa using hx0_0
  obtain ⟨l0_1, w0_1⟩ : ∃ l, RI W W.heap.size e0_1 l ∧ (∀ x ∈ l, (Lit.int .i64 x).wf = true) ∧ l.length ≤ maxLen := by
    rcases open_ints Try.underlying22 Try.underlying3 (by kernel_rfl) g0_1 with ⟨hcs, _⟩ | ⟨x, l, c, zs, hcs, _, hl, hm, hz, _, hcell, hwz⟩
    · obtain rfl : e0_1 = .slice none 0 0 := by simpa using hcs
      exact ⟨[], ⟨none, 0, rfl, ⟨by simp, by simp, fun _ => rfl⟩, fun h => absurd h (by simp)⟩, by simp, by simp⟩
    · obtain rfl : e0_1 = .slice (some x) l c := by simpa using hcs
      have hz' : zs.length = c := by simpa using hz
      exact ⟨zs.take l, ri_of_cells (by omega) hz' hm hcell, fun y hy => hwz y (List.mem_of_mem_take hy), by simp; omega⟩
  obtain ⟨a1, rfl, rfl, rfl, w1⟩ := open_int Try.underlying3 (hval 1 3 v1 rfl rfl) h1
  clear hA0 hval0
  refine (walk ⟨x0_0, l0_1⟩ e0_1 a1 W w0_1.1 w0_1.2.2 w1).mono fun e W' ⟨he, bel⟩ => ?_
  subst he
  exact ⟨_, rfl, _, _, _, [], _, [], hW', trodAll_mk1 (shut_bool Try.underlying4 _), (trodAll_cons_mk (Below.trod laidOut (by kernel_rfl) (of_decide_eq_true (by kernel_rfl)) k0 bel lt0) (trodAll_cons_mk (shut_int Try.underlying3 w1) trodAll_mk0)), rfl, bel.frame _, fun h => by cases h⟩

theorem closed : joinedFacts Try.pinned.checked.prog 3 Try.f3 Rows.fnExactLeaveOutSpec Rows.fnExactLeaveOutRow = true := by
  unfold joinedFacts
  repeat' (with_reducible refine and_t ?_ ?_)
  all_goals first
    | (with_reducible exact init_mayEnter)
    | (with_reducible refine init_lifted ?_; as_aux_lemma => kernel_rfl)
    | (with_reducible refine init_mk ?_; as_aux_lemma => kernel_rfl)
    | (as_aux_lemma => kernel_rfl)

theorem over : Rows.fnExactLeaveOutRow.holds Try.pinned (OpenSpec.ofChange Rows.fnExactLeaveOutSpec) :=
  OpenClaim.holds_of_wide 3 Try.f3 rfl rfl rfl rfl rfl rfl rfl ⟨rfl, rfl, rfl, rfl, rfl⟩ rfl rfl rfl rfl rfl (by kernel_rfl) Try.func3 closed
    (of_decide_eq_true (by kernel_rfl)) (by unfold Func.isWrapper; first | (rw [if_pos (by decide +kernel)]; kernel_rfl) | (rw [if_neg (by decide +kernel)]; exact ⟨rfl, rfl⟩))
    (fun os started H enc _ => lifted os started H enc)

/-- The given statement. -/
theorem proved : Rows.FnExactLeaveOutSaid := over

end Go.Proofs.Ytffmpkdkifecpaa.lawLeaveOut
