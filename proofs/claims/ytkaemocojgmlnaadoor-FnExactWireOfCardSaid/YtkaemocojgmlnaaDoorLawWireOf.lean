/-
  WireOf answers as its model at every argument, writes into no argument, and its answer owns its memory. No condition.
-/
import Derived.Test.YtkaemocojgmlnaaDoorWireS
import Derived.Test.YtkaemocojgmlnaaDoorFrm2
import Derived.Test.YtkaemocojgmlnaaDoorFrame
import Derived.Deep.RegionWith
import Derived.Deep.DeepCutAuto
import Derived.Lib.SmallJoins
import Derived.Lib.LaidTab
import Derived.Lay
import Derived.LaidMore
import Derived.OpenVars
import Derived.SevenTiedAt
import Derived.Test.YtkaemocojgmlnaaDoorCards
import Derived.Test.YtkaemocojgmlnaaDoorTie
namespace Go.Proofs.YtkaemocojgmlnaaDoor.lawWireOf
open Go.RowKit Go.ChangeShapes Go.WideShapes Go.ChangeAt
set_option maxRecDepth 100000
set_option linter.unusedVariables false

set_option maxHeartbeats 4000000 in
theorem walk (z0 : Fr) (s0 : Value) (w : World) (hG : FlagW w) (h0 : RI w w.heap.size s0 z0.d) (hm0 : z0.d.length ≤ maxLen) :
    Calls Tryd.prog 7 #[frV z0 s0] w (RetV w (.bool true)) := by
  have HG := Lib.hid hG
  clear hG
  obtain ⟨y0f, y0t, y0p, d0⟩ := z0
  simp only [frV] at h0 hm0 ⊢
  have hr0 := h0
  obtain ⟨A0, c0, rfl, hlc0, hc0⟩ := h0
  clear hc0
  have t0 : Below w.heap.size w w := Below.refl _ _
  have hB1 := BK.made w 37 #[.int .i64 y0f, .int .i64 y0t, .int .i64 y0p, .slice A0 d0.length c0]
  have hb0 : Below w.heap.size w (w.alloc (.cells #[.int .i64 y0f, .int .i64 y0t, .int .i64 y0p, .slice A0 d0.length c0] 37)) := (Below.refl _ _).alloc (Nat.le_refl _) _
  have hf1 : RF (w.alloc (.cells #[.int .i64 y0f, .int .i64 y0t, .int .i64 y0p, .slice A0 d0.length c0] 37)) (w.alloc (.cells #[.int .i64 y0f, .int .i64 y0t, .int .i64 y0p, .slice A0 d0.length c0] 37)).heap.size (frV ⟨y0f, y0t, y0p, d0⟩ (.slice A0 d0.length c0)) ⟨y0f, y0t, y0p, d0⟩ := ⟨_, rfl, (hr0.below hb0).more hb0.size⟩
  by_cases hn : 1048576 < (d0.length : Int)
  · go_enter Tryd.func7, Tryd.ntmps7
    go_wp2_with fail
    refine (szFrame_any _ ⟨y0f, y0t, y0p, d0⟩ _ _ hf1 (by omega) (by omega) hm0).mono ?_; rintro e w1 ⟨rfl, hb1⟩
    rw [szLeft_neg (show (1048576 : Int) < (d0.length : Int) by omega)]
    go_wp2_with fail
    go_ret
    exact ⟨rfl, hb0.trans (hb1.mono hb0.size)⟩
  have hn0 : d0.length ≤ 1048576 := by omega
  have hp0 : 0 ≤ 1048576 - (d0.length : Int) := by omega
  have hq0 : (d0.length : Int) ≤ 1048576 := by omega
  have hlen := wireOf_len ⟨y0f, y0t, y0p, d0⟩
  obtain ⟨X, b, hX⟩ : ∃ X b, (X, b) = wireOf ⟨y0f, y0t, y0p, d0⟩ := ⟨_, _, rfl⟩
  rw [← hX] at hlen
  simp only at hlen
  have HI : Hid (∀ v0 w, FlagW w → RF w w.heap.size v0 ⟨y0f, y0t, y0p, d0⟩ → Calls Tryd.prog 28 #[v0] w (RetLB 3 w X b)) := by
    show ∀ v0 w, FlagW w → RF w w.heap.size v0 ⟨y0f, y0t, y0p, d0⟩ → Calls Tryd.prog 28 #[v0] w (RetLB 3 w X b)
    intro v0 w qG q0
    have h5 := implWireOf_any v0 ⟨y0f, y0t, y0p, d0⟩ w qG q0 hn0
    rw [← hX] at h5
    exact h5
  have HS : Hid (∀ v0 w, RF w w.heap.size v0 ⟨y0f, y0t, y0p, d0⟩ → Calls Tryd.prog 27 #[v0] w (RetLB 3 w X b)) := by
    show ∀ v0 w, RF w w.heap.size v0 ⟨y0f, y0t, y0p, d0⟩ → Calls Tryd.prog 27 #[v0] w (RetLB 3 w X b)
    intro v0 w q0
    have h5 := specWireOf_any v0 ⟨y0f, y0t, y0p, d0⟩ w q0 hn0
    rw [← hX] at h5
    exact h5
  clear hX
  have hlen' : (((X).length : Nat) : Int) ≤ 1048576 := by omega
  go_enter Tryd.func7, Tryd.ntmps7
  go_wp2_with fail
  refine (szFrame_any _ ⟨y0f, y0t, y0p, d0⟩ _ _ hf1 (by omega) (by omega) hm0).mono ?_; rintro e w1 ⟨rfl, hb1⟩
  rw [szLeft_pos (show ¬ (1048576 : Int) < (d0.length : Int) by omega)]
  have s1_ := hb1.size
  have t1 := hb0.trans (hb1.mono hb0.size)
  have b1 := hB1.step hb1
  have r1 := hr0.step t1 (Nat.le_refl _)
  have l1 := b1.1
  clear hb1 hb0 hB1 hf1
  have j1 := b1.cell 0
  have j2 := b1.cell 1
  have j3 := b1.cell 2
  have j4 := b1.cell 3
  simp at j1 j2 j3 j4
  go_wp2_with fail
  refine (toFrame_any _ ⟨y0f, y0t, y0p, d0⟩ _ ⟨_, rfl, (r1.more (by omega))⟩ hn0).mono ?_; rintro e w2 ⟨u_p0, rfl, o_p0, hb2⟩
  obtain ⟨s_p0, rfl, o_p0⟩ := o_p0
  obtain ⟨A_p0, c_p0, rfl, _, _⟩ := o_p0.ri
  simp only [frV]
  have s2_ := hb2.size
  have t2 := t1.trans (hb2.mono (by omega))
  clear j1 j2 j3 j4
  have f5 := r1.step hb2 (by omega)
  clear r1
  have f6 := b1.step hb2
  clear b1
  have j7 := f6.cell 0
  have j8 := f6.cell 1
  have j9 := f6.cell 2
  have j10 := f6.cell 3
  simp at j7 j8 j9 j10
  go_wp2_with fail
  refine (HS.out _ _ ⟨_, rfl, (o_p0.ri.more (by omega))⟩).mono ?_; rintro e w3 ⟨v0, rfl, o_v0, hb3⟩
  have s3_ := hb3.size
  have t3 := t2.trans (hb3.mono (by omega))
  clear j7 j8 j9 j10
  have f11 := f5.step hb3 (by omega)
  clear f5
  have f12 := f6.step hb3
  clear f6
  have f13 := o_p0.step hb3
  clear o_p0
  have j14 := f12.cell 0
  have j15 := f12.cell 1
  have j16 := f12.cell 2
  have j17 := f12.cell 3
  simp at j14 j15 j16 j17
  go_wp2_with fail
  refine (toFrame_any _ ⟨y0f, y0t, y0p, d0⟩ _ ⟨_, rfl, (f11.more (by omega))⟩ hn0).mono ?_; rintro e w4 ⟨u_x0_, rfl, o_x0_, hb4⟩
  obtain ⟨s_x0_, rfl, o_x0_⟩ := o_x0_
  obtain ⟨A_x0_, c_x0_, rfl, _, _⟩ := o_x0_.ri
  simp only [frV]
  have s4_ := hb4.size
  have t4 := t3.trans (hb4.mono (by omega))
  clear j14 j15 j16 j17
  have f18 := f11.step hb4 (by omega)
  clear f11
  have f19 := f12.step hb4
  clear f12
  have f20 := o_v0.step hb4
  clear o_v0
  have hb5 : Below w4.heap.size w4 (w4.alloc (.cells #[.int .i64 y0f, .int .i64 y0t, .int .i64 y0p, .slice A_x0_ d0.length c_x0_] 40)) := (Below.refl _ _).alloc (Nat.le_refl _) _
  have bb_x0_ := BK.made w4 40 #[.int .i64 y0f, .int .i64 y0t, .int .i64 y0p, .slice A_x0_ d0.length c_x0_]
  have lb5 := bb_x0_.1
  have s5_ := hb5.size
  have t5 := t4.trans (hb5.mono (by omega))
  have f21 := f18.step hb5 (by omega)
  clear f18
  have f22 := f19.step hb5
  clear f19
  have f23 := f20.step hb5
  clear f20
  have f24 := o_x0_.step hb5
  clear o_x0_
  have j25 := f22.cell 0
  have j26 := f22.cell 1
  have j27 := f22.cell 2
  have j28 := f22.cell 3
  have j29 := bb_x0_.cell 0
  have j30 := bb_x0_.cell 1
  have j31 := bb_x0_.cell 2
  have j32 := bb_x0_.cell 3
  simp at j25 j26 j27 j28 j29 j30 j31 j32
  go_wp2_with fail
  refine (HI.out _ _ (HG.out.below t5 HG.out.1) ⟨_, rfl, (f24.ri.more (by omega))⟩).mono ?_; rintro e w6 ⟨g0, rfl, o_g0, hb6⟩
  have s6_ := hb6.size
  have t6 := t5.trans (hb6.mono (by omega))
  clear j25 j26 j27 j28 j29 j30 j31 j32
  have f33 := f21.step hb6 (by omega)
  clear f21
  have f34 := f22.step hb6
  clear f22
  have f35 := f23.step hb6
  clear f23
  have f36 := f24.step hb6
  clear f24
  have f37 := bb_x0_.step hb6
  clear bb_x0_
  have j38 := f34.cell 0
  have j39 := f34.cell 1
  have j40 := f34.cell 2
  have j41 := f34.cell 3
  have j42 := f37.cell 0
  have j43 := f37.cell 1
  have j44 := f37.cell 2
  have j45 := f37.cell 3
  simp at j38 j39 j40 j41 j42 j43 j44 j45
  go_wp2_with fail
  refine (eqIntS_same _ _ _ _ (o_g0.ri.more (by omega)) (f35.ri.more (by omega)) hlen).mono ?_; rintro e w7 ⟨rfl, hb7⟩
  have s7_ := hb7.size
  have t7 := t6.trans (hb7.mono (by omega))
  clear j38 j39 j40 j41 j42 j43 j44 j45
  have f46 := f33.step hb7 (by omega)
  clear f33
  have f47 := f34.step hb7
  clear f34
  have f48 := f35.step hb7
  clear f35
  have f49 := f36.step hb7
  clear f36
  have f50 := f37.step hb7
  clear f37
  have f51 := o_g0.step hb7
  clear o_g0
  have j52 := f47.cell 0
  have j53 := f47.cell 1
  have j54 := f47.cell 2
  have j55 := f47.cell 3
  have j56 := f50.cell 0
  have j57 := f50.cell 1
  have j58 := f50.cell 2
  have j59 := f50.cell 3
  simp at j52 j53 j54 j55 j56 j57 j58 j59
  go_upto_region 10 with fail
  go_cut [45] (fun s9 wx => s9 = .bool false ∧ Below w7.heap.size w7 wx)
  case first =>
    have R6 := RI.drewN f46 1
    have Q6 := RI.drewN f49.ri 1
    have X6 : BK (w7.drewN 1) _ _ _ := f50
    have T6 := below_drewN (Below.refl w7.heap.size w7) 1
    have y6 := T6.size
    go_region_with (first
      | (go_at_call 20; refine (toFrame_any _ ⟨y0f, y0t, y0p, d0⟩ _ ⟨_, rfl, R6.more (by omega)⟩ hn0).mono ?_; rintro e w7 ⟨u7, rfl, ho7, hb7⟩; have t7 := T6.trans (hb7.mono (by omega)); have q7 := Q6.step hb7 (by omega); have x7 := X6.step hb7; have s7 := hb7.size; have d70 := x7.cell 0; have d71 := x7.cell 1; have d72 := x7.cell 2; have d73 := x7.cell 3; simp at d70 d71 d72 d73)
      | (go_at_call 22; refine (eqFrame_same _ _ ⟨y0f, y0t, y0p, d0⟩ _ ⟨_, rfl, q7.more (by omega)⟩ ho7.rf hn0).mono ?_; rintro e w8 ⟨rfl, hb8⟩))
    all_goals
      go_wp2_with fail
      go_meet
      exact ⟨rfl, t7.trans (hb8.mono (by have := t7.size; omega))⟩
  case rest =>
    obtain ⟨rfl, hb8⟩ := hcut
    have s8_ := hb8.size
    have t8 := t7.trans (hb8.mono (by omega))
    clear j52 j53 j54 j55 j56 j57 j58 j59
    have f60 := f46.step hb8 (by omega)
    clear f46
    have f61 := f47.step hb8
    clear f47
    have f62 := f48.step hb8
    clear f48
    have f63 := f49.step hb8
    clear f49
    have f64 := f50.step hb8
    clear f50
    have f65 := f51.step hb8
    clear f51
    have j66 := f61.cell 0
    have j67 := f61.cell 1
    have j68 := f61.cell 2
    have j69 := f61.cell 3
    have j70 := f64.cell 0
    have j71 := f64.cell 1
    have j72 := f64.cell 2
    have j73 := f64.cell 3
    simp at j66 j67 j68 j69 j70 j71 j72 j73
    go_wp2_with fail
    refine (markFrame_any _ _ _ ⟨y0f, y0t, y0p, d0⟩ _ _ ⟨_, rfl, f63⟩ hn0 (by omega) (by omega)).mono ?_; rintro e w9 ⟨rfl, mx0, hg9⟩
    have s9_ := hg9.size
    have t9 := t8.trans (hg9.below (by omega) (by omega))
    clear j66 j67 j68 j69 j70 j71 j72 j73
    have f74 := f60.far hg9 (by omega) (by omega)
    clear f60
    have f75 := f61.far hg9 (by omega)
    clear f61
    have f76 := f62.far hg9 (by omega)
    clear f62
    have f77 := f64.far hg9 (by omega)
    clear f64
    have f78 := f65.far hg9 (by omega)
    clear f65
    have j79 := f75.cell 0
    have j80 := f75.cell 1
    have j81 := f75.cell 2
    have j82 := f75.cell 3
    simp at j79 j80 j81 j82
    go_wp2_with fail
    refine (eqIntS_same _ _ _ _ (f78.ri.more (by omega)) (f76.ri.more (by omega)) hlen).mono ?_; rintro e w10 ⟨rfl, hb10⟩
    have s10_ := hb10.size
    have t10 := t9.trans (hb10.mono (by omega))
    clear j79 j80 j81 j82
    have f83 := f74.step hb10 (by omega)
    clear f74
    have f84 := f75.step hb10
    clear f75
    have f85 := f76.step hb10
    clear f76
    have f86 := f78.step hb10
    clear f78
    have j87 := f84.cell 0
    have j88 := f84.cell 1
    have j89 := f84.cell 2
    have j90 := f84.cell 3
    simp at j87 j88 j89 j90
    go_wp2_with fail
    refine (markIntS_any _ _ _ _ _ _ f86 hlen (by omega) (by omega)).mono ?_; rintro e w11 ⟨rfl, mg, hg11⟩
    have s11_ := hg11.size
    have t11 := t10.trans (hg11.below (by omega) (by omega))
    clear j87 j88 j89 j90
    have f91 := f83.far hg11 (by omega) (by omega)
    clear f83
    have f92 := f84.far hg11 (by omega)
    clear f84
    have f93 := f85.far hg11 (by omega)
    clear f85
    have j94 := f92.cell 0
    have j95 := f92.cell 1
    have j96 := f92.cell 2
    have j97 := f92.cell 3
    simp at j94 j95 j96 j97
    go_wp2_with fail
    refine (heldIntS_any _ _ _ _ (mg.ri.more (by omega)) hlen (by omega) (by omega)).mono ?_; rintro e w12 ⟨rfl, hb12⟩
    have s12_ := hb12.size
    have t12 := t11.trans (hb12.mono (by omega))
    clear j94 j95 j96 j97
    have f98 := f91.step hb12 (by omega)
    clear f91
    have f99 := f92.step hb12
    clear f92
    have f100 := f93.step hb12
    clear f93
    have f101 := mg.step hb12
    clear mg
    have j102 := f99.cell 0
    have j103 := f99.cell 1
    have j104 := f99.cell 2
    have j105 := f99.cell 3
    simp at j102 j103 j104 j105
    go_wp2_with fail
    refine (toFrame_any _ ⟨y0f, y0t, y0p, d0⟩ _ ⟨_, rfl, (f98.more (by omega))⟩ hn0).mono ?_; rintro e w13 ⟨u_e0, rfl, o_e0, hb13⟩
    obtain ⟨s_e0, rfl, o_e0⟩ := o_e0
    obtain ⟨A_e0, c_e0, rfl, _, _⟩ := o_e0.ri
    simp only [frV]
    have s13_ := hb13.size
    have t13 := t12.trans (hb13.mono (by omega))
    clear j102 j103 j104 j105
    have f106 := f98.step hb13 (by omega)
    clear f98
    have f107 := f99.step hb13
    clear f99
    have f108 := f100.step hb13
    clear f100
    have f109 := f101.step hb13
    clear f101
    have j110 := f107.cell 0
    have j111 := f107.cell 1
    have j112 := f107.cell 2
    have j113 := f107.cell 3
    simp at j110 j111 j112 j113
    go_wp2_with fail
    refine (HI.out _ _ (HG.out.below t13 HG.out.1) ⟨_, rfl, (o_e0.ri.more (by omega))⟩).mono ?_; rintro e w14 ⟨h0, rfl, o_h0, hb14⟩
    have s14_ := hb14.size
    have t14 := t13.trans (hb14.mono (by omega))
    clear j110 j111 j112 j113
    have f114 := f106.step hb14 (by omega)
    clear f106
    have f115 := f107.step hb14
    clear f107
    have f116 := f108.step hb14
    clear f108
    have f117 := f109.step hb14
    clear f109
    have f118 := o_e0.step hb14
    clear o_e0
    have j119 := f115.cell 0
    have j120 := f115.cell 1
    have j121 := f115.cell 2
    have j122 := f115.cell 3
    simp at j119 j120 j121 j122
    go_wp2_with fail
    refine (eqIntS_same _ _ _ _ (o_h0.ri.more (by omega)) (f116.ri.more (by omega)) hlen).mono ?_; rintro e w15 ⟨rfl, hb15⟩
    have s15_ := hb15.size
    have t15 := t14.trans (hb15.mono (by omega))
    clear j119 j120 j121 j122
    have f123 := f114.step hb15 (by omega)
    clear f114
    have f124 := f115.step hb15
    clear f115
    have f125 := f116.step hb15
    clear f116
    have f126 := f117.step hb15
    clear f117
    have f127 := o_h0.step hb15
    clear o_h0
    have j128 := f124.cell 0
    have j129 := f124.cell 1
    have j130 := f124.cell 2
    have j131 := f124.cell 3
    simp at j128 j129 j130 j131
    go_wp2_with fail
    refine (heldIntS_any _ _ _ _ (f126.ri.more (by omega)) hlen (by omega) (by omega)).mono ?_; rintro e w16 ⟨rfl, hb16⟩
    have s16_ := hb16.size
    have t16 := t15.trans (hb16.mono (by omega))
    clear j128 j129 j130 j131
    have f132 := f123.step hb16 (by omega)
    clear f123
    have f133 := f124.step hb16
    clear f124
    have f134 := f125.step hb16
    clear f125
    have f135 := f126.step hb16
    clear f126
    have f136 := f127.step hb16
    clear f127
    have j137 := f133.cell 0
    have j138 := f133.cell 1
    have j139 := f133.cell 2
    have j140 := f133.cell 3
    simp at j137 j138 j139 j140
    go_wp2_with fail
    go_ret
    exact ⟨rfl, t16⟩

theorem gN : Tryd.prog.globalNamed "loop.example/g01176/impl.flagBits" = some 0 := by kernel_rfl
theorem gT : (Tryd.prog.globals[0]?).map (·.type) = some 73 := by kernel_rfl
theorem c8 : Tryd.prog.cellsOf 73 = 8 := by kernel_rfl
theorem c1 : Tryd.prog.cellsOf 3 = 1 := by kernel_rfl
theorem flag_of {W : World} (h : laidMet Tryd.prog Rows.fnExactWireOfRow.laid W) : FlagW W := by
  have hT := Lib.tabIs_of_head (zs := flagL) gN gT Tryd.underlying73 Tryd.underlying3 c1 c8 h
  refine ⟨?_, fun i hi => hT.cell gN i hi⟩
  have hc := hT.cell gN 0 (by decide)
  unfold World.cell? at hc
  cases hb : W.heap[0]? with
  | none => simp [hb] at hc
  | some o => exact (Array.getElem?_eq_some_iff.1 hb).1

set_option maxRecDepth 100000 in
set_option maxHeartbeats 2000000 in
theorem lifted (os : Os) (started : os.Started) (H : Type) (enc : TypeId × Value → H) :
    ReturnsInHanded {} Tryd.checked os 7 .any (fun w args => (Rows.fnExactWireOfSpec.pre enc Tryd.prog Tryd.f7 [] false w args ∧ laidMetH Tryd.prog Rows.fnExactWireOfRow.laid w) ∧ sizedMet enc Tryd.prog Tryd.f7 (OpenSpec.ofChange Rows.fnExactWireOfSpec) false w args) (Rows.fnExactWireOfSpec.post enc Tryd.prog Tryd.f7 false true false false) := by
  refine returnsInHanded_of_change_and (C := Tryd.checked) (X := fun w _ => laidMetH Tryd.prog Rows.fnExactWireOfRow.laid w) (fun _ _ _ hh h => h.of_heap hh) own started (by kernel_rfl) Tryd.func7
    (ChangeSpec.witness_shaped (enc := enc) (C := Tryd.checked) (os := os) (X := fun w _ => laidMetH Tryd.prog Rows.fnExactWireOfRow.laid w) false (World.laidAll Tryd.prog os Rows.fnExactWireOfRow.laid) #[.agg #[.int .i64 0, .int .i64 0, .int .i64 0, .slice none 0 0]] 8 (World.laidAll_os _ _ _)
      (World.shaped_of_ZipB (by kernel_rfl) (by kernel_rfl)) (by kernel_rfl) (by kernel_rfl) (by kernel_rfl)
      (by rw [MakeChecks.laidMetH_plain _ _ _ (by kernel_rfl)]; exact laidMet_laidAll _ (by kernel_rfl) (by kernel_rfl))) ?_
  intro W base args ds gs before hval0 hW _ _ hL _
  rw [MakeChecks.laidMetH_plain _ _ _ (by kernel_rfl)] at hL
  have hval : ∀ (j : Nat) t v, Tryd.f7.params[j]? = some t → args[j]? = some v → Value.okWide Tryd.prog W .any base t v := hval0
  have hW' := hW
  obtain ⟨p, q, hA0, hV, rfl, hfz, hnd⟩ := hW
  have hA : DataW.TrodAll enc Tryd.prog W 0 (fun _ => true) true Tryd.f7.params.toList args.toList ds p := hA0
  rw [Tryd.params7] at hA hval
  obtain ⟨v0, vs0, d0, ds0, p0, q0, hargs, rfl, rfl, h0, r0⟩ := trodAll_cons hA
  obtain ⟨rfl, rfl, rfl⟩ := trodAll_nil r0
  obtain rfl : args = #[v0] := by cases args; simp_all
  have hV0 := hV
  obtain ⟨gv, tv, csv, fuelv, dv, pv, rfl, _, _, _, _, _⟩ := trodVars_one hV0
  have k0 := h0
  have lt0 : ∀ x ∈ p0, x.block < W.heap.size := by obtain ⟨m, hm⟩ := k0; exact DataW.trod_lt m _ _ _ hm
  obtain ⟨e0_0, e0_1, e0_2, e0_3, y0_0, y0_1, y0_2, y0_3, m0, rfl, hd0, hp0, g0_0, g0_1, g0_2, g0_3⟩ := Go.Joins.open_agg4 Tryd.underlying37 (by kernel_rfl) (by kernel_rfl) (hval 0 37 v0 rfl rfl) h0
  obtain ⟨x0_0, hx0_0, _, w0_0⟩ := DataW.trod_int Tryd.underlying3 g0_0
  obtain rfl : e0_0 = .int .i64 x0_0 := by simpa using hx0_0
  obtain ⟨x0_1, hx0_1, _, w0_1⟩ := DataW.trod_int Tryd.underlying3 g0_1
  obtain rfl : e0_1 = .int .i64 x0_1 := by simpa using hx0_1
  obtain ⟨x0_2, hx0_2, _, w0_2⟩ := DataW.trod_int Tryd.underlying3 g0_2
  obtain rfl : e0_2 = .int .i64 x0_2 := by simpa using hx0_2
  obtain ⟨l0_3, w0_3⟩ : ∃ l, RI W W.heap.size e0_3 l ∧ (∀ x ∈ l, (Lit.int .i64 x).wf = true) ∧ l.length ≤ maxLen := by
    rcases open_ints Tryd.underlying22 Tryd.underlying3 (by kernel_rfl) g0_3 with ⟨hcs, _⟩ | ⟨x, l, c, zs, hcs, _, hl, hm, hz, _, hcell, hwz⟩
    · obtain rfl : e0_3 = .slice none 0 0 := by simpa using hcs
      exact ⟨[], ⟨none, 0, rfl, ⟨by simp, by simp, fun _ => rfl⟩, fun h => absurd h (by simp)⟩, by simp, by simp⟩
    · obtain rfl : e0_3 = .slice (some x) l c := by simpa using hcs
      have hz' : zs.length = c := by simpa using hz
      exact ⟨zs.take l, ri_of_cells (by omega) hz' hm hcell, fun y hy => hwz y (List.mem_of_mem_take hy), by simp; omega⟩
  clear hA0 hval0
  refine (walk ⟨x0_0, x0_1, x0_2, l0_3⟩ e0_3 W (flag_of hL) w0_3.1 w0_3.2.2).mono fun e W' ⟨he, bel⟩ => ?_
  subst he
  exact ⟨_, rfl, _, _, _, [], _, _, hW', trodAll_mk1 (shut_bool Tryd.underlying4 _), (trodAll_cons_mk (Below.trod laidOut (by kernel_rfl) (of_decide_eq_true (by kernel_rfl)) k0 bel lt0) trodAll_mk0), bel.trodVars laidOut (by kernel_rfl) hV, bel.frame _, fun h => by cases h⟩

theorem closed : joinedFacts Tryd.pinned.checked.prog 7 Tryd.f7 Rows.fnExactWireOfSpec Rows.fnExactWireOfRow = true := by
  unfold joinedFacts
  repeat' (with_reducible refine and_t ?_ ?_)
  all_goals first
    | (with_reducible exact init_mayEnter)
    | (with_reducible refine init_lifted ?_; as_aux_lemma => kernel_rfl)
    | (with_reducible refine init_mk ?_; as_aux_lemma => kernel_rfl)
    | (as_aux_lemma => kernel_rfl)

theorem over : Rows.fnExactWireOfRow.holds Tryd.pinned (OpenSpec.ofChange Rows.fnExactWireOfSpec) :=
  OpenClaim.holds_of_wide 7 Tryd.f7 rfl rfl rfl rfl rfl rfl rfl ⟨rfl, rfl, rfl, rfl, rfl⟩ rfl rfl rfl rfl rfl (by kernel_rfl) Tryd.func7 closed
    (of_decide_eq_true (by kernel_rfl)) (by unfold Func.isWrapper; first | (rw [if_pos (by decide +kernel)]; kernel_rfl) | (rw [if_neg (by decide +kernel)]; exact ⟨rfl, rfl⟩))
    (fun os started H enc _ => lifted os started H enc)

theorem looksAre : true = Tryd.pinned.checked.prog.looks [] := by kernel_rfl
/-- The given statement. -/
theorem proved : Rows.FnExactWireOfCardSaid :=
  Claim7.holds_tied_plain_at .later [] [.data] true (true, "20c6433e27c0f896a670a7bef695398afc3b6ada422db7afb21c06594ea4eb06") true
    over (fun _ h => by cases h) (by kernel_rfl) (fun _ h => by cases h) fnExactWireOf_row_tie rfl ⟨rfl, rfl⟩ (by kernel_rfl) rfl
    (fun f fn hf hfn => by
      obtain rfl : f = 7 := Option.some.inj ((show Tryd.prog.funcNamed "loop.example/g01176/laws.FnExactWireOf" = some 7 by kernel_rfl).symm.trans hf) |>.symm
      obtain rfl : fn = Tryd.f7 := (Option.some.inj (Tryd.func7.symm.trans hfn)).symm
      exact ⟨looksAre, fun j t ht => by
        rw [Tryd.params7] at ht
        have hm : t ∈ [37] := by simpa using Array.mem_of_getElem? ht
        have hall : ([37].all fun u => !Tryd.prog.wantsStandIn u) = true := by kernel_rfl
        exact (show Tryd.prog.wantsStandIn t = false by simpa using List.all_eq_true.1 hall t hm)⟩)
    (by kernel_rfl)

end Go.Proofs.YtkaemocojgmlnaaDoor.lawWireOf
