/-
  BuffersAt answers as its model at every argument, writes into no argument, and its answer owns its memory. No condition.
-/
import Derived.Test.YtfphkgialmjfnaaBf
import Derived.Test.YtfphkgialmjfnaaFrmM
import Derived.Test.YtfphkgialmjfnaaIntSS
import Derived.Deep.RegionWith
import Derived.Deep.DeepCutAuto
import Derived.Lib.SmallJoins
import Derived.Deep.Slices
import Derived.Deep.Fields
import Derived.ChangeSame
namespace Go.Proofs.Ytfphkgialmjfnaa.lawBuffersAt
open Go.RowKit Go.ChangeShapes Go.WideShapes Go.ChangeAt
set_option maxRecDepth 100000
set_option linter.unusedVariables false

set_option maxHeartbeats 4000000 in
theorem walk (z0 : Ir) (s1 : Value) (d1 : List Ms) (x2 : Int) (w : World) (h1 : RMsS w w.heap.size s1 d1) (hm1 : d1.length ≤ maxLen) (hx2 : (Lit.int .i64 x2).wf = true) :
    Calls Try.prog 5 #[IrV z0, s1, .int .i64 x2] w (RetV w (.bool true)) := by
  obtain ⟨y0n, y0r, y0h⟩ := z0
  simp only [IrV]
  have hr1 := h1
  obtain ⟨a1, c1, rfl, _, _, _⟩ := h1
  have t0 : Below w.heap.size w w := Below.refl _ _
  rcases Nat.lt_or_ge 1048576 d1.length with hn1 | hn1
  · have hn' : (1048576 : Int) < d1.length := by omega
    go_enter Try.func5, Try.ntmps5
    have hb1 : Below w.heap.size w (w.alloc (.cells #[.int .i64 y0n, .int .i64 y0r, .bool y0h] 23)) := (Below.refl _ _).alloc (Nat.le_refl _) _
    have bb__0 := BK.made w 23 #[.int .i64 y0n, .int .i64 y0r, .bool y0h]
    have lb1 := bb__0.1
    have s1_ := hb1.size
    have t1 := t0.trans (hb1.mono (by omega))
    have f1 := hr1.step hb1 (by omega)
    clear hr1
    have j2 := bb__0.cell 0
    have j3 := bb__0.cell 1
    have j4 := bb__0.cell 2
    simp at j2 j3 j4
    go_wp2_with fail
    refine (szMessageS_any _ d1 _ _ (f1.more (by omega)) (by omega) (by omega) hm1).mono ?_; rintro e w2 ⟨rfl, hb2⟩
    rw [if_pos (by omega)]
    go_wp2_with fail
    go_ret
    exact ⟨rfl, t1.trans (hb2.mono (by omega))⟩
  have hq1 : (d1.length : Int) ≤ 1048576 := by omega
  have hlen := bfSays_len ⟨y0n, y0r, y0h⟩ d1 x2
  obtain ⟨X, b, hX⟩ : ∃ X b, (X, b) = bfSays ⟨y0n, y0r, y0h⟩ d1 x2 := ⟨_, _, rfl⟩
  rw [← hX] at hlen
  simp only at hlen
  have HI : Hid (∀ v1 w, RMsS w w.heap.size v1 d1 → Calls Try.prog 22 #[.agg #[.int .i64 y0n, .int .i64 y0r, .bool y0h], v1, .int .i64 x2] w (RetSB w X b)) := by
    show ∀ v1 w, RMsS w w.heap.size v1 d1 → Calls Try.prog 22 #[.agg #[.int .i64 y0n, .int .i64 y0r, .bool y0h], v1, .int .i64 x2] w (RetSB w X b)
    intro v1 w q1
    have h5 := implBuffersAt_any v1 ⟨y0n, y0r, y0h⟩ d1 x2 w q1 hn1 hx2
    rw [← hX] at h5
    exact h5
  have HS : Hid (∀ v1 w, RMsS w w.heap.size v1 d1 → Calls Try.prog 21 #[.agg #[.int .i64 y0n, .int .i64 y0r, .bool y0h], v1, .int .i64 x2] w (RetSB w X b)) := by
    show ∀ v1 w, RMsS w w.heap.size v1 d1 → Calls Try.prog 21 #[.agg #[.int .i64 y0n, .int .i64 y0r, .bool y0h], v1, .int .i64 x2] w (RetSB w X b)
    intro v1 w q1
    have h5 := specBuffersAt_any v1 ⟨y0n, y0r, y0h⟩ d1 x2 w q1 hn1 hx2
    rw [← hX] at h5
    exact h5
  have HA0 : Hid (∀ w, Calls Try.prog 11 #[.agg #[.int .i64 y0n, .int .i64 y0r, .bool y0h]] w (RetV w (.agg #[.int .i64 y0n, .int .i64 y0r, .bool y0h]))) := by
    show ∀ w, Calls Try.prog 11 #[.agg #[.int .i64 y0n, .int .i64 y0r, .bool y0h]] w (RetV w (.agg #[.int .i64 y0n, .int .i64 y0r, .bool y0h]))
    intro w
    exact toInsertRing_any ⟨y0n, y0r, y0h⟩ w
  clear hX
  have hlen' : ((total X : Nat) : Int) ≤ 1048576 := by omega
  go_enter Try.func5, Try.ntmps5
  have hb1 : Below w.heap.size w (w.alloc (.cells #[.int .i64 y0n, .int .i64 y0r, .bool y0h] 23)) := (Below.refl _ _).alloc (Nat.le_refl _) _
  have bb__0 := BK.made w 23 #[.int .i64 y0n, .int .i64 y0r, .bool y0h]
  have lb1 := bb__0.1
  have s1_ := hb1.size
  have t1 := t0.trans (hb1.mono (by omega))
  have f1 := hr1.step hb1 (by omega)
  clear hr1
  have j2 := bb__0.cell 0
  have j3 := bb__0.cell 1
  have j4 := bb__0.cell 2
  simp at j2 j3 j4
  go_wp2_with fail
  refine (szMessageS_any _ d1 _ _ (f1.more (by omega)) (by omega) (by omega) hm1).mono ?_; rintro e w2 ⟨rfl, hb2⟩
  have s2_ := hb2.size
  have t2 := t1.trans (hb2.mono (by omega))
  clear j2 j3 j4
  have f5 := f1.step hb2 (by omega)
  clear f1
  have f6 := bb__0.step hb2
  clear bb__0
  rw [if_neg (by omega)]
  have j7 := f6.cell 0
  have j8 := f6.cell 1
  have j9 := f6.cell 2
  simp at j7 j8 j9
  go_wp2_with fail
  refine (HA0.out _).mono ?_; rintro e w3 ⟨rfl, hb3⟩
  have s3_ := hb3.size
  have t3 := t2.trans (hb3.mono (by omega))
  clear j7 j8 j9
  have f10 := f5.step hb3 (by omega)
  clear f5
  have f11 := f6.step hb3
  clear f6
  have j12 := f11.cell 0
  have j13 := f11.cell 1
  have j14 := f11.cell 2
  simp at j12 j13 j14
  go_wp2_with fail
  refine (toMessageS_any _ _ _ (f10.more (by omega)) hn1).mono ?_; rintro e w4 ⟨u_p1, rfl, o_p1, hb4⟩
  have s4_ := hb4.size
  have t4 := t3.trans (hb4.mono (by omega))
  clear j12 j13 j14
  have f15 := f10.step hb4 (by omega)
  clear f10
  have f16 := f11.step hb4
  clear f11
  have j17 := f16.cell 0
  have j18 := f16.cell 1
  have j19 := f16.cell 2
  simp at j17 j18 j19
  go_wp2_with fail
  refine (HS.out _ _ (o_p1.rk.more (by omega))).mono ?_; rintro e w5 ⟨u_v0, rfl, o_v0, hb5⟩
  have s5_ := hb5.size
  have t5 := t4.trans (hb5.mono (by omega))
  clear j17 j18 j19
  have f20 := f15.step hb5 (by omega)
  clear f15
  have f21 := f16.step hb5
  clear f16
  have f22 := o_p1.step hb5
  clear o_p1
  have j23 := f21.cell 0
  have j24 := f21.cell 1
  have j25 := f21.cell 2
  simp at j23 j24 j25
  go_wp2_with fail
  refine (toMessageS_any _ _ _ (f20.more (by omega)) hn1).mono ?_; rintro e w6 ⟨u_x1_, rfl, o_x1_, hb6⟩
  have s6_ := hb6.size
  have t6 := t5.trans (hb6.mono (by omega))
  clear j23 j24 j25
  have f26 := f20.step hb6 (by omega)
  clear f20
  have f27 := f21.step hb6
  clear f21
  have f28 := o_v0.step hb6
  clear o_v0
  have j29 := f27.cell 0
  have j30 := f27.cell 1
  have j31 := f27.cell 2
  simp at j29 j30 j31
  go_wp2_with fail
  refine (HA0.out _).mono ?_; rintro e w7 ⟨rfl, hb7⟩
  have s7_ := hb7.size
  have t7 := t6.trans (hb7.mono (by omega))
  clear j29 j30 j31
  have f32 := f26.step hb7 (by omega)
  clear f26
  have f33 := f27.step hb7
  clear f27
  have f34 := f28.step hb7
  clear f28
  have f35 := o_x1_.step hb7
  clear o_x1_
  have j36 := f33.cell 0
  have j37 := f33.cell 1
  have j38 := f33.cell 2
  simp at j36 j37 j38
  go_wp2_with fail
  refine (HI.out _ _ (f35.rk.more (by omega))).mono ?_; rintro e w8 ⟨u_g0, rfl, o_g0, hb8⟩
  have s8_ := hb8.size
  have t8 := t7.trans (hb8.mono (by omega))
  clear j36 j37 j38
  have f39 := f32.step hb8 (by omega)
  clear f32
  have f40 := f33.step hb8
  clear f33
  have f41 := f34.step hb8
  clear f34
  have f42 := f35.step hb8
  clear f35
  have j43 := f40.cell 0
  have j44 := f40.cell 1
  have j45 := f40.cell 2
  simp at j43 j44 j45
  go_wp2_with fail
  refine (eqIntSS_same _ _ _ _ (o_g0.rd.more (by omega)) (f41.rd.more (by omega)) hlen.1 hlen.2).mono ?_; rintro e w9 ⟨rfl, hb9⟩
  have s9_ := hb9.size
  have t9 := t8.trans (hb9.mono (by omega))
  clear j43 j44 j45
  have f46 := f39.step hb9 (by omega)
  clear f39
  have f47 := f40.step hb9
  clear f40
  have f48 := f41.step hb9
  clear f41
  have f49 := f42.step hb9
  clear f42
  have f50 := o_g0.step hb9
  clear o_g0
  have j51 := f47.cell 0
  have j52 := f47.cell 1
  have j53 := f47.cell 2
  simp at j51 j52 j53
  go_wp2_with fail
  refine (toMessageS_any _ _ _ (f46.more (by omega)) hn1).mono ?_; rintro e w10 ⟨u_y, rfl, o_y, hb10⟩
  have s10_ := hb10.size
  have t10 := t9.trans (hb10.mono (by omega))
  clear j51 j52 j53
  have f54 := f46.step hb10 (by omega)
  clear f46
  have f55 := f47.step hb10
  clear f47
  have f56 := f48.step hb10
  clear f48
  have f57 := f49.step hb10
  clear f49
  have f58 := f50.step hb10
  clear f50
  have j59 := f55.cell 0
  have j60 := f55.cell 1
  have j61 := f55.cell 2
  simp at j59 j60 j61
  go_wp2_with fail
  refine (eqMessageS_same _ _ _ _ (f57.rk.more (by omega)) (o_y.rk.more (by omega)) hn1).mono ?_; rintro e w11 ⟨rfl, hb11⟩
  have s11_ := hb11.size
  have t11 := t10.trans (hb11.mono (by omega))
  clear j59 j60 j61
  have f62 := f54.step hb11 (by omega)
  clear f54
  have f63 := f55.step hb11
  clear f55
  have f64 := f56.step hb11
  clear f56
  have f65 := f57.step hb11
  clear f57
  have f66 := f58.step hb11
  clear f58
  have f67 := o_y.step hb11
  clear o_y
  have j68 := f63.cell 0
  have j69 := f63.cell 1
  have j70 := f63.cell 2
  simp at j68 j69 j70
  go_wp2_with fail
  refine (markMessageS_any _ _ _ _ _ _ f65 hn1 (by omega) (by omega)).mono ?_; rintro e w12 ⟨rfl, mx1, hg12⟩
  have s12_ := hg12.size
  have t12 := t11.trans (hg12.below (by omega) (by omega))
  clear j68 j69 j70
  have f71 := f62.far hg12 (by omega) (by omega)
  clear f62
  have f72 := f63.far hg12 (by omega)
  clear f63
  have f73 := f64.far hg12 (by omega)
  clear f64
  have f74 := f66.far hg12 (by omega)
  clear f66
  have j75 := f72.cell 0
  have j76 := f72.cell 1
  have j77 := f72.cell 2
  simp at j75 j76 j77
  go_wp2_with fail
  refine (eqIntSS_same _ _ _ _ (f74.rd.more (by omega)) (f73.rd.more (by omega)) hlen.1 hlen.2).mono ?_; rintro e w13 ⟨rfl, hb13⟩
  have s13_ := hb13.size
  have t13 := t12.trans (hb13.mono (by omega))
  clear j75 j76 j77
  have f78 := f71.step hb13 (by omega)
  clear f71
  have f79 := f72.step hb13
  clear f72
  have f80 := f73.step hb13
  clear f73
  have f81 := f74.step hb13
  clear f74
  have j82 := f79.cell 0
  have j83 := f79.cell 1
  have j84 := f79.cell 2
  simp at j82 j83 j84
  go_wp2_with fail
  refine (markIntSS_any (by decide) _ _ _ _ _ _ f81 hlen.1 hlen.2 (by omega) (by omega)).mono ?_; rintro e w14 ⟨rfl, mg, hg14⟩
  have s14_ := hg14.size
  have t14 := t13.trans (hg14.below (by omega) (by omega))
  clear j82 j83 j84
  have f85 := f78.far hg14 (by omega) (by omega)
  clear f78
  have f86 := f79.far hg14 (by omega)
  clear f79
  have f87 := f80.far hg14 (by omega)
  clear f80
  have j88 := f86.cell 0
  have j89 := f86.cell 1
  have j90 := f86.cell 2
  simp at j88 j89 j90
  go_wp2_with fail
  refine (heldIntSS_any _ _ _ _ (mg.rd.more (by omega)) hlen.1 hlen.2 (by omega) (by omega)).mono ?_; rintro e w15 ⟨rfl, hb15⟩
  have s15_ := hb15.size
  have t15 := t14.trans (hb15.mono (by omega))
  clear j88 j89 j90
  have f91 := f85.step hb15 (by omega)
  clear f85
  have f92 := f86.step hb15
  clear f86
  have f93 := f87.step hb15
  clear f87
  have f94 := mg.step hb15
  clear mg
  have j95 := f92.cell 0
  have j96 := f92.cell 1
  have j97 := f92.cell 2
  simp at j95 j96 j97
  go_wp2_with fail
  refine (HA0.out _).mono ?_; rintro e w16 ⟨rfl, hb16⟩
  have s16_ := hb16.size
  have t16 := t15.trans (hb16.mono (by omega))
  clear j95 j96 j97
  have f98 := f91.step hb16 (by omega)
  clear f91
  have f99 := f92.step hb16
  clear f92
  have f100 := f93.step hb16
  clear f93
  have f101 := f94.step hb16
  clear f94
  have j102 := f99.cell 0
  have j103 := f99.cell 1
  have j104 := f99.cell 2
  simp at j102 j103 j104
  go_wp2_with fail
  refine (toMessageS_any _ _ _ (f98.more (by omega)) hn1).mono ?_; rintro e w17 ⟨u_e1, rfl, o_e1, hb17⟩
  have s17_ := hb17.size
  have t17 := t16.trans (hb17.mono (by omega))
  clear j102 j103 j104
  have f105 := f98.step hb17 (by omega)
  clear f98
  have f106 := f99.step hb17
  clear f99
  have f107 := f100.step hb17
  clear f100
  have f108 := f101.step hb17
  clear f101
  have j109 := f106.cell 0
  have j110 := f106.cell 1
  have j111 := f106.cell 2
  simp at j109 j110 j111
  go_wp2_with fail
  refine (HI.out _ _ (o_e1.rk.more (by omega))).mono ?_; rintro e w18 ⟨u_h0, rfl, o_h0, hb18⟩
  have s18_ := hb18.size
  have t18 := t17.trans (hb18.mono (by omega))
  clear j109 j110 j111
  have f112 := f105.step hb18 (by omega)
  clear f105
  have f113 := f106.step hb18
  clear f106
  have f114 := f107.step hb18
  clear f107
  have f115 := f108.step hb18
  clear f108
  have f116 := o_e1.step hb18
  clear o_e1
  have j117 := f113.cell 0
  have j118 := f113.cell 1
  have j119 := f113.cell 2
  simp at j117 j118 j119
  go_wp2_with fail
  refine (eqIntSS_same _ _ _ _ (o_h0.rd.more (by omega)) (f114.rd.more (by omega)) hlen.1 hlen.2).mono ?_; rintro e w19 ⟨rfl, hb19⟩
  have s19_ := hb19.size
  have t19 := t18.trans (hb19.mono (by omega))
  clear j117 j118 j119
  have f120 := f112.step hb19 (by omega)
  clear f112
  have f121 := f113.step hb19
  clear f113
  have f122 := f114.step hb19
  clear f114
  have f123 := f115.step hb19
  clear f115
  have f124 := o_h0.step hb19
  clear o_h0
  have j125 := f121.cell 0
  have j126 := f121.cell 1
  have j127 := f121.cell 2
  simp at j125 j126 j127
  go_wp2_with fail
  refine (heldIntSS_any _ _ _ _ (f123.rd.more (by omega)) hlen.1 hlen.2 (by omega) (by omega)).mono ?_; rintro e w20 ⟨rfl, hb20⟩
  have s20_ := hb20.size
  have t20 := t19.trans (hb20.mono (by omega))
  clear j125 j126 j127
  have f128 := f120.step hb20 (by omega)
  clear f120
  have f129 := f121.step hb20
  clear f121
  have f130 := f122.step hb20
  clear f122
  have f131 := f123.step hb20
  clear f123
  have f132 := f124.step hb20
  clear f124
  have j133 := f129.cell 0
  have j134 := f129.cell 1
  have j135 := f129.cell 2
  simp at j133 j134 j135
  go_wp2_with fail
  go_ret
  exact ⟨rfl, t20⟩

set_option maxRecDepth 100000 in
theorem lifted (os : Os) (started : os.Started) (H : Type) (enc : TypeId × Value → H) :
    ReturnsInHanded {} Try.checked os 5 .any (Rows.fnExactBuffersAtSpec.pre6 enc Try.prog Try.f5 Rows.fnExactBuffersAtRow.domain false) (Rows.fnExactBuffersAtSpec.post enc Try.prog Try.f5 false true false false) := by
  refine returnsInHanded_of_change (C := Try.checked) own started (by kernel_rfl) Try.func5
    (ChangeSpec.witness6 (enc := enc) (C := Try.checked) false ⟨#[], #[.agg #[.int .i64 0, .int .i64 0, .bool false], .slice none 0 0, .int .i64 0], []⟩ 8 (by kernel_rfl) (by kernel_rfl) (by kernel_rfl) (by kernel_rfl)) ?_
  intro W base args ds gs before hval0 hW hcnd _
  have hval : ∀ (j : Nat) t v, Try.f5.params[j]? = some t → args[j]? = some v → Value.okWide Try.prog W .any base t v := hval0
  have hW' := hW
  obtain ⟨p, q, hA0, hV, rfl, hfz, hnd⟩ := hW
  have hA : DataW.TrodAll enc Try.prog W 0 (fun _ => true) true Try.f5.params.toList args.toList ds p := hA0
  rw [Try.params5] at hA hval
  obtain ⟨v0, vs0, d0, ds0, p0, q0, hargs, rfl, rfl, h0, r0⟩ := trodAll_cons hA
  obtain ⟨v1, vs1, d1, ds1, p1, q1, rfl, rfl, rfl, h1, r1⟩ := trodAll_cons r0
  obtain ⟨v2, vs2, d2, ds2, p2, q2, rfl, rfl, rfl, h2, r2⟩ := trodAll_cons r1
  obtain ⟨rfl, rfl, rfl⟩ := trodAll_nil r2
  obtain rfl : args = #[v0, v1, v2] := by cases args; simp_all
  obtain ⟨rfl, rfl⟩ := trodVars_none hV
  have k0 := h0
  have lt0 : ∀ x ∈ p0, x.block < W.heap.size := by obtain ⟨m, hm⟩ := k0; exact DataW.trod_lt m _ _ _ hm
  obtain ⟨e0_0, e0_1, e0_2, y0_0, y0_1, y0_2, m0, rfl, hd0, hp0, g0_0, g0_1, g0_2⟩ := Go.Joins.open_agg3 Try.underlying23 (by kernel_rfl) (by kernel_rfl) (hval 0 23 v0 rfl rfl) h0
  obtain ⟨x0_0, hx0_0, _, w0_0⟩ := DataW.trod_int Try.underlying3 g0_0
  obtain rfl : e0_0 = .int .i64 x0_0 := by simpa using hx0_0
  obtain ⟨x0_1, hx0_1, _, w0_1⟩ := DataW.trod_int Try.underlying3 g0_1
  obtain rfl : e0_1 = .int .i64 x0_1 := by simpa using hx0_1
  obtain ⟨x0_2, hx0_2, _⟩ := DataW.trod_bool Try.underlying4 g0_2
  obtain rfl : e0_2 = .bool x0_2 := by simpa using hx0_2
  have k1 := h1
  have lt1 : ∀ x ∈ p1, x.block < W.heap.size := by obtain ⟨m, hm⟩ := k1; exact DataW.trod_lt m _ _ _ hm
  obtain ⟨aa1, la1, ca1, rfl⟩ := okWide_slice Try.underlying24 (hval 1 24 v1 rfl rfl)
  obtain ⟨fu1, hfu1⟩ := h1
  obtain ⟨l1, n1, w1, _⟩ := open_MessageS hfu1
  obtain ⟨a2, rfl, rfl, rfl, w2⟩ := open_int Try.underlying3 (hval 2 3 v2 rfl rfl) h2
  clear hA0 hval0
  refine (walk ⟨x0_0, x0_1, x0_2⟩ _ l1 a2 W n1 w1 w2).mono fun e W' ⟨he, bel⟩ => ?_
  subst he
  exact ⟨_, rfl, _, _, _, [], _, [], hW', trodAll_mk1 (shut_bool Try.underlying4 _), (trodAll_cons_mk (Below.trod laidOut (by kernel_rfl) (of_decide_eq_true (by kernel_rfl)) k0 bel lt0) (trodAll_cons_mk (Below.trod laidOut (by kernel_rfl) (of_decide_eq_true (by kernel_rfl)) k1 bel lt1) (trodAll_cons_mk (shut_int Try.underlying3 w2) trodAll_mk0))), rfl, bel.frame _, fun h => by cases h⟩

theorem closed : joinedFacts Try.pinned.checked.prog 5 Try.f5 Rows.fnExactBuffersAtSpec Rows.fnExactBuffersAtRow = true := by
  unfold joinedFacts
  repeat' (with_reducible refine and_t ?_ ?_)
  all_goals first
    | (with_reducible exact init_mayEnter)
    | (with_reducible refine init_lifted ?_; as_aux_lemma => kernel_rfl)
    | (with_reducible refine init_mk ?_; as_aux_lemma => kernel_rfl)
    | (as_aux_lemma => kernel_rfl)

theorem over : Rows.fnExactBuffersAtRow.holds Try.pinned (OpenSpec.ofChange Rows.fnExactBuffersAtSpec) :=
  OpenClaim.holds_of_wide 5 Try.f5 rfl rfl rfl rfl rfl rfl rfl ⟨rfl, rfl, rfl, rfl, rfl⟩ rfl rfl rfl rfl rfl (by kernel_rfl) Try.func5 closed
    (of_decide_eq_true (by kernel_rfl)) (by unfold Func.isWrapper; first | (rw [if_pos (by decide +kernel)]; kernel_rfl) | (rw [if_neg (by decide +kernel)]; exact ⟨rfl, rfl⟩))
    (fun os started H enc _ => lifted os started H enc)

/-- The given statement. -/
theorem proved : Rows.FnExactBuffersAtSaid := over

end Go.Proofs.Ytfphkgialmjfnaa.lawBuffersAt
