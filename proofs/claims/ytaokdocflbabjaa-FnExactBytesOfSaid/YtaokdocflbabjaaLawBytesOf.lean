/-
  BytesOf answers as its model at every argument, writes into no argument, and its answer owns its memory. No condition.
-/
import Derived.Test.YtaokdocflbabjaaBytesOf
import Derived.Test.YtaokdocflbabjaaFrm2
import Derived.Test.YtaokdocflbabjaaFrame
import Derived.Deep.RegionWith
import Derived.Deep.DeepCutAuto
import Derived.Lib.SmallJoins
namespace Go.Proofs.Ytaokdocflbabjaa.lawBytesOf
open Go.RowKit Go.ChangeShapes Go.WideShapes Go.ChangeAt
set_option maxRecDepth 100000
set_option linter.unusedVariables false

set_option maxHeartbeats 4000000 in
theorem walk (x : Fr) (s : Value) (w : World) (h : RI w w.heap.size s x.d) (hm : x.d.length ≤ maxLen) :
    Calls Try.prog 5 #[frV x s] w (RetV w (.bool true)) := by
  obtain ⟨f, t, p, d⟩ := x
  simp only [frV] at h hm ⊢
  have h0 := h
  obtain ⟨A, c, rfl, hlc, hc⟩ := h
  clear hc
  have hB1 := BK.made w 31 #[.int .i64 f, .int .i64 t, .int .i64 p, .slice A d.length c]
  have hb0 : Below w.heap.size w (w.alloc (.cells #[.int .i64 f, .int .i64 t, .int .i64 p, .slice A d.length c] 31)) := (Below.refl _ _).alloc (Nat.le_refl _) _
  have hf1 : RF _ _ (frV ⟨f, t, p, d⟩ (.slice A d.length c)) ⟨f, t, p, d⟩ := ⟨_, rfl, (h0.below hb0).more hb0.size⟩
  by_cases hn : 1048576 < (d.length : Int)
  · go_enter Try.func5, Try.ntmps5
    go_wp2_with fail
    refine (szFrame_any _ ⟨f, t, p, d⟩ _ _ hf1 (by omega) (by omega) hm).mono ?_; rintro e w1 ⟨rfl, hb1⟩
    rw [szLeft_neg (show (1048576 : Int) < (d.length : Int) by omega)]
    go_wp2_with fail
    go_ret
    exact ⟨rfl, hb0.trans (hb1.mono hb0.size)⟩
  have hn2 : d.length ≤ 1048576 := by omega
  have hn3 : 0 ≤ 1048576 - (d.length : Int) := by omega
  have hn4 : (d.length : Int) ≤ 1048576 := by omega
  have hlen := bytesOf_len ⟨f, t, p, d⟩
  have hlen' : (((bytesOf ⟨f, t, p, d⟩).1.length : Nat) : Int) ≤ 1048576 := by omega
  go_enter Try.func5, Try.ntmps5
  go_wp2_with fail
  refine (szFrame_any _ ⟨f, t, p, d⟩ _ _ hf1 (by omega) (by omega) hm).mono ?_; rintro e w1 ⟨rfl, hb1⟩
  rw [szLeft_pos (show ¬ (1048576 : Int) < (d.length : Int) by omega)]
  have s1 := hb1.size
  have t1 := hb0.trans (hb1.mono hb0.size)
  have b1 := hB1.step hb1
  have r1 := h0.step t1 (Nat.le_refl _)
  have l1 := b1.1
  clear hb1 hb0 hB1 hf1
  have q1 := b1.cell 0
  have q2 := b1.cell 1
  have q3 := b1.cell 2
  have q4 := b1.cell 3
  simp at q1 q2 q3 q4
  go_wp2_with fail
  refine (toFrame_any _ ⟨f, t, p, d⟩ _ ⟨_, rfl, (r1.more (by omega))⟩ hn2).mono ?_; rintro e w2 ⟨u_p, rfl, o_p, hb2⟩
  have s2 := hb2.size
  have t2 := t1.trans (hb2.mono (by omega))
  clear q1 q2 q3 q4
  have f5 := r1.step hb2 (by omega)
  clear r1
  have f6 := b1.step hb2
  clear b1
  obtain ⟨s_p, rfl, o_p⟩ := o_p
  obtain ⟨A_p, c_p, rfl, _, _⟩ := o_p.ri
  simp only [frV]
  have q7 := f6.cell 0
  have q8 := f6.cell 1
  have q9 := f6.cell 2
  have q10 := f6.cell 3
  simp at q7 q8 q9 q10
  go_wp2_with fail
  refine (specBytesOf_any _ ⟨f, t, p, d⟩ _ ⟨_, rfl, (o_p.ri.more (by omega))⟩ hn2).mono ?_; rintro e w3 ⟨v0, rfl, ov0, hb3⟩
  have s3 := hb3.size
  have t3 := t2.trans (hb3.mono (by omega))
  clear q7 q8 q9 q10
  have f11 := f5.step hb3 (by omega)
  clear f5
  have f12 := f6.step hb3
  clear f6
  have f13 := o_p.step hb3
  clear o_p
  have q14 := f12.cell 0
  have q15 := f12.cell 1
  have q16 := f12.cell 2
  have q17 := f12.cell 3
  simp at q14 q15 q16 q17
  go_wp2_with fail
  refine (toFrame_any _ ⟨f, t, p, d⟩ _ ⟨_, rfl, (f11.more (by omega))⟩ hn2).mono ?_; rintro e w4 ⟨u_x, rfl, o_x, hb4⟩
  have s4 := hb4.size
  have t4 := t3.trans (hb4.mono (by omega))
  clear q14 q15 q16 q17
  have f18 := f11.step hb4 (by omega)
  clear f11
  have f19 := f12.step hb4
  clear f12
  have f20 := ov0.step hb4
  clear ov0
  obtain ⟨s_x, rfl, o_x⟩ := o_x
  obtain ⟨A_x, c_x, rfl, _, _⟩ := o_x.ri
  simp only [frV]
  have hb5 : Below w4.heap.size w4 (w4.alloc (.cells #[.int .i64 f, .int .i64 t, .int .i64 p, .slice A_x d.length c_x] 34)) := (Below.refl _ _).alloc (Nat.le_refl _) _
  have bb_x := BK.made w4 34 #[.int .i64 f, .int .i64 t, .int .i64 p, .slice A_x d.length c_x]
  have s5 := hb5.size
  have t5 := t4.trans (hb5.mono (by omega))
  have lb5 := bb_x.1
  have f21 := f18.step hb5 (by omega)
  clear f18
  have f22 := f19.step hb5
  clear f19
  have f23 := f20.step hb5
  clear f20
  have f24 := o_x.step hb5
  clear o_x
  have q25 := f22.cell 0
  have q26 := f22.cell 1
  have q27 := f22.cell 2
  have q28 := f22.cell 3
  have q29 := bb_x.cell 0
  have q30 := bb_x.cell 1
  have q31 := bb_x.cell 2
  have q32 := bb_x.cell 3
  simp at q25 q26 q27 q28 q29 q30 q31 q32
  go_wp2_with fail
  refine (implBytesOf_any _ ⟨f, t, p, d⟩ _ ⟨_, rfl, (f24.ri.more (by omega))⟩ hn2).mono ?_; rintro e w6 ⟨g0, rfl, og0, hb6⟩
  have s6 := hb6.size
  have t6 := t5.trans (hb6.mono (by omega))
  clear q25 q26 q27 q28 q29 q30 q31 q32
  have f33 := f21.step hb6 (by omega)
  clear f21
  have f34 := f22.step hb6
  clear f22
  have f35 := f23.step hb6
  clear f23
  have f36 := f24.step hb6
  clear f24
  have f37 := bb_x.step hb6
  clear bb_x
  have q38 := f34.cell 0
  have q39 := f34.cell 1
  have q40 := f34.cell 2
  have q41 := f34.cell 3
  have q42 := f37.cell 0
  have q43 := f37.cell 1
  have q44 := f37.cell 2
  have q45 := f37.cell 3
  simp at q38 q39 q40 q41 q42 q43 q44 q45
  go_wp2_with fail
  refine (eqIntS_same _ _ _ _ (og0.ri.more (by omega)) (f35.ri.more (by omega)) hlen).mono ?_; rintro e w7 ⟨rfl, hb7⟩
  have s7 := hb7.size
  have t7 := t6.trans (hb7.mono (by omega))
  clear q38 q39 q40 q41 q42 q43 q44 q45
  have f46 := f33.step hb7 (by omega)
  clear f33
  have f47 := f34.step hb7
  clear f34
  have f48 := f35.step hb7
  clear f35
  have f49 := f36.step hb7
  clear f36
  have f50 := f37.step hb7
  clear f37
  have f51 := og0.step hb7
  clear og0
  have q52 := f47.cell 0
  have q53 := f47.cell 1
  have q54 := f47.cell 2
  have q55 := f47.cell 3
  have q56 := f50.cell 0
  have q57 := f50.cell 1
  have q58 := f50.cell 2
  have q59 := f50.cell 3
  simp at q52 q53 q54 q55 q56 q57 q58 q59
  go_upto_region 10 with fail
  go_cut [45] (fun s9 wx => s9 = .bool false ∧ Below w7.heap.size w7 wx)
  case first =>
    have R6 := RI.drewN f46 1
    have Q6 := RI.drewN f49.ri 1
    have X6 : BK (w7.drewN 1) _ _ _ := f50
    have T6 := below_drewN (Below.refl w7.heap.size w7) 1
    have y6 := T6.size
    go_region_with (first
      | (go_at_call 33; refine (toFrame_any _ ⟨f, t, p, d⟩ _ ⟨_, rfl, R6.more (by omega)⟩ hn2).mono ?_; rintro e w7 ⟨u7, rfl, ho7, hb7⟩; have t7 := T6.trans (hb7.mono (by omega)); have q7 := Q6.step hb7 (by omega); have x7 := X6.step hb7; have s7 := hb7.size; have d70 := x7.cell 0; have d71 := x7.cell 1; have d72 := x7.cell 2; have d73 := x7.cell 3; simp at d70 d71 d72 d73)
      | (go_at_call 35; refine (eqFrame_same _ _ ⟨f, t, p, d⟩ _ ⟨_, rfl, q7.more (by omega)⟩ ho7.rf hn2).mono ?_; rintro e w8 ⟨rfl, hb8⟩))
    all_goals
      go_wp2_with fail
      go_meet
      exact ⟨rfl, t7.trans (hb8.mono (by have := t7.size; omega))⟩
  case rest =>
    obtain ⟨rfl, hb8⟩ := hcut
    have s8 := hb8.size
    have t8 := t7.trans (hb8.mono (by omega))
    clear q52 q53 q54 q55 q56 q57 q58 q59
    have f60 := f46.step hb8 (by omega)
    clear f46
    have f61 := f47.step hb8
    clear f47
    have f62 := f48.step hb8
    clear f48
    have f63 := f49.step hb8
    clear f49
    have f64 := f50.step hb8
    clear f50
    have f65 := f51.step hb8
    clear f51
    have q66 := f61.cell 0
    have q67 := f61.cell 1
    have q68 := f61.cell 2
    have q69 := f61.cell 3
    have q70 := f64.cell 0
    have q71 := f64.cell 1
    have q72 := f64.cell 2
    have q73 := f64.cell 3
    simp at q66 q67 q68 q69 q70 q71 q72 q73
    go_wp2_with fail
    refine (markFrame_any _ _ _ ⟨f, t, p, d⟩ _ _ ⟨_, rfl, f63⟩ hn2 (by omega) (by omega)).mono ?_; rintro e w9 ⟨rfl, mx, hg9⟩
    have s9 := hg9.size
    have t9 := t8.trans (hg9.below (by omega) (by omega))
    clear q66 q67 q68 q69 q70 q71 q72 q73
    have f74 := f60.far hg9 (by omega) (by omega)
    clear f60
    have f75 := f61.far hg9 (by omega)
    clear f61
    have f76 := f62.far hg9 (by omega)
    clear f62
    have f77 := f64.far hg9 (by omega)
    clear f64
    have f78 := f65.far hg9 (by omega)
    clear f65
    have q79 := f75.cell 0
    have q80 := f75.cell 1
    have q81 := f75.cell 2
    have q82 := f75.cell 3
    simp at q79 q80 q81 q82
    go_wp2_with fail
    refine (eqIntS_same _ _ _ _ (f78.ri.more (by omega)) (f76.ri.more (by omega)) hlen).mono ?_; rintro e w10 ⟨rfl, hb10⟩
    have s10 := hb10.size
    have t10 := t9.trans (hb10.mono (by omega))
    clear q79 q80 q81 q82
    have f83 := f74.step hb10 (by omega)
    clear f74
    have f84 := f75.step hb10
    clear f75
    have f85 := f76.step hb10
    clear f76
    have f86 := f78.step hb10
    clear f78
    have q87 := f84.cell 0
    have q88 := f84.cell 1
    have q89 := f84.cell 2
    have q90 := f84.cell 3
    simp at q87 q88 q89 q90
    go_wp2_with fail
    refine (markIntS_any _ _ _ _ _ _ f86 hlen (by omega) (by omega)).mono ?_; rintro e w11 ⟨rfl, mg0, hg11⟩
    have s11 := hg11.size
    have t11 := t10.trans (hg11.below (by omega) (by omega))
    clear q87 q88 q89 q90
    have f91 := f83.far hg11 (by omega) (by omega)
    clear f83
    have f92 := f84.far hg11 (by omega)
    clear f84
    have f93 := f85.far hg11 (by omega)
    clear f85
    have q94 := f92.cell 0
    have q95 := f92.cell 1
    have q96 := f92.cell 2
    have q97 := f92.cell 3
    simp at q94 q95 q96 q97
    go_wp2_with fail
    refine (heldIntS_any _ _ _ _ (mg0.ri.more (by omega)) hlen (by omega) (by omega)).mono ?_; rintro e w12 ⟨rfl, hb12⟩
    have s12 := hb12.size
    have t12 := t11.trans (hb12.mono (by omega))
    clear q94 q95 q96 q97
    have f98 := f91.step hb12 (by omega)
    clear f91
    have f99 := f92.step hb12
    clear f92
    have f100 := f93.step hb12
    clear f93
    have f101 := mg0.step hb12
    clear mg0
    have q102 := f99.cell 0
    have q103 := f99.cell 1
    have q104 := f99.cell 2
    have q105 := f99.cell 3
    simp at q102 q103 q104 q105
    go_wp2_with fail
    refine (toFrame_any _ ⟨f, t, p, d⟩ _ ⟨_, rfl, (f98.more (by omega))⟩ hn2).mono ?_; rintro e w13 ⟨u_p, rfl, o_p, hb13⟩
    have s13 := hb13.size
    have t13 := t12.trans (hb13.mono (by omega))
    clear q102 q103 q104 q105
    have f106 := f98.step hb13 (by omega)
    clear f98
    have f107 := f99.step hb13
    clear f99
    have f108 := f100.step hb13
    clear f100
    have f109 := f101.step hb13
    clear f101
    obtain ⟨s_p, rfl, o_p⟩ := o_p
    obtain ⟨A_p, c_p, rfl, _, _⟩ := o_p.ri
    simp only [frV]
    have q110 := f107.cell 0
    have q111 := f107.cell 1
    have q112 := f107.cell 2
    have q113 := f107.cell 3
    simp at q110 q111 q112 q113
    go_wp2_with fail
    refine (implBytesOf_any _ ⟨f, t, p, d⟩ _ ⟨_, rfl, (o_p.ri.more (by omega))⟩ hn2).mono ?_; rintro e w14 ⟨h0, rfl, oh0, hb14⟩
    have s14 := hb14.size
    have t14 := t13.trans (hb14.mono (by omega))
    clear q110 q111 q112 q113
    have f114 := f106.step hb14 (by omega)
    clear f106
    have f115 := f107.step hb14
    clear f107
    have f116 := f108.step hb14
    clear f108
    have f117 := f109.step hb14
    clear f109
    have f118 := o_p.step hb14
    clear o_p
    have q119 := f115.cell 0
    have q120 := f115.cell 1
    have q121 := f115.cell 2
    have q122 := f115.cell 3
    simp at q119 q120 q121 q122
    go_wp2_with fail
    refine (eqIntS_same _ _ _ _ (oh0.ri.more (by omega)) (f116.ri.more (by omega)) hlen).mono ?_; rintro e w15 ⟨rfl, hb15⟩
    have s15 := hb15.size
    have t15 := t14.trans (hb15.mono (by omega))
    clear q119 q120 q121 q122
    have f123 := f114.step hb15 (by omega)
    clear f114
    have f124 := f115.step hb15
    clear f115
    have f125 := f116.step hb15
    clear f116
    have f126 := f117.step hb15
    clear f117
    have f127 := oh0.step hb15
    clear oh0
    have q128 := f124.cell 0
    have q129 := f124.cell 1
    have q130 := f124.cell 2
    have q131 := f124.cell 3
    simp at q128 q129 q130 q131
    go_wp2_with fail
    refine (heldIntS_any _ _ _ _ (f126.ri.more (by omega)) hlen (by omega) (by omega)).mono ?_; rintro e w16 ⟨rfl, hb16⟩
    have s16 := hb16.size
    have t16 := t15.trans (hb16.mono (by omega))
    clear q128 q129 q130 q131
    have f132 := f123.step hb16 (by omega)
    clear f123
    have f133 := f124.step hb16
    clear f124
    have f134 := f125.step hb16
    clear f125
    have f135 := f126.step hb16
    clear f126
    have q136 := f133.cell 0
    have q137 := f133.cell 1
    have q138 := f133.cell 2
    have q139 := f133.cell 3
    simp at q136 q137 q138 q139
    go_wp2_with fail
    go_ret
    exact ⟨rfl, t16⟩

set_option maxRecDepth 100000 in
theorem lifted (os : Os) (started : os.Started) (H : Type) (enc : TypeId × Value → H) :
    ReturnsInHanded {} Try.checked os 5 .any (Rows.fnExactBytesOfSpec.pre6 enc Try.prog Try.f5 Rows.fnExactBytesOfRow.domain false) (Rows.fnExactBytesOfSpec.post enc Try.prog Try.f5 false true false false) := by
  refine returnsInHanded_of_change (C := Try.checked) own started (by kernel_rfl) Try.func5
    (ChangeSpec.witness6 (enc := enc) (C := Try.checked) false ⟨#[], #[.agg #[.int .i64 0, .int .i64 0, .int .i64 0, .slice none 0 0]], []⟩ 8 (by kernel_rfl) (by kernel_rfl) (by kernel_rfl) (by kernel_rfl)) ?_
  intro W base args ds gs before hval0 hW hcnd _
  have hval : ∀ (j : Nat) t v, Try.f5.params[j]? = some t → args[j]? = some v → Value.okWide Try.prog W .any base t v := hval0
  have hW' := hW
  obtain ⟨p, q, hA0, hV, rfl, hfz, hnd⟩ := hW
  have hA : DataW.TrodAll enc Try.prog W 0 (fun _ => true) true Try.f5.params.toList args.toList ds p := hA0
  rw [Try.params5] at hA hval
  obtain ⟨v0, vs0, d0, ds0, p0, q0, hargs, rfl, rfl, h0, r0⟩ := trodAll_cons hA
  obtain ⟨rfl, rfl, rfl⟩ := trodAll_nil r0
  obtain rfl : args = #[v0] := by cases args; simp_all
  obtain ⟨rfl, rfl⟩ := trodVars_none hV
  have k0 := h0
  have lt0 : ∀ x ∈ p0, x.block < W.heap.size := by obtain ⟨m, hm⟩ := k0; exact DataW.trod_lt m _ _ _ hm
  obtain ⟨e0_0, e0_1, e0_2, e0_3, y0_0, y0_1, y0_2, y0_3, m0, rfl, hd0, hp0, g0_0, g0_1, g0_2, g0_3⟩ := Go.Joins.open_agg4 Try.underlying31 (by kernel_rfl) (by kernel_rfl) (hval 0 31 v0 rfl rfl) h0
  obtain ⟨x0_0, hx0_0, _, w0_0⟩ := DataW.trod_int Try.underlying3 g0_0
  obtain rfl : e0_0 = .int .i64 x0_0 := by simpa using hx0_0
  obtain ⟨x0_1, hx0_1, _, w0_1⟩ := DataW.trod_int Try.underlying3 g0_1
  obtain rfl : e0_1 = .int .i64 x0_1 := by simpa using hx0_1
  obtain ⟨x0_2, hx0_2, _, w0_2⟩ := DataW.trod_int Try.underlying3 g0_2
  obtain rfl : e0_2 = .int .i64 x0_2 := by simpa using hx0_2
  obtain ⟨l0_3, w0_3⟩ : ∃ l, RI W W.heap.size e0_3 l ∧ (∀ x ∈ l, (Lit.int .i64 x).wf = true) ∧ l.length ≤ maxLen := by
    rcases open_ints Try.underlying24 Try.underlying3 (by kernel_rfl) g0_3 with ⟨hcs, _⟩ | ⟨x, l, c, zs, hcs, _, hl, hm, hz, _, hcell, hwz⟩
    · obtain rfl : e0_3 = .slice none 0 0 := by simpa using hcs
      exact ⟨[], ⟨none, 0, rfl, ⟨by simp, by simp, fun _ => rfl⟩, fun h => absurd h (by simp)⟩, by simp, by simp⟩
    · obtain rfl : e0_3 = .slice (some x) l c := by simpa using hcs
      have hz' : zs.length = c := by simpa using hz
      exact ⟨zs.take l, ri_of_cells (by omega) hz' hm hcell, fun y hy => hwz y (List.mem_of_mem_take hy), by simp; omega⟩
  clear hA0 hval0
  refine (walk ⟨x0_0, x0_1, x0_2, l0_3⟩ e0_3 W w0_3.1 w0_3.2.2).mono fun e W' ⟨he, bel⟩ => ?_
  subst he
  exact ⟨_, rfl, _, _, _, [], _, [], hW', trodAll_mk1 (shut_bool Try.underlying4 _), (trodAll_cons_mk (Below.trod laidOut (by kernel_rfl) (of_decide_eq_true (by kernel_rfl)) k0 bel lt0) trodAll_mk0), rfl, bel.frame _, fun h => by cases h⟩

theorem over : Rows.fnExactBytesOfRow.holds Try.pinned (OpenSpec.ofChange Rows.fnExactBytesOfSpec) :=
  OpenClaim.holds_of_wide 5 Try.f5 rfl rfl rfl rfl rfl rfl rfl ⟨rfl, rfl, rfl, rfl, rfl⟩ rfl rfl rfl rfl rfl (by kernel_rfl) Try.func5 (by kernel_rfl)
    (of_decide_eq_true (by kernel_rfl)) (by unfold Func.isWrapper; first | (rw [if_pos (by decide +kernel)]; kernel_rfl) | (rw [if_neg (by decide +kernel)]; exact ⟨rfl, rfl⟩))
    (fun os started H enc _ => lifted os started H enc)

/-- The given statement. -/
theorem proved : Rows.FnExactBytesOfSaid := over

end Go.Proofs.Ytaokdocflbabjaa.lawBytesOf
