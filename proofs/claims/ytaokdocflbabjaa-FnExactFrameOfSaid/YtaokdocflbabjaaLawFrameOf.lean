/-
  FrameOf answers as its model at every argument, writes into no argument, and its answer owns its memory. No condition.
-/
import Derived.Test.YtaokdocflbabjaaFrameOfS
import Derived.Test.YtaokdocflbabjaaFrm2
import Derived.Test.YtaokdocflbabjaaFrame
namespace Go.Proofs.Ytaokdocflbabjaa.lawFrameOf
open Go.RowKit Go.ChangeShapes Go.WideShapes Go.ChangeAt
set_option maxRecDepth 100000
set_option linter.unusedVariables false

set_option maxHeartbeats 4000000 in
theorem walk (a0 : Option Addr) (n0 c0 : Nat) (l0 : List Int) (w : World) (hnl0 : n0 = l0.length) (ha0 : RI w w.heap.size (.slice a0 n0 c0) l0) (hwf0 : ∀ x ∈ l0, (Lit.int .i64 x).wf = true) :
    Calls Try.prog 6 #[.slice a0 n0 c0] w (RetV w (.bool true)) := by
  subst hnl0
  rcases Nat.lt_or_ge 1048576 l0.length with hn0 | hn0
  · have hn' : (1048576 : Int) < l0.length := by omega
    go_enter Try.func6, Try.ntmps6
    go_wp2
    go_ret
    exact ⟨rfl, Below.refl _ _⟩
  have hm0 : (l0.length : Int) ≤ 1048576 := by omega
  obtain ⟨X, b, hX⟩ : ∃ X b, (X, b) = frameOf l0 := ⟨_, _, rfl⟩
  have hlen := frameOf_len l0
  rw [← hX] at hlen
  have HI : Hid (∀ v w, RI w w.heap.size v l0 → Calls Try.prog 44 #[v] w (RetFB 3 w X b)) := by
    show ∀ v w, _
    intro v w h
    have h5 := implFrameOf_any v l0 w h hn0
    rw [← hX] at h5
    exact h5
  have HS : Hid (∀ v w, RI w w.heap.size v l0 → Calls Try.prog 42 #[v] w (RetFB 3 w X b)) := by
    show ∀ v w, _
    intro v w h
    have h5 := specFrameOf_any v l0 w h hn0
    rw [← hX] at h5
    exact h5
  clear hX
  obtain ⟨f, t, p, d⟩ := X
  simp only at hlen
  have hlen' : ((d.length : Nat) : Int) ≤ 1048576 := by omega
  have t0 : Below w.heap.size w w := Below.refl _ _
  go_enter Try.func6, Try.ntmps6
  go_wp2_with fail
  refine (toIntS_any _ _ _ (ha0.more (by omega)) hn0).mono ?_; rintro e w1 ⟨p0, rfl, op0, hb1⟩
  have s1 := hb1.size
  have t1 := t0.trans (hb1.mono (by omega))
  have f1 := ha0.step hb1 (by omega)
  clear ha0
  go_wp2_with fail
  refine (HS.out _ _ (op0.ri.more (by omega))).mono ?_; rintro e w2 ⟨u_v, rfl, o_v, hb2⟩
  have s2 := hb2.size
  have t2 := t1.trans (hb2.mono (by omega))
  have f2 := f1.step hb2 (by omega)
  clear f1
  have f3 := op0.step hb2
  clear op0
  obtain ⟨s_v, rfl, o_v⟩ := o_v
  obtain ⟨A_v, c_v, rfl, _, _⟩ := o_v.ri
  simp only [frV]
  have hb3 : Below w2.heap.size w2 (w2.alloc (.cells #[.int .i64 f, .int .i64 t, .int .i64 p, .slice A_v d.length c_v] 34)) := (Below.refl _ _).alloc (Nat.le_refl _) _
  have bb_v := BK.made w2 34 #[.int .i64 f, .int .i64 t, .int .i64 p, .slice A_v d.length c_v]
  have s3 := hb3.size
  have t3 := t2.trans (hb3.mono (by omega))
  have lb3 := bb_v.1
  have f4 := f2.step hb3 (by omega)
  clear f2
  have f5 := f3.step hb3
  clear f3
  have f6 := o_v.step hb3
  clear o_v
  have q7 := bb_v.cell 0
  have q8 := bb_v.cell 1
  have q9 := bb_v.cell 2
  have q10 := bb_v.cell 3
  simp at q7 q8 q9 q10
  go_wp2_with fail
  refine (toIntS_any _ _ _ (f4.more (by omega)) hn0).mono ?_; rintro e w4 ⟨x0, rfl, ox0, hb4⟩
  have s4 := hb4.size
  have t4 := t3.trans (hb4.mono (by omega))
  clear q7 q8 q9 q10
  have f11 := f4.step hb4 (by omega)
  clear f4
  have f12 := f6.step hb4
  clear f6
  have f13 := bb_v.step hb4
  clear bb_v
  have q14 := f13.cell 0
  have q15 := f13.cell 1
  have q16 := f13.cell 2
  have q17 := f13.cell 3
  simp at q14 q15 q16 q17
  go_wp2_with fail
  refine (HI.out _ _ (ox0.ri.more (by omega))).mono ?_; rintro e w5 ⟨u_g, rfl, o_g, hb5⟩
  have s5 := hb5.size
  have t5 := t4.trans (hb5.mono (by omega))
  clear q14 q15 q16 q17
  have f18 := f11.step hb5 (by omega)
  clear f11
  have f19 := f12.step hb5
  clear f12
  have f20 := f13.step hb5
  clear f13
  have f21 := ox0.step hb5
  clear ox0
  obtain ⟨s_g, rfl, o_g⟩ := o_g
  obtain ⟨A_g, c_g, rfl, _, _⟩ := o_g.ri
  simp only [frV]
  have hb6 : Below w5.heap.size w5 (w5.alloc (.cells #[.int .i64 f, .int .i64 t, .int .i64 p, .slice A_g d.length c_g] 34)) := (Below.refl _ _).alloc (Nat.le_refl _) _
  have bb_g := BK.made w5 34 #[.int .i64 f, .int .i64 t, .int .i64 p, .slice A_g d.length c_g]
  have s6 := hb6.size
  have t6 := t5.trans (hb6.mono (by omega))
  have lb6 := bb_g.1
  have f22 := f18.step hb6 (by omega)
  clear f18
  have f23 := f19.step hb6
  clear f19
  have f24 := f20.step hb6
  clear f20
  have f25 := f21.step hb6
  clear f21
  have f26 := o_g.step hb6
  clear o_g
  have q27 := f24.cell 0
  have q28 := f24.cell 1
  have q29 := f24.cell 2
  have q30 := f24.cell 3
  have q31 := bb_g.cell 0
  have q32 := bb_g.cell 1
  have q33 := bb_g.cell 2
  have q34 := bb_g.cell 3
  simp at q27 q28 q29 q30 q31 q32 q33 q34
  go_wp2_with fail
  refine (eqFrame_same _ _ ⟨f, t, p, d⟩ _ ⟨_, rfl, (f26.ri.more (by omega))⟩ ⟨_, rfl, (f23.ri.more (by omega))⟩ hlen).mono ?_; rintro e w7 ⟨rfl, hb7⟩
  have s7 := hb7.size
  have t7 := t6.trans (hb7.mono (by omega))
  clear q27 q28 q29 q30 q31 q32 q33 q34
  have f35 := f22.step hb7 (by omega)
  clear f22
  have f36 := f23.step hb7
  clear f23
  have f37 := f24.step hb7
  clear f24
  have f38 := f25.step hb7
  clear f25
  have f39 := f26.step hb7
  clear f26
  have f40 := bb_g.step hb7
  clear bb_g
  have q41 := f37.cell 0
  have q42 := f37.cell 1
  have q43 := f37.cell 2
  have q44 := f37.cell 3
  have q45 := f40.cell 0
  have q46 := f40.cell 1
  have q47 := f40.cell 2
  have q48 := f40.cell 3
  simp at q41 q42 q43 q44 q45 q46 q47 q48
  go_wp2_with fail
  refine (toIntS_any _ _ _ (f35.more (by omega)) hn0).mono ?_; rintro e w8 ⟨y0, rfl, oy0, hb8⟩
  have s8 := hb8.size
  have t8 := t7.trans (hb8.mono (by omega))
  clear q41 q42 q43 q44 q45 q46 q47 q48
  have f49 := f35.step hb8 (by omega)
  clear f35
  have f50 := f36.step hb8
  clear f36
  have f51 := f37.step hb8
  clear f37
  have f52 := f38.step hb8
  clear f38
  have f53 := f39.step hb8
  clear f39
  have f54 := f40.step hb8
  clear f40
  have q55 := f51.cell 0
  have q56 := f51.cell 1
  have q57 := f51.cell 2
  have q58 := f51.cell 3
  have q59 := f54.cell 0
  have q60 := f54.cell 1
  have q61 := f54.cell 2
  have q62 := f54.cell 3
  simp at q55 q56 q57 q58 q59 q60 q61 q62
  go_wp2_with fail
  refine (eqIntS_same _ _ _ _ (f52.ri.more (by omega)) (oy0.ri.more (by omega)) hn0).mono ?_; rintro e w9 ⟨rfl, hb9⟩
  have s9 := hb9.size
  have t9 := t8.trans (hb9.mono (by omega))
  clear q55 q56 q57 q58 q59 q60 q61 q62
  have f63 := f49.step hb9 (by omega)
  clear f49
  have f64 := f50.step hb9
  clear f50
  have f65 := f51.step hb9
  clear f51
  have f66 := f52.step hb9
  clear f52
  have f67 := f53.step hb9
  clear f53
  have f68 := f54.step hb9
  clear f54
  have f69 := oy0.step hb9
  clear oy0
  have q70 := f65.cell 0
  have q71 := f65.cell 1
  have q72 := f65.cell 2
  have q73 := f65.cell 3
  have q74 := f68.cell 0
  have q75 := f68.cell 1
  have q76 := f68.cell 2
  have q77 := f68.cell 3
  simp at q70 q71 q72 q73 q74 q75 q76 q77
  go_wp2_with fail
  refine (markIntS_any _ _ _ _ _ _ f66 hn0 (by omega) (by omega)).mono ?_; rintro e w10 ⟨rfl, mx, hg10⟩
  have s10 := hg10.size
  have t10 := t9.trans (hg10.below (by omega) (by omega))
  clear q70 q71 q72 q73 q74 q75 q76 q77
  have f78 := f63.far hg10 (by omega) (by omega)
  clear f63
  have f79 := f64.far hg10 (by omega)
  clear f64
  have f80 := f65.far hg10 (by omega)
  clear f65
  have f81 := f67.far hg10 (by omega)
  clear f67
  have f82 := f68.far hg10 (by omega)
  clear f68
  have q83 := f80.cell 0
  have q84 := f80.cell 1
  have q85 := f80.cell 2
  have q86 := f80.cell 3
  have q87 := f82.cell 0
  have q88 := f82.cell 1
  have q89 := f82.cell 2
  have q90 := f82.cell 3
  simp at q83 q84 q85 q86 q87 q88 q89 q90
  go_wp2_with fail
  refine (eqFrame_same _ _ ⟨f, t, p, d⟩ _ ⟨_, rfl, (f81.ri.more (by omega))⟩ ⟨_, rfl, (f79.ri.more (by omega))⟩ hlen).mono ?_; rintro e w11 ⟨rfl, hb11⟩
  have s11 := hb11.size
  have t11 := t10.trans (hb11.mono (by omega))
  clear q83 q84 q85 q86 q87 q88 q89 q90
  have f91 := f78.step hb11 (by omega)
  clear f78
  have f92 := f79.step hb11
  clear f79
  have f93 := f80.step hb11
  clear f80
  have f94 := f81.step hb11
  clear f81
  have f95 := f82.step hb11
  clear f82
  have q96 := f93.cell 0
  have q97 := f93.cell 1
  have q98 := f93.cell 2
  have q99 := f93.cell 3
  have q100 := f95.cell 0
  have q101 := f95.cell 1
  have q102 := f95.cell 2
  have q103 := f95.cell 3
  simp at q96 q97 q98 q99 q100 q101 q102 q103
  go_wp2_with fail
  refine (markFrame_any _ _ _ ⟨f, t, p, d⟩ _ _ ⟨_, rfl, f94⟩ hlen (by omega) (by omega)).mono ?_; rintro e w12 ⟨rfl, mg, hg12⟩
  have s12 := hg12.size
  have t12 := t11.trans (hg12.below (by omega) (by omega))
  clear q96 q97 q98 q99 q100 q101 q102 q103
  have f104 := f91.far hg12 (by omega) (by omega)
  clear f91
  have f105 := f92.far hg12 (by omega)
  clear f92
  have f106 := f93.far hg12 (by omega)
  clear f93
  have f107 := f95.far hg12 (by omega)
  clear f95
  obtain ⟨sg2, eg2, mg⟩ := mg
  simp only [frV] at eg2
  injection eg2 with eg2
  obtain rfl : sg2 = .slice A_g d.length c_g := by simpa using eg2.symm
  clear eg2
  have q108 := f106.cell 0
  have q109 := f106.cell 1
  have q110 := f106.cell 2
  have q111 := f106.cell 3
  have q112 := f107.cell 0
  have q113 := f107.cell 1
  have q114 := f107.cell 2
  have q115 := f107.cell 3
  simp at q108 q109 q110 q111 q112 q113 q114 q115
  go_wp2_with fail
  refine (heldFrame_any _ ⟨f, t, p, d⟩ d.length _ _ ⟨_, rfl, (mg.ri.more (by omega))⟩ hlen (by omega) (by omega)).mono ?_; rintro e w13 ⟨rfl, hb13⟩
  have s13 := hb13.size
  have t13 := t12.trans (hb13.mono (by omega))
  clear q108 q109 q110 q111 q112 q113 q114 q115
  have f116 := f104.step hb13 (by omega)
  clear f104
  have f117 := f105.step hb13
  clear f105
  have f118 := f106.step hb13
  clear f106
  have f119 := f107.step hb13
  clear f107
  have f120 := mg.step hb13
  clear mg
  have q121 := f118.cell 0
  have q122 := f118.cell 1
  have q123 := f118.cell 2
  have q124 := f118.cell 3
  have q125 := f119.cell 0
  have q126 := f119.cell 1
  have q127 := f119.cell 2
  have q128 := f119.cell 3
  simp at q121 q122 q123 q124 q125 q126 q127 q128
  go_wp2_with fail
  refine (toIntS_any _ _ _ (f116.more (by omega)) hn0).mono ?_; rintro e w14 ⟨p1, rfl, op1, hb14⟩
  have s14 := hb14.size
  have t14 := t13.trans (hb14.mono (by omega))
  clear q121 q122 q123 q124 q125 q126 q127 q128
  have f129 := f116.step hb14 (by omega)
  clear f116
  have f130 := f117.step hb14
  clear f117
  have f131 := f118.step hb14
  clear f118
  have f132 := f119.step hb14
  clear f119
  have f133 := f120.step hb14
  clear f120
  have q134 := f131.cell 0
  have q135 := f131.cell 1
  have q136 := f131.cell 2
  have q137 := f131.cell 3
  have q138 := f132.cell 0
  have q139 := f132.cell 1
  have q140 := f132.cell 2
  have q141 := f132.cell 3
  simp at q134 q135 q136 q137 q138 q139 q140 q141
  go_wp2_with fail
  refine (HI.out _ _ (op1.ri.more (by omega))).mono ?_; rintro e w15 ⟨u_h, rfl, o_h, hb15⟩
  have s15 := hb15.size
  have t15 := t14.trans (hb15.mono (by omega))
  clear q134 q135 q136 q137 q138 q139 q140 q141
  have f142 := f129.step hb15 (by omega)
  clear f129
  have f143 := f130.step hb15
  clear f130
  have f144 := f131.step hb15
  clear f131
  have f145 := f132.step hb15
  clear f132
  have f146 := f133.step hb15
  clear f133
  have f147 := op1.step hb15
  clear op1
  obtain ⟨s_h, rfl, o_h⟩ := o_h
  obtain ⟨A_h, c_h, rfl, _, _⟩ := o_h.ri
  simp only [frV]
  have hb16 : Below w15.heap.size w15 (w15.alloc (.cells #[.int .i64 f, .int .i64 t, .int .i64 p, .slice A_h d.length c_h] 34)) := (Below.refl _ _).alloc (Nat.le_refl _) _
  have bb_h := BK.made w15 34 #[.int .i64 f, .int .i64 t, .int .i64 p, .slice A_h d.length c_h]
  have s16 := hb16.size
  have t16 := t15.trans (hb16.mono (by omega))
  have lb16 := bb_h.1
  have f148 := f142.step hb16 (by omega)
  clear f142
  have f149 := f143.step hb16
  clear f143
  have f150 := f144.step hb16
  clear f144
  have f151 := f145.step hb16
  clear f145
  have f152 := f146.step hb16
  clear f146
  have f153 := f147.step hb16
  clear f147
  have f154 := o_h.step hb16
  clear o_h
  have q155 := f150.cell 0
  have q156 := f150.cell 1
  have q157 := f150.cell 2
  have q158 := f150.cell 3
  have q159 := f151.cell 0
  have q160 := f151.cell 1
  have q161 := f151.cell 2
  have q162 := f151.cell 3
  have q163 := bb_h.cell 0
  have q164 := bb_h.cell 1
  have q165 := bb_h.cell 2
  have q166 := bb_h.cell 3
  simp at q155 q156 q157 q158 q159 q160 q161 q162 q163 q164 q165 q166
  go_wp2_with fail
  refine (eqFrame_same _ _ ⟨f, t, p, d⟩ _ ⟨_, rfl, (f154.ri.more (by omega))⟩ ⟨_, rfl, (f149.ri.more (by omega))⟩ hlen).mono ?_; rintro e w17 ⟨rfl, hb17⟩
  have s17 := hb17.size
  have t17 := t16.trans (hb17.mono (by omega))
  clear q155 q156 q157 q158 q159 q160 q161 q162 q163 q164 q165 q166
  have f167 := f148.step hb17 (by omega)
  clear f148
  have f168 := f149.step hb17
  clear f149
  have f169 := f150.step hb17
  clear f150
  have f170 := f151.step hb17
  clear f151
  have f171 := f152.step hb17
  clear f152
  have f172 := f154.step hb17
  clear f154
  have f173 := bb_h.step hb17
  clear bb_h
  have q174 := f169.cell 0
  have q175 := f169.cell 1
  have q176 := f169.cell 2
  have q177 := f169.cell 3
  have q178 := f170.cell 0
  have q179 := f170.cell 1
  have q180 := f170.cell 2
  have q181 := f170.cell 3
  have q182 := f173.cell 0
  have q183 := f173.cell 1
  have q184 := f173.cell 2
  have q185 := f173.cell 3
  simp at q174 q175 q176 q177 q178 q179 q180 q181 q182 q183 q184 q185
  go_wp2_with fail
  refine (heldFrame_any _ ⟨f, t, p, d⟩ d.length _ _ ⟨_, rfl, (f171.ri.more (by omega))⟩ hlen (by omega) (by omega)).mono ?_; rintro e w18 ⟨rfl, hb18⟩
  have s18 := hb18.size
  have t18 := t17.trans (hb18.mono (by omega))
  clear q174 q175 q176 q177 q178 q179 q180 q181 q182 q183 q184 q185
  have f186 := f167.step hb18 (by omega)
  clear f167
  have f187 := f168.step hb18
  clear f168
  have f188 := f169.step hb18
  clear f169
  have f189 := f170.step hb18
  clear f170
  have f190 := f171.step hb18
  clear f171
  have f191 := f172.step hb18
  clear f172
  have f192 := f173.step hb18
  clear f173
  have q193 := f188.cell 0
  have q194 := f188.cell 1
  have q195 := f188.cell 2
  have q196 := f188.cell 3
  have q197 := f189.cell 0
  have q198 := f189.cell 1
  have q199 := f189.cell 2
  have q200 := f189.cell 3
  have q201 := f192.cell 0
  have q202 := f192.cell 1
  have q203 := f192.cell 2
  have q204 := f192.cell 3
  simp at q193 q194 q195 q196 q197 q198 q199 q200 q201 q202 q203 q204
  go_wp2_with fail
  go_ret
  exact ⟨rfl, t18⟩

set_option maxRecDepth 100000 in
theorem lifted (os : Os) (started : os.Started) (H : Type) (enc : TypeId × Value → H) :
    ReturnsInHanded {} Try.checked os 6 .any (Rows.fnExactFrameOfSpec.pre6 enc Try.prog Try.f6 Rows.fnExactFrameOfRow.domain false) (Rows.fnExactFrameOfSpec.post enc Try.prog Try.f6 false true false false) := by
  refine returnsInHanded_of_change (C := Try.checked) own started (by kernel_rfl) Try.func6
    (ChangeSpec.witness6 (enc := enc) (C := Try.checked) false ⟨#[], #[.slice none 0 0], []⟩ 8 (by kernel_rfl) (by kernel_rfl) (by kernel_rfl) (by kernel_rfl)) ?_
  intro W base args ds gs before hval0 hW hcnd _
  have hval : ∀ (j : Nat) t v, Try.f6.params[j]? = some t → args[j]? = some v → Value.okWide Try.prog W .any base t v := hval0
  have hW' := hW
  obtain ⟨p, q, hA0, hV, rfl, hfz, hnd⟩ := hW
  have hA : DataW.TrodAll enc Try.prog W 0 (fun _ => true) true Try.f6.params.toList args.toList ds p := hA0
  rw [Try.params6] at hA hval
  obtain ⟨v0, vs0, d0, ds0, p0, q0, hargs, rfl, rfl, h0, r0⟩ := trodAll_cons hA
  obtain ⟨rfl, rfl, rfl⟩ := trodAll_nil r0
  obtain rfl : args = #[v0] := by cases args; simp_all
  obtain ⟨rfl, rfl⟩ := trodVars_none hV
  obtain ⟨a0, len0, cap0, rfl⟩ := okWide_slice Try.underlying24 (hval 0 24 v0 rfl rfl)
  have k0 := h0
  have lt0 : ∀ x ∈ p0, x.block < W.heap.size := by obtain ⟨m, hm⟩ := k0; exact DataW.trod_lt m _ _ _ hm
  obtain ⟨l0, n0, w0⟩ : ∃ l, len0 = List.length l ∧ RI W W.heap.size (.slice a0 len0 cap0) l ∧ (∀ x ∈ l, (Lit.int .i64 x).wf = true) ∧ cap0 ≤ maxLen := by
    obtain ⟨fuel, hf⟩ := h0
    rcases open_ints Try.underlying24 Try.underlying3 (by kernel_rfl) hf with ⟨hcs, _⟩ | ⟨x, l, c, zs, hcs, _, hl, hm, hz, _, hcell, hwz⟩
    · simp [Value.cells] at hcs
      obtain ⟨rfl, rfl, rfl⟩ := hcs
      exact ⟨[], rfl, ⟨none, 0, rfl, ⟨by simp, by simp, fun _ => rfl⟩, fun h => absurd h (by simp)⟩, by simp, by simp⟩
    · simp [Value.cells] at hcs
      obtain ⟨rfl, rfl, rfl⟩ := hcs
      have hz' : zs.length = cap0 := by simpa using hz
      exact ⟨zs.take len0, by simp; omega, ri_of_cells (by omega) hz' hm hcell, fun x hx => hwz x (List.mem_of_mem_take hx), hm⟩
  clear hA0 hval0
  refine (walk a0 len0 cap0 l0 W n0 w0.1 w0.2.1).mono fun e W' ⟨he, bel⟩ => ?_
  subst he
  exact ⟨_, rfl, _, _, _, [], _, [], hW', trodAll_mk1 (shut_bool Try.underlying4 _), (trodAll_cons_mk (Below.trod laidOut (by kernel_rfl) (of_decide_eq_true (by kernel_rfl)) k0 bel lt0) trodAll_mk0), rfl, bel.frame _, fun h => by cases h⟩

theorem over : Rows.fnExactFrameOfRow.holds Try.pinned (OpenSpec.ofChange Rows.fnExactFrameOfSpec) :=
  OpenClaim.holds_of_wide 6 Try.f6 rfl rfl rfl rfl rfl rfl rfl ⟨rfl, rfl, rfl, rfl, rfl⟩ rfl rfl rfl rfl rfl (by kernel_rfl) Try.func6 (by kernel_rfl)
    (of_decide_eq_true (by kernel_rfl)) (by unfold Func.isWrapper; first | (rw [if_pos (by decide +kernel)]; kernel_rfl) | (rw [if_neg (by decide +kernel)]; exact ⟨rfl, rfl⟩))
    (fun os started H enc _ => lifted os started H enc)

/-- The given statement. -/
theorem proved : Rows.FnExactFrameOfSaid := over

end Go.Proofs.Ytaokdocflbabjaa.lawFrameOf
