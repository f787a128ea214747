/-
  SlotsAt answers as its model at every argument, writes into no argument, and its answer owns its memory. No condition.
-/
import Derived.Test.YtnlcdgehgapblaaSlotsX
import Derived.Test.YtnlcdgehgapblaaFMessage
import Derived.Test.YtnlcdgehgapblaaFrame
import Derived.Deep.RegionWith
import Derived.Deep.DeepCutAuto
import Derived.Lib.SmallJoins
import Derived.Deep.Slices
import Derived.Deep.Fields
import Derived.ChangeSame
namespace Go.Proofs.Ytnlcdgehgapblaa.lawSlotsAt
open Go.RowKit Go.ChangeShapes Go.WideShapes Go.ChangeAt
set_option maxRecDepth 100000
set_option linter.unusedVariables false

set_option maxHeartbeats 4000000 in
theorem walk (z0 : Sr) (s1 : Value) (d1 : List Ms) (x2 : Int) (w : World) (h1 : RMsS w w.heap.size s1 d1) (hm1 : d1.length ≤ maxLen) (hx2 : (Lit.int .i64 x2).wf = true) :
    Calls Try.prog 5 #[SrV z0, s1, .int .i64 x2] w (RetV w (.bool true)) := by
  obtain ⟨y0n, y0h⟩ := z0
  simp only [SrV]
  have hr1 := h1
  obtain ⟨a1, c1, rfl, _, _, _⟩ := h1
  have t0 : Below w.heap.size w w := Below.refl _ _
  rcases Nat.lt_or_ge 1048576 d1.length with hn1 | hn1
  · have hn' : (1048576 : Int) < d1.length := by omega
    go_enter Try.func5, Try.ntmps5
    have hb1 : Below w.heap.size w (w.alloc (.cells #[.int .i64 y0n, .bool y0h] 23)) := (Below.refl _ _).alloc (Nat.le_refl _) _
    have bb__0 := BK.made w 23 #[.int .i64 y0n, .bool y0h]
    have lb1 := bb__0.1
    have s1_ := hb1.size
    have t1 := t0.trans (hb1.mono (by omega))
    have f1 := hr1.step hb1 (by omega)
    clear hr1
    have j2 := bb__0.cell 0
    have j3 := bb__0.cell 1
    simp at j2 j3
    go_wp2_with fail
    refine (szMessageS_any _ d1 _ _ (f1.more (by omega)) (by omega) (by omega) hm1).mono ?_; rintro e w2 ⟨rfl, hb2⟩
    rw [if_pos (by omega)]
    go_wp2_with fail
    go_ret
    exact ⟨rfl, t1.trans (hb2.mono (by omega))⟩
  have hq1 : (d1.length : Int) ≤ 1048576 := by omega
  have hlen := slotsSays_len ⟨y0n, y0h⟩ d1 x2
  obtain ⟨X, b, hX⟩ : ∃ X b, (X, b) = slotsSays ⟨y0n, y0h⟩ d1 x2 := ⟨_, _, rfl⟩
  rw [← hX] at hlen
  simp only at hlen
  have HI : Hid (∀ v1 w, RMsS w w.heap.size v1 d1 → Calls Try.prog 22 #[.agg #[.int .i64 y0n, .bool y0h], v1, .int .i64 x2] w (RetLB 3 w X b)) := by
    show ∀ v1 w, RMsS w w.heap.size v1 d1 → Calls Try.prog 22 #[.agg #[.int .i64 y0n, .bool y0h], v1, .int .i64 x2] w (RetLB 3 w X b)
    intro v1 w q1
    have h5 := implSlotsAt_any v1 ⟨y0n, y0h⟩ d1 x2 w q1 hn1 hx2
    rw [← hX] at h5
    exact h5
  have HS : Hid (∀ v1 w, RMsS w w.heap.size v1 d1 → Calls Try.prog 21 #[.agg #[.int .i64 y0n, .bool y0h], v1, .int .i64 x2] w (RetLB 3 w X b)) := by
    show ∀ v1 w, RMsS w w.heap.size v1 d1 → Calls Try.prog 21 #[.agg #[.int .i64 y0n, .bool y0h], v1, .int .i64 x2] w (RetLB 3 w X b)
    intro v1 w q1
    have h5 := specSlotsAt_any v1 ⟨y0n, y0h⟩ d1 x2 w q1 hn1 hx2
    rw [← hX] at h5
    exact h5
  have HA0 : Hid (∀ w, Calls Try.prog 11 #[.agg #[.int .i64 y0n, .bool y0h]] w (RetV w (.agg #[.int .i64 y0n, .bool y0h]))) := by
    show ∀ w, Calls Try.prog 11 #[.agg #[.int .i64 y0n, .bool y0h]] w (RetV w (.agg #[.int .i64 y0n, .bool y0h]))
    intro w
    exact toSlotRing_any ⟨y0n, y0h⟩ w
  clear hX
  have hlen' : ((X.length : Nat) : Int) ≤ 1048576 := by omega
  go_enter Try.func5, Try.ntmps5
  have hb1 : Below w.heap.size w (w.alloc (.cells #[.int .i64 y0n, .bool y0h] 23)) := (Below.refl _ _).alloc (Nat.le_refl _) _
  have bb__0 := BK.made w 23 #[.int .i64 y0n, .bool y0h]
  have lb1 := bb__0.1
  have s1_ := hb1.size
  have t1 := t0.trans (hb1.mono (by omega))
  have f1 := hr1.step hb1 (by omega)
  clear hr1
  have j2 := bb__0.cell 0
  have j3 := bb__0.cell 1
  simp at j2 j3
  go_wp2_with fail
  refine (szMessageS_any _ d1 _ _ (f1.more (by omega)) (by omega) (by omega) hm1).mono ?_; rintro e w2 ⟨rfl, hb2⟩
  have s2_ := hb2.size
  have t2 := t1.trans (hb2.mono (by omega))
  clear j2 j3
  have f4 := f1.step hb2 (by omega)
  clear f1
  have f5 := bb__0.step hb2
  clear bb__0
  rw [if_neg (by omega)]
  have j6 := f5.cell 0
  have j7 := f5.cell 1
  simp at j6 j7
  go_wp2_with fail
  refine (HA0.out _).mono ?_; rintro e w3 ⟨rfl, hb3⟩
  have s3_ := hb3.size
  have t3 := t2.trans (hb3.mono (by omega))
  clear j6 j7
  have f8 := f4.step hb3 (by omega)
  clear f4
  have f9 := f5.step hb3
  clear f5
  have j10 := f9.cell 0
  have j11 := f9.cell 1
  simp at j10 j11
  go_wp2_with fail
  refine (toMessageS_any _ _ _ (f8.more (by omega)) hn1).mono ?_; rintro e w4 ⟨u_p1, rfl, o_p1, hb4⟩
  have s4_ := hb4.size
  have t4 := t3.trans (hb4.mono (by omega))
  clear j10 j11
  have f12 := f8.step hb4 (by omega)
  clear f8
  have f13 := f9.step hb4
  clear f9
  have j14 := f13.cell 0
  have j15 := f13.cell 1
  simp at j14 j15
  go_wp2_with fail
  refine (HS.out _ _ (o_p1.rk.more (by omega))).mono ?_; rintro e w5 ⟨u_v0, rfl, o_v0, hb5⟩
  have s5_ := hb5.size
  have t5 := t4.trans (hb5.mono (by omega))
  clear j14 j15
  have f16 := f12.step hb5 (by omega)
  clear f12
  have f17 := f13.step hb5
  clear f13
  have f18 := o_p1.step hb5
  clear o_p1
  have j19 := f17.cell 0
  have j20 := f17.cell 1
  simp at j19 j20
  go_wp2_with fail
  refine (toMessageS_any _ _ _ (f16.more (by omega)) hn1).mono ?_; rintro e w6 ⟨u_x1_, rfl, o_x1_, hb6⟩
  have s6_ := hb6.size
  have t6 := t5.trans (hb6.mono (by omega))
  clear j19 j20
  have f21 := f16.step hb6 (by omega)
  clear f16
  have f22 := f17.step hb6
  clear f17
  have f23 := o_v0.step hb6
  clear o_v0
  have j24 := f22.cell 0
  have j25 := f22.cell 1
  simp at j24 j25
  go_wp2_with fail
  refine (HA0.out _).mono ?_; rintro e w7 ⟨rfl, hb7⟩
  have s7_ := hb7.size
  have t7 := t6.trans (hb7.mono (by omega))
  clear j24 j25
  have f26 := f21.step hb7 (by omega)
  clear f21
  have f27 := f22.step hb7
  clear f22
  have f28 := f23.step hb7
  clear f23
  have f29 := o_x1_.step hb7
  clear o_x1_
  have j30 := f27.cell 0
  have j31 := f27.cell 1
  simp at j30 j31
  go_wp2_with fail
  refine (HI.out _ _ (f29.rk.more (by omega))).mono ?_; rintro e w8 ⟨u_g0, rfl, o_g0, hb8⟩
  have s8_ := hb8.size
  have t8 := t7.trans (hb8.mono (by omega))
  clear j30 j31
  have f32 := f26.step hb8 (by omega)
  clear f26
  have f33 := f27.step hb8
  clear f27
  have f34 := f28.step hb8
  clear f28
  have f35 := f29.step hb8
  clear f29
  have j36 := f33.cell 0
  have j37 := f33.cell 1
  simp at j36 j37
  go_wp2_with fail
  refine (eqIntS_same _ _ _ _ (o_g0.ri.more (by omega)) (f34.ri.more (by omega)) hlen).mono ?_; rintro e w9 ⟨rfl, hb9⟩
  have s9_ := hb9.size
  have t9 := t8.trans (hb9.mono (by omega))
  clear j36 j37
  have f38 := f32.step hb9 (by omega)
  clear f32
  have f39 := f33.step hb9
  clear f33
  have f40 := f34.step hb9
  clear f34
  have f41 := f35.step hb9
  clear f35
  have f42 := o_g0.step hb9
  clear o_g0
  have j43 := f39.cell 0
  have j44 := f39.cell 1
  simp at j43 j44
  go_wp2_with fail
  refine (toMessageS_any _ _ _ (f38.more (by omega)) hn1).mono ?_; rintro e w10 ⟨u_y, rfl, o_y, hb10⟩
  have s10_ := hb10.size
  have t10 := t9.trans (hb10.mono (by omega))
  clear j43 j44
  have f45 := f38.step hb10 (by omega)
  clear f38
  have f46 := f39.step hb10
  clear f39
  have f47 := f40.step hb10
  clear f40
  have f48 := f41.step hb10
  clear f41
  have f49 := f42.step hb10
  clear f42
  have j50 := f46.cell 0
  have j51 := f46.cell 1
  simp at j50 j51
  go_wp2_with fail
  refine (eqMessageS_same _ _ _ _ (f48.rk.more (by omega)) (o_y.rk.more (by omega)) hn1).mono ?_; rintro e w11 ⟨rfl, hb11⟩
  have s11_ := hb11.size
  have t11 := t10.trans (hb11.mono (by omega))
  clear j50 j51
  have f52 := f45.step hb11 (by omega)
  clear f45
  have f53 := f46.step hb11
  clear f46
  have f54 := f47.step hb11
  clear f47
  have f55 := f48.step hb11
  clear f48
  have f56 := f49.step hb11
  clear f49
  have f57 := o_y.step hb11
  clear o_y
  have j58 := f53.cell 0
  have j59 := f53.cell 1
  simp at j58 j59
  go_wp2_with fail
  refine (markMessageS_any _ _ _ _ _ _ f55 hn1 (by omega) (by omega)).mono ?_; rintro e w12 ⟨rfl, mx1, hg12⟩
  have s12_ := hg12.size
  have t12 := t11.trans (hg12.below (by omega) (by omega))
  clear j58 j59
  have f60 := f52.far hg12 (by omega) (by omega)
  clear f52
  have f61 := f53.far hg12 (by omega)
  clear f53
  have f62 := f54.far hg12 (by omega)
  clear f54
  have f63 := f56.far hg12 (by omega)
  clear f56
  have j64 := f61.cell 0
  have j65 := f61.cell 1
  simp at j64 j65
  go_wp2_with fail
  refine (eqIntS_same _ _ _ _ (f63.ri.more (by omega)) (f62.ri.more (by omega)) hlen).mono ?_; rintro e w13 ⟨rfl, hb13⟩
  have s13_ := hb13.size
  have t13 := t12.trans (hb13.mono (by omega))
  clear j64 j65
  have f66 := f60.step hb13 (by omega)
  clear f60
  have f67 := f61.step hb13
  clear f61
  have f68 := f62.step hb13
  clear f62
  have f69 := f63.step hb13
  clear f63
  have j70 := f67.cell 0
  have j71 := f67.cell 1
  simp at j70 j71
  go_wp2_with fail
  refine (markIntS_any _ _ _ _ _ _ f69 hlen (by omega) (by omega)).mono ?_; rintro e w14 ⟨rfl, mg, hg14⟩
  have s14_ := hg14.size
  have t14 := t13.trans (hg14.below (by omega) (by omega))
  clear j70 j71
  have f72 := f66.far hg14 (by omega) (by omega)
  clear f66
  have f73 := f67.far hg14 (by omega)
  clear f67
  have f74 := f68.far hg14 (by omega)
  clear f68
  have j75 := f73.cell 0
  have j76 := f73.cell 1
  simp at j75 j76
  go_wp2_with fail
  refine (heldIntS_any _ _ _ _ (mg.ri.more (by omega)) hlen (by omega) (by omega)).mono ?_; rintro e w15 ⟨rfl, hb15⟩
  have s15_ := hb15.size
  have t15 := t14.trans (hb15.mono (by omega))
  clear j75 j76
  have f77 := f72.step hb15 (by omega)
  clear f72
  have f78 := f73.step hb15
  clear f73
  have f79 := f74.step hb15
  clear f74
  have f80 := mg.step hb15
  clear mg
  have j81 := f78.cell 0
  have j82 := f78.cell 1
  simp at j81 j82
  go_wp2_with fail
  refine (HA0.out _).mono ?_; rintro e w16 ⟨rfl, hb16⟩
  have s16_ := hb16.size
  have t16 := t15.trans (hb16.mono (by omega))
  clear j81 j82
  have f83 := f77.step hb16 (by omega)
  clear f77
  have f84 := f78.step hb16
  clear f78
  have f85 := f79.step hb16
  clear f79
  have f86 := f80.step hb16
  clear f80
  have j87 := f84.cell 0
  have j88 := f84.cell 1
  simp at j87 j88
  go_wp2_with fail
  refine (toMessageS_any _ _ _ (f83.more (by omega)) hn1).mono ?_; rintro e w17 ⟨u_e1, rfl, o_e1, hb17⟩
  have s17_ := hb17.size
  have t17 := t16.trans (hb17.mono (by omega))
  clear j87 j88
  have f89 := f83.step hb17 (by omega)
  clear f83
  have f90 := f84.step hb17
  clear f84
  have f91 := f85.step hb17
  clear f85
  have f92 := f86.step hb17
  clear f86
  have j93 := f90.cell 0
  have j94 := f90.cell 1
  simp at j93 j94
  go_wp2_with fail
  refine (HI.out _ _ (o_e1.rk.more (by omega))).mono ?_; rintro e w18 ⟨u_h0, rfl, o_h0, hb18⟩
  have s18_ := hb18.size
  have t18 := t17.trans (hb18.mono (by omega))
  clear j93 j94
  have f95 := f89.step hb18 (by omega)
  clear f89
  have f96 := f90.step hb18
  clear f90
  have f97 := f91.step hb18
  clear f91
  have f98 := f92.step hb18
  clear f92
  have f99 := o_e1.step hb18
  clear o_e1
  have j100 := f96.cell 0
  have j101 := f96.cell 1
  simp at j100 j101
  go_wp2_with fail
  refine (eqIntS_same _ _ _ _ (o_h0.ri.more (by omega)) (f97.ri.more (by omega)) hlen).mono ?_; rintro e w19 ⟨rfl, hb19⟩
  have s19_ := hb19.size
  have t19 := t18.trans (hb19.mono (by omega))
  clear j100 j101
  have f102 := f95.step hb19 (by omega)
  clear f95
  have f103 := f96.step hb19
  clear f96
  have f104 := f97.step hb19
  clear f97
  have f105 := f98.step hb19
  clear f98
  have f106 := o_h0.step hb19
  clear o_h0
  have j107 := f103.cell 0
  have j108 := f103.cell 1
  simp at j107 j108
  go_wp2_with fail
  refine (heldIntS_any _ _ _ _ (f105.ri.more (by omega)) hlen (by omega) (by omega)).mono ?_; rintro e w20 ⟨rfl, hb20⟩
  have s20_ := hb20.size
  have t20 := t19.trans (hb20.mono (by omega))
  clear j107 j108
  have f109 := f102.step hb20 (by omega)
  clear f102
  have f110 := f103.step hb20
  clear f103
  have f111 := f104.step hb20
  clear f104
  have f112 := f105.step hb20
  clear f105
  have f113 := f106.step hb20
  clear f106
  have j114 := f110.cell 0
  have j115 := f110.cell 1
  simp at j114 j115
  go_wp2_with fail
  go_ret
  exact ⟨rfl, t20⟩

set_option maxRecDepth 100000 in
theorem lifted (os : Os) (started : os.Started) (H : Type) (enc : TypeId × Value → H) :
    ReturnsInHanded {} Try.checked os 5 .any (Rows.fnExactSlotsAtSpec.pre6 enc Try.prog Try.f5 Rows.fnExactSlotsAtRow.domain false) (Rows.fnExactSlotsAtSpec.post enc Try.prog Try.f5 false true false false) := by
  refine returnsInHanded_of_change (C := Try.checked) own started (by kernel_rfl) Try.func5
    (ChangeSpec.witness6 (enc := enc) (C := Try.checked) false ⟨#[], #[.agg #[.int .i64 0, .bool false], .slice none 0 0, .int .i64 0], []⟩ 8 (by kernel_rfl) (by kernel_rfl) (by kernel_rfl) (by kernel_rfl)) ?_
  intro W base args ds gs before hval0 hW hcnd _
  have hval : ∀ (j : Nat) t v, Try.f5.params[j]? = some t → args[j]? = some v → Value.okWide Try.prog W .any base t v := hval0
  have hW' := hW
  obtain ⟨p, q, hA0, hV, rfl, hfz, hnd⟩ := hW
  have hA : DataW.TrodAll enc Try.prog W 0 (fun _ => true) true Try.f5.params.toList args.toList ds p := hA0
  rw [Try.params5] at hA hval
  obtain ⟨v0, vs0, d0, ds0, p0, q0, hargs, rfl, rfl, h0, r0⟩ := trodAll_cons hA
  obtain ⟨v1, vs1, d1, ds1, p1, q1, rfl, rfl, rfl, h1, r1⟩ := trodAll_cons r0
  obtain ⟨v2, vs2, d2, ds2, p2, q2, rfl, rfl, rfl, h2, r2⟩ := trodAll_cons r1
  obtain ⟨rfl, rfl, rfl⟩ := trodAll_nil r2
  obtain rfl : args = #[v0, v1, v2] := by cases args; simp_all
  obtain ⟨rfl, rfl⟩ := trodVars_none hV
  have k0 := h0
  have lt0 : ∀ x ∈ p0, x.block < W.heap.size := by obtain ⟨m, hm⟩ := k0; exact DataW.trod_lt m _ _ _ hm
  obtain ⟨e0_0, e0_1, y0_0, y0_1, m0, rfl, hd0, hp0, g0_0, g0_1⟩ := Go.Joins.open_agg2 Try.underlying23 (by kernel_rfl) (by kernel_rfl) (hval 0 23 v0 rfl rfl) h0
  obtain ⟨x0_0, hx0_0, _, w0_0⟩ := DataW.trod_int Try.underlying3 g0_0
  obtain rfl : e0_0 = .int .i64 x0_0 := by simpa using hx0_0
  obtain ⟨x0_1, hx0_1, _⟩ := DataW.trod_bool Try.underlying4 g0_1
  obtain rfl : e0_1 = .bool x0_1 := by simpa using hx0_1
  have k1 := h1
  have lt1 : ∀ x ∈ p1, x.block < W.heap.size := by obtain ⟨m, hm⟩ := k1; exact DataW.trod_lt m _ _ _ hm
  obtain ⟨aa1, la1, ca1, rfl⟩ := okWide_slice Try.underlying24 (hval 1 24 v1 rfl rfl)
  obtain ⟨fu1, hfu1⟩ := h1
  obtain ⟨l1, n1, w1, _⟩ := open_MessageS hfu1
  obtain ⟨a2, rfl, rfl, rfl, w2⟩ := open_int Try.underlying3 (hval 2 3 v2 rfl rfl) h2
  clear hA0 hval0
  refine (walk ⟨x0_0, x0_1⟩ _ l1 a2 W n1 w1 w2).mono fun e W' ⟨he, bel⟩ => ?_
  subst he
  exact ⟨_, rfl, _, _, _, [], _, [], hW', trodAll_mk1 (shut_bool Try.underlying4 _), (trodAll_cons_mk (Below.trod laidOut (by kernel_rfl) (of_decide_eq_true (by kernel_rfl)) k0 bel lt0) (trodAll_cons_mk (Below.trod laidOut (by kernel_rfl) (of_decide_eq_true (by kernel_rfl)) k1 bel lt1) (trodAll_cons_mk (shut_int Try.underlying3 w2) trodAll_mk0))), rfl, bel.frame _, fun h => by cases h⟩

theorem closed : joinedFacts Try.pinned.checked.prog 5 Try.f5 Rows.fnExactSlotsAtSpec Rows.fnExactSlotsAtRow = true := by
  unfold joinedFacts
  repeat' (with_reducible refine and_t ?_ ?_)
  all_goals first
    | (with_reducible exact init_mayEnter)
    | (with_reducible refine init_lifted ?_; as_aux_lemma => kernel_rfl)
    | (with_reducible refine init_mk ?_; as_aux_lemma => kernel_rfl)
    | (as_aux_lemma => kernel_rfl)

theorem over : Rows.fnExactSlotsAtRow.holds Try.pinned (OpenSpec.ofChange Rows.fnExactSlotsAtSpec) :=
  OpenClaim.holds_of_wide 5 Try.f5 rfl rfl rfl rfl rfl rfl rfl ⟨rfl, rfl, rfl, rfl, rfl⟩ rfl rfl rfl rfl rfl (by kernel_rfl) Try.func5 closed
    (of_decide_eq_true (by kernel_rfl)) (by unfold Func.isWrapper; first | (rw [if_pos (by decide +kernel)]; kernel_rfl) | (rw [if_neg (by decide +kernel)]; exact ⟨rfl, rfl⟩))
    (fun os started H enc _ => lifted os started H enc)

/-- The given statement. -/
theorem proved : Rows.FnExactSlotsAtSaid := over

end Go.Proofs.Ytnlcdgehgapblaa.lawSlotsAt
