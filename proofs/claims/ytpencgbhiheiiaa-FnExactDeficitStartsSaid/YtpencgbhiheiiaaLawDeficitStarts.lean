/-
  DeficitStarts answers as its model at every argument, writes into no argument, and its answer owns its memory. No condition.
-/
import Derived.Test.YtpencgbhiheiiaaTurnN
import Derived.Test.YtpencgbhiheiiaaTurnD
import Derived.Test.YtpencgbhiheiiaaFJob
import Derived.Test.YtpencgbhiheiiaaFrame
import Derived.Deep.RegionWith
import Derived.Deep.DeepCutAuto
import Derived.Lib.SmallJoins
import Derived.Deep.Slices
import Derived.Deep.Fields
import Derived.ChangeSame
namespace Go.Proofs.Ytpencgbhiheiiaa.lawDeficitStarts
open Go.RowKit Go.ChangeShapes Go.WideShapes Go.ChangeAt
set_option maxRecDepth 100000
set_option linter.unusedVariables false

set_option maxHeartbeats 4000000 in
theorem walk (s0 : Value) (d0 : List Jb) (s1 : Value) (d1 : List Int) (w : World) (h0 : RJbS w w.heap.size s0 d0) (hm0 : d0.length ≤ maxLen) (h1 : RI w w.heap.size s1 d1) (hm1 : d1.length ≤ maxLen) :
    Calls Try.prog 8 #[s0, s1] w (RetV w (.bool true)) := by
  have hr0 := h0
  obtain ⟨a0, c0, rfl, _, _, _⟩ := h0
  have hr1 := h1
  obtain ⟨a1, c1, rfl, _, _⟩ := h1
  have t0 : Below w.heap.size w w := Below.refl _ _
  rcases Nat.lt_or_ge 1048576 d1.length with hn1 | hn1
  · have hn' : (1048576 : Int) < d1.length := by omega
    go_enter Try.func8, Try.ntmps8
    go_wp2_with fail
    go_ret
    exact ⟨rfl, Below.refl _ _⟩
  have hq1 : (d1.length : Int) ≤ 1048576 := by omega
  rcases Nat.lt_or_ge 1048576 d0.length with hn0 | hn0
  · have hn' : (1048576 : Int) < d0.length := by omega
    go_enter Try.func8, Try.ntmps8
    go_wp2_with fail
    refine (szJobS_any _ d0 _ _ (hr0.more (by omega)) (by omega) (by omega) hm0).mono ?_; rintro e w1 ⟨rfl, hb1⟩
    rw [if_pos (by omega)]
    go_wp2_with fail
    go_ret
    exact ⟨rfl, t0.trans (hb1.mono (by omega))⟩
  have hq0 : (d0.length : Int) ≤ 1048576 := by omega
  have hlen := defOf_len d0 d1
  obtain ⟨X, b, hX⟩ : ∃ X b, (X, b) = defOf d0 d1 := ⟨_, _, rfl⟩
  rw [← hX] at hlen
  simp only at hlen
  have HI : Hid (∀ v0 v1 w, RJbS w w.heap.size v0 d0 → RI w w.heap.size v1 d1 → Calls Try.prog 29 #[v0, v1] w (RetLB 3 w X b)) := by
    show ∀ v0 v1 w, RJbS w w.heap.size v0 d0 → RI w w.heap.size v1 d1 → Calls Try.prog 29 #[v0, v1] w (RetLB 3 w X b)
    intro v0 v1 w q0 q1
    have h5 := implDeficitStarts_any v0 v1 d0 d1 w q0 q1 hn0 hn1
    rw [← hX] at h5
    exact h5
  have HS : Hid (∀ v0 v1 w, RJbS w w.heap.size v0 d0 → RI w w.heap.size v1 d1 → Calls Try.prog 28 #[v0, v1] w (RetLB 3 w X b)) := by
    show ∀ v0 v1 w, RJbS w w.heap.size v0 d0 → RI w w.heap.size v1 d1 → Calls Try.prog 28 #[v0, v1] w (RetLB 3 w X b)
    intro v0 v1 w q0 q1
    have h5 := specDeficitStarts_any v0 v1 d0 d1 w q0 q1 hn0 hn1
    rw [← hX] at h5
    exact h5
  clear hX
  have hlen' : ((X.length : Nat) : Int) ≤ 1048576 := by omega
  go_enter Try.func8, Try.ntmps8
  go_wp2_with fail
  refine (szJobS_any _ d0 _ _ (hr0.more (by omega)) (by omega) (by omega) hm0).mono ?_; rintro e w1 ⟨rfl, hb1⟩
  have s1_ := hb1.size
  have t1 := t0.trans (hb1.mono (by omega))
  have f1 := hr0.step hb1 (by omega)
  clear hr0
  have f2 := hr1.step hb1 (by omega)
  clear hr1
  rw [if_neg (by omega)]
  go_wp2_with fail
  refine (toJobS_any _ _ _ (f1.more (by omega)) hn0).mono ?_; rintro e w2 ⟨u_p0, rfl, o_p0, hb2⟩
  have s2_ := hb2.size
  have t2 := t1.trans (hb2.mono (by omega))
  have f3 := f1.step hb2 (by omega)
  clear f1
  have f4 := f2.step hb2 (by omega)
  clear f2
  go_wp2_with fail
  refine (toIntS_any _ _ _ (f4.more (by omega)) hn1).mono ?_; rintro e w3 ⟨u_p1, rfl, o_p1, hb3⟩
  have s3_ := hb3.size
  have t3 := t2.trans (hb3.mono (by omega))
  have f5 := f3.step hb3 (by omega)
  clear f3
  have f6 := f4.step hb3 (by omega)
  clear f4
  have f7 := o_p0.step hb3
  clear o_p0
  go_wp2_with fail
  refine (HS.out _ _ _ (f7.rk.more (by omega)) (o_p1.ri.more (by omega))).mono ?_; rintro e w4 ⟨u_v0, rfl, o_v0, hb4⟩
  have s4_ := hb4.size
  have t4 := t3.trans (hb4.mono (by omega))
  have f8 := f5.step hb4 (by omega)
  clear f5
  have f9 := f6.step hb4 (by omega)
  clear f6
  have f10 := f7.step hb4
  clear f7
  have f11 := o_p1.step hb4
  clear o_p1
  go_wp2_with fail
  refine (toJobS_any _ _ _ (f8.more (by omega)) hn0).mono ?_; rintro e w5 ⟨u_x0_, rfl, o_x0_, hb5⟩
  have s5_ := hb5.size
  have t5 := t4.trans (hb5.mono (by omega))
  have f12 := f8.step hb5 (by omega)
  clear f8
  have f13 := f9.step hb5 (by omega)
  clear f9
  have f14 := o_v0.step hb5
  clear o_v0
  go_wp2_with fail
  refine (toIntS_any _ _ _ (f13.more (by omega)) hn1).mono ?_; rintro e w6 ⟨u_x1_, rfl, o_x1_, hb6⟩
  have s6_ := hb6.size
  have t6 := t5.trans (hb6.mono (by omega))
  have f15 := f12.step hb6 (by omega)
  clear f12
  have f16 := f13.step hb6 (by omega)
  clear f13
  have f17 := f14.step hb6
  clear f14
  have f18 := o_x0_.step hb6
  clear o_x0_
  go_wp2_with fail
  refine (HI.out _ _ _ (f18.rk.more (by omega)) (o_x1_.ri.more (by omega))).mono ?_; rintro e w7 ⟨u_g0, rfl, o_g0, hb7⟩
  have s7_ := hb7.size
  have t7 := t6.trans (hb7.mono (by omega))
  have f19 := f15.step hb7 (by omega)
  clear f15
  have f20 := f16.step hb7 (by omega)
  clear f16
  have f21 := f17.step hb7
  clear f17
  have f22 := f18.step hb7
  clear f18
  have f23 := o_x1_.step hb7
  clear o_x1_
  go_wp2_with fail
  refine (eqIntS_same _ _ _ _ (o_g0.ri.more (by omega)) (f21.ri.more (by omega)) hlen).mono ?_; rintro e w8 ⟨rfl, hb8⟩
  have s8_ := hb8.size
  have t8 := t7.trans (hb8.mono (by omega))
  have f24 := f19.step hb8 (by omega)
  clear f19
  have f25 := f20.step hb8 (by omega)
  clear f20
  have f26 := f21.step hb8
  clear f21
  have f27 := f22.step hb8
  clear f22
  have f28 := f23.step hb8
  clear f23
  have f29 := o_g0.step hb8
  clear o_g0
  go_wp2_with fail
  refine (toJobS_any _ _ _ (f24.more (by omega)) hn0).mono ?_; rintro e w9 ⟨u_y, rfl, o_y, hb9⟩
  have s9_ := hb9.size
  have t9 := t8.trans (hb9.mono (by omega))
  have f30 := f24.step hb9 (by omega)
  clear f24
  have f31 := f25.step hb9 (by omega)
  clear f25
  have f32 := f26.step hb9
  clear f26
  have f33 := f27.step hb9
  clear f27
  have f34 := f28.step hb9
  clear f28
  have f35 := f29.step hb9
  clear f29
  go_wp2_with fail
  refine (eqJobS_same _ _ _ _ (f33.rk.more (by omega)) (o_y.rk.more (by omega)) hn0).mono ?_; rintro e w10 ⟨rfl, hb10⟩
  have s10_ := hb10.size
  have t10 := t9.trans (hb10.mono (by omega))
  have f36 := f30.step hb10 (by omega)
  clear f30
  have f37 := f31.step hb10 (by omega)
  clear f31
  have f38 := f32.step hb10
  clear f32
  have f39 := f33.step hb10
  clear f33
  have f40 := f34.step hb10
  clear f34
  have f41 := f35.step hb10
  clear f35
  have f42 := o_y.step hb10
  clear o_y
  go_wp2_with fail
  refine (toIntS_any _ _ _ (f37.more (by omega)) hn1).mono ?_; rintro e w11 ⟨u_y, rfl, o_y, hb11⟩
  have s11_ := hb11.size
  have t11 := t10.trans (hb11.mono (by omega))
  have f43 := f36.step hb11 (by omega)
  clear f36
  have f44 := f37.step hb11 (by omega)
  clear f37
  have f45 := f38.step hb11
  clear f38
  have f46 := f39.step hb11
  clear f39
  have f47 := f40.step hb11
  clear f40
  have f48 := f41.step hb11
  clear f41
  go_wp2_with fail
  refine (eqIntS_same _ _ _ _ (f47.ri.more (by omega)) (o_y.ri.more (by omega)) hn1).mono ?_; rintro e w12 ⟨rfl, hb12⟩
  have s12_ := hb12.size
  have t12 := t11.trans (hb12.mono (by omega))
  have f49 := f43.step hb12 (by omega)
  clear f43
  have f50 := f44.step hb12 (by omega)
  clear f44
  have f51 := f45.step hb12
  clear f45
  have f52 := f46.step hb12
  clear f46
  have f53 := f47.step hb12
  clear f47
  have f54 := f48.step hb12
  clear f48
  have f55 := o_y.step hb12
  clear o_y
  go_wp2_with fail
  refine (markJobS_any _ _ _ _ _ _ f52 hn0 (by omega) (by omega)).mono ?_; rintro e w13 ⟨rfl, mx0, hg13⟩
  have s13_ := hg13.size
  have t13 := t12.trans (hg13.below (by omega) (by omega))
  have f56 := f49.far hg13 (by omega) (by omega)
  clear f49
  have f57 := f50.far hg13 (by omega) (by omega)
  clear f50
  have f58 := f51.far hg13 (by omega)
  clear f51
  have f59 := f53.far hg13 (by omega)
  clear f53
  have f60 := f54.far hg13 (by omega)
  clear f54
  go_wp2_with fail
  refine (markIntS_any _ _ _ _ _ _ f59 hn1 (by omega) (by omega)).mono ?_; rintro e w14 ⟨rfl, mx1, hg14⟩
  have s14_ := hg14.size
  have t14 := t13.trans (hg14.below (by omega) (by omega))
  have f61 := f56.far hg14 (by omega) (by omega)
  clear f56
  have f62 := f57.far hg14 (by omega) (by omega)
  clear f57
  have f63 := f58.far hg14 (by omega)
  clear f58
  have f64 := f60.far hg14 (by omega)
  clear f60
  go_wp2_with fail
  refine (eqIntS_same _ _ _ _ (f64.ri.more (by omega)) (f63.ri.more (by omega)) hlen).mono ?_; rintro e w15 ⟨rfl, hb15⟩
  have s15_ := hb15.size
  have t15 := t14.trans (hb15.mono (by omega))
  have f65 := f61.step hb15 (by omega)
  clear f61
  have f66 := f62.step hb15 (by omega)
  clear f62
  have f67 := f63.step hb15
  clear f63
  have f68 := f64.step hb15
  clear f64
  go_wp2_with fail
  refine (markIntS_any _ _ _ _ _ _ f68 hlen (by omega) (by omega)).mono ?_; rintro e w16 ⟨rfl, mg, hg16⟩
  have s16_ := hg16.size
  have t16 := t15.trans (hg16.below (by omega) (by omega))
  have f69 := f65.far hg16 (by omega) (by omega)
  clear f65
  have f70 := f66.far hg16 (by omega) (by omega)
  clear f66
  have f71 := f67.far hg16 (by omega)
  clear f67
  go_wp2_with fail
  refine (heldIntS_any _ _ _ _ (mg.ri.more (by omega)) hlen (by omega) (by omega)).mono ?_; rintro e w17 ⟨rfl, hb17⟩
  have s17_ := hb17.size
  have t17 := t16.trans (hb17.mono (by omega))
  have f72 := f69.step hb17 (by omega)
  clear f69
  have f73 := f70.step hb17 (by omega)
  clear f70
  have f74 := f71.step hb17
  clear f71
  have f75 := mg.step hb17
  clear mg
  go_wp2_with fail
  refine (toJobS_any _ _ _ (f72.more (by omega)) hn0).mono ?_; rintro e w18 ⟨u_e0, rfl, o_e0, hb18⟩
  have s18_ := hb18.size
  have t18 := t17.trans (hb18.mono (by omega))
  have f76 := f72.step hb18 (by omega)
  clear f72
  have f77 := f73.step hb18 (by omega)
  clear f73
  have f78 := f74.step hb18
  clear f74
  have f79 := f75.step hb18
  clear f75
  go_wp2_with fail
  refine (toIntS_any _ _ _ (f77.more (by omega)) hn1).mono ?_; rintro e w19 ⟨u_e1, rfl, o_e1, hb19⟩
  have s19_ := hb19.size
  have t19 := t18.trans (hb19.mono (by omega))
  have f80 := f76.step hb19 (by omega)
  clear f76
  have f81 := f77.step hb19 (by omega)
  clear f77
  have f82 := f78.step hb19
  clear f78
  have f83 := f79.step hb19
  clear f79
  have f84 := o_e0.step hb19
  clear o_e0
  go_wp2_with fail
  refine (HI.out _ _ _ (f84.rk.more (by omega)) (o_e1.ri.more (by omega))).mono ?_; rintro e w20 ⟨u_h0, rfl, o_h0, hb20⟩
  have s20_ := hb20.size
  have t20 := t19.trans (hb20.mono (by omega))
  have f85 := f80.step hb20 (by omega)
  clear f80
  have f86 := f81.step hb20 (by omega)
  clear f81
  have f87 := f82.step hb20
  clear f82
  have f88 := f83.step hb20
  clear f83
  have f89 := f84.step hb20
  clear f84
  have f90 := o_e1.step hb20
  clear o_e1
  go_wp2_with fail
  refine (eqIntS_same _ _ _ _ (o_h0.ri.more (by omega)) (f87.ri.more (by omega)) hlen).mono ?_; rintro e w21 ⟨rfl, hb21⟩
  have s21_ := hb21.size
  have t21 := t20.trans (hb21.mono (by omega))
  have f91 := f85.step hb21 (by omega)
  clear f85
  have f92 := f86.step hb21 (by omega)
  clear f86
  have f93 := f87.step hb21
  clear f87
  have f94 := f88.step hb21
  clear f88
  have f95 := o_h0.step hb21
  clear o_h0
  go_wp2_with fail
  refine (heldIntS_any _ _ _ _ (f94.ri.more (by omega)) hlen (by omega) (by omega)).mono ?_; rintro e w22 ⟨rfl, hb22⟩
  have s22_ := hb22.size
  have t22 := t21.trans (hb22.mono (by omega))
  have f96 := f91.step hb22 (by omega)
  clear f91
  have f97 := f92.step hb22 (by omega)
  clear f92
  have f98 := f93.step hb22
  clear f93
  have f99 := f94.step hb22
  clear f94
  have f100 := f95.step hb22
  clear f95
  go_wp2_with fail
  go_ret
  exact ⟨rfl, t22⟩

set_option maxRecDepth 100000 in
theorem lifted (os : Os) (started : os.Started) (H : Type) (enc : TypeId × Value → H) :
    ReturnsInHanded {} Try.checked os 8 .any (Rows.fnExactDeficitStartsSpec.pre6 enc Try.prog Try.f8 Rows.fnExactDeficitStartsRow.domain false) (Rows.fnExactDeficitStartsSpec.post enc Try.prog Try.f8 false true false false) := by
  refine returnsInHanded_of_change (C := Try.checked) own started (by kernel_rfl) Try.func8
    (ChangeSpec.witness6 (enc := enc) (C := Try.checked) false ⟨#[], #[.slice none 0 0, .slice none 0 0], []⟩ 8 (by kernel_rfl) (by kernel_rfl) (by kernel_rfl) (by kernel_rfl)) ?_
  intro W base args ds gs before hval0 hW hcnd _
  have hval : ∀ (j : Nat) t v, Try.f8.params[j]? = some t → args[j]? = some v → Value.okWide Try.prog W .any base t v := hval0
  have hW' := hW
  obtain ⟨p, q, hA0, hV, rfl, hfz, hnd⟩ := hW
  have hA : DataW.TrodAll enc Try.prog W 0 (fun _ => true) true Try.f8.params.toList args.toList ds p := hA0
  rw [Try.params8] at hA hval
  obtain ⟨v0, vs0, d0, ds0, p0, q0, hargs, rfl, rfl, h0, r0⟩ := trodAll_cons hA
  obtain ⟨v1, vs1, d1, ds1, p1, q1, rfl, rfl, rfl, h1, r1⟩ := trodAll_cons r0
  obtain ⟨rfl, rfl, rfl⟩ := trodAll_nil r1
  obtain rfl : args = #[v0, v1] := by cases args; simp_all
  obtain ⟨rfl, rfl⟩ := trodVars_none hV
  have k0 := h0
  have lt0 : ∀ x ∈ p0, x.block < W.heap.size := by obtain ⟨m, hm⟩ := k0; exact DataW.trod_lt m _ _ _ hm
  obtain ⟨aa0, la0, ca0, rfl⟩ := okWide_slice Try.underlying22 (hval 0 22 v0 rfl rfl)
  obtain ⟨fu0, hfu0⟩ := h0
  obtain ⟨l0, n0, w0, _⟩ := open_JobS hfu0
  obtain ⟨a1, len1, cap1, rfl⟩ := okWide_slice Try.underlying29 (hval 1 29 v1 rfl rfl)
  have k1 := h1
  have lt1 : ∀ x ∈ p1, x.block < W.heap.size := by obtain ⟨m, hm⟩ := k1; exact DataW.trod_lt m _ _ _ hm
  obtain ⟨l1, n1, w1⟩ : ∃ l, len1 = List.length l ∧ RI W W.heap.size (.slice a1 len1 cap1) l ∧ (∀ x ∈ l, (Lit.int .i64 x).wf = true) ∧ cap1 ≤ maxLen := by
    obtain ⟨fuel, hf⟩ := h1
    rcases open_ints Try.underlying29 Try.underlying3 (by kernel_rfl) hf with ⟨hcs, _⟩ | ⟨x, l, c, zs, hcs, _, hl, hm, hz, _, hcell, hwz⟩
    · simp [Value.cells] at hcs
      obtain ⟨rfl, rfl, rfl⟩ := hcs
      exact ⟨[], rfl, ⟨none, 0, rfl, ⟨by simp, by simp, fun _ => rfl⟩, fun h => absurd h (by simp)⟩, by simp, by simp⟩
    · simp [Value.cells] at hcs
      obtain ⟨rfl, rfl, rfl⟩ := hcs
      have hz' : zs.length = cap1 := by simpa using hz
      exact ⟨zs.take len1, by simp; omega, ri_of_cells (by omega) hz' hm hcell, fun x hx => hwz x (List.mem_of_mem_take hx), hm⟩
  subst n1
  clear hA0 hval0
  refine (walk _ l0 _ l1 W n0 w0 w1.1 (by obtain ⟨_, _, _, ⟨q1_, q2_, _⟩, _⟩ := w1.1; omega)).mono fun e W' ⟨he, bel⟩ => ?_
  subst he
  exact ⟨_, rfl, _, _, _, [], _, [], hW', trodAll_mk1 (shut_bool Try.underlying4 _), (trodAll_cons_mk (Below.trod laidOut (by kernel_rfl) (of_decide_eq_true (by kernel_rfl)) k0 bel lt0) (trodAll_cons_mk (Below.trod laidOut (by kernel_rfl) (of_decide_eq_true (by kernel_rfl)) k1 bel lt1) trodAll_mk0)), rfl, bel.frame _, fun h => by cases h⟩

theorem closed : joinedFacts Try.pinned.checked.prog 8 Try.f8 Rows.fnExactDeficitStartsSpec Rows.fnExactDeficitStartsRow = true := by
  unfold joinedFacts
  repeat' (with_reducible refine and_t ?_ ?_)
  all_goals first
    | (with_reducible exact init_mayEnter)
    | (with_reducible refine init_lifted ?_; as_aux_lemma => kernel_rfl)
    | (with_reducible refine init_mk ?_; as_aux_lemma => kernel_rfl)
    | (as_aux_lemma => kernel_rfl)

theorem over : Rows.fnExactDeficitStartsRow.holds Try.pinned (OpenSpec.ofChange Rows.fnExactDeficitStartsSpec) :=
  OpenClaim.holds_of_wide 8 Try.f8 rfl rfl rfl rfl rfl rfl rfl ⟨rfl, rfl, rfl, rfl, rfl⟩ rfl rfl rfl rfl rfl (by kernel_rfl) Try.func8 closed
    (of_decide_eq_true (by kernel_rfl)) (by unfold Func.isWrapper; first | (rw [if_pos (by decide +kernel)]; kernel_rfl) | (rw [if_neg (by decide +kernel)]; exact ⟨rfl, rfl⟩))
    (fun os started H enc _ => lifted os started H enc)

/-- The given statement. -/
theorem proved : Rows.FnExactDeficitStartsSaid := over

end Go.Proofs.Ytpencgbhiheiiaa.lawDeficitStarts
