/-
  BusyPeriods answers as its model at every argument, writes into no argument, and its answer owns its memory. No condition.
-/
import Derived.Test.YtifdpjfoclibkaaBusy
import Derived.Test.YtifdpjfoclibkaaFJob
import Derived.Test.YtifdpjfoclibkaaFrame
import Derived.Deep.RegionWith
import Derived.Deep.DeepCutAuto
import Derived.Lib.SmallJoins
import Derived.Deep.Slices
import Derived.Deep.Fields
import Derived.ChangeSame
namespace Go.Proofs.Ytifdpjfoclibkaa.lawBusyPeriods
open Go.RowKit Go.ChangeShapes Go.WideShapes Go.ChangeAt
set_option maxRecDepth 100000
set_option linter.unusedVariables false

set_option maxHeartbeats 4000000 in
theorem walk (s0 : Value) (d0 : List Jb) (w : World) (h0 : RJbS w w.heap.size s0 d0) (hm0 : d0.length ≤ maxLen) :
    Calls Try.prog 8 #[s0] w (RetV w (.bool true)) := by
  have hr0 := h0
  obtain ⟨a0, c0, rfl, _, _, _⟩ := h0
  have t0 : Below w.heap.size w w := Below.refl _ _
  rcases Nat.lt_or_ge 1048576 d0.length with hn0 | hn0
  · have hn' : (1048576 : Int) < d0.length := by omega
    go_enter Try.func8, Try.ntmps8
    go_wp2_with fail
    refine (szJobS_any _ d0 _ _ (hr0.more (by omega)) (by omega) (by omega) hm0).mono ?_; rintro e w1 ⟨rfl, hb1⟩
    rw [if_pos (by omega)]
    go_wp2_with fail
    go_ret
    exact ⟨rfl, t0.trans (hb1.mono (by omega))⟩
  have hq0 : (d0.length : Int) ≤ 1048576 := by omega
  have hlen := busyOf_len d0
  obtain ⟨X, b, hX⟩ : ∃ X b, (X, b) = busyOf d0 := ⟨_, _, rfl⟩
  rw [← hX] at hlen
  simp only at hlen
  have HI : Hid (∀ v0 w, RJbS w w.heap.size v0 d0 → Calls Try.prog 30 #[v0] w (RetSB w X b)) := by
    show ∀ v0 w, RJbS w w.heap.size v0 d0 → Calls Try.prog 30 #[v0] w (RetSB w X b)
    intro v0 w q0
    have h5 := implBusyPeriods_any v0 d0 w q0 hn0
    rw [← hX] at h5
    exact h5
  have HS : Hid (∀ v0 w, RJbS w w.heap.size v0 d0 → Calls Try.prog 29 #[v0] w (RetSB w X b)) := by
    show ∀ v0 w, RJbS w w.heap.size v0 d0 → Calls Try.prog 29 #[v0] w (RetSB w X b)
    intro v0 w q0
    have h5 := specBusyPeriods_any v0 d0 w q0 hn0
    rw [← hX] at h5
    exact h5
  clear hX
  have hlen' : ((total X : Nat) : Int) ≤ 1048576 := by omega
  go_enter Try.func8, Try.ntmps8
  go_wp2_with fail
  refine (szJobS_any _ d0 _ _ (hr0.more (by omega)) (by omega) (by omega) hm0).mono ?_; rintro e w1 ⟨rfl, hb1⟩
  have s1_ := hb1.size
  have t1 := t0.trans (hb1.mono (by omega))
  have f1 := hr0.step hb1 (by omega)
  clear hr0
  rw [if_neg (by omega)]
  go_wp2_with fail
  refine (toJobS_any _ _ _ (f1.more (by omega)) hn0).mono ?_; rintro e w2 ⟨u_p0, rfl, o_p0, hb2⟩
  have s2_ := hb2.size
  have t2 := t1.trans (hb2.mono (by omega))
  have f2 := f1.step hb2 (by omega)
  clear f1
  go_wp2_with fail
  refine (HS.out _ _ (o_p0.rk.more (by omega))).mono ?_; rintro e w3 ⟨u_v0, rfl, o_v0, hb3⟩
  have s3_ := hb3.size
  have t3 := t2.trans (hb3.mono (by omega))
  have f3 := f2.step hb3 (by omega)
  clear f2
  have f4 := o_p0.step hb3
  clear o_p0
  go_wp2_with fail
  refine (toJobS_any _ _ _ (f3.more (by omega)) hn0).mono ?_; rintro e w4 ⟨u_x0_, rfl, o_x0_, hb4⟩
  have s4_ := hb4.size
  have t4 := t3.trans (hb4.mono (by omega))
  have f5 := f3.step hb4 (by omega)
  clear f3
  have f6 := o_v0.step hb4
  clear o_v0
  go_wp2_with fail
  refine (HI.out _ _ (o_x0_.rk.more (by omega))).mono ?_; rintro e w5 ⟨u_g0, rfl, o_g0, hb5⟩
  have s5_ := hb5.size
  have t5 := t4.trans (hb5.mono (by omega))
  have f7 := f5.step hb5 (by omega)
  clear f5
  have f8 := f6.step hb5
  clear f6
  have f9 := o_x0_.step hb5
  clear o_x0_
  go_wp2_with fail
  refine (eqIntSS_same _ _ _ _ (o_g0.rd.more (by omega)) (f8.rd.more (by omega)) hlen.1 hlen.2).mono ?_; rintro e w6 ⟨rfl, hb6⟩
  have s6_ := hb6.size
  have t6 := t5.trans (hb6.mono (by omega))
  have f10 := f7.step hb6 (by omega)
  clear f7
  have f11 := f8.step hb6
  clear f8
  have f12 := f9.step hb6
  clear f9
  have f13 := o_g0.step hb6
  clear o_g0
  go_wp2_with fail
  refine (toJobS_any _ _ _ (f10.more (by omega)) hn0).mono ?_; rintro e w7 ⟨u_y, rfl, o_y, hb7⟩
  have s7_ := hb7.size
  have t7 := t6.trans (hb7.mono (by omega))
  have f14 := f10.step hb7 (by omega)
  clear f10
  have f15 := f11.step hb7
  clear f11
  have f16 := f12.step hb7
  clear f12
  have f17 := f13.step hb7
  clear f13
  go_wp2_with fail
  refine (eqJobS_same _ _ _ _ (f16.rk.more (by omega)) (o_y.rk.more (by omega)) hn0).mono ?_; rintro e w8 ⟨rfl, hb8⟩
  have s8_ := hb8.size
  have t8 := t7.trans (hb8.mono (by omega))
  have f18 := f14.step hb8 (by omega)
  clear f14
  have f19 := f15.step hb8
  clear f15
  have f20 := f16.step hb8
  clear f16
  have f21 := f17.step hb8
  clear f17
  have f22 := o_y.step hb8
  clear o_y
  go_wp2_with fail
  refine (markJobS_any _ _ _ _ _ _ f20 hn0 (by omega) (by omega)).mono ?_; rintro e w9 ⟨rfl, mx0, hg9⟩
  have s9_ := hg9.size
  have t9 := t8.trans (hg9.below (by omega) (by omega))
  have f23 := f18.far hg9 (by omega) (by omega)
  clear f18
  have f24 := f19.far hg9 (by omega)
  clear f19
  have f25 := f21.far hg9 (by omega)
  clear f21
  go_wp2_with fail
  refine (eqIntSS_same _ _ _ _ (f25.rd.more (by omega)) (f24.rd.more (by omega)) hlen.1 hlen.2).mono ?_; rintro e w10 ⟨rfl, hb10⟩
  have s10_ := hb10.size
  have t10 := t9.trans (hb10.mono (by omega))
  have f26 := f23.step hb10 (by omega)
  clear f23
  have f27 := f24.step hb10
  clear f24
  have f28 := f25.step hb10
  clear f25
  go_wp2_with fail
  refine (markIntSS_any (by decide) _ _ _ _ _ _ f28 hlen.1 hlen.2 (by omega) (by omega)).mono ?_; rintro e w11 ⟨rfl, mg, hg11⟩
  have s11_ := hg11.size
  have t11 := t10.trans (hg11.below (by omega) (by omega))
  have f29 := f26.far hg11 (by omega) (by omega)
  clear f26
  have f30 := f27.far hg11 (by omega)
  clear f27
  go_wp2_with fail
  refine (heldIntSS_any _ _ _ _ (mg.rd.more (by omega)) hlen.1 hlen.2 (by omega) (by omega)).mono ?_; rintro e w12 ⟨rfl, hb12⟩
  have s12_ := hb12.size
  have t12 := t11.trans (hb12.mono (by omega))
  have f31 := f29.step hb12 (by omega)
  clear f29
  have f32 := f30.step hb12
  clear f30
  have f33 := mg.step hb12
  clear mg
  go_wp2_with fail
  refine (toJobS_any _ _ _ (f31.more (by omega)) hn0).mono ?_; rintro e w13 ⟨u_e0, rfl, o_e0, hb13⟩
  have s13_ := hb13.size
  have t13 := t12.trans (hb13.mono (by omega))
  have f34 := f31.step hb13 (by omega)
  clear f31
  have f35 := f32.step hb13
  clear f32
  have f36 := f33.step hb13
  clear f33
  go_wp2_with fail
  refine (HI.out _ _ (o_e0.rk.more (by omega))).mono ?_; rintro e w14 ⟨u_h0, rfl, o_h0, hb14⟩
  have s14_ := hb14.size
  have t14 := t13.trans (hb14.mono (by omega))
  have f37 := f34.step hb14 (by omega)
  clear f34
  have f38 := f35.step hb14
  clear f35
  have f39 := f36.step hb14
  clear f36
  have f40 := o_e0.step hb14
  clear o_e0
  go_wp2_with fail
  refine (eqIntSS_same _ _ _ _ (o_h0.rd.more (by omega)) (f38.rd.more (by omega)) hlen.1 hlen.2).mono ?_; rintro e w15 ⟨rfl, hb15⟩
  have s15_ := hb15.size
  have t15 := t14.trans (hb15.mono (by omega))
  have f41 := f37.step hb15 (by omega)
  clear f37
  have f42 := f38.step hb15
  clear f38
  have f43 := f39.step hb15
  clear f39
  have f44 := o_h0.step hb15
  clear o_h0
  go_wp2_with fail
  refine (heldIntSS_any _ _ _ _ (f43.rd.more (by omega)) hlen.1 hlen.2 (by omega) (by omega)).mono ?_; rintro e w16 ⟨rfl, hb16⟩
  have s16_ := hb16.size
  have t16 := t15.trans (hb16.mono (by omega))
  have f45 := f41.step hb16 (by omega)
  clear f41
  have f46 := f42.step hb16
  clear f42
  have f47 := f43.step hb16
  clear f43
  have f48 := f44.step hb16
  clear f44
  go_wp2_with fail
  go_ret
  exact ⟨rfl, t16⟩

set_option maxRecDepth 100000 in
theorem lifted (os : Os) (started : os.Started) (H : Type) (enc : TypeId × Value → H) :
    ReturnsInHanded {} Try.checked os 8 .any (Rows.fnExactBusyPeriodsSpec.pre6 enc Try.prog Try.f8 Rows.fnExactBusyPeriodsRow.domain false) (Rows.fnExactBusyPeriodsSpec.post enc Try.prog Try.f8 false true false false) := by
  refine returnsInHanded_of_change (C := Try.checked) own started (by kernel_rfl) Try.func8
    (ChangeSpec.witness6 (enc := enc) (C := Try.checked) false ⟨#[], #[.slice none 0 0], []⟩ 8 (by kernel_rfl) (by kernel_rfl) (by kernel_rfl) (by kernel_rfl)) ?_
  intro W base args ds gs before hval0 hW hcnd _
  have hval : ∀ (j : Nat) t v, Try.f8.params[j]? = some t → args[j]? = some v → Value.okWide Try.prog W .any base t v := hval0
  have hW' := hW
  obtain ⟨p, q, hA0, hV, rfl, hfz, hnd⟩ := hW
  have hA : DataW.TrodAll enc Try.prog W 0 (fun _ => true) true Try.f8.params.toList args.toList ds p := hA0
  rw [Try.params8] at hA hval
  obtain ⟨v0, vs0, d0, ds0, p0, q0, hargs, rfl, rfl, h0, r0⟩ := trodAll_cons hA
  obtain ⟨rfl, rfl, rfl⟩ := trodAll_nil r0
  obtain rfl : args = #[v0] := by cases args; simp_all
  obtain ⟨rfl, rfl⟩ := trodVars_none hV
  have k0 := h0
  have lt0 : ∀ x ∈ p0, x.block < W.heap.size := by obtain ⟨m, hm⟩ := k0; exact DataW.trod_lt m _ _ _ hm
  obtain ⟨aa0, la0, ca0, rfl⟩ := okWide_slice Try.underlying22 (hval 0 22 v0 rfl rfl)
  obtain ⟨fu0, hfu0⟩ := h0
  obtain ⟨l0, n0, w0, _⟩ := open_JobS hfu0
  clear hA0 hval0
  refine (walk _ l0 W n0 w0).mono fun e W' ⟨he, bel⟩ => ?_
  subst he
  exact ⟨_, rfl, _, _, _, [], _, [], hW', trodAll_mk1 (shut_bool Try.underlying4 _), (trodAll_cons_mk (Below.trod laidOut (by kernel_rfl) (of_decide_eq_true (by kernel_rfl)) k0 bel lt0) trodAll_mk0), rfl, bel.frame _, fun h => by cases h⟩

theorem closed : joinedFacts Try.pinned.checked.prog 8 Try.f8 Rows.fnExactBusyPeriodsSpec Rows.fnExactBusyPeriodsRow = true := by
  unfold joinedFacts
  repeat' (with_reducible refine and_t ?_ ?_)
  all_goals first
    | (with_reducible exact init_mayEnter)
    | (with_reducible refine init_lifted ?_; as_aux_lemma => kernel_rfl)
    | (with_reducible refine init_mk ?_; as_aux_lemma => kernel_rfl)
    | (as_aux_lemma => kernel_rfl)

theorem over : Rows.fnExactBusyPeriodsRow.holds Try.pinned (OpenSpec.ofChange Rows.fnExactBusyPeriodsSpec) :=
  OpenClaim.holds_of_wide 8 Try.f8 rfl rfl rfl rfl rfl rfl rfl ⟨rfl, rfl, rfl, rfl, rfl⟩ rfl rfl rfl rfl rfl (by kernel_rfl) Try.func8 closed
    (of_decide_eq_true (by kernel_rfl)) (by unfold Func.isWrapper; first | (rw [if_pos (by decide +kernel)]; kernel_rfl) | (rw [if_neg (by decide +kernel)]; exact ⟨rfl, rfl⟩))
    (fun os started H enc _ => lifted os started H enc)

/-- The given statement. -/
theorem proved : Rows.FnExactBusyPeriodsSaid := over

end Go.Proofs.Ytifdpjfoclibkaa.lawBusyPeriods
