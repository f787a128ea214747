/-
  AddTraffic answers as its model at every argument, writes into no argument, and its answer owns its memory. No condition.
-/
import Derived.Test.YtnlepkeojnnjiaaShF
import Derived.Test.YtnlepkeojnnjiaaFrame
import Derived.Deep.RegionWith
import Derived.Deep.DeepCutAuto
import Derived.Lib.SmallJoins
namespace Go.Proofs.Ytnlepkeojnnjiaa.lawAddTraffic
open Go.RowKit Go.ChangeShapes Go.WideShapes Go.ChangeAt
set_option maxRecDepth 100000
set_option linter.unusedVariables false

set_option maxHeartbeats 4000000 in
theorem walk (a0 : Option Addr) (n0 c0 : Nat) (d0 : List Int) (a1 : Option Addr) (n1 c1 : Nat) (d1 : List Int) (w : World) (hnl0 : n0 = d0.length) (h0 : RI w w.heap.size (.slice a0 n0 c0) d0) (hwf0 : ∀ x ∈ d0, (Lit.int .i64 x).wf = true) (hnl1 : n1 = d1.length) (h1 : RI w w.heap.size (.slice a1 n1 c1) d1) (hwf1 : ∀ x ∈ d1, (Lit.int .i64 x).wf = true) :
    Calls Try.prog 10 #[.slice a0 n0 c0, .slice a1 n1 c1] w (RetV w (.bool true)) := by
  subst hnl0
  have hr0 := h0
  subst hnl1
  have hr1 := h1
  have t0 : Below w.heap.size w w := Below.refl _ _
  rcases Nat.lt_or_ge 1048576 d0.length with hn0 | hn0
  · have hn' : (1048576 : Int) < d0.length := by omega
    go_enter Try.func10, Try.ntmps10
    go_wp2
    go_ret
    exact ⟨rfl, Below.refl _ _⟩
  rcases Nat.lt_or_ge 1048576 d1.length with hn1 | hn1
  · have hn' : (1048576 : Int) < d1.length := by omega
    have hq0 : (d0.length : Int) ≤ 1048576 := by omega
    go_enter Try.func10, Try.ntmps10
    go_wp2
    go_ret
    exact ⟨rfl, Below.refl _ _⟩
  have hq0 : (d0.length : Int) ≤ 1048576 := by omega
  have hq1 : (d1.length : Int) ≤ 1048576 := by omega
  have hlen := addSays_len d0 d1
  obtain ⟨X, b, hX⟩ : ∃ X b, (X, b) = addSays d0 d1 := ⟨_, _, rfl⟩
  rw [← hX] at hlen
  simp only at hlen
  have HI : Hid (∀ v0 v1 w, RI w w.heap.size v0 d0 → RI w w.heap.size v1 d1 → Calls Try.prog 35 #[v0, v1] w (RetLB 3 w X b)) := by
    show ∀ v0 v1 w, RI w w.heap.size v0 d0 → RI w w.heap.size v1 d1 → Calls Try.prog 35 #[v0, v1] w (RetLB 3 w X b)
    intro v0 v1 w q0 q1
    have h5 := implAddTraffic_any v0 v1 d0 d1 w q0 q1 hn0 hn1
    rw [← hX] at h5
    exact h5
  have HS : Hid (∀ v0 v1 w, RI w w.heap.size v0 d0 → RI w w.heap.size v1 d1 → Calls Try.prog 34 #[v0, v1] w (RetLB 3 w X b)) := by
    show ∀ v0 v1 w, RI w w.heap.size v0 d0 → RI w w.heap.size v1 d1 → Calls Try.prog 34 #[v0, v1] w (RetLB 3 w X b)
    intro v0 v1 w q0 q1
    have h5 := specAddTraffic_any v0 v1 d0 d1 w q0 q1 hn0 hn1
    rw [← hX] at h5
    exact h5
  clear hX
  have hlen' : (((X).length : Nat) : Int) ≤ 1048576 := by omega
  go_enter Try.func10, Try.ntmps10
  go_wp2_with fail
  refine (toIntS_any _ _ _ (hr0.more (by omega)) hn0).mono ?_; rintro e w1 ⟨p0, rfl, o_p0, hb1⟩
  have s1_ := hb1.size
  have t1 := t0.trans (hb1.mono (by omega))
  have f1 := hr0.step hb1 (by omega)
  clear hr0
  have f2 := hr1.step hb1 (by omega)
  clear hr1
  go_wp2_with fail
  refine (toIntS_any _ _ _ (f2.more (by omega)) hn1).mono ?_; rintro e w2 ⟨p1, rfl, o_p1, hb2⟩
  have s2_ := hb2.size
  have t2 := t1.trans (hb2.mono (by omega))
  have f3 := f1.step hb2 (by omega)
  clear f1
  have f4 := f2.step hb2 (by omega)
  clear f2
  have f5 := o_p0.step hb2
  clear o_p0
  go_wp2_with fail
  refine (HS.out _ _ _ (f5.ri.more (by omega)) (o_p1.ri.more (by omega))).mono ?_; rintro e w3 ⟨v0, rfl, o_v0, hb3⟩
  have s3_ := hb3.size
  have t3 := t2.trans (hb3.mono (by omega))
  have f6 := f3.step hb3 (by omega)
  clear f3
  have f7 := f4.step hb3 (by omega)
  clear f4
  have f8 := f5.step hb3
  clear f5
  have f9 := o_p1.step hb3
  clear o_p1
  go_wp2_with fail
  refine (toIntS_any _ _ _ (f6.more (by omega)) hn0).mono ?_; rintro e w4 ⟨x0_, rfl, o_x0_, hb4⟩
  have s4_ := hb4.size
  have t4 := t3.trans (hb4.mono (by omega))
  have f10 := f6.step hb4 (by omega)
  clear f6
  have f11 := f7.step hb4 (by omega)
  clear f7
  have f12 := o_v0.step hb4
  clear o_v0
  go_wp2_with fail
  refine (toIntS_any _ _ _ (f11.more (by omega)) hn1).mono ?_; rintro e w5 ⟨x1_, rfl, o_x1_, hb5⟩
  have s5_ := hb5.size
  have t5 := t4.trans (hb5.mono (by omega))
  have f13 := f10.step hb5 (by omega)
  clear f10
  have f14 := f11.step hb5 (by omega)
  clear f11
  have f15 := f12.step hb5
  clear f12
  have f16 := o_x0_.step hb5
  clear o_x0_
  go_wp2_with fail
  refine (HI.out _ _ _ (f16.ri.more (by omega)) (o_x1_.ri.more (by omega))).mono ?_; rintro e w6 ⟨g0, rfl, o_g0, hb6⟩
  have s6_ := hb6.size
  have t6 := t5.trans (hb6.mono (by omega))
  have f17 := f13.step hb6 (by omega)
  clear f13
  have f18 := f14.step hb6 (by omega)
  clear f14
  have f19 := f15.step hb6
  clear f15
  have f20 := f16.step hb6
  clear f16
  have f21 := o_x1_.step hb6
  clear o_x1_
  go_wp2_with fail
  refine (eqIntS_same _ _ _ _ (o_g0.ri.more (by omega)) (f19.ri.more (by omega)) hlen).mono ?_; rintro e w7 ⟨rfl, hb7⟩
  have s7_ := hb7.size
  have t7 := t6.trans (hb7.mono (by omega))
  have f22 := f17.step hb7 (by omega)
  clear f17
  have f23 := f18.step hb7 (by omega)
  clear f18
  have f24 := f19.step hb7
  clear f19
  have f25 := f20.step hb7
  clear f20
  have f26 := f21.step hb7
  clear f21
  have f27 := o_g0.step hb7
  clear o_g0
  go_wp2_with fail
  refine (toIntS_any _ _ _ (f22.more (by omega)) hn0).mono ?_; rintro e w8 ⟨y, rfl, o_y, hb8⟩
  have s8_ := hb8.size
  have t8 := t7.trans (hb8.mono (by omega))
  have f28 := f22.step hb8 (by omega)
  clear f22
  have f29 := f23.step hb8 (by omega)
  clear f23
  have f30 := f24.step hb8
  clear f24
  have f31 := f25.step hb8
  clear f25
  have f32 := f26.step hb8
  clear f26
  have f33 := f27.step hb8
  clear f27
  go_wp2_with fail
  refine (eqIntS_same _ _ _ _ (f31.ri.more (by omega)) (o_y.ri.more (by omega)) hn0).mono ?_; rintro e w9 ⟨rfl, hb9⟩
  have s9_ := hb9.size
  have t9 := t8.trans (hb9.mono (by omega))
  have f34 := f28.step hb9 (by omega)
  clear f28
  have f35 := f29.step hb9 (by omega)
  clear f29
  have f36 := f30.step hb9
  clear f30
  have f37 := f31.step hb9
  clear f31
  have f38 := f32.step hb9
  clear f32
  have f39 := f33.step hb9
  clear f33
  have f40 := o_y.step hb9
  clear o_y
  go_wp2_with fail
  refine (toIntS_any _ _ _ (f35.more (by omega)) hn1).mono ?_; rintro e w10 ⟨y, rfl, o_y, hb10⟩
  have s10_ := hb10.size
  have t10 := t9.trans (hb10.mono (by omega))
  have f41 := f34.step hb10 (by omega)
  clear f34
  have f42 := f35.step hb10 (by omega)
  clear f35
  have f43 := f36.step hb10
  clear f36
  have f44 := f37.step hb10
  clear f37
  have f45 := f38.step hb10
  clear f38
  have f46 := f39.step hb10
  clear f39
  go_wp2_with fail
  refine (eqIntS_same _ _ _ _ (f45.ri.more (by omega)) (o_y.ri.more (by omega)) hn1).mono ?_; rintro e w11 ⟨rfl, hb11⟩
  have s11_ := hb11.size
  have t11 := t10.trans (hb11.mono (by omega))
  have f47 := f41.step hb11 (by omega)
  clear f41
  have f48 := f42.step hb11 (by omega)
  clear f42
  have f49 := f43.step hb11
  clear f43
  have f50 := f44.step hb11
  clear f44
  have f51 := f45.step hb11
  clear f45
  have f52 := f46.step hb11
  clear f46
  have f53 := o_y.step hb11
  clear o_y
  go_wp2_with fail
  refine (markIntS_any _ _ _ _ _ _ f50 hn0 (by omega) (by omega)).mono ?_; rintro e w12 ⟨rfl, mx0, hg12⟩
  have s12_ := hg12.size
  have t12 := t11.trans (hg12.below (by omega) (by omega))
  have f54 := f47.far hg12 (by omega) (by omega)
  clear f47
  have f55 := f48.far hg12 (by omega) (by omega)
  clear f48
  have f56 := f49.far hg12 (by omega)
  clear f49
  have f57 := f51.far hg12 (by omega)
  clear f51
  have f58 := f52.far hg12 (by omega)
  clear f52
  go_wp2_with fail
  refine (markIntS_any _ _ _ _ _ _ f57 hn1 (by omega) (by omega)).mono ?_; rintro e w13 ⟨rfl, mx1, hg13⟩
  have s13_ := hg13.size
  have t13 := t12.trans (hg13.below (by omega) (by omega))
  have f59 := f54.far hg13 (by omega) (by omega)
  clear f54
  have f60 := f55.far hg13 (by omega) (by omega)
  clear f55
  have f61 := f56.far hg13 (by omega)
  clear f56
  have f62 := f58.far hg13 (by omega)
  clear f58
  go_wp2_with fail
  refine (eqIntS_same _ _ _ _ (f62.ri.more (by omega)) (f61.ri.more (by omega)) hlen).mono ?_; rintro e w14 ⟨rfl, hb14⟩
  have s14_ := hb14.size
  have t14 := t13.trans (hb14.mono (by omega))
  have f63 := f59.step hb14 (by omega)
  clear f59
  have f64 := f60.step hb14 (by omega)
  clear f60
  have f65 := f61.step hb14
  clear f61
  have f66 := f62.step hb14
  clear f62
  go_wp2_with fail
  refine (markIntS_any _ _ _ _ _ _ f66 hlen (by omega) (by omega)).mono ?_; rintro e w15 ⟨rfl, mg, hg15⟩
  have s15_ := hg15.size
  have t15 := t14.trans (hg15.below (by omega) (by omega))
  have f67 := f63.far hg15 (by omega) (by omega)
  clear f63
  have f68 := f64.far hg15 (by omega) (by omega)
  clear f64
  have f69 := f65.far hg15 (by omega)
  clear f65
  go_wp2_with fail
  refine (heldIntS_any _ _ _ _ (mg.ri.more (by omega)) hlen (by omega) (by omega)).mono ?_; rintro e w16 ⟨rfl, hb16⟩
  have s16_ := hb16.size
  have t16 := t15.trans (hb16.mono (by omega))
  have f70 := f67.step hb16 (by omega)
  clear f67
  have f71 := f68.step hb16 (by omega)
  clear f68
  have f72 := f69.step hb16
  clear f69
  have f73 := mg.step hb16
  clear mg
  go_wp2_with fail
  refine (toIntS_any _ _ _ (f70.more (by omega)) hn0).mono ?_; rintro e w17 ⟨e0, rfl, o_e0, hb17⟩
  have s17_ := hb17.size
  have t17 := t16.trans (hb17.mono (by omega))
  have f74 := f70.step hb17 (by omega)
  clear f70
  have f75 := f71.step hb17 (by omega)
  clear f71
  have f76 := f72.step hb17
  clear f72
  have f77 := f73.step hb17
  clear f73
  go_wp2_with fail
  refine (toIntS_any _ _ _ (f75.more (by omega)) hn1).mono ?_; rintro e w18 ⟨e1, rfl, o_e1, hb18⟩
  have s18_ := hb18.size
  have t18 := t17.trans (hb18.mono (by omega))
  have f78 := f74.step hb18 (by omega)
  clear f74
  have f79 := f75.step hb18 (by omega)
  clear f75
  have f80 := f76.step hb18
  clear f76
  have f81 := f77.step hb18
  clear f77
  have f82 := o_e0.step hb18
  clear o_e0
  go_wp2_with fail
  refine (HI.out _ _ _ (f82.ri.more (by omega)) (o_e1.ri.more (by omega))).mono ?_; rintro e w19 ⟨h0, rfl, o_h0, hb19⟩
  have s19_ := hb19.size
  have t19 := t18.trans (hb19.mono (by omega))
  have f83 := f78.step hb19 (by omega)
  clear f78
  have f84 := f79.step hb19 (by omega)
  clear f79
  have f85 := f80.step hb19
  clear f80
  have f86 := f81.step hb19
  clear f81
  have f87 := f82.step hb19
  clear f82
  have f88 := o_e1.step hb19
  clear o_e1
  go_wp2_with fail
  refine (eqIntS_same _ _ _ _ (o_h0.ri.more (by omega)) (f85.ri.more (by omega)) hlen).mono ?_; rintro e w20 ⟨rfl, hb20⟩
  have s20_ := hb20.size
  have t20 := t19.trans (hb20.mono (by omega))
  have f89 := f83.step hb20 (by omega)
  clear f83
  have f90 := f84.step hb20 (by omega)
  clear f84
  have f91 := f85.step hb20
  clear f85
  have f92 := f86.step hb20
  clear f86
  have f93 := o_h0.step hb20
  clear o_h0
  go_wp2_with fail
  refine (heldIntS_any _ _ _ _ (f92.ri.more (by omega)) hlen (by omega) (by omega)).mono ?_; rintro e w21 ⟨rfl, hb21⟩
  have s21_ := hb21.size
  have t21 := t20.trans (hb21.mono (by omega))
  have f94 := f89.step hb21 (by omega)
  clear f89
  have f95 := f90.step hb21 (by omega)
  clear f90
  have f96 := f91.step hb21
  clear f91
  have f97 := f92.step hb21
  clear f92
  have f98 := f93.step hb21
  clear f93
  go_wp2_with fail
  go_ret
  exact ⟨rfl, t21⟩

set_option maxRecDepth 100000 in
theorem lifted (os : Os) (started : os.Started) (H : Type) (enc : TypeId × Value → H) :
    ReturnsInHanded {} Try.checked os 10 .any (Rows.fnExactAddTrafficSpec.pre6 enc Try.prog Try.f10 Rows.fnExactAddTrafficRow.domain false) (Rows.fnExactAddTrafficSpec.post enc Try.prog Try.f10 false true false false) := by
  refine returnsInHanded_of_change (C := Try.checked) own started (by kernel_rfl) Try.func10
    (ChangeSpec.witness6 (enc := enc) (C := Try.checked) false ⟨#[], #[.slice none 0 0, .slice none 0 0], []⟩ 8 (by kernel_rfl) (by kernel_rfl) (by kernel_rfl) (by kernel_rfl)) ?_
  intro W base args ds gs before hval0 hW hcnd _
  have hval : ∀ (j : Nat) t v, Try.f10.params[j]? = some t → args[j]? = some v → Value.okWide Try.prog W .any base t v := hval0
  have hW' := hW
  obtain ⟨p, q, hA0, hV, rfl, hfz, hnd⟩ := hW
  have hA : DataW.TrodAll enc Try.prog W 0 (fun _ => true) true Try.f10.params.toList args.toList ds p := hA0
  rw [Try.params10] at hA hval
  obtain ⟨v0, vs0, d0, ds0, p0, q0, hargs, rfl, rfl, h0, r0⟩ := trodAll_cons hA
  obtain ⟨v1, vs1, d1, ds1, p1, q1, rfl, rfl, rfl, h1, r1⟩ := trodAll_cons r0
  obtain ⟨rfl, rfl, rfl⟩ := trodAll_nil r1
  obtain rfl : args = #[v0, v1] := by cases args; simp_all
  obtain ⟨rfl, rfl⟩ := trodVars_none hV
  obtain ⟨a0, len0, cap0, rfl⟩ := okWide_slice Try.underlying28 (hval 0 28 v0 rfl rfl)
  have k0 := h0
  have lt0 : ∀ x ∈ p0, x.block < W.heap.size := by obtain ⟨m, hm⟩ := k0; exact DataW.trod_lt m _ _ _ hm
  obtain ⟨l0, n0, w0⟩ : ∃ l, len0 = List.length l ∧ RI W W.heap.size (.slice a0 len0 cap0) l ∧ (∀ x ∈ l, (Lit.int .i64 x).wf = true) ∧ cap0 ≤ maxLen := by
    obtain ⟨fuel, hf⟩ := h0
    rcases open_ints Try.underlying28 Try.underlying3 (by kernel_rfl) hf with ⟨hcs, _⟩ | ⟨x, l, c, zs, hcs, _, hl, hm, hz, _, hcell, hwz⟩
    · simp [Value.cells] at hcs
      obtain ⟨rfl, rfl, rfl⟩ := hcs
      exact ⟨[], rfl, ⟨none, 0, rfl, ⟨by simp, by simp, fun _ => rfl⟩, fun h => absurd h (by simp)⟩, by simp, by simp⟩
    · simp [Value.cells] at hcs
      obtain ⟨rfl, rfl, rfl⟩ := hcs
      have hz' : zs.length = cap0 := by simpa using hz
      exact ⟨zs.take len0, by simp; omega, ri_of_cells (by omega) hz' hm hcell, fun x hx => hwz x (List.mem_of_mem_take hx), hm⟩
  obtain ⟨a1, len1, cap1, rfl⟩ := okWide_slice Try.underlying28 (hval 1 28 v1 rfl rfl)
  have k1 := h1
  have lt1 : ∀ x ∈ p1, x.block < W.heap.size := by obtain ⟨m, hm⟩ := k1; exact DataW.trod_lt m _ _ _ hm
  obtain ⟨l1, n1, w1⟩ : ∃ l, len1 = List.length l ∧ RI W W.heap.size (.slice a1 len1 cap1) l ∧ (∀ x ∈ l, (Lit.int .i64 x).wf = true) ∧ cap1 ≤ maxLen := by
    obtain ⟨fuel, hf⟩ := h1
    rcases open_ints Try.underlying28 Try.underlying3 (by kernel_rfl) hf with ⟨hcs, _⟩ | ⟨x, l, c, zs, hcs, _, hl, hm, hz, _, hcell, hwz⟩
    · simp [Value.cells] at hcs
      obtain ⟨rfl, rfl, rfl⟩ := hcs
      exact ⟨[], rfl, ⟨none, 0, rfl, ⟨by simp, by simp, fun _ => rfl⟩, fun h => absurd h (by simp)⟩, by simp, by simp⟩
    · simp [Value.cells] at hcs
      obtain ⟨rfl, rfl, rfl⟩ := hcs
      have hz' : zs.length = cap1 := by simpa using hz
      exact ⟨zs.take len1, by simp; omega, ri_of_cells (by omega) hz' hm hcell, fun x hx => hwz x (List.mem_of_mem_take hx), hm⟩
  clear hA0 hval0
  refine (walk a0 len0 cap0 l0 a1 len1 cap1 l1 W n0 w0.1 w0.2.1 n1 w1.1 w1.2.1).mono fun e W' ⟨he, bel⟩ => ?_
  subst he
  exact ⟨_, rfl, _, _, _, [], _, [], hW', trodAll_mk1 (shut_bool Try.underlying4 _), (trodAll_cons_mk (Below.trod laidOut (by kernel_rfl) (of_decide_eq_true (by kernel_rfl)) k0 bel lt0) (trodAll_cons_mk (Below.trod laidOut (by kernel_rfl) (of_decide_eq_true (by kernel_rfl)) k1 bel lt1) trodAll_mk0)), rfl, bel.frame _, fun h => by cases h⟩

theorem closed : joinedFacts Try.pinned.checked.prog 10 Try.f10 Rows.fnExactAddTrafficSpec Rows.fnExactAddTrafficRow = true := by
  unfold joinedFacts
  repeat' (with_reducible refine and_t ?_ ?_)
  all_goals first
    | (with_reducible exact init_mayEnter)
    | (with_reducible refine init_lifted ?_; as_aux_lemma => kernel_rfl)
    | (with_reducible refine init_mk ?_; as_aux_lemma => kernel_rfl)
    | (as_aux_lemma => kernel_rfl)

theorem over : Rows.fnExactAddTrafficRow.holds Try.pinned (OpenSpec.ofChange Rows.fnExactAddTrafficSpec) :=
  OpenClaim.holds_of_wide 10 Try.f10 rfl rfl rfl rfl rfl rfl rfl ⟨rfl, rfl, rfl, rfl, rfl⟩ rfl rfl rfl rfl rfl (by kernel_rfl) Try.func10 closed
    (of_decide_eq_true (by kernel_rfl)) (by unfold Func.isWrapper; first | (rw [if_pos (by decide +kernel)]; kernel_rfl) | (rw [if_neg (by decide +kernel)]; exact ⟨rfl, rfl⟩))
    (fun os started H enc _ => lifted os started H enc)

/-- The given statement. -/
theorem proved : Rows.FnExactAddTrafficSaid := over

end Go.Proofs.Ytnlepkeojnnjiaa.lawAddTraffic
