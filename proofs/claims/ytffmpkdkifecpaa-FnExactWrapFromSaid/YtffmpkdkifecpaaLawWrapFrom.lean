/-
  WrapFrom answers as its model at every argument, writes into no argument, and its answer owns its memory. No condition.
-/
import Derived.Test.YtffmpkdkifecpaaWrapJ
import Derived.Test.YtffmpkdkifecpaaSRing
import Derived.Test.YtffmpkdkifecpaaFrame
import Derived.Deep.RegionWith
import Derived.Deep.DeepCutAuto
import Derived.Lib.SmallJoins
namespace Go.Proofs.Ytffmpkdkifecpaa.lawWrapFrom
open Go.RowKit Go.ChangeShapes Go.WideShapes Go.ChangeAt
set_option maxRecDepth 100000
set_option linter.unusedVariables false

set_option maxHeartbeats 4000000 in
theorem walk (z0 : Rg) (s0 : Value) (x1 : Int) (w : World) (h0 : RI w w.heap.size s0 z0.d) (hm0 : z0.d.length ≤ maxLen) (hx1 : (Lit.int .i64 x1).wf = true) :
    Calls Try.prog 5 #[RgV z0 s0, .int .i64 x1] w (RetV w (.bool true)) := by
  obtain ⟨y0k, d0⟩ := z0
  simp only [RgV] at h0 hm0 ⊢
  have hr0 := h0
  obtain ⟨A0, c0, rfl, hlc0, hc0⟩ := h0
  clear hc0
  have t0 : Below w.heap.size w w := Below.refl _ _
  have hB1 := BK.made w 24 #[.int .i64 y0k, .slice A0 d0.length c0]
  have hb0 : Below w.heap.size w (w.alloc (.cells #[.int .i64 y0k, .slice A0 d0.length c0] 24)) := (Below.refl _ _).alloc (Nat.le_refl _) _
  have hf1 : RRg (w.alloc (.cells #[.int .i64 y0k, .slice A0 d0.length c0] 24)) (w.alloc (.cells #[.int .i64 y0k, .slice A0 d0.length c0] 24)).heap.size (RgV ⟨y0k, d0⟩ (.slice A0 d0.length c0)) ⟨y0k, d0⟩ := ⟨_, rfl, (hr0.below hb0).more hb0.size⟩
  by_cases hn : 1048576 < (d0.length : Int)
  · go_enter Try.func5, Try.ntmps5
    go_wp2_with fail
    refine (szRing_any _ ⟨y0k, d0⟩ _ _ hf1 (by omega) (by omega) hm0).mono ?_; rintro e w1 ⟨rfl, hb1⟩
    rw [szLeft_neg (show (1048576 : Int) < (d0.length : Int) by omega)]
    go_wp2_with fail
    go_ret
    exact ⟨rfl, hb0.trans (hb1.mono hb0.size)⟩
  have hn0 : d0.length ≤ 1048576 := by omega
  have hp0 : 0 ≤ 1048576 - (d0.length : Int) := by omega
  have hq0 : (d0.length : Int) ≤ 1048576 := by omega
  have hlen := wrapRg_len ⟨y0k, d0⟩ x1
  obtain ⟨X, b, hX⟩ : ∃ X b, (X, b) = wrapRg ⟨y0k, d0⟩ x1 := ⟨_, _, rfl⟩
  rw [← hX] at hlen
  simp only at hlen
  have HI : Hid (∀ v0 w, RRg w w.heap.size v0 ⟨y0k, d0⟩ → Calls Try.prog 20 #[v0, .int .i64 x1] w (RetLB 3 w X b)) := by
    show ∀ v0 w, RRg w w.heap.size v0 ⟨y0k, d0⟩ → Calls Try.prog 20 #[v0, .int .i64 x1] w (RetLB 3 w X b)
    intro v0 w q0
    have h5 := implWrapFrom_any v0 ⟨y0k, d0⟩ x1 w q0 hn0 hx1
    rw [← hX] at h5
    exact h5
  have HS : Hid (∀ v0 w, RRg w w.heap.size v0 ⟨y0k, d0⟩ → Calls Try.prog 19 #[v0, .int .i64 x1] w (RetLB 3 w X b)) := by
    show ∀ v0 w, RRg w w.heap.size v0 ⟨y0k, d0⟩ → Calls Try.prog 19 #[v0, .int .i64 x1] w (RetLB 3 w X b)
    intro v0 w q0
    have h5 := specWrapFrom_any v0 ⟨y0k, d0⟩ x1 w q0 hn0 hx1
    rw [← hX] at h5
    exact h5
  clear hX
  have hlen' : (((X).length : Nat) : Int) ≤ 1048576 := by omega
  go_enter Try.func5, Try.ntmps5
  go_wp2_with fail
  refine (szRing_any _ ⟨y0k, d0⟩ _ _ hf1 (by omega) (by omega) hm0).mono ?_; rintro e w1 ⟨rfl, hb1⟩
  rw [szLeft_pos (show ¬ (1048576 : Int) < (d0.length : Int) by omega)]
  have s1_ := hb1.size
  have t1 := hb0.trans (hb1.mono hb0.size)
  have b1 := hB1.step hb1
  have r1 := hr0.step t1 (Nat.le_refl _)
  have l1 := b1.1
  clear hb1 hb0 hB1 hf1
  have j1 := b1.cell 0
  have j2 := b1.cell 1
  simp at j1 j2
  go_wp2_with fail
  refine (toRing_any _ ⟨y0k, d0⟩ _ ⟨_, rfl, (r1.more (by omega))⟩ hn0).mono ?_; rintro e w2 ⟨u_p0, rfl, o_p0, hb2⟩
  obtain ⟨s_p0, rfl, o_p0⟩ := o_p0
  obtain ⟨A_p0, c_p0, rfl, _, _⟩ := o_p0.ri
  simp only [RgV]
  have s2_ := hb2.size
  have t2 := t1.trans (hb2.mono (by omega))
  clear j1 j2
  have f3 := r1.step hb2 (by omega)
  clear r1
  have f4 := b1.step hb2
  clear b1
  have j5 := f4.cell 0
  have j6 := f4.cell 1
  simp at j5 j6
  go_wp2_with fail
  refine (HS.out _ _ ⟨_, rfl, (o_p0.ri.more (by omega))⟩).mono ?_; rintro e w3 ⟨v0, rfl, o_v0, hb3⟩
  have s3_ := hb3.size
  have t3 := t2.trans (hb3.mono (by omega))
  clear j5 j6
  have f7 := f3.step hb3 (by omega)
  clear f3
  have f8 := f4.step hb3
  clear f4
  have f9 := o_p0.step hb3
  clear o_p0
  have j10 := f8.cell 0
  have j11 := f8.cell 1
  simp at j10 j11
  go_wp2_with fail
  refine (toRing_any _ ⟨y0k, d0⟩ _ ⟨_, rfl, (f7.more (by omega))⟩ hn0).mono ?_; rintro e w4 ⟨u_x0_, rfl, o_x0_, hb4⟩
  obtain ⟨s_x0_, rfl, o_x0_⟩ := o_x0_
  obtain ⟨A_x0_, c_x0_, rfl, _, _⟩ := o_x0_.ri
  simp only [RgV]
  have s4_ := hb4.size
  have t4 := t3.trans (hb4.mono (by omega))
  clear j10 j11
  have f12 := f7.step hb4 (by omega)
  clear f7
  have f13 := f8.step hb4
  clear f8
  have f14 := o_v0.step hb4
  clear o_v0
  have hb5 : Below w4.heap.size w4 (w4.alloc (.cells #[.int .i64 y0k, .slice A_x0_ d0.length c_x0_] 26)) := (Below.refl _ _).alloc (Nat.le_refl _) _
  have bb_x0_ := BK.made w4 26 #[.int .i64 y0k, .slice A_x0_ d0.length c_x0_]
  have lb5 := bb_x0_.1
  have s5_ := hb5.size
  have t5 := t4.trans (hb5.mono (by omega))
  have f15 := f12.step hb5 (by omega)
  clear f12
  have f16 := f13.step hb5
  clear f13
  have f17 := f14.step hb5
  clear f14
  have f18 := o_x0_.step hb5
  clear o_x0_
  have j19 := f16.cell 0
  have j20 := f16.cell 1
  have j21 := bb_x0_.cell 0
  have j22 := bb_x0_.cell 1
  simp at j19 j20 j21 j22
  go_wp2_with fail
  refine (HI.out _ _ ⟨_, rfl, (f18.ri.more (by omega))⟩).mono ?_; rintro e w6 ⟨g0, rfl, o_g0, hb6⟩
  have s6_ := hb6.size
  have t6 := t5.trans (hb6.mono (by omega))
  clear j19 j20 j21 j22
  have f23 := f15.step hb6 (by omega)
  clear f15
  have f24 := f16.step hb6
  clear f16
  have f25 := f17.step hb6
  clear f17
  have f26 := f18.step hb6
  clear f18
  have f27 := bb_x0_.step hb6
  clear bb_x0_
  have j28 := f24.cell 0
  have j29 := f24.cell 1
  have j30 := f27.cell 0
  have j31 := f27.cell 1
  simp at j28 j29 j30 j31
  go_wp2_with fail
  refine (eqIntS_same _ _ _ _ (o_g0.ri.more (by omega)) (f25.ri.more (by omega)) hlen).mono ?_; rintro e w7 ⟨rfl, hb7⟩
  have s7_ := hb7.size
  have t7 := t6.trans (hb7.mono (by omega))
  clear j28 j29 j30 j31
  have f32 := f23.step hb7 (by omega)
  clear f23
  have f33 := f24.step hb7
  clear f24
  have f34 := f25.step hb7
  clear f25
  have f35 := f26.step hb7
  clear f26
  have f36 := f27.step hb7
  clear f27
  have f37 := o_g0.step hb7
  clear o_g0
  have j38 := f33.cell 0
  have j39 := f33.cell 1
  have j40 := f36.cell 0
  have j41 := f36.cell 1
  simp at j38 j39 j40 j41
  go_upto_region 10 with fail
  go_cut [49] (fun s9 wx => s9 = .bool false ∧ Below w7.heap.size w7 wx)
  case first =>
    have R6 := RI.drewN f32 1
    have Q6 := RI.drewN f35.ri 1
    have X6 : BK (w7.drewN 1) _ _ _ := f36
    have T6 := below_drewN (Below.refl w7.heap.size w7) 1
    have y6 := T6.size
    go_region_with (first
      | (go_at_call 9; refine (toRing_any _ ⟨y0k, d0⟩ _ ⟨_, rfl, R6.more (by omega)⟩ hn0).mono ?_; rintro e w7 ⟨u7, rfl, ho7, hb7⟩; have t7 := T6.trans (hb7.mono (by omega)); have q7 := Q6.step hb7 (by omega); have x7 := X6.step hb7; have s7 := hb7.size; have d70 := x7.cell 0; have d71 := x7.cell 1; simp at d70 d71)
      | (go_at_call 11; refine (eqRing_same _ _ ⟨y0k, d0⟩ _ ⟨_, rfl, q7.more (by omega)⟩ ho7.rd hn0).mono ?_; rintro e w8 ⟨rfl, hb8⟩))
    all_goals
      go_wp2_with fail
      go_meet
      exact ⟨rfl, t7.trans (hb8.mono (by have := t7.size; omega))⟩
  case rest =>
    obtain ⟨rfl, hb8⟩ := hcut
    have s8_ := hb8.size
    have t8 := t7.trans (hb8.mono (by omega))
    clear j38 j39 j40 j41
    have f42 := f32.step hb8 (by omega)
    clear f32
    have f43 := f33.step hb8
    clear f33
    have f44 := f34.step hb8
    clear f34
    have f45 := f35.step hb8
    clear f35
    have f46 := f36.step hb8
    clear f36
    have f47 := f37.step hb8
    clear f37
    have j48 := f43.cell 0
    have j49 := f43.cell 1
    have j50 := f46.cell 0
    have j51 := f46.cell 1
    simp at j48 j49 j50 j51
    go_wp2_with fail
    refine (markRing_any _ _ _ ⟨y0k, d0⟩ _ _ ⟨_, rfl, f45⟩ hn0 (by omega) (by omega)).mono ?_; rintro e w9 ⟨rfl, mx0, hg9⟩
    have s9_ := hg9.size
    have t9 := t8.trans (hg9.below (by omega) (by omega))
    clear j48 j49 j50 j51
    have f52 := f42.far hg9 (by omega) (by omega)
    clear f42
    have f53 := f43.far hg9 (by omega)
    clear f43
    have f54 := f44.far hg9 (by omega)
    clear f44
    have f55 := f46.far hg9 (by omega)
    clear f46
    have f56 := f47.far hg9 (by omega)
    clear f47
    have j57 := f53.cell 0
    have j58 := f53.cell 1
    simp at j57 j58
    go_wp2_with fail
    refine (eqIntS_same _ _ _ _ (f56.ri.more (by omega)) (f54.ri.more (by omega)) hlen).mono ?_; rintro e w10 ⟨rfl, hb10⟩
    have s10_ := hb10.size
    have t10 := t9.trans (hb10.mono (by omega))
    clear j57 j58
    have f59 := f52.step hb10 (by omega)
    clear f52
    have f60 := f53.step hb10
    clear f53
    have f61 := f54.step hb10
    clear f54
    have f62 := f56.step hb10
    clear f56
    have j63 := f60.cell 0
    have j64 := f60.cell 1
    simp at j63 j64
    go_wp2_with fail
    refine (markIntS_any _ _ _ _ _ _ f62 hlen (by omega) (by omega)).mono ?_; rintro e w11 ⟨rfl, mg, hg11⟩
    have s11_ := hg11.size
    have t11 := t10.trans (hg11.below (by omega) (by omega))
    clear j63 j64
    have f65 := f59.far hg11 (by omega) (by omega)
    clear f59
    have f66 := f60.far hg11 (by omega)
    clear f60
    have f67 := f61.far hg11 (by omega)
    clear f61
    have j68 := f66.cell 0
    have j69 := f66.cell 1
    simp at j68 j69
    go_wp2_with fail
    refine (heldIntS_any _ _ _ _ (mg.ri.more (by omega)) hlen (by omega) (by omega)).mono ?_; rintro e w12 ⟨rfl, hb12⟩
    have s12_ := hb12.size
    have t12 := t11.trans (hb12.mono (by omega))
    clear j68 j69
    have f70 := f65.step hb12 (by omega)
    clear f65
    have f71 := f66.step hb12
    clear f66
    have f72 := f67.step hb12
    clear f67
    have f73 := mg.step hb12
    clear mg
    have j74 := f71.cell 0
    have j75 := f71.cell 1
    simp at j74 j75
    go_wp2_with fail
    refine (toRing_any _ ⟨y0k, d0⟩ _ ⟨_, rfl, (f70.more (by omega))⟩ hn0).mono ?_; rintro e w13 ⟨u_e0, rfl, o_e0, hb13⟩
    obtain ⟨s_e0, rfl, o_e0⟩ := o_e0
    obtain ⟨A_e0, c_e0, rfl, _, _⟩ := o_e0.ri
    simp only [RgV]
    have s13_ := hb13.size
    have t13 := t12.trans (hb13.mono (by omega))
    clear j74 j75
    have f76 := f70.step hb13 (by omega)
    clear f70
    have f77 := f71.step hb13
    clear f71
    have f78 := f72.step hb13
    clear f72
    have f79 := f73.step hb13
    clear f73
    have j80 := f77.cell 0
    have j81 := f77.cell 1
    simp at j80 j81
    go_wp2_with fail
    refine (HI.out _ _ ⟨_, rfl, (o_e0.ri.more (by omega))⟩).mono ?_; rintro e w14 ⟨h0, rfl, o_h0, hb14⟩
    have s14_ := hb14.size
    have t14 := t13.trans (hb14.mono (by omega))
    clear j80 j81
    have f82 := f76.step hb14 (by omega)
    clear f76
    have f83 := f77.step hb14
    clear f77
    have f84 := f78.step hb14
    clear f78
    have f85 := f79.step hb14
    clear f79
    have f86 := o_e0.step hb14
    clear o_e0
    have j87 := f83.cell 0
    have j88 := f83.cell 1
    simp at j87 j88
    go_wp2_with fail
    refine (eqIntS_same _ _ _ _ (o_h0.ri.more (by omega)) (f84.ri.more (by omega)) hlen).mono ?_; rintro e w15 ⟨rfl, hb15⟩
    have s15_ := hb15.size
    have t15 := t14.trans (hb15.mono (by omega))
    clear j87 j88
    have f89 := f82.step hb15 (by omega)
    clear f82
    have f90 := f83.step hb15
    clear f83
    have f91 := f84.step hb15
    clear f84
    have f92 := f85.step hb15
    clear f85
    have f93 := o_h0.step hb15
    clear o_h0
    have j94 := f90.cell 0
    have j95 := f90.cell 1
    simp at j94 j95
    go_wp2_with fail
    refine (heldIntS_any _ _ _ _ (f92.ri.more (by omega)) hlen (by omega) (by omega)).mono ?_; rintro e w16 ⟨rfl, hb16⟩
    have s16_ := hb16.size
    have t16 := t15.trans (hb16.mono (by omega))
    clear j94 j95
    have f96 := f89.step hb16 (by omega)
    clear f89
    have f97 := f90.step hb16
    clear f90
    have f98 := f91.step hb16
    clear f91
    have f99 := f92.step hb16
    clear f92
    have f100 := f93.step hb16
    clear f93
    have j101 := f97.cell 0
    have j102 := f97.cell 1
    simp at j101 j102
    go_wp2_with fail
    go_ret
    exact ⟨rfl, t16⟩

set_option maxRecDepth 100000 in
theorem lifted (os : Os) (started : os.Started) (H : Type) (enc : TypeId × Value → H) :
    ReturnsInHanded {} Try.checked os 5 .any (Rows.fnExactWrapFromSpec.pre6 enc Try.prog Try.f5 Rows.fnExactWrapFromRow.domain false) (Rows.fnExactWrapFromSpec.post enc Try.prog Try.f5 false true false false) := by
  refine returnsInHanded_of_change (C := Try.checked) own started (by kernel_rfl) Try.func5
    (ChangeSpec.witness6 (enc := enc) (C := Try.checked) false ⟨#[], #[.agg #[.int .i64 0, .slice none 0 0], .int .i64 0], []⟩ 8 (by kernel_rfl) (by kernel_rfl) (by kernel_rfl) (by kernel_rfl)) ?_
  intro W base args ds gs before hval0 hW hcnd _
  have hval : ∀ (j : Nat) t v, Try.f5.params[j]? = some t → args[j]? = some v → Value.okWide Try.prog W .any base t v := hval0
  have hW' := hW
  obtain ⟨p, q, hA0, hV, rfl, hfz, hnd⟩ := hW
  have hA : DataW.TrodAll enc Try.prog W 0 (fun _ => true) true Try.f5.params.toList args.toList ds p := hA0
  rw [Try.params5] at hA hval
  obtain ⟨v0, vs0, d0, ds0, p0, q0, hargs, rfl, rfl, h0, r0⟩ := trodAll_cons hA
  obtain ⟨v1, vs1, d1, ds1, p1, q1, rfl, rfl, rfl, h1, r1⟩ := trodAll_cons r0
  obtain ⟨rfl, rfl, rfl⟩ := trodAll_nil r1
  obtain rfl : args = #[v0, v1] := by cases args; simp_all
  obtain ⟨rfl, rfl⟩ := trodVars_none hV
  have k0 := h0
  have lt0 : ∀ x ∈ p0, x.block < W.heap.size := by obtain ⟨m, hm⟩ := k0; exact DataW.trod_lt m _ _ _ hm
  obtain ⟨e0_0, e0_1, y0_0, y0_1, m0, rfl, hd0, hp0, g0_0, g0_1⟩ := Go.Joins.open_agg2 Try.underlying24 (by kernel_rfl) (by kernel_rfl) (hval 0 24 v0 rfl rfl) h0
  obtain ⟨x0_0, hx0_0, _, w0_0⟩ := DataW.trod_int Try.underlying3 g0_0
  obtain rfl : e0_0 = .int .i64 x0_0 := by simpa using hx0_0
  obtain ⟨l0_1, w0_1⟩ : ∃ l, RI W W.heap.size e0_1 l ∧ (∀ x ∈ l, (Lit.int .i64 x).wf = true) ∧ l.length ≤ maxLen := by
    rcases open_ints Try.underlying22 Try.underlying3 (by kernel_rfl) g0_1 with ⟨hcs, _⟩ | ⟨x, l, c, zs, hcs, _, hl, hm, hz, _, hcell, hwz⟩
    · obtain rfl : e0_1 = .slice none 0 0 := by simpa using hcs
      exact ⟨[], ⟨none, 0, rfl, ⟨by simp, by simp, fun _ => rfl⟩, fun h => absurd h (by simp)⟩, by simp, by simp⟩
    · obtain rfl : e0_1 = .slice (some x) l c := by simpa using hcs
      have hz' : zs.length = c := by simpa using hz
      exact ⟨zs.take l, ri_of_cells (by omega) hz' hm hcell, fun y hy => hwz y (List.mem_of_mem_take hy), by simp; omega⟩
  obtain ⟨a1, rfl, rfl, rfl, w1⟩ := open_int Try.underlying3 (hval 1 3 v1 rfl rfl) h1
  clear hA0 hval0
  refine (walk ⟨x0_0, l0_1⟩ e0_1 a1 W w0_1.1 w0_1.2.2 w1).mono fun e W' ⟨he, bel⟩ => ?_
  subst he
  exact ⟨_, rfl, _, _, _, [], _, [], hW', trodAll_mk1 (shut_bool Try.underlying4 _), (trodAll_cons_mk (Below.trod laidOut (by kernel_rfl) (of_decide_eq_true (by kernel_rfl)) k0 bel lt0) (trodAll_cons_mk (shut_int Try.underlying3 w1) trodAll_mk0)), rfl, bel.frame _, fun h => by cases h⟩

theorem closed : joinedFacts Try.pinned.checked.prog 5 Try.f5 Rows.fnExactWrapFromSpec Rows.fnExactWrapFromRow = true := by
  unfold joinedFacts
  repeat' (with_reducible refine and_t ?_ ?_)
  all_goals first
    | (with_reducible exact init_mayEnter)
    | (with_reducible refine init_lifted ?_; as_aux_lemma => kernel_rfl)
    | (with_reducible refine init_mk ?_; as_aux_lemma => kernel_rfl)
    | (as_aux_lemma => kernel_rfl)

theorem over : Rows.fnExactWrapFromRow.holds Try.pinned (OpenSpec.ofChange Rows.fnExactWrapFromSpec) :=
  OpenClaim.holds_of_wide 5 Try.f5 rfl rfl rfl rfl rfl rfl rfl ⟨rfl, rfl, rfl, rfl, rfl⟩ rfl rfl rfl rfl rfl (by kernel_rfl) Try.func5 closed
    (of_decide_eq_true (by kernel_rfl)) (by unfold Func.isWrapper; first | (rw [if_pos (by decide +kernel)]; kernel_rfl) | (rw [if_neg (by decide +kernel)]; exact ⟨rfl, rfl⟩))
    (fun os started H enc _ => lifted os started H enc)

/-- The given statement. -/
theorem proved : Rows.FnExactWrapFromSaid := over

end Go.Proofs.Ytffmpkdkifecpaa.lawWrapFrom
