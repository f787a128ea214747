/-
  WorstTraffic answers as its model at every argument, writes into no argument, and its answer owns its memory. No condition.
-/
import Derived.Test.YtgkpdlicgllcoaaBoD
import Derived.Test.YtgkpdlicgllcoaaSBucket
import Derived.Test.YtgkpdlicgllcoaaFrame
import Derived.Deep.RegionWith
import Derived.Deep.DeepCutAuto
import Derived.Lib.SmallJoins
import Derived.Deep.Slices
import Derived.Deep.Fields
import Derived.ChangeSame
namespace Go.Proofs.Ytgkpdlicgllcoaa.lawWorstTraffic
open Go.RowKit Go.ChangeShapes Go.WideShapes Go.ChangeAt
set_option maxRecDepth 100000
set_option linter.unusedVariables false

set_option maxHeartbeats 4000000 in
theorem walk (z0 : Bu) (x1 : Int) (w : World) (hx1 : (Lit.int .i64 x1).wf = true) :
    Calls Try.prog 12 #[BuV z0, .int .i64 x1] w (RetV w (.bool true)) := by
  obtain ⟨y0r, y0d⟩ := z0
  simp only [BuV]
  have t0 : Below w.heap.size w w := Below.refl _ _
  have hlen := worstSays_len ⟨y0r, y0d⟩ x1
  obtain ⟨X, b, hX⟩ : ∃ X b, (X, b) = worstSays ⟨y0r, y0d⟩ x1 := ⟨_, _, rfl⟩
  rw [← hX] at hlen
  simp only at hlen
  have HI : Hid (∀  w, Calls Try.prog 42 #[.agg #[.int .i64 y0r, .int .i64 y0d], .int .i64 x1] w (RetLB 3 w X b)) := by
    show ∀  w, Calls Try.prog 42 #[.agg #[.int .i64 y0r, .int .i64 y0d], .int .i64 x1] w (RetLB 3 w X b)
    intro  w 
    have h5 := implWorstTraffic_any ⟨y0r, y0d⟩ x1 w hx1
    rw [← hX] at h5
    exact h5
  have HS : Hid (∀  w, Calls Try.prog 41 #[.agg #[.int .i64 y0r, .int .i64 y0d], .int .i64 x1] w (RetLB 3 w X b)) := by
    show ∀  w, Calls Try.prog 41 #[.agg #[.int .i64 y0r, .int .i64 y0d], .int .i64 x1] w (RetLB 3 w X b)
    intro  w 
    have h5 := specWorstTraffic_any ⟨y0r, y0d⟩ x1 w hx1
    rw [← hX] at h5
    exact h5
  have HA0 : Hid (∀ w, Calls Try.prog 31 #[.agg #[.int .i64 y0r, .int .i64 y0d]] w (RetV w (.agg #[.int .i64 y0r, .int .i64 y0d]))) := by
    show ∀ w, Calls Try.prog 31 #[.agg #[.int .i64 y0r, .int .i64 y0d]] w (RetV w (.agg #[.int .i64 y0r, .int .i64 y0d]))
    intro w
    exact toBucket_any ⟨y0r, y0d⟩ w
  clear hX
  have hlen' : ((X.length : Nat) : Int) ≤ 1048576 := by omega
  go_enter Try.func12, Try.ntmps12
  have hb1 : Below w.heap.size w (w.alloc (.cells #[.int .i64 y0r, .int .i64 y0d] 42)) := (Below.refl _ _).alloc (Nat.le_refl _) _
  have bb__0 := BK.made w 42 #[.int .i64 y0r, .int .i64 y0d]
  have lb1 := bb__0.1
  have s1_ := hb1.size
  have t1 := t0.trans (hb1.mono (by omega))
  have j1 := bb__0.cell 0
  have j2 := bb__0.cell 1
  simp at j1 j2
  go_wp2_with fail
  refine (HA0.out _).mono ?_; rintro e w2 ⟨rfl, hb2⟩
  have s2_ := hb2.size
  have t2 := t1.trans (hb2.mono (by omega))
  clear j1 j2
  have f3 := bb__0.step hb2
  clear bb__0
  have j4 := f3.cell 0
  have j5 := f3.cell 1
  simp at j4 j5
  go_wp2_with fail
  refine (HS.out _).mono ?_; rintro e w3 ⟨u_v0, rfl, o_v0, hb3⟩
  have s3_ := hb3.size
  have t3 := t2.trans (hb3.mono (by omega))
  clear j4 j5
  have f6 := f3.step hb3
  clear f3
  have j7 := f6.cell 0
  have j8 := f6.cell 1
  simp at j7 j8
  go_wp2_with fail
  refine (HA0.out _).mono ?_; rintro e w4 ⟨rfl, hb4⟩
  have s4_ := hb4.size
  have t4 := t3.trans (hb4.mono (by omega))
  clear j7 j8
  have f9 := f6.step hb4
  clear f6
  have f10 := o_v0.step hb4
  clear o_v0
  have j11 := f9.cell 0
  have j12 := f9.cell 1
  simp at j11 j12
  go_wp2_with fail
  refine (HI.out _).mono ?_; rintro e w5 ⟨u_g0, rfl, o_g0, hb5⟩
  have s5_ := hb5.size
  have t5 := t4.trans (hb5.mono (by omega))
  clear j11 j12
  have f13 := f9.step hb5
  clear f9
  have f14 := f10.step hb5
  clear f10
  have j15 := f13.cell 0
  have j16 := f13.cell 1
  simp at j15 j16
  go_wp2_with fail
  refine (eqIntS_same _ _ _ _ (o_g0.ri.more (by omega)) (f14.ri.more (by omega)) hlen).mono ?_; rintro e w6 ⟨rfl, hb6⟩
  have s6_ := hb6.size
  have t6 := t5.trans (hb6.mono (by omega))
  clear j15 j16
  have f17 := f13.step hb6
  clear f13
  have f18 := f14.step hb6
  clear f14
  have f19 := o_g0.step hb6
  clear o_g0
  have j20 := f17.cell 0
  have j21 := f17.cell 1
  simp at j20 j21
  go_wp2_with fail
  refine (markIntS_any _ _ _ _ _ _ f19 hlen (by omega) (by omega)).mono ?_; rintro e w7 ⟨rfl, mg, hg7⟩
  have s7_ := hg7.size
  have t7 := t6.trans (hg7.below (by omega) (by omega))
  clear j20 j21
  have f22 := f17.far hg7 (by omega)
  clear f17
  have f23 := f18.far hg7 (by omega)
  clear f18
  have j24 := f22.cell 0
  have j25 := f22.cell 1
  simp at j24 j25
  go_wp2_with fail
  refine (heldIntS_any _ _ _ _ (mg.ri.more (by omega)) hlen (by omega) (by omega)).mono ?_; rintro e w8 ⟨rfl, hb8⟩
  have s8_ := hb8.size
  have t8 := t7.trans (hb8.mono (by omega))
  clear j24 j25
  have f26 := f22.step hb8
  clear f22
  have f27 := f23.step hb8
  clear f23
  have f28 := mg.step hb8
  clear mg
  have j29 := f26.cell 0
  have j30 := f26.cell 1
  simp at j29 j30
  go_wp2_with fail
  refine (HA0.out _).mono ?_; rintro e w9 ⟨rfl, hb9⟩
  have s9_ := hb9.size
  have t9 := t8.trans (hb9.mono (by omega))
  clear j29 j30
  have f31 := f26.step hb9
  clear f26
  have f32 := f27.step hb9
  clear f27
  have f33 := f28.step hb9
  clear f28
  have j34 := f31.cell 0
  have j35 := f31.cell 1
  simp at j34 j35
  go_wp2_with fail
  refine (HI.out _).mono ?_; rintro e w10 ⟨u_h0, rfl, o_h0, hb10⟩
  have s10_ := hb10.size
  have t10 := t9.trans (hb10.mono (by omega))
  clear j34 j35
  have f36 := f31.step hb10
  clear f31
  have f37 := f32.step hb10
  clear f32
  have f38 := f33.step hb10
  clear f33
  have j39 := f36.cell 0
  have j40 := f36.cell 1
  simp at j39 j40
  go_wp2_with fail
  refine (eqIntS_same _ _ _ _ (o_h0.ri.more (by omega)) (f37.ri.more (by omega)) hlen).mono ?_; rintro e w11 ⟨rfl, hb11⟩
  have s11_ := hb11.size
  have t11 := t10.trans (hb11.mono (by omega))
  clear j39 j40
  have f41 := f36.step hb11
  clear f36
  have f42 := f37.step hb11
  clear f37
  have f43 := f38.step hb11
  clear f38
  have f44 := o_h0.step hb11
  clear o_h0
  have j45 := f41.cell 0
  have j46 := f41.cell 1
  simp at j45 j46
  go_wp2_with fail
  refine (heldIntS_any _ _ _ _ (f43.ri.more (by omega)) hlen (by omega) (by omega)).mono ?_; rintro e w12 ⟨rfl, hb12⟩
  have s12_ := hb12.size
  have t12 := t11.trans (hb12.mono (by omega))
  clear j45 j46
  have f47 := f41.step hb12
  clear f41
  have f48 := f42.step hb12
  clear f42
  have f49 := f43.step hb12
  clear f43
  have f50 := f44.step hb12
  clear f44
  have j51 := f47.cell 0
  have j52 := f47.cell 1
  simp at j51 j52
  go_wp2_with fail
  go_ret
  exact ⟨rfl, t12⟩

set_option maxRecDepth 100000 in
theorem lifted (os : Os) (started : os.Started) (H : Type) (enc : TypeId × Value → H) :
    ReturnsInHanded {} Try.checked os 12 .any (Rows.fnExactWorstTrafficSpec.pre6 enc Try.prog Try.f12 Rows.fnExactWorstTrafficRow.domain false) (Rows.fnExactWorstTrafficSpec.post enc Try.prog Try.f12 false true false false) := by
  refine returnsInHanded_of_change (C := Try.checked) own started (by kernel_rfl) Try.func12
    (ChangeSpec.witness6 (enc := enc) (C := Try.checked) false ⟨#[], #[.agg #[.int .i64 0, .int .i64 0], .int .i64 0], []⟩ 8 (by kernel_rfl) (by kernel_rfl) (by kernel_rfl) (by kernel_rfl)) ?_
  intro W base args ds gs before hval0 hW hcnd _
  have hval : ∀ (j : Nat) t v, Try.f12.params[j]? = some t → args[j]? = some v → Value.okWide Try.prog W .any base t v := hval0
  have hW' := hW
  obtain ⟨p, q, hA0, hV, rfl, hfz, hnd⟩ := hW
  have hA : DataW.TrodAll enc Try.prog W 0 (fun _ => true) true Try.f12.params.toList args.toList ds p := hA0
  rw [Try.params12] at hA hval
  obtain ⟨v0, vs0, d0, ds0, p0, q0, hargs, rfl, rfl, h0, r0⟩ := trodAll_cons hA
  obtain ⟨v1, vs1, d1, ds1, p1, q1, rfl, rfl, rfl, h1, r1⟩ := trodAll_cons r0
  obtain ⟨rfl, rfl, rfl⟩ := trodAll_nil r1
  obtain rfl : args = #[v0, v1] := by cases args; simp_all
  obtain ⟨rfl, rfl⟩ := trodVars_none hV
  have k0 := h0
  have lt0 : ∀ x ∈ p0, x.block < W.heap.size := by obtain ⟨m, hm⟩ := k0; exact DataW.trod_lt m _ _ _ hm
  obtain ⟨e0_0, e0_1, y0_0, y0_1, m0, rfl, hd0, hp0, g0_0, g0_1⟩ := Go.Joins.open_agg2 Try.underlying42 (by kernel_rfl) (by kernel_rfl) (hval 0 42 v0 rfl rfl) h0
  obtain ⟨x0_0, hx0_0, _, w0_0⟩ := DataW.trod_int Try.underlying3 g0_0
  obtain rfl : e0_0 = .int .i64 x0_0 := by simpa using hx0_0
  obtain ⟨x0_1, hx0_1, _, w0_1⟩ := DataW.trod_int Try.underlying3 g0_1
  obtain rfl : e0_1 = .int .i64 x0_1 := by simpa using hx0_1
  obtain ⟨a1, rfl, rfl, rfl, w1⟩ := open_int Try.underlying3 (hval 1 3 v1 rfl rfl) h1
  clear hA0 hval0
  refine (walk ⟨x0_0, x0_1⟩ a1 W w1).mono fun e W' ⟨he, bel⟩ => ?_
  subst he
  exact ⟨_, rfl, _, _, _, [], _, [], hW', trodAll_mk1 (shut_bool Try.underlying4 _), (trodAll_cons_mk (Below.trod laidOut (by kernel_rfl) (of_decide_eq_true (by kernel_rfl)) k0 bel lt0) (trodAll_cons_mk (shut_int Try.underlying3 w1) trodAll_mk0)), rfl, bel.frame _, fun h => by cases h⟩

theorem closed : joinedFacts Try.pinned.checked.prog 12 Try.f12 Rows.fnExactWorstTrafficSpec Rows.fnExactWorstTrafficRow = true := by
  unfold joinedFacts
  repeat' (with_reducible refine and_t ?_ ?_)
  all_goals first
    | (with_reducible exact init_mayEnter)
    | (with_reducible refine init_lifted ?_; as_aux_lemma => kernel_rfl)
    | (with_reducible refine init_mk ?_; as_aux_lemma => kernel_rfl)
    | (as_aux_lemma => kernel_rfl)

theorem over : Rows.fnExactWorstTrafficRow.holds Try.pinned (OpenSpec.ofChange Rows.fnExactWorstTrafficSpec) :=
  OpenClaim.holds_of_wide 12 Try.f12 rfl rfl rfl rfl rfl rfl rfl ⟨rfl, rfl, rfl, rfl, rfl⟩ rfl rfl rfl rfl rfl (by kernel_rfl) Try.func12 closed
    (of_decide_eq_true (by kernel_rfl)) (by unfold Func.isWrapper; first | (rw [if_pos (by decide +kernel)]; kernel_rfl) | (rw [if_neg (by decide +kernel)]; exact ⟨rfl, rfl⟩))
    (fun os started H enc _ => lifted os started H enc)

/-- The given statement. -/
theorem proved : Rows.FnExactWorstTrafficSaid := over

end Go.Proofs.Ytgkpdlicgllcoaa.lawWorstTraffic
