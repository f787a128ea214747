/-
  FullShares answers as its model at every argument, writes into no argument, and its answer owns its memory. No condition.
-/
import Derived.Test.YtfkjiagagidmmaaTokB
import Derived.Test.YtfkjiagagidmmaaFrame
import Derived.Deep.RegionWith
import Derived.Deep.DeepCutAuto
import Derived.Lib.SmallJoins
import Derived.Deep.Slices
import Derived.Deep.Fields
import Derived.ChangeSame
namespace Go.Proofs.Ytfkjiagagidmmaa.lawFullShares
open Go.RowKit Go.ChangeShapes Go.WideShapes Go.ChangeAt
set_option maxRecDepth 100000
set_option linter.unusedVariables false

set_option maxHeartbeats 4000000 in
theorem walk (z0 : Tr) (x1 : Int) (w : World) (hx1 : (Lit.int .i64 x1).wf = true) :
    Calls Try.prog 8 #[TrV z0, .int .i64 x1] w (RetV w (.bool true)) := by
  obtain ⟨y0k, y0h, y0q⟩ := z0
  simp only [TrV]
  have t0 : Below w.heap.size w w := Below.refl _ _
  have hlen := fullShares_len ⟨y0k, y0h, y0q⟩ x1
  obtain ⟨X, b, hX⟩ : ∃ X b, (X, b) = fullShares ⟨y0k, y0h, y0q⟩ x1 := ⟨_, _, rfl⟩
  rw [← hX] at hlen
  simp only at hlen
  have HI : Hid (∀  w, Calls Try.prog 25 #[.agg #[.int .i64 y0k, .int .i64 y0h, .int .i64 y0q], .int .i64 x1] w (RetLB 3 w X b)) := by
    show ∀  w, Calls Try.prog 25 #[.agg #[.int .i64 y0k, .int .i64 y0h, .int .i64 y0q], .int .i64 x1] w (RetLB 3 w X b)
    intro  w 
    have h5 := implFullShares_any ⟨y0k, y0h, y0q⟩ x1 w hx1
    rw [← hX] at h5
    exact h5
  have HS : Hid (∀  w, Calls Try.prog 24 #[.agg #[.int .i64 y0k, .int .i64 y0h, .int .i64 y0q], .int .i64 x1] w (RetLB 3 w X b)) := by
    show ∀  w, Calls Try.prog 24 #[.agg #[.int .i64 y0k, .int .i64 y0h, .int .i64 y0q], .int .i64 x1] w (RetLB 3 w X b)
    intro  w 
    have h5 := specFullShares_any ⟨y0k, y0h, y0q⟩ x1 w hx1
    rw [← hX] at h5
    exact h5
  have HA0 : Hid (∀ w, Calls Try.prog 11 #[.agg #[.int .i64 y0k, .int .i64 y0h, .int .i64 y0q]] w (RetV w (.agg #[.int .i64 y0k, .int .i64 y0h, .int .i64 y0q]))) := by
    show ∀ w, Calls Try.prog 11 #[.agg #[.int .i64 y0k, .int .i64 y0h, .int .i64 y0q]] w (RetV w (.agg #[.int .i64 y0k, .int .i64 y0h, .int .i64 y0q]))
    intro w
    exact toTokenRing_any ⟨y0k, y0h, y0q⟩ w
  clear hX
  have hlen' : ((X.length : Nat) : Int) ≤ 1048576 := by omega
  go_enter Try.func8, Try.ntmps8
  have hb1 : Below w.heap.size w (w.alloc (.cells #[.int .i64 y0k, .int .i64 y0h, .int .i64 y0q] 23)) := (Below.refl _ _).alloc (Nat.le_refl _) _
  have bb__0 := BK.made w 23 #[.int .i64 y0k, .int .i64 y0h, .int .i64 y0q]
  have lb1 := bb__0.1
  have s1_ := hb1.size
  have t1 := t0.trans (hb1.mono (by omega))
  have j1 := bb__0.cell 0
  have j2 := bb__0.cell 1
  have j3 := bb__0.cell 2
  simp at j1 j2 j3
  go_wp2_with fail
  refine (HA0.out _).mono ?_; rintro e w2 ⟨rfl, hb2⟩
  have s2_ := hb2.size
  have t2 := t1.trans (hb2.mono (by omega))
  clear j1 j2 j3
  have f4 := bb__0.step hb2
  clear bb__0
  have j5 := f4.cell 0
  have j6 := f4.cell 1
  have j7 := f4.cell 2
  simp at j5 j6 j7
  go_wp2_with fail
  refine (HS.out _).mono ?_; rintro e w3 ⟨u_v0, rfl, o_v0, hb3⟩
  have s3_ := hb3.size
  have t3 := t2.trans (hb3.mono (by omega))
  clear j5 j6 j7
  have f8 := f4.step hb3
  clear f4
  have j9 := f8.cell 0
  have j10 := f8.cell 1
  have j11 := f8.cell 2
  simp at j9 j10 j11
  go_wp2_with fail
  refine (HA0.out _).mono ?_; rintro e w4 ⟨rfl, hb4⟩
  have s4_ := hb4.size
  have t4 := t3.trans (hb4.mono (by omega))
  clear j9 j10 j11
  have f12 := f8.step hb4
  clear f8
  have f13 := o_v0.step hb4
  clear o_v0
  have j14 := f12.cell 0
  have j15 := f12.cell 1
  have j16 := f12.cell 2
  simp at j14 j15 j16
  go_wp2_with fail
  refine (HI.out _).mono ?_; rintro e w5 ⟨u_g0, rfl, o_g0, hb5⟩
  have s5_ := hb5.size
  have t5 := t4.trans (hb5.mono (by omega))
  clear j14 j15 j16
  have f17 := f12.step hb5
  clear f12
  have f18 := f13.step hb5
  clear f13
  have j19 := f17.cell 0
  have j20 := f17.cell 1
  have j21 := f17.cell 2
  simp at j19 j20 j21
  go_wp2_with fail
  refine (eqIntS_same _ _ _ _ (o_g0.ri.more (by omega)) (f18.ri.more (by omega)) hlen).mono ?_; rintro e w6 ⟨rfl, hb6⟩
  have s6_ := hb6.size
  have t6 := t5.trans (hb6.mono (by omega))
  clear j19 j20 j21
  have f22 := f17.step hb6
  clear f17
  have f23 := f18.step hb6
  clear f18
  have f24 := o_g0.step hb6
  clear o_g0
  have j25 := f22.cell 0
  have j26 := f22.cell 1
  have j27 := f22.cell 2
  simp at j25 j26 j27
  go_wp2_with fail
  refine (markIntS_any _ _ _ _ _ _ f24 hlen (by omega) (by omega)).mono ?_; rintro e w7 ⟨rfl, mg, hg7⟩
  have s7_ := hg7.size
  have t7 := t6.trans (hg7.below (by omega) (by omega))
  clear j25 j26 j27
  have f28 := f22.far hg7 (by omega)
  clear f22
  have f29 := f23.far hg7 (by omega)
  clear f23
  have j30 := f28.cell 0
  have j31 := f28.cell 1
  have j32 := f28.cell 2
  simp at j30 j31 j32
  go_wp2_with fail
  refine (heldIntS_any _ _ _ _ (mg.ri.more (by omega)) hlen (by omega) (by omega)).mono ?_; rintro e w8 ⟨rfl, hb8⟩
  have s8_ := hb8.size
  have t8 := t7.trans (hb8.mono (by omega))
  clear j30 j31 j32
  have f33 := f28.step hb8
  clear f28
  have f34 := f29.step hb8
  clear f29
  have f35 := mg.step hb8
  clear mg
  have j36 := f33.cell 0
  have j37 := f33.cell 1
  have j38 := f33.cell 2
  simp at j36 j37 j38
  go_wp2_with fail
  refine (HA0.out _).mono ?_; rintro e w9 ⟨rfl, hb9⟩
  have s9_ := hb9.size
  have t9 := t8.trans (hb9.mono (by omega))
  clear j36 j37 j38
  have f39 := f33.step hb9
  clear f33
  have f40 := f34.step hb9
  clear f34
  have f41 := f35.step hb9
  clear f35
  have j42 := f39.cell 0
  have j43 := f39.cell 1
  have j44 := f39.cell 2
  simp at j42 j43 j44
  go_wp2_with fail
  refine (HI.out _).mono ?_; rintro e w10 ⟨u_h0, rfl, o_h0, hb10⟩
  have s10_ := hb10.size
  have t10 := t9.trans (hb10.mono (by omega))
  clear j42 j43 j44
  have f45 := f39.step hb10
  clear f39
  have f46 := f40.step hb10
  clear f40
  have f47 := f41.step hb10
  clear f41
  have j48 := f45.cell 0
  have j49 := f45.cell 1
  have j50 := f45.cell 2
  simp at j48 j49 j50
  go_wp2_with fail
  refine (eqIntS_same _ _ _ _ (o_h0.ri.more (by omega)) (f46.ri.more (by omega)) hlen).mono ?_; rintro e w11 ⟨rfl, hb11⟩
  have s11_ := hb11.size
  have t11 := t10.trans (hb11.mono (by omega))
  clear j48 j49 j50
  have f51 := f45.step hb11
  clear f45
  have f52 := f46.step hb11
  clear f46
  have f53 := f47.step hb11
  clear f47
  have f54 := o_h0.step hb11
  clear o_h0
  have j55 := f51.cell 0
  have j56 := f51.cell 1
  have j57 := f51.cell 2
  simp at j55 j56 j57
  go_wp2_with fail
  refine (heldIntS_any _ _ _ _ (f53.ri.more (by omega)) hlen (by omega) (by omega)).mono ?_; rintro e w12 ⟨rfl, hb12⟩
  have s12_ := hb12.size
  have t12 := t11.trans (hb12.mono (by omega))
  clear j55 j56 j57
  have f58 := f51.step hb12
  clear f51
  have f59 := f52.step hb12
  clear f52
  have f60 := f53.step hb12
  clear f53
  have f61 := f54.step hb12
  clear f54
  have j62 := f58.cell 0
  have j63 := f58.cell 1
  have j64 := f58.cell 2
  simp at j62 j63 j64
  go_wp2_with fail
  go_ret
  exact ⟨rfl, t12⟩

set_option maxRecDepth 100000 in
theorem lifted (os : Os) (started : os.Started) (H : Type) (enc : TypeId × Value → H) :
    ReturnsInHanded {} Try.checked os 8 .any (Rows.fnExactFullSharesSpec.pre6 enc Try.prog Try.f8 Rows.fnExactFullSharesRow.domain false) (Rows.fnExactFullSharesSpec.post enc Try.prog Try.f8 false true false false) := by
  refine returnsInHanded_of_change (C := Try.checked) own started (by kernel_rfl) Try.func8
    (ChangeSpec.witness6 (enc := enc) (C := Try.checked) false ⟨#[], #[.agg #[.int .i64 0, .int .i64 0, .int .i64 0], .int .i64 0], []⟩ 8 (by kernel_rfl) (by kernel_rfl) (by kernel_rfl) (by kernel_rfl)) ?_
  intro W base args ds gs before hval0 hW hcnd _
  have hval : ∀ (j : Nat) t v, Try.f8.params[j]? = some t → args[j]? = some v → Value.okWide Try.prog W .any base t v := hval0
  have hW' := hW
  obtain ⟨p, q, hA0, hV, rfl, hfz, hnd⟩ := hW
  have hA : DataW.TrodAll enc Try.prog W 0 (fun _ => true) true Try.f8.params.toList args.toList ds p := hA0
  rw [Try.params8] at hA hval
  obtain ⟨v0, vs0, d0, ds0, p0, q0, hargs, rfl, rfl, h0, r0⟩ := trodAll_cons hA
  obtain ⟨v1, vs1, d1, ds1, p1, q1, rfl, rfl, rfl, h1, r1⟩ := trodAll_cons r0
  obtain ⟨rfl, rfl, rfl⟩ := trodAll_nil r1
  obtain rfl : args = #[v0, v1] := by cases args; simp_all
  obtain ⟨rfl, rfl⟩ := trodVars_none hV
  have k0 := h0
  have lt0 : ∀ x ∈ p0, x.block < W.heap.size := by obtain ⟨m, hm⟩ := k0; exact DataW.trod_lt m _ _ _ hm
  obtain ⟨e0_0, e0_1, e0_2, y0_0, y0_1, y0_2, m0, rfl, hd0, hp0, g0_0, g0_1, g0_2⟩ := Go.Joins.open_agg3 Try.underlying23 (by kernel_rfl) (by kernel_rfl) (hval 0 23 v0 rfl rfl) h0
  obtain ⟨x0_0, hx0_0, _, w0_0⟩ := DataW.trod_int Try.underlying3 g0_0
  obtain rfl : e0_0 = .int .i64 x0_0 := by simpa using hx0_0
  obtain ⟨x0_1, hx0_1, _, w0_1⟩ := DataW.trod_int Try.underlying3 g0_1
  obtain rfl : e0_1 = .int .i64 x0_1 := by simpa using hx0_1
  obtain ⟨x0_2, hx0_2, _, w0_2⟩ := DataW.trod_int Try.underlying3 g0_2
  obtain rfl : e0_2 = .int .i64 x0_2 := by simpa using hx0_2
  obtain ⟨a1, rfl, rfl, rfl, w1⟩ := open_int Try.underlying3 (hval 1 3 v1 rfl rfl) h1
  clear hA0 hval0
  refine (walk ⟨x0_0, x0_1, x0_2⟩ a1 W w1).mono fun e W' ⟨he, bel⟩ => ?_
  subst he
  exact ⟨_, rfl, _, _, _, [], _, [], hW', trodAll_mk1 (shut_bool Try.underlying4 _), (trodAll_cons_mk (Below.trod laidOut (by kernel_rfl) (of_decide_eq_true (by kernel_rfl)) k0 bel lt0) (trodAll_cons_mk (shut_int Try.underlying3 w1) trodAll_mk0)), rfl, bel.frame _, fun h => by cases h⟩

theorem closed : joinedFacts Try.pinned.checked.prog 8 Try.f8 Rows.fnExactFullSharesSpec Rows.fnExactFullSharesRow = true := by
  unfold joinedFacts
  repeat' (with_reducible refine and_t ?_ ?_)
  all_goals first
    | (with_reducible exact init_mayEnter)
    | (with_reducible refine init_lifted ?_; as_aux_lemma => kernel_rfl)
    | (with_reducible refine init_mk ?_; as_aux_lemma => kernel_rfl)
    | (as_aux_lemma => kernel_rfl)

theorem over : Rows.fnExactFullSharesRow.holds Try.pinned (OpenSpec.ofChange Rows.fnExactFullSharesSpec) :=
  OpenClaim.holds_of_wide 8 Try.f8 rfl rfl rfl rfl rfl rfl rfl ⟨rfl, rfl, rfl, rfl, rfl⟩ rfl rfl rfl rfl rfl (by kernel_rfl) Try.func8 closed
    (of_decide_eq_true (by kernel_rfl)) (by unfold Func.isWrapper; first | (rw [if_pos (by decide +kernel)]; kernel_rfl) | (rw [if_neg (by decide +kernel)]; exact ⟨rfl, rfl⟩))
    (fun os started H enc _ => lifted os started H enc)

/-- The given statement. -/
theorem proved : Rows.FnExactFullSharesSaid := over

end Go.Proofs.Ytfkjiagagidmmaa.lawFullShares
