/-
  CellsUnderway answers as its model at every argument, writes into no argument, and its answer owns its memory. No condition.
-/
import Derived.Test.YtfphkgialmjfnaaNe
import Derived.Test.YtfphkgialmjfnaaFrmM
import Derived.Deep.RegionWith
import Derived.Deep.DeepCutAuto
import Derived.Lib.SmallJoins
import Derived.Deep.Slices
import Derived.Deep.Fields
import Derived.ChangeSame
namespace Go.Proofs.Ytfphkgialmjfnaa.lawCellsUnderway
open Go.RowKit Go.ChangeShapes Go.WideShapes Go.ChangeAt
set_option maxRecDepth 100000
set_option linter.unusedVariables false

set_option maxHeartbeats 4000000 in
theorem walk (z0 : Ir) (s1 : Value) (d1 : List Ms) (x2 : Int) (w : World) (h1 : RMsS w w.heap.size s1 d1) (hm1 : d1.length ≤ maxLen) (hx2 : (Lit.int .i64 x2).wf = true) :
    Calls Try.prog 8 #[IrV z0, s1, .int .i64 x2] w (RetV w (.bool true)) := by
  obtain ⟨y0n, y0r, y0h⟩ := z0
  simp only [IrV]
  have hr1 := h1
  obtain ⟨a1, c1, rfl, _, _, _⟩ := h1
  have t0 : Below w.heap.size w w := Below.refl _ _
  rcases Nat.lt_or_ge 1048576 d1.length with hn1 | hn1
  · have hn' : (1048576 : Int) < d1.length := by omega
    go_enter Try.func8, Try.ntmps8
    have hb1 : Below w.heap.size w (w.alloc (.cells #[.int .i64 y0n, .int .i64 y0r, .bool y0h] 23)) := (Below.refl _ _).alloc (Nat.le_refl _) _
    have bb__0 := BK.made w 23 #[.int .i64 y0n, .int .i64 y0r, .bool y0h]
    have lb1 := bb__0.1
    have s1_ := hb1.size
    have t1 := t0.trans (hb1.mono (by omega))
    have f1 := hr1.step hb1 (by omega)
    clear hr1
    have j2 := bb__0.cell 0
    have j3 := bb__0.cell 1
    have j4 := bb__0.cell 2
    simp at j2 j3 j4
    go_wp2_with fail
    refine (szMessageS_any _ d1 _ _ (f1.more (by omega)) (by omega) (by omega) hm1).mono ?_; rintro e w2 ⟨rfl, hb2⟩
    rw [if_pos (by omega)]
    go_wp2_with fail
    go_ret
    exact ⟨rfl, t1.trans (hb2.mono (by omega))⟩
  have hq1 : (d1.length : Int) ≤ 1048576 := by omega
  obtain ⟨X, b, hX⟩ : ∃ X b, (X, b) = unSays ⟨y0n, y0r, y0h⟩ d1 x2 := ⟨_, _, rfl⟩
  have HI : Hid (∀ v1 w, RMsS w w.heap.size v1 d1 → Calls Try.prog 31 #[.agg #[.int .i64 y0n, .int .i64 y0r, .bool y0h], v1, .int .i64 x2] w (RetV w (.tuple #[.int .i64 X, .bool b]))) := by
    show ∀ v1 w, RMsS w w.heap.size v1 d1 → Calls Try.prog 31 #[.agg #[.int .i64 y0n, .int .i64 y0r, .bool y0h], v1, .int .i64 x2] w (RetV w (.tuple #[.int .i64 X, .bool b]))
    intro v1 w q1
    have h5 := implCellsUnderway_any v1 ⟨y0n, y0r, y0h⟩ d1 x2 w q1 hn1 hx2
    rw [← hX] at h5
    exact h5
  have HS : Hid (∀ v1 w, RMsS w w.heap.size v1 d1 → Calls Try.prog 30 #[.agg #[.int .i64 y0n, .int .i64 y0r, .bool y0h], v1, .int .i64 x2] w (RetV w (.tuple #[.int .i64 X, .bool b]))) := by
    show ∀ v1 w, RMsS w w.heap.size v1 d1 → Calls Try.prog 30 #[.agg #[.int .i64 y0n, .int .i64 y0r, .bool y0h], v1, .int .i64 x2] w (RetV w (.tuple #[.int .i64 X, .bool b]))
    intro v1 w q1
    have h5 := specCellsUnderway_any v1 ⟨y0n, y0r, y0h⟩ d1 x2 w q1 hn1 hx2
    rw [← hX] at h5
    exact h5
  have HA0 : Hid (∀ w, Calls Try.prog 11 #[.agg #[.int .i64 y0n, .int .i64 y0r, .bool y0h]] w (RetV w (.agg #[.int .i64 y0n, .int .i64 y0r, .bool y0h]))) := by
    show ∀ w, Calls Try.prog 11 #[.agg #[.int .i64 y0n, .int .i64 y0r, .bool y0h]] w (RetV w (.agg #[.int .i64 y0n, .int .i64 y0r, .bool y0h]))
    intro w
    exact toInsertRing_any ⟨y0n, y0r, y0h⟩ w
  clear hX
  go_enter Try.func8, Try.ntmps8
  have hb1 : Below w.heap.size w (w.alloc (.cells #[.int .i64 y0n, .int .i64 y0r, .bool y0h] 23)) := (Below.refl _ _).alloc (Nat.le_refl _) _
  have bb__0 := BK.made w 23 #[.int .i64 y0n, .int .i64 y0r, .bool y0h]
  have lb1 := bb__0.1
  have s1_ := hb1.size
  have t1 := t0.trans (hb1.mono (by omega))
  have f1 := hr1.step hb1 (by omega)
  clear hr1
  have j2 := bb__0.cell 0
  have j3 := bb__0.cell 1
  have j4 := bb__0.cell 2
  simp at j2 j3 j4
  go_wp2_with fail
  refine (szMessageS_any _ d1 _ _ (f1.more (by omega)) (by omega) (by omega) hm1).mono ?_; rintro e w2 ⟨rfl, hb2⟩
  have s2_ := hb2.size
  have t2 := t1.trans (hb2.mono (by omega))
  clear j2 j3 j4
  have f5 := f1.step hb2 (by omega)
  clear f1
  have f6 := bb__0.step hb2
  clear bb__0
  rw [if_neg (by omega)]
  have j7 := f6.cell 0
  have j8 := f6.cell 1
  have j9 := f6.cell 2
  simp at j7 j8 j9
  go_wp2_with fail
  refine (HA0.out _).mono ?_; rintro e w3 ⟨rfl, hb3⟩
  have s3_ := hb3.size
  have t3 := t2.trans (hb3.mono (by omega))
  clear j7 j8 j9
  have f10 := f5.step hb3 (by omega)
  clear f5
  have f11 := f6.step hb3
  clear f6
  have j12 := f11.cell 0
  have j13 := f11.cell 1
  have j14 := f11.cell 2
  simp at j12 j13 j14
  go_wp2_with fail
  refine (toMessageS_any _ _ _ (f10.more (by omega)) hn1).mono ?_; rintro e w4 ⟨u_p1, rfl, o_p1, hb4⟩
  have s4_ := hb4.size
  have t4 := t3.trans (hb4.mono (by omega))
  clear j12 j13 j14
  have f15 := f10.step hb4 (by omega)
  clear f10
  have f16 := f11.step hb4
  clear f11
  have j17 := f16.cell 0
  have j18 := f16.cell 1
  have j19 := f16.cell 2
  simp at j17 j18 j19
  go_wp2_with fail
  refine (HS.out _ _ (o_p1.rk.more (by omega))).mono ?_; rintro e w5 ⟨rfl, hb5⟩
  have s5_ := hb5.size
  have t5 := t4.trans (hb5.mono (by omega))
  clear j17 j18 j19
  have f20 := f15.step hb5 (by omega)
  clear f15
  have f21 := f16.step hb5
  clear f16
  have f22 := o_p1.step hb5
  clear o_p1
  have j23 := f21.cell 0
  have j24 := f21.cell 1
  have j25 := f21.cell 2
  simp at j23 j24 j25
  go_wp2_with fail
  refine (toMessageS_any _ _ _ (f20.more (by omega)) hn1).mono ?_; rintro e w6 ⟨u_x1_, rfl, o_x1_, hb6⟩
  have s6_ := hb6.size
  have t6 := t5.trans (hb6.mono (by omega))
  clear j23 j24 j25
  have f26 := f20.step hb6 (by omega)
  clear f20
  have f27 := f21.step hb6
  clear f21
  have j28 := f27.cell 0
  have j29 := f27.cell 1
  have j30 := f27.cell 2
  simp at j28 j29 j30
  go_wp2_with fail
  refine (HA0.out _).mono ?_; rintro e w7 ⟨rfl, hb7⟩
  have s7_ := hb7.size
  have t7 := t6.trans (hb7.mono (by omega))
  clear j28 j29 j30
  have f31 := f26.step hb7 (by omega)
  clear f26
  have f32 := f27.step hb7
  clear f27
  have f33 := o_x1_.step hb7
  clear o_x1_
  have j34 := f32.cell 0
  have j35 := f32.cell 1
  have j36 := f32.cell 2
  simp at j34 j35 j36
  go_wp2_with fail
  refine (HI.out _ _ (f33.rk.more (by omega))).mono ?_; rintro e w8 ⟨rfl, hb8⟩
  have s8_ := hb8.size
  have t8 := t7.trans (hb8.mono (by omega))
  clear j34 j35 j36
  have f37 := f31.step hb8 (by omega)
  clear f31
  have f38 := f32.step hb8
  clear f32
  have f39 := f33.step hb8
  clear f33
  have j40 := f38.cell 0
  have j41 := f38.cell 1
  have j42 := f38.cell 2
  simp at j40 j41 j42
  go_wp2_with fail
  refine (toMessageS_any _ _ _ (f37.more (by omega)) hn1).mono ?_; rintro e w9 ⟨u_y, rfl, o_y, hb9⟩
  have s9_ := hb9.size
  have t9 := t8.trans (hb9.mono (by omega))
  clear j40 j41 j42
  have f43 := f37.step hb9 (by omega)
  clear f37
  have f44 := f38.step hb9
  clear f38
  have f45 := f39.step hb9
  clear f39
  have j46 := f44.cell 0
  have j47 := f44.cell 1
  have j48 := f44.cell 2
  simp at j46 j47 j48
  go_wp2_with fail
  refine (eqMessageS_same _ _ _ _ (f45.rk.more (by omega)) (o_y.rk.more (by omega)) hn1).mono ?_; rintro e w10 ⟨rfl, hb10⟩
  have s10_ := hb10.size
  have t10 := t9.trans (hb10.mono (by omega))
  clear j46 j47 j48
  have f49 := f43.step hb10 (by omega)
  clear f43
  have f50 := f44.step hb10
  clear f44
  have f51 := f45.step hb10
  clear f45
  have f52 := o_y.step hb10
  clear o_y
  have j53 := f50.cell 0
  have j54 := f50.cell 1
  have j55 := f50.cell 2
  simp at j53 j54 j55
  go_wp2_with fail
  go_ret
  exact ⟨rfl, t10⟩

set_option maxRecDepth 100000 in
theorem lifted (os : Os) (started : os.Started) (H : Type) (enc : TypeId × Value → H) :
    ReturnsInHanded {} Try.checked os 8 .any (Rows.fnExactCellsUnderwaySpec.pre6 enc Try.prog Try.f8 Rows.fnExactCellsUnderwayRow.domain false) (Rows.fnExactCellsUnderwaySpec.post enc Try.prog Try.f8 false true false false) := by
  refine returnsInHanded_of_change (C := Try.checked) own started (by kernel_rfl) Try.func8
    (ChangeSpec.witness6 (enc := enc) (C := Try.checked) false ⟨#[], #[.agg #[.int .i64 0, .int .i64 0, .bool false], .slice none 0 0, .int .i64 0], []⟩ 8 (by kernel_rfl) (by kernel_rfl) (by kernel_rfl) (by kernel_rfl)) ?_
  intro W base args ds gs before hval0 hW hcnd _
  have hval : ∀ (j : Nat) t v, Try.f8.params[j]? = some t → args[j]? = some v → Value.okWide Try.prog W .any base t v := hval0
  have hW' := hW
  obtain ⟨p, q, hA0, hV, rfl, hfz, hnd⟩ := hW
  have hA : DataW.TrodAll enc Try.prog W 0 (fun _ => true) true Try.f8.params.toList args.toList ds p := hA0
  rw [Try.params8] at hA hval
  obtain ⟨v0, vs0, d0, ds0, p0, q0, hargs, rfl, rfl, h0, r0⟩ := trodAll_cons hA
  obtain ⟨v1, vs1, d1, ds1, p1, q1, rfl, rfl, rfl, h1, r1⟩ := trodAll_cons r0
  obtain ⟨v2, vs2, d2, ds2, p2, q2, rfl, rfl, rfl, h2, r2⟩ := trodAll_cons r1
  obtain ⟨rfl, rfl, rfl⟩ := trodAll_nil r2
  obtain rfl : args = #[v0, v1, v2] := by cases args; simp_all
  obtain ⟨rfl, rfl⟩ := trodVars_none hV
  have k0 := h0
  have lt0 : ∀ x ∈ p0, x.block < W.heap.size := by obtain ⟨m, hm⟩ := k0; exact DataW.trod_lt m _ _ _ hm
  obtain ⟨e0_0, e0_1, e0_2, y0_0, y0_1, y0_2, m0, rfl, hd0, hp0, g0_0, g0_1, g0_2⟩ := Go.Joins.open_agg3 Try.underlying23 (by kernel_rfl) (by kernel_rfl) (hval 0 23 v0 rfl rfl) h0
  obtain ⟨x0_0, hx0_0, _, w0_0⟩ := DataW.trod_int Try.underlying3 g0_0
  obtain rfl : e0_0 = .int .i64 x0_0 := by simpa using hx0_0
  obtain ⟨x0_1, hx0_1, _, w0_1⟩ := DataW.trod_int Try.underlying3 g0_1
  obtain rfl : e0_1 = .int .i64 x0_1 := by simpa using hx0_1
  obtain ⟨x0_2, hx0_2, _⟩ := DataW.trod_bool Try.underlying4 g0_2
  obtain rfl : e0_2 = .bool x0_2 := by simpa using hx0_2
  have k1 := h1
  have lt1 : ∀ x ∈ p1, x.block < W.heap.size := by obtain ⟨m, hm⟩ := k1; exact DataW.trod_lt m _ _ _ hm
  obtain ⟨aa1, la1, ca1, rfl⟩ := okWide_slice Try.underlying24 (hval 1 24 v1 rfl rfl)
  obtain ⟨fu1, hfu1⟩ := h1
  obtain ⟨l1, n1, w1, _⟩ := open_MessageS hfu1
  obtain ⟨a2, rfl, rfl, rfl, w2⟩ := open_int Try.underlying3 (hval 2 3 v2 rfl rfl) h2
  clear hA0 hval0
  refine (walk ⟨x0_0, x0_1, x0_2⟩ _ l1 a2 W n1 w1 w2).mono fun e W' ⟨he, bel⟩ => ?_
  subst he
  exact ⟨_, rfl, _, _, _, [], _, [], hW', trodAll_mk1 (shut_bool Try.underlying4 _), (trodAll_cons_mk (Below.trod laidOut (by kernel_rfl) (of_decide_eq_true (by kernel_rfl)) k0 bel lt0) (trodAll_cons_mk (Below.trod laidOut (by kernel_rfl) (of_decide_eq_true (by kernel_rfl)) k1 bel lt1) (trodAll_cons_mk (shut_int Try.underlying3 w2) trodAll_mk0))), rfl, bel.frame _, fun h => by cases h⟩

theorem closed : joinedFacts Try.pinned.checked.prog 8 Try.f8 Rows.fnExactCellsUnderwaySpec Rows.fnExactCellsUnderwayRow = true := by
  unfold joinedFacts
  repeat' (with_reducible refine and_t ?_ ?_)
  all_goals first
    | (with_reducible exact init_mayEnter)
    | (with_reducible refine init_lifted ?_; as_aux_lemma => kernel_rfl)
    | (with_reducible refine init_mk ?_; as_aux_lemma => kernel_rfl)
    | (as_aux_lemma => kernel_rfl)

theorem over : Rows.fnExactCellsUnderwayRow.holds Try.pinned (OpenSpec.ofChange Rows.fnExactCellsUnderwaySpec) :=
  OpenClaim.holds_of_wide 8 Try.f8 rfl rfl rfl rfl rfl rfl rfl ⟨rfl, rfl, rfl, rfl, rfl⟩ rfl rfl rfl rfl rfl (by kernel_rfl) Try.func8 closed
    (of_decide_eq_true (by kernel_rfl)) (by unfold Func.isWrapper; first | (rw [if_pos (by decide +kernel)]; kernel_rfl) | (rw [if_neg (by decide +kernel)]; exact ⟨rfl, rfl⟩))
    (fun os started H enc _ => lifted os started H enc)

/-- The given statement. -/
theorem proved : Rows.FnExactCellsUnderwaySaid := over

end Go.Proofs.Ytfphkgialmjfnaa.lawCellsUnderway
