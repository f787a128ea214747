/-
  FreeShare answers as its model at every argument, writes into no argument, and its answer owns its memory. No condition.
-/
import Derived.Test.YtgkpdlicgllcoaaBpB
import Derived.Test.YtgkpdlicgllcoaaSTimedRing
import Derived.Test.YtgkpdlicgllcoaaFrame
import Derived.Deep.RegionWith
import Derived.Deep.DeepCutAuto
import Derived.Lib.SmallJoins
namespace Go.Proofs.Ytgkpdlicgllcoaa.lawFreeShare
open Go.RowKit Go.ChangeShapes Go.WideShapes Go.ChangeAt
set_option maxRecDepth 100000
set_option linter.unusedVariables false

set_option maxHeartbeats 4000000 in
theorem walk (z0 : Tm) (s0 : Value) (w : World) (h0 : RI w w.heap.size s0 z0.d) (hm0 : z0.d.length ≤ maxLen) :
    Calls Try.prog 5 #[TmV z0 s0] w (RetV w (.bool true)) := by
  obtain ⟨y0t, y0k, d0⟩ := z0
  simp only [TmV] at h0 hm0 ⊢
  have hr0 := h0
  obtain ⟨A0, c0, rfl, hlc0, hc0⟩ := h0
  clear hc0
  have t0 : Below w.heap.size w w := Below.refl _ _
  have hB1 := BK.made w 24 #[.int .i64 y0t, .int .i64 y0k, .slice A0 d0.length c0]
  have hb0 : Below w.heap.size w (w.alloc (.cells #[.int .i64 y0t, .int .i64 y0k, .slice A0 d0.length c0] 24)) := (Below.refl _ _).alloc (Nat.le_refl _) _
  have hf1 : RTm (w.alloc (.cells #[.int .i64 y0t, .int .i64 y0k, .slice A0 d0.length c0] 24)) (w.alloc (.cells #[.int .i64 y0t, .int .i64 y0k, .slice A0 d0.length c0] 24)).heap.size (TmV ⟨y0t, y0k, d0⟩ (.slice A0 d0.length c0)) ⟨y0t, y0k, d0⟩ := ⟨_, rfl, (hr0.below hb0).more hb0.size⟩
  by_cases hn : 1048576 < (d0.length : Int)
  · go_enter Try.func5, Try.ntmps5
    go_wp2_with fail
    refine (szTimedRing_any _ ⟨y0t, y0k, d0⟩ _ _ hf1 (by omega) (by omega) hm0).mono ?_; rintro e w1 ⟨rfl, hb1⟩
    rw [szLeft_neg (show (1048576 : Int) < (d0.length : Int) by omega)]
    go_wp2_with fail
    go_ret
    exact ⟨rfl, hb0.trans (hb1.mono hb0.size)⟩
  have hn0 : d0.length ≤ 1048576 := by omega
  have hp0 : 0 ≤ 1048576 - (d0.length : Int) := by omega
  have hq0 : (d0.length : Int) ≤ 1048576 := by omega
  obtain ⟨X, b, hX⟩ : ∃ X b, (X, b) = shareSays ⟨y0t, y0k, d0⟩ := ⟨_, _, rfl⟩
  have HI : Hid (∀ v0 w, RTm w w.heap.size v0 ⟨y0t, y0k, d0⟩ → Calls Try.prog 24 #[v0] w (RetV w (.tuple #[.int .i64 X, .bool b]))) := by
    show ∀ v0 w, RTm w w.heap.size v0 ⟨y0t, y0k, d0⟩ → Calls Try.prog 24 #[v0] w (RetV w (.tuple #[.int .i64 X, .bool b]))
    intro v0 w q0
    have h5 := implFreeShare_any v0 ⟨y0t, y0k, d0⟩ w q0 hn0
    rw [← hX] at h5
    exact h5
  have HS : Hid (∀ v0 w, RTm w w.heap.size v0 ⟨y0t, y0k, d0⟩ → Calls Try.prog 23 #[v0] w (RetV w (.tuple #[.int .i64 X, .bool b]))) := by
    show ∀ v0 w, RTm w w.heap.size v0 ⟨y0t, y0k, d0⟩ → Calls Try.prog 23 #[v0] w (RetV w (.tuple #[.int .i64 X, .bool b]))
    intro v0 w q0
    have h5 := specFreeShare_any v0 ⟨y0t, y0k, d0⟩ w q0 hn0
    rw [← hX] at h5
    exact h5
  clear hX
  go_enter Try.func5, Try.ntmps5
  go_wp2_with fail
  refine (szTimedRing_any _ ⟨y0t, y0k, d0⟩ _ _ hf1 (by omega) (by omega) hm0).mono ?_; rintro e w1 ⟨rfl, hb1⟩
  rw [szLeft_pos (show ¬ (1048576 : Int) < (d0.length : Int) by omega)]
  have s1_ := hb1.size
  have t1 := hb0.trans (hb1.mono hb0.size)
  have b1 := hB1.step hb1
  have r1 := hr0.step t1 (Nat.le_refl _)
  have l1 := b1.1
  clear hb1 hb0 hB1 hf1
  have j1 := b1.cell 0
  have j2 := b1.cell 1
  have j3 := b1.cell 2
  simp at j1 j2 j3
  go_wp2_with fail
  refine (toTimedRing_any _ ⟨y0t, y0k, d0⟩ _ ⟨_, rfl, (r1.more (by omega))⟩ hn0).mono ?_; rintro e w2 ⟨u_p0, rfl, o_p0, hb2⟩
  obtain ⟨s_p0, rfl, o_p0⟩ := o_p0
  obtain ⟨A_p0, c_p0, rfl, _, _⟩ := o_p0.ri
  simp only [TmV]
  have s2_ := hb2.size
  have t2 := t1.trans (hb2.mono (by omega))
  clear j1 j2 j3
  have f4 := r1.step hb2 (by omega)
  clear r1
  have f5 := b1.step hb2
  clear b1
  have j6 := f5.cell 0
  have j7 := f5.cell 1
  have j8 := f5.cell 2
  simp at j6 j7 j8
  go_wp2_with fail
  refine (HS.out _ _ ⟨_, rfl, (o_p0.ri.more (by omega))⟩).mono ?_; rintro e w3 ⟨rfl, hb3⟩
  have s3_ := hb3.size
  have t3 := t2.trans (hb3.mono (by omega))
  clear j6 j7 j8
  have f9 := f4.step hb3 (by omega)
  clear f4
  have f10 := f5.step hb3
  clear f5
  have f11 := o_p0.step hb3
  clear o_p0
  have j12 := f10.cell 0
  have j13 := f10.cell 1
  have j14 := f10.cell 2
  simp at j12 j13 j14
  go_wp2_with fail
  refine (toTimedRing_any _ ⟨y0t, y0k, d0⟩ _ ⟨_, rfl, (f9.more (by omega))⟩ hn0).mono ?_; rintro e w4 ⟨u_x0_, rfl, o_x0_, hb4⟩
  obtain ⟨s_x0_, rfl, o_x0_⟩ := o_x0_
  obtain ⟨A_x0_, c_x0_, rfl, _, _⟩ := o_x0_.ri
  simp only [TmV]
  have s4_ := hb4.size
  have t4 := t3.trans (hb4.mono (by omega))
  clear j12 j13 j14
  have f15 := f9.step hb4 (by omega)
  clear f9
  have f16 := f10.step hb4
  clear f10
  have hb5 : Below w4.heap.size w4 (w4.alloc (.cells #[.int .i64 y0t, .int .i64 y0k, .slice A_x0_ d0.length c_x0_] 27)) := (Below.refl _ _).alloc (Nat.le_refl _) _
  have bb_x0_ := BK.made w4 27 #[.int .i64 y0t, .int .i64 y0k, .slice A_x0_ d0.length c_x0_]
  have lb5 := bb_x0_.1
  have s5_ := hb5.size
  have t5 := t4.trans (hb5.mono (by omega))
  have f17 := f15.step hb5 (by omega)
  clear f15
  have f18 := f16.step hb5
  clear f16
  have f19 := o_x0_.step hb5
  clear o_x0_
  have j20 := f18.cell 0
  have j21 := f18.cell 1
  have j22 := f18.cell 2
  have j23 := bb_x0_.cell 0
  have j24 := bb_x0_.cell 1
  have j25 := bb_x0_.cell 2
  simp at j20 j21 j22 j23 j24 j25
  go_wp2_with fail
  refine (HI.out _ _ ⟨_, rfl, (f19.ri.more (by omega))⟩).mono ?_; rintro e w6 ⟨rfl, hb6⟩
  have s6_ := hb6.size
  have t6 := t5.trans (hb6.mono (by omega))
  clear j20 j21 j22 j23 j24 j25
  have f26 := f17.step hb6 (by omega)
  clear f17
  have f27 := f18.step hb6
  clear f18
  have f28 := f19.step hb6
  clear f19
  have f29 := bb_x0_.step hb6
  clear bb_x0_
  have j30 := f27.cell 0
  have j31 := f27.cell 1
  have j32 := f27.cell 2
  have j33 := f29.cell 0
  have j34 := f29.cell 1
  have j35 := f29.cell 2
  simp at j30 j31 j32 j33 j34 j35
  go_upto_region 10 with fail
  go_cut [39] (fun s9 wx => s9 = .bool false ∧ Below w6.heap.size w6 wx)
  case first =>
    have R6 := RI.drewN f26 1
    have Q6 := RI.drewN f28.ri 1
    have X6 : BK (w6.drewN 1) _ _ _ := f29
    have T6 := below_drewN (Below.refl w6.heap.size w6) 1
    have y6 := T6.size
    go_region_with (first
      | (go_at_call 18; refine (toTimedRing_any _ ⟨y0t, y0k, d0⟩ _ ⟨_, rfl, R6.more (by omega)⟩ hn0).mono ?_; rintro e w7 ⟨u7, rfl, ho7, hb7⟩; have t7 := T6.trans (hb7.mono (by omega)); have q7 := Q6.step hb7 (by omega); have x7 := X6.step hb7; have s7 := hb7.size; have d70 := x7.cell 0; have d71 := x7.cell 1; have d72 := x7.cell 2; simp at d70 d71 d72)
      | (go_at_call 20; refine (eqTimedRing_same _ _ ⟨y0t, y0k, d0⟩ _ ⟨_, rfl, q7.more (by omega)⟩ ho7.rd hn0).mono ?_; rintro e w8 ⟨rfl, hb8⟩))
    all_goals
      go_wp2_with fail
      go_meet
      exact ⟨rfl, t7.trans (hb8.mono (by have := t7.size; omega))⟩
  case rest =>
    obtain ⟨rfl, hb7⟩ := hcut
    have s7_ := hb7.size
    have t7 := t6.trans (hb7.mono (by omega))
    clear j30 j31 j32 j33 j34 j35
    have f36 := f26.step hb7 (by omega)
    clear f26
    have f37 := f27.step hb7
    clear f27
    have f38 := f28.step hb7
    clear f28
    have f39 := f29.step hb7
    clear f29
    have j40 := f37.cell 0
    have j41 := f37.cell 1
    have j42 := f37.cell 2
    have j43 := f39.cell 0
    have j44 := f39.cell 1
    have j45 := f39.cell 2
    simp at j40 j41 j42 j43 j44 j45
    go_wp2_with fail
    go_ret
    exact ⟨rfl, t7⟩

set_option maxRecDepth 100000 in
theorem lifted (os : Os) (started : os.Started) (H : Type) (enc : TypeId × Value → H) :
    ReturnsInHanded {} Try.checked os 5 .any (Rows.fnExactFreeShareSpec.pre6 enc Try.prog Try.f5 Rows.fnExactFreeShareRow.domain false) (Rows.fnExactFreeShareSpec.post enc Try.prog Try.f5 false true false false) := by
  refine returnsInHanded_of_change (C := Try.checked) own started (by kernel_rfl) Try.func5
    (ChangeSpec.witness6 (enc := enc) (C := Try.checked) false ⟨#[], #[.agg #[.int .i64 0, .int .i64 0, .slice none 0 0]], []⟩ 8 (by kernel_rfl) (by kernel_rfl) (by kernel_rfl) (by kernel_rfl)) ?_
  intro W base args ds gs before hval0 hW hcnd _
  have hval : ∀ (j : Nat) t v, Try.f5.params[j]? = some t → args[j]? = some v → Value.okWide Try.prog W .any base t v := hval0
  have hW' := hW
  obtain ⟨p, q, hA0, hV, rfl, hfz, hnd⟩ := hW
  have hA : DataW.TrodAll enc Try.prog W 0 (fun _ => true) true Try.f5.params.toList args.toList ds p := hA0
  rw [Try.params5] at hA hval
  obtain ⟨v0, vs0, d0, ds0, p0, q0, hargs, rfl, rfl, h0, r0⟩ := trodAll_cons hA
  obtain ⟨rfl, rfl, rfl⟩ := trodAll_nil r0
  obtain rfl : args = #[v0] := by cases args; simp_all
  obtain ⟨rfl, rfl⟩ := trodVars_none hV
  have k0 := h0
  have lt0 : ∀ x ∈ p0, x.block < W.heap.size := by obtain ⟨m, hm⟩ := k0; exact DataW.trod_lt m _ _ _ hm
  obtain ⟨e0_0, e0_1, e0_2, y0_0, y0_1, y0_2, m0, rfl, hd0, hp0, g0_0, g0_1, g0_2⟩ := Go.Joins.open_agg3 Try.underlying24 (by kernel_rfl) (by kernel_rfl) (hval 0 24 v0 rfl rfl) h0
  obtain ⟨x0_0, hx0_0, _, w0_0⟩ := DataW.trod_int Try.underlying3 g0_0
  obtain rfl : e0_0 = .int .i64 x0_0 := by simpa using hx0_0
  obtain ⟨x0_1, hx0_1, _, w0_1⟩ := DataW.trod_int Try.underlying3 g0_1
  obtain rfl : e0_1 = .int .i64 x0_1 := by simpa using hx0_1
  obtain ⟨l0_2, w0_2⟩ : ∃ l, RI W W.heap.size e0_2 l ∧ (∀ x ∈ l, (Lit.int .i64 x).wf = true) ∧ l.length ≤ maxLen := by
    rcases open_ints Try.underlying22 Try.underlying3 (by kernel_rfl) g0_2 with ⟨hcs, _⟩ | ⟨x, l, c, zs, hcs, _, hl, hm, hz, _, hcell, hwz⟩
    · obtain rfl : e0_2 = .slice none 0 0 := by simpa using hcs
      exact ⟨[], ⟨none, 0, rfl, ⟨by simp, by simp, fun _ => rfl⟩, fun h => absurd h (by simp)⟩, by simp, by simp⟩
    · obtain rfl : e0_2 = .slice (some x) l c := by simpa using hcs
      have hz' : zs.length = c := by simpa using hz
      exact ⟨zs.take l, ri_of_cells (by omega) hz' hm hcell, fun y hy => hwz y (List.mem_of_mem_take hy), by simp; omega⟩
  clear hA0 hval0
  refine (walk ⟨x0_0, x0_1, l0_2⟩ e0_2 W w0_2.1 w0_2.2.2).mono fun e W' ⟨he, bel⟩ => ?_
  subst he
  exact ⟨_, rfl, _, _, _, [], _, [], hW', trodAll_mk1 (shut_bool Try.underlying4 _), (trodAll_cons_mk (Below.trod laidOut (by kernel_rfl) (of_decide_eq_true (by kernel_rfl)) k0 bel lt0) trodAll_mk0), rfl, bel.frame _, fun h => by cases h⟩

theorem closed : joinedFacts Try.pinned.checked.prog 5 Try.f5 Rows.fnExactFreeShareSpec Rows.fnExactFreeShareRow = true := by
  unfold joinedFacts
  repeat' (with_reducible refine and_t ?_ ?_)
  all_goals first
    | (with_reducible exact init_mayEnter)
    | (with_reducible refine init_lifted ?_; as_aux_lemma => kernel_rfl)
    | (with_reducible refine init_mk ?_; as_aux_lemma => kernel_rfl)
    | (as_aux_lemma => kernel_rfl)

theorem over : Rows.fnExactFreeShareRow.holds Try.pinned (OpenSpec.ofChange Rows.fnExactFreeShareSpec) :=
  OpenClaim.holds_of_wide 5 Try.f5 rfl rfl rfl rfl rfl rfl rfl ⟨rfl, rfl, rfl, rfl, rfl⟩ rfl rfl rfl rfl rfl (by kernel_rfl) Try.func5 closed
    (of_decide_eq_true (by kernel_rfl)) (by unfold Func.isWrapper; first | (rw [if_pos (by decide +kernel)]; kernel_rfl) | (rw [if_neg (by decide +kernel)]; exact ⟨rfl, rfl⟩))
    (fun os started H enc _ => lifted os started H enc)

/-- The given statement. -/
theorem proved : Rows.FnExactFreeShareSaid := over

end Go.Proofs.Ytgkpdlicgllcoaa.lawFreeShare
