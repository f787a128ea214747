/-
  IsBusySchedule answers as its model at every argument, writes into no argument, and its answer owns its memory. No condition.
-/
import Derived.Test.YtifdpjfoclibkaaIsBusy
import Derived.Test.YtifdpjfoclibkaaIsBusyS
import Derived.Test.YtifdpjfoclibkaaFJob
import Derived.Test.YtifdpjfoclibkaaFrame
import Derived.Deep.RegionWith
import Derived.Deep.DeepCutAuto
import Derived.Lib.SmallJoins
import Derived.Deep.Slices
import Derived.Deep.Fields
import Derived.ChangeSame
namespace Go.Proofs.Ytifdpjfoclibkaa.lawIsBusySchedule
open Go.RowKit Go.ChangeShapes Go.WideShapes Go.ChangeAt
set_option maxRecDepth 100000
set_option linter.unusedVariables false

set_option maxHeartbeats 4000000 in
theorem walk (s0 : Value) (d0 : List Jb) (s1 : Value) (d1 : List Int) (w : World) (h0 : RJbS w w.heap.size s0 d0) (hm0 : d0.length ≤ maxLen) (h1 : RI w w.heap.size s1 d1) (hm1 : d1.length ≤ maxLen) :
    Calls Try.prog 10 #[s0, s1] w (RetV w (.bool true)) := by
  have hr0 := h0
  obtain ⟨a0, c0, rfl, _, _, _⟩ := h0
  have hr1 := h1
  obtain ⟨a1, c1, rfl, _, _⟩ := h1
  have t0 : Below w.heap.size w w := Below.refl _ _
  rcases Nat.lt_or_ge 1048576 d1.length with hn1 | hn1
  · have hn' : (1048576 : Int) < d1.length := by omega
    go_enter Try.func10, Try.ntmps10
    go_wp2_with fail
    go_ret
    exact ⟨rfl, Below.refl _ _⟩
  have hq1 : (d1.length : Int) ≤ 1048576 := by omega
  rcases Nat.lt_or_ge 1048576 d0.length with hn0 | hn0
  · have hn' : (1048576 : Int) < d0.length := by omega
    go_enter Try.func10, Try.ntmps10
    go_wp2_with fail
    refine (szJobS_any _ d0 _ _ (hr0.more (by omega)) (by omega) (by omega) hm0).mono ?_; rintro e w1 ⟨rfl, hb1⟩
    rw [if_pos (by omega)]
    go_wp2_with fail
    go_ret
    exact ⟨rfl, t0.trans (hb1.mono (by omega))⟩
  have hq0 : (d0.length : Int) ≤ 1048576 := by omega
  obtain ⟨X, b, hX⟩ : ∃ X b, (X, b) = isBusyOf d0 d1 := ⟨_, _, rfl⟩
  have HI : Hid (∀ v0 v1 w, RJbS w w.heap.size v0 d0 → RI w w.heap.size v1 d1 → Calls Try.prog 37 #[v0, v1] w (RetV w (.tuple #[.bool X, .bool b]))) := by
    show ∀ v0 v1 w, RJbS w w.heap.size v0 d0 → RI w w.heap.size v1 d1 → Calls Try.prog 37 #[v0, v1] w (RetV w (.tuple #[.bool X, .bool b]))
    intro v0 v1 w q0 q1
    have h5 := implIsBusySchedule_any v0 v1 d0 d1 w q0 q1 hn0 hn1
    rw [← hX] at h5
    exact h5
  have HS : Hid (∀ v0 v1 w, RJbS w w.heap.size v0 d0 → RI w w.heap.size v1 d1 → Calls Try.prog 36 #[v0, v1] w (RetV w (.tuple #[.bool X, .bool b]))) := by
    show ∀ v0 v1 w, RJbS w w.heap.size v0 d0 → RI w w.heap.size v1 d1 → Calls Try.prog 36 #[v0, v1] w (RetV w (.tuple #[.bool X, .bool b]))
    intro v0 v1 w q0 q1
    have h5 := specIsBusySchedule_any v0 v1 d0 d1 w q0 q1 hn0 hn1
    rw [← hX] at h5
    exact h5
  clear hX
  go_enter Try.func10, Try.ntmps10
  go_wp2_with fail
  refine (szJobS_any _ d0 _ _ (hr0.more (by omega)) (by omega) (by omega) hm0).mono ?_; rintro e w1 ⟨rfl, hb1⟩
  have s1_ := hb1.size
  have t1 := t0.trans (hb1.mono (by omega))
  have f1 := hr0.step hb1 (by omega)
  clear hr0
  have f2 := hr1.step hb1 (by omega)
  clear hr1
  rw [if_neg (by omega)]
  go_wp2_with fail
  refine (toJobS_any _ _ _ (f1.more (by omega)) hn0).mono ?_; rintro e w2 ⟨u_p0, rfl, o_p0, hb2⟩
  have s2_ := hb2.size
  have t2 := t1.trans (hb2.mono (by omega))
  have f3 := f1.step hb2 (by omega)
  clear f1
  have f4 := f2.step hb2 (by omega)
  clear f2
  go_wp2_with fail
  refine (toIntS_any _ _ _ (f4.more (by omega)) hn1).mono ?_; rintro e w3 ⟨u_p1, rfl, o_p1, hb3⟩
  have s3_ := hb3.size
  have t3 := t2.trans (hb3.mono (by omega))
  have f5 := f3.step hb3 (by omega)
  clear f3
  have f6 := f4.step hb3 (by omega)
  clear f4
  have f7 := o_p0.step hb3
  clear o_p0
  go_wp2_with fail
  refine (HS.out _ _ _ (f7.rk.more (by omega)) (o_p1.ri.more (by omega))).mono ?_; rintro e w4 ⟨rfl, hb4⟩
  have s4_ := hb4.size
  have t4 := t3.trans (hb4.mono (by omega))
  have f8 := f5.step hb4 (by omega)
  clear f5
  have f9 := f6.step hb4 (by omega)
  clear f6
  have f10 := f7.step hb4
  clear f7
  have f11 := o_p1.step hb4
  clear o_p1
  go_wp2_with fail
  refine (toJobS_any _ _ _ (f8.more (by omega)) hn0).mono ?_; rintro e w5 ⟨u_x0_, rfl, o_x0_, hb5⟩
  have s5_ := hb5.size
  have t5 := t4.trans (hb5.mono (by omega))
  have f12 := f8.step hb5 (by omega)
  clear f8
  have f13 := f9.step hb5 (by omega)
  clear f9
  go_wp2_with fail
  refine (toIntS_any _ _ _ (f13.more (by omega)) hn1).mono ?_; rintro e w6 ⟨u_x1_, rfl, o_x1_, hb6⟩
  have s6_ := hb6.size
  have t6 := t5.trans (hb6.mono (by omega))
  have f14 := f12.step hb6 (by omega)
  clear f12
  have f15 := f13.step hb6 (by omega)
  clear f13
  have f16 := o_x0_.step hb6
  clear o_x0_
  go_wp2_with fail
  refine (HI.out _ _ _ (f16.rk.more (by omega)) (o_x1_.ri.more (by omega))).mono ?_; rintro e w7 ⟨rfl, hb7⟩
  have s7_ := hb7.size
  have t7 := t6.trans (hb7.mono (by omega))
  have f17 := f14.step hb7 (by omega)
  clear f14
  have f18 := f15.step hb7 (by omega)
  clear f15
  have f19 := f16.step hb7
  clear f16
  have f20 := o_x1_.step hb7
  clear o_x1_
  go_wp2_with fail
  refine (toJobS_any _ _ _ (f17.more (by omega)) hn0).mono ?_; rintro e w8 ⟨u_y, rfl, o_y, hb8⟩
  have s8_ := hb8.size
  have t8 := t7.trans (hb8.mono (by omega))
  have f21 := f17.step hb8 (by omega)
  clear f17
  have f22 := f18.step hb8 (by omega)
  clear f18
  have f23 := f19.step hb8
  clear f19
  have f24 := f20.step hb8
  clear f20
  go_wp2_with fail
  refine (eqJobS_same _ _ _ _ (f23.rk.more (by omega)) (o_y.rk.more (by omega)) hn0).mono ?_; rintro e w9 ⟨rfl, hb9⟩
  have s9_ := hb9.size
  have t9 := t8.trans (hb9.mono (by omega))
  have f25 := f21.step hb9 (by omega)
  clear f21
  have f26 := f22.step hb9 (by omega)
  clear f22
  have f27 := f23.step hb9
  clear f23
  have f28 := f24.step hb9
  clear f24
  have f29 := o_y.step hb9
  clear o_y
  go_wp2_with fail
  refine (toIntS_any _ _ _ (f26.more (by omega)) hn1).mono ?_; rintro e w10 ⟨u_y, rfl, o_y, hb10⟩
  have s10_ := hb10.size
  have t10 := t9.trans (hb10.mono (by omega))
  have f30 := f25.step hb10 (by omega)
  clear f25
  have f31 := f26.step hb10 (by omega)
  clear f26
  have f32 := f27.step hb10
  clear f27
  have f33 := f28.step hb10
  clear f28
  go_wp2_with fail
  refine (eqIntS_same _ _ _ _ (f33.ri.more (by omega)) (o_y.ri.more (by omega)) hn1).mono ?_; rintro e w11 ⟨rfl, hb11⟩
  have s11_ := hb11.size
  have t11 := t10.trans (hb11.mono (by omega))
  have f34 := f30.step hb11 (by omega)
  clear f30
  have f35 := f31.step hb11 (by omega)
  clear f31
  have f36 := f32.step hb11
  clear f32
  have f37 := f33.step hb11
  clear f33
  have f38 := o_y.step hb11
  clear o_y
  go_wp2_with fail
  go_ret
  exact ⟨rfl, t11⟩

set_option maxRecDepth 100000 in
theorem lifted (os : Os) (started : os.Started) (H : Type) (enc : TypeId × Value → H) :
    ReturnsInHanded {} Try.checked os 10 .any (Rows.fnExactIsBusyScheduleSpec.pre6 enc Try.prog Try.f10 Rows.fnExactIsBusyScheduleRow.domain false) (Rows.fnExactIsBusyScheduleSpec.post enc Try.prog Try.f10 false true false false) := by
  refine returnsInHanded_of_change (C := Try.checked) own started (by kernel_rfl) Try.func10
    (ChangeSpec.witness6 (enc := enc) (C := Try.checked) false ⟨#[], #[.slice none 0 0, .slice none 0 0], []⟩ 8 (by kernel_rfl) (by kernel_rfl) (by kernel_rfl) (by kernel_rfl)) ?_
  intro W base args ds gs before hval0 hW hcnd _
  have hval : ∀ (j : Nat) t v, Try.f10.params[j]? = some t → args[j]? = some v → Value.okWide Try.prog W .any base t v := hval0
  have hW' := hW
  obtain ⟨p, q, hA0, hV, rfl, hfz, hnd⟩ := hW
  have hA : DataW.TrodAll enc Try.prog W 0 (fun _ => true) true Try.f10.params.toList args.toList ds p := hA0
  rw [Try.params10] at hA hval
  obtain ⟨v0, vs0, d0, ds0, p0, q0, hargs, rfl, rfl, h0, r0⟩ := trodAll_cons hA
  obtain ⟨v1, vs1, d1, ds1, p1, q1, rfl, rfl, rfl, h1, r1⟩ := trodAll_cons r0
  obtain ⟨rfl, rfl, rfl⟩ := trodAll_nil r1
  obtain rfl : args = #[v0, v1] := by cases args; simp_all
  obtain ⟨rfl, rfl⟩ := trodVars_none hV
  have k0 := h0
  have lt0 : ∀ x ∈ p0, x.block < W.heap.size := by obtain ⟨m, hm⟩ := k0; exact DataW.trod_lt m _ _ _ hm
  obtain ⟨aa0, la0, ca0, rfl⟩ := okWide_slice Try.underlying22 (hval 0 22 v0 rfl rfl)
  obtain ⟨fu0, hfu0⟩ := h0
  obtain ⟨l0, n0, w0, _⟩ := open_JobS hfu0
  obtain ⟨a1, len1, cap1, rfl⟩ := okWide_slice Try.underlying23 (hval 1 23 v1 rfl rfl)
  have k1 := h1
  have lt1 : ∀ x ∈ p1, x.block < W.heap.size := by obtain ⟨m, hm⟩ := k1; exact DataW.trod_lt m _ _ _ hm
  obtain ⟨l1, n1, w1⟩ : ∃ l, len1 = List.length l ∧ RI W W.heap.size (.slice a1 len1 cap1) l ∧ (∀ x ∈ l, (Lit.int .i64 x).wf = true) ∧ cap1 ≤ maxLen := by
    obtain ⟨fuel, hf⟩ := h1
    rcases open_ints Try.underlying23 Try.underlying3 (by kernel_rfl) hf with ⟨hcs, _⟩ | ⟨x, l, c, zs, hcs, _, hl, hm, hz, _, hcell, hwz⟩
    · simp [Value.cells] at hcs
      obtain ⟨rfl, rfl, rfl⟩ := hcs
      exact ⟨[], rfl, ⟨none, 0, rfl, ⟨by simp, by simp, fun _ => rfl⟩, fun h => absurd h (by simp)⟩, by simp, by simp⟩
    · simp [Value.cells] at hcs
      obtain ⟨rfl, rfl, rfl⟩ := hcs
      have hz' : zs.length = cap1 := by simpa using hz
      exact ⟨zs.take len1, by simp; omega, ri_of_cells (by omega) hz' hm hcell, fun x hx => hwz x (List.mem_of_mem_take hx), hm⟩
  subst n1
  clear hA0 hval0
  refine (walk _ l0 _ l1 W n0 w0 w1.1 (by obtain ⟨_, _, _, ⟨q1_, q2_, _⟩, _⟩ := w1.1; omega)).mono fun e W' ⟨he, bel⟩ => ?_
  subst he
  exact ⟨_, rfl, _, _, _, [], _, [], hW', trodAll_mk1 (shut_bool Try.underlying4 _), (trodAll_cons_mk (Below.trod laidOut (by kernel_rfl) (of_decide_eq_true (by kernel_rfl)) k0 bel lt0) (trodAll_cons_mk (Below.trod laidOut (by kernel_rfl) (of_decide_eq_true (by kernel_rfl)) k1 bel lt1) trodAll_mk0)), rfl, bel.frame _, fun h => by cases h⟩

theorem closed : joinedFacts Try.pinned.checked.prog 10 Try.f10 Rows.fnExactIsBusyScheduleSpec Rows.fnExactIsBusyScheduleRow = true := by
  unfold joinedFacts
  repeat' (with_reducible refine and_t ?_ ?_)
  all_goals first
    | (with_reducible exact init_mayEnter)
    | (with_reducible refine init_lifted ?_; as_aux_lemma => kernel_rfl)
    | (with_reducible refine init_mk ?_; as_aux_lemma => kernel_rfl)
    | (as_aux_lemma => kernel_rfl)

theorem over : Rows.fnExactIsBusyScheduleRow.holds Try.pinned (OpenSpec.ofChange Rows.fnExactIsBusyScheduleSpec) :=
  OpenClaim.holds_of_wide 10 Try.f10 rfl rfl rfl rfl rfl rfl rfl ⟨rfl, rfl, rfl, rfl, rfl⟩ rfl rfl rfl rfl rfl (by kernel_rfl) Try.func10 closed
    (of_decide_eq_true (by kernel_rfl)) (by unfold Func.isWrapper; first | (rw [if_pos (by decide +kernel)]; kernel_rfl) | (rw [if_neg (by decide +kernel)]; exact ⟨rfl, rfl⟩))
    (fun os started H enc _ => lifted os started H enc)

/-- The given statement. -/
theorem proved : Rows.FnExactIsBusyScheduleSaid := over

end Go.Proofs.Ytifdpjfoclibkaa.lawIsBusySchedule
