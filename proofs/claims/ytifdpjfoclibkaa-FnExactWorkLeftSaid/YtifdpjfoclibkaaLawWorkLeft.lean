/-
  WorkLeft answers as its model at every argument, writes into no argument, and its answer owns its memory. No condition.
-/
import Derived.Test.YtifdpjfoclibkaaWork
import Derived.Test.YtifdpjfoclibkaaFJob
import Derived.Test.YtifdpjfoclibkaaFrame
import Derived.Deep.RegionWith
import Derived.Deep.DeepCutAuto
import Derived.Lib.SmallJoins
import Derived.Deep.Slices
import Derived.Deep.Fields
import Derived.ChangeSame
namespace Go.Proofs.Ytifdpjfoclibkaa.lawWorkLeft
open Go.RowKit Go.ChangeShapes Go.WideShapes Go.ChangeAt
set_option maxRecDepth 100000
set_option linter.unusedVariables false

set_option maxHeartbeats 4000000 in
theorem walk (s0 : Value) (d0 : List Jb) (x1 : Int) (w : World) (h0 : RJbS w w.heap.size s0 d0) (hm0 : d0.length ≤ maxLen) (hx1 : (Lit.int .i64 x1).wf = true) :
    Calls Try.prog 9 #[s0, .int .i64 x1] w (RetV w (.bool true)) := by
  have hr0 := h0
  obtain ⟨a0, c0, rfl, _, _, _⟩ := h0
  have t0 : Below w.heap.size w w := Below.refl _ _
  rcases Nat.lt_or_ge 1048576 d0.length with hn0 | hn0
  · have hn' : (1048576 : Int) < d0.length := by omega
    go_enter Try.func9, Try.ntmps9
    go_wp2_with fail
    refine (szJobS_any _ d0 _ _ (hr0.more (by omega)) (by omega) (by omega) hm0).mono ?_; rintro e w1 ⟨rfl, hb1⟩
    rw [if_pos (by omega)]
    go_wp2_with fail
    go_ret
    exact ⟨rfl, t0.trans (hb1.mono (by omega))⟩
  have hq0 : (d0.length : Int) ≤ 1048576 := by omega
  obtain ⟨X, b, hX⟩ : ∃ X b, (X, b) = workOf d0 x1 := ⟨_, _, rfl⟩
  have HI : Hid (∀ v0 w, RJbS w w.heap.size v0 d0 → Calls Try.prog 35 #[v0, .int .i64 x1] w (RetV w (.tuple #[.int .i64 X, .bool b]))) := by
    show ∀ v0 w, RJbS w w.heap.size v0 d0 → Calls Try.prog 35 #[v0, .int .i64 x1] w (RetV w (.tuple #[.int .i64 X, .bool b]))
    intro v0 w q0
    have h5 := implWorkLeft_any v0 d0 x1 w q0 hn0 hx1
    rw [← hX] at h5
    exact h5
  have HS : Hid (∀ v0 w, RJbS w w.heap.size v0 d0 → Calls Try.prog 34 #[v0, .int .i64 x1] w (RetV w (.tuple #[.int .i64 X, .bool b]))) := by
    show ∀ v0 w, RJbS w w.heap.size v0 d0 → Calls Try.prog 34 #[v0, .int .i64 x1] w (RetV w (.tuple #[.int .i64 X, .bool b]))
    intro v0 w q0
    have h5 := specWorkLeft_any v0 d0 x1 w q0 hn0 hx1
    rw [← hX] at h5
    exact h5
  clear hX
  go_enter Try.func9, Try.ntmps9
  go_wp2_with fail
  refine (szJobS_any _ d0 _ _ (hr0.more (by omega)) (by omega) (by omega) hm0).mono ?_; rintro e w1 ⟨rfl, hb1⟩
  have s1_ := hb1.size
  have t1 := t0.trans (hb1.mono (by omega))
  have f1 := hr0.step hb1 (by omega)
  clear hr0
  rw [if_neg (by omega)]
  go_wp2_with fail
  refine (toJobS_any _ _ _ (f1.more (by omega)) hn0).mono ?_; rintro e w2 ⟨u_p0, rfl, o_p0, hb2⟩
  have s2_ := hb2.size
  have t2 := t1.trans (hb2.mono (by omega))
  have f2 := f1.step hb2 (by omega)
  clear f1
  go_wp2_with fail
  refine (HS.out _ _ (o_p0.rk.more (by omega))).mono ?_; rintro e w3 ⟨rfl, hb3⟩
  have s3_ := hb3.size
  have t3 := t2.trans (hb3.mono (by omega))
  have f3 := f2.step hb3 (by omega)
  clear f2
  have f4 := o_p0.step hb3
  clear o_p0
  go_wp2_with fail
  refine (toJobS_any _ _ _ (f3.more (by omega)) hn0).mono ?_; rintro e w4 ⟨u_x0_, rfl, o_x0_, hb4⟩
  have s4_ := hb4.size
  have t4 := t3.trans (hb4.mono (by omega))
  have f5 := f3.step hb4 (by omega)
  clear f3
  go_wp2_with fail
  refine (HI.out _ _ (o_x0_.rk.more (by omega))).mono ?_; rintro e w5 ⟨rfl, hb5⟩
  have s5_ := hb5.size
  have t5 := t4.trans (hb5.mono (by omega))
  have f6 := f5.step hb5 (by omega)
  clear f5
  have f7 := o_x0_.step hb5
  clear o_x0_
  go_wp2_with fail
  refine (toJobS_any _ _ _ (f6.more (by omega)) hn0).mono ?_; rintro e w6 ⟨u_y, rfl, o_y, hb6⟩
  have s6_ := hb6.size
  have t6 := t5.trans (hb6.mono (by omega))
  have f8 := f6.step hb6 (by omega)
  clear f6
  have f9 := f7.step hb6
  clear f7
  go_wp2_with fail
  refine (eqJobS_same _ _ _ _ (f9.rk.more (by omega)) (o_y.rk.more (by omega)) hn0).mono ?_; rintro e w7 ⟨rfl, hb7⟩
  have s7_ := hb7.size
  have t7 := t6.trans (hb7.mono (by omega))
  have f10 := f8.step hb7 (by omega)
  clear f8
  have f11 := f9.step hb7
  clear f9
  have f12 := o_y.step hb7
  clear o_y
  go_wp2_with fail
  go_ret
  exact ⟨rfl, t7⟩

set_option maxRecDepth 100000 in
theorem lifted (os : Os) (started : os.Started) (H : Type) (enc : TypeId × Value → H) :
    ReturnsInHanded {} Try.checked os 9 .any (Rows.fnExactWorkLeftSpec.pre6 enc Try.prog Try.f9 Rows.fnExactWorkLeftRow.domain false) (Rows.fnExactWorkLeftSpec.post enc Try.prog Try.f9 false true false false) := by
  refine returnsInHanded_of_change (C := Try.checked) own started (by kernel_rfl) Try.func9
    (ChangeSpec.witness6 (enc := enc) (C := Try.checked) false ⟨#[], #[.slice none 0 0, .int .i64 0], []⟩ 8 (by kernel_rfl) (by kernel_rfl) (by kernel_rfl) (by kernel_rfl)) ?_
  intro W base args ds gs before hval0 hW hcnd _
  have hval : ∀ (j : Nat) t v, Try.f9.params[j]? = some t → args[j]? = some v → Value.okWide Try.prog W .any base t v := hval0
  have hW' := hW
  obtain ⟨p, q, hA0, hV, rfl, hfz, hnd⟩ := hW
  have hA : DataW.TrodAll enc Try.prog W 0 (fun _ => true) true Try.f9.params.toList args.toList ds p := hA0
  rw [Try.params9] at hA hval
  obtain ⟨v0, vs0, d0, ds0, p0, q0, hargs, rfl, rfl, h0, r0⟩ := trodAll_cons hA
  obtain ⟨v1, vs1, d1, ds1, p1, q1, rfl, rfl, rfl, h1, r1⟩ := trodAll_cons r0
  obtain ⟨rfl, rfl, rfl⟩ := trodAll_nil r1
  obtain rfl : args = #[v0, v1] := by cases args; simp_all
  obtain ⟨rfl, rfl⟩ := trodVars_none hV
  have k0 := h0
  have lt0 : ∀ x ∈ p0, x.block < W.heap.size := by obtain ⟨m, hm⟩ := k0; exact DataW.trod_lt m _ _ _ hm
  obtain ⟨aa0, la0, ca0, rfl⟩ := okWide_slice Try.underlying22 (hval 0 22 v0 rfl rfl)
  obtain ⟨fu0, hfu0⟩ := h0
  obtain ⟨l0, n0, w0, _⟩ := open_JobS hfu0
  obtain ⟨a1, rfl, rfl, rfl, w1⟩ := open_int Try.underlying3 (hval 1 3 v1 rfl rfl) h1
  clear hA0 hval0
  refine (walk _ l0 a1 W n0 w0 w1).mono fun e W' ⟨he, bel⟩ => ?_
  subst he
  exact ⟨_, rfl, _, _, _, [], _, [], hW', trodAll_mk1 (shut_bool Try.underlying4 _), (trodAll_cons_mk (Below.trod laidOut (by kernel_rfl) (of_decide_eq_true (by kernel_rfl)) k0 bel lt0) (trodAll_cons_mk (shut_int Try.underlying3 w1) trodAll_mk0)), rfl, bel.frame _, fun h => by cases h⟩

theorem closed : joinedFacts Try.pinned.checked.prog 9 Try.f9 Rows.fnExactWorkLeftSpec Rows.fnExactWorkLeftRow = true := by
  unfold joinedFacts
  repeat' (with_reducible refine and_t ?_ ?_)
  all_goals first
    | (with_reducible exact init_mayEnter)
    | (with_reducible refine init_lifted ?_; as_aux_lemma => kernel_rfl)
    | (with_reducible refine init_mk ?_; as_aux_lemma => kernel_rfl)
    | (as_aux_lemma => kernel_rfl)

theorem over : Rows.fnExactWorkLeftRow.holds Try.pinned (OpenSpec.ofChange Rows.fnExactWorkLeftSpec) :=
  OpenClaim.holds_of_wide 9 Try.f9 rfl rfl rfl rfl rfl rfl rfl ⟨rfl, rfl, rfl, rfl, rfl⟩ rfl rfl rfl rfl rfl (by kernel_rfl) Try.func9 closed
    (of_decide_eq_true (by kernel_rfl)) (by unfold Func.isWrapper; first | (rw [if_pos (by decide +kernel)]; kernel_rfl) | (rw [if_neg (by decide +kernel)]; exact ⟨rfl, rfl⟩))
    (fun os started H enc _ => lifted os started H enc)

/-- The given statement. -/
theorem proved : Rows.FnExactWorkLeftSaid := over

end Go.Proofs.Ytifdpjfoclibkaa.lawWorkLeft
