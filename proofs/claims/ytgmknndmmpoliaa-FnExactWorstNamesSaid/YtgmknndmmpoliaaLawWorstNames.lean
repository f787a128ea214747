/-
  WorstNames answers as its model at every argument, writes into no argument, and its answer owns its memory. No condition.
-/
import Derived.Test.YtgmknndmmpoliaaElV
import Derived.Test.YtgmknndmmpoliaaFrame
import Derived.Deep.RegionWith
import Derived.Deep.DeepCutAuto
import Derived.Lib.SmallJoins
namespace Go.Proofs.Ytgmknndmmpoliaa.lawWorstNames
open Go.RowKit Go.ChangeShapes Go.WideShapes Go.ChangeAt
set_option maxRecDepth 100000
set_option linter.unusedVariables false

set_option maxHeartbeats 4000000 in
theorem walk (x0 : Int) (w : World) (hx0 : (Lit.int .i64 x0).wf = true) :
    Calls Try.prog 6 #[.int .i64 x0] w (RetV w (.bool true)) := by
  have t0 : Below w.heap.size w w := Below.refl _ _
  have hlen := worstRg_len x0
  obtain ⟨X, b, hX⟩ : ∃ X b, (X, b) = worstRg x0 := ⟨_, _, rfl⟩
  rw [← hX] at hlen
  simp only at hlen
  have HI : Hid (∀  w, Calls Try.prog 23 #[.int .i64 x0] w (RetLB 3 w X b)) := by
    show ∀  w, Calls Try.prog 23 #[.int .i64 x0] w (RetLB 3 w X b)
    intro  w 
    have h5 := implWorstNames_any  x0 w hx0
    rw [← hX] at h5
    exact h5
  have HS : Hid (∀  w, Calls Try.prog 22 #[.int .i64 x0] w (RetLB 3 w X b)) := by
    show ∀  w, Calls Try.prog 22 #[.int .i64 x0] w (RetLB 3 w X b)
    intro  w 
    have h5 := specWorstNames_any  x0 w hx0
    rw [← hX] at h5
    exact h5
  clear hX
  have hlen' : (((X).length : Nat) : Int) ≤ 1048576 := by omega
  go_enter Try.func6, Try.ntmps6
  go_wp2_with fail
  refine (HS.out _).mono ?_; rintro e w1 ⟨v0, rfl, o_v0, hb1⟩
  have s1_ := hb1.size
  have t1 := t0.trans (hb1.mono (by omega))
  go_wp2_with fail
  refine (HI.out _).mono ?_; rintro e w2 ⟨g0, rfl, o_g0, hb2⟩
  have s2_ := hb2.size
  have t2 := t1.trans (hb2.mono (by omega))
  have f1 := o_v0.step hb2
  clear o_v0
  go_wp2_with fail
  refine (eqIntS_same _ _ _ _ (o_g0.ri.more (by omega)) (f1.ri.more (by omega)) hlen).mono ?_; rintro e w3 ⟨rfl, hb3⟩
  have s3_ := hb3.size
  have t3 := t2.trans (hb3.mono (by omega))
  have f2 := f1.step hb3
  clear f1
  have f3 := o_g0.step hb3
  clear o_g0
  go_wp2_with fail
  refine (markIntS_any _ _ _ _ _ _ f3 hlen (by omega) (by omega)).mono ?_; rintro e w4 ⟨rfl, mg, hg4⟩
  have s4_ := hg4.size
  have t4 := t3.trans (hg4.below (by omega) (by omega))
  have f4 := f2.far hg4 (by omega)
  clear f2
  go_wp2_with fail
  refine (heldIntS_any _ _ _ _ (mg.ri.more (by omega)) hlen (by omega) (by omega)).mono ?_; rintro e w5 ⟨rfl, hb5⟩
  have s5_ := hb5.size
  have t5 := t4.trans (hb5.mono (by omega))
  have f5 := f4.step hb5
  clear f4
  have f6 := mg.step hb5
  clear mg
  go_wp2_with fail
  refine (HI.out _).mono ?_; rintro e w6 ⟨h0, rfl, o_h0, hb6⟩
  have s6_ := hb6.size
  have t6 := t5.trans (hb6.mono (by omega))
  have f7 := f5.step hb6
  clear f5
  have f8 := f6.step hb6
  clear f6
  go_wp2_with fail
  refine (eqIntS_same _ _ _ _ (o_h0.ri.more (by omega)) (f7.ri.more (by omega)) hlen).mono ?_; rintro e w7 ⟨rfl, hb7⟩
  have s7_ := hb7.size
  have t7 := t6.trans (hb7.mono (by omega))
  have f9 := f7.step hb7
  clear f7
  have f10 := f8.step hb7
  clear f8
  have f11 := o_h0.step hb7
  clear o_h0
  go_wp2_with fail
  refine (heldIntS_any _ _ _ _ (f10.ri.more (by omega)) hlen (by omega) (by omega)).mono ?_; rintro e w8 ⟨rfl, hb8⟩
  have s8_ := hb8.size
  have t8 := t7.trans (hb8.mono (by omega))
  have f12 := f9.step hb8
  clear f9
  have f13 := f10.step hb8
  clear f10
  have f14 := f11.step hb8
  clear f11
  go_wp2_with fail
  go_ret
  exact ⟨rfl, t8⟩

set_option maxRecDepth 100000 in
theorem lifted (os : Os) (started : os.Started) (H : Type) (enc : TypeId × Value → H) :
    ReturnsInHanded {} Try.checked os 6 .any (Rows.fnExactWorstNamesSpec.pre6 enc Try.prog Try.f6 Rows.fnExactWorstNamesRow.domain false) (Rows.fnExactWorstNamesSpec.post enc Try.prog Try.f6 false true false false) := by
  refine returnsInHanded_of_change (C := Try.checked) own started (by kernel_rfl) Try.func6
    (ChangeSpec.witness6 (enc := enc) (C := Try.checked) false ⟨#[], #[.int .i64 0], []⟩ 8 (by kernel_rfl) (by kernel_rfl) (by kernel_rfl) (by kernel_rfl)) ?_
  intro W base args ds gs before hval0 hW hcnd _
  have hval : ∀ (j : Nat) t v, Try.f6.params[j]? = some t → args[j]? = some v → Value.okWide Try.prog W .any base t v := hval0
  have hW' := hW
  obtain ⟨p, q, hA0, hV, rfl, hfz, hnd⟩ := hW
  have hA : DataW.TrodAll enc Try.prog W 0 (fun _ => true) true Try.f6.params.toList args.toList ds p := hA0
  rw [Try.params6] at hA hval
  obtain ⟨v0, vs0, d0, ds0, p0, q0, hargs, rfl, rfl, h0, r0⟩ := trodAll_cons hA
  obtain ⟨rfl, rfl, rfl⟩ := trodAll_nil r0
  obtain rfl : args = #[v0] := by cases args; simp_all
  obtain ⟨rfl, rfl⟩ := trodVars_none hV
  obtain ⟨a0, rfl, rfl, rfl, w0⟩ := open_int Try.underlying3 (hval 0 3 v0 rfl rfl) h0
  clear hA0 hval0
  refine (walk a0 W w0).mono fun e W' ⟨he, bel⟩ => ?_
  subst he
  exact ⟨_, rfl, _, _, _, [], _, [], hW', trodAll_mk1 (shut_bool Try.underlying4 _), (trodAll_cons_mk (shut_int Try.underlying3 w0) trodAll_mk0), rfl, bel.frame _, fun h => by cases h⟩

theorem closed : joinedFacts Try.pinned.checked.prog 6 Try.f6 Rows.fnExactWorstNamesSpec Rows.fnExactWorstNamesRow = true := by
  unfold joinedFacts
  repeat' (with_reducible refine and_t ?_ ?_)
  all_goals first
    | (with_reducible exact init_mayEnter)
    | (with_reducible refine init_lifted ?_; as_aux_lemma => kernel_rfl)
    | (with_reducible refine init_mk ?_; as_aux_lemma => kernel_rfl)
    | (as_aux_lemma => kernel_rfl)

theorem over : Rows.fnExactWorstNamesRow.holds Try.pinned (OpenSpec.ofChange Rows.fnExactWorstNamesSpec) :=
  OpenClaim.holds_of_wide 6 Try.f6 rfl rfl rfl rfl rfl rfl rfl ⟨rfl, rfl, rfl, rfl, rfl⟩ rfl rfl rfl rfl rfl (by kernel_rfl) Try.func6 closed
    (of_decide_eq_true (by kernel_rfl)) (by unfold Func.isWrapper; first | (rw [if_pos (by decide +kernel)]; kernel_rfl) | (rw [if_neg (by decide +kernel)]; exact ⟨rfl, rfl⟩))
    (fun os started H enc _ => lifted os started H enc)

/-- The given statement. -/
theorem proved : Rows.FnExactWorstNamesSaid := over

end Go.Proofs.Ytgmknndmmpoliaa.lawWorstNames
