/-
  LeastRate answers as its model at every argument, writes into no argument, and its answer owns its memory. No condition.
-/
import Derived.Test.YtnlepkeojnnjiaaShD
import Derived.Test.YtnlepkeojnnjiaaFrame
import Derived.Deep.RegionWith
import Derived.Deep.DeepCutAuto
import Derived.Lib.SmallJoins
namespace Go.Proofs.Ytnlepkeojnnjiaa.lawLeastRate
open Go.RowKit Go.ChangeShapes Go.WideShapes Go.ChangeAt
set_option maxRecDepth 100000
set_option linter.unusedVariables false

set_option maxHeartbeats 4000000 in
theorem walk (x0 : Int) (a1 : Option Addr) (n1 c1 : Nat) (d1 : List Int) (w : World) (hx0 : (Lit.int .i64 x0).wf = true) (hnl1 : n1 = d1.length) (h1 : RI w w.heap.size (.slice a1 n1 c1) d1) (hwf1 : ∀ x ∈ d1, (Lit.int .i64 x).wf = true) :
    Calls Try.prog 9 #[.int .i64 x0, .slice a1 n1 c1] w (RetV w (.bool true)) := by
  subst hnl1
  have hr1 := h1
  have t0 : Below w.heap.size w w := Below.refl _ _
  rcases Nat.lt_or_ge 1048576 d1.length with hn1 | hn1
  · have hn' : (1048576 : Int) < d1.length := by omega
    go_enter Try.func9, Try.ntmps9
    go_wp2
    go_ret
    exact ⟨rfl, Below.refl _ _⟩
  have hq1 : (d1.length : Int) ≤ 1048576 := by omega
  obtain ⟨X, b, hX⟩ : ∃ X b, (X, b) = rateSays x0 d1 := ⟨_, _, rfl⟩
  have HI : Hid (∀ v1 w, RI w w.heap.size v1 d1 → Calls Try.prog 33 #[.int .i64 x0, v1] w (RetV w (.tuple #[.int .i64 X, .bool b]))) := by
    show ∀ v1 w, RI w w.heap.size v1 d1 → Calls Try.prog 33 #[.int .i64 x0, v1] w (RetV w (.tuple #[.int .i64 X, .bool b]))
    intro v1 w q1
    have h5 := implLeastRate_any v1 x0 d1 w q1 hn1 hx0
    rw [← hX] at h5
    exact h5
  have HS : Hid (∀ v1 w, RI w w.heap.size v1 d1 → Calls Try.prog 32 #[.int .i64 x0, v1] w (RetV w (.tuple #[.int .i64 X, .bool b]))) := by
    show ∀ v1 w, RI w w.heap.size v1 d1 → Calls Try.prog 32 #[.int .i64 x0, v1] w (RetV w (.tuple #[.int .i64 X, .bool b]))
    intro v1 w q1
    have h5 := specLeastRate_any v1 x0 d1 w q1 hn1 hx0
    rw [← hX] at h5
    exact h5
  clear hX
  go_enter Try.func9, Try.ntmps9
  go_wp2_with fail
  refine (toIntS_any _ _ _ (hr1.more (by omega)) hn1).mono ?_; rintro e w1 ⟨p1, rfl, o_p1, hb1⟩
  have s1_ := hb1.size
  have t1 := t0.trans (hb1.mono (by omega))
  have f1 := hr1.step hb1 (by omega)
  clear hr1
  go_wp2_with fail
  refine (HS.out _ _ (o_p1.ri.more (by omega))).mono ?_; rintro e w2 ⟨rfl, hb2⟩
  have s2_ := hb2.size
  have t2 := t1.trans (hb2.mono (by omega))
  have f2 := f1.step hb2 (by omega)
  clear f1
  have f3 := o_p1.step hb2
  clear o_p1
  go_wp2_with fail
  refine (toIntS_any _ _ _ (f2.more (by omega)) hn1).mono ?_; rintro e w3 ⟨x1_, rfl, o_x1_, hb3⟩
  have s3_ := hb3.size
  have t3 := t2.trans (hb3.mono (by omega))
  have f4 := f2.step hb3 (by omega)
  clear f2
  go_wp2_with fail
  refine (HI.out _ _ (o_x1_.ri.more (by omega))).mono ?_; rintro e w4 ⟨rfl, hb4⟩
  have s4_ := hb4.size
  have t4 := t3.trans (hb4.mono (by omega))
  have f5 := f4.step hb4 (by omega)
  clear f4
  have f6 := o_x1_.step hb4
  clear o_x1_
  go_wp2_with fail
  refine (toIntS_any _ _ _ (f5.more (by omega)) hn1).mono ?_; rintro e w5 ⟨y, rfl, o_y, hb5⟩
  have s5_ := hb5.size
  have t5 := t4.trans (hb5.mono (by omega))
  have f7 := f5.step hb5 (by omega)
  clear f5
  have f8 := f6.step hb5
  clear f6
  go_wp2_with fail
  refine (eqIntS_same _ _ _ _ (f8.ri.more (by omega)) (o_y.ri.more (by omega)) hn1).mono ?_; rintro e w6 ⟨rfl, hb6⟩
  have s6_ := hb6.size
  have t6 := t5.trans (hb6.mono (by omega))
  have f9 := f7.step hb6 (by omega)
  clear f7
  have f10 := f8.step hb6
  clear f8
  have f11 := o_y.step hb6
  clear o_y
  go_wp2_with fail
  go_ret
  exact ⟨rfl, t6⟩

set_option maxRecDepth 100000 in
theorem lifted (os : Os) (started : os.Started) (H : Type) (enc : TypeId × Value → H) :
    ReturnsInHanded {} Try.checked os 9 .any (Rows.fnExactLeastRateSpec.pre6 enc Try.prog Try.f9 Rows.fnExactLeastRateRow.domain false) (Rows.fnExactLeastRateSpec.post enc Try.prog Try.f9 false true false false) := by
  refine returnsInHanded_of_change (C := Try.checked) own started (by kernel_rfl) Try.func9
    (ChangeSpec.witness6 (enc := enc) (C := Try.checked) false ⟨#[], #[.int .i64 0, .slice none 0 0], []⟩ 8 (by kernel_rfl) (by kernel_rfl) (by kernel_rfl) (by kernel_rfl)) ?_
  intro W base args ds gs before hval0 hW hcnd _
  have hval : ∀ (j : Nat) t v, Try.f9.params[j]? = some t → args[j]? = some v → Value.okWide Try.prog W .any base t v := hval0
  have hW' := hW
  obtain ⟨p, q, hA0, hV, rfl, hfz, hnd⟩ := hW
  have hA : DataW.TrodAll enc Try.prog W 0 (fun _ => true) true Try.f9.params.toList args.toList ds p := hA0
  rw [Try.params9] at hA hval
  obtain ⟨v0, vs0, d0, ds0, p0, q0, hargs, rfl, rfl, h0, r0⟩ := trodAll_cons hA
  obtain ⟨v1, vs1, d1, ds1, p1, q1, rfl, rfl, rfl, h1, r1⟩ := trodAll_cons r0
  obtain ⟨rfl, rfl, rfl⟩ := trodAll_nil r1
  obtain rfl : args = #[v0, v1] := by cases args; simp_all
  obtain ⟨rfl, rfl⟩ := trodVars_none hV
  obtain ⟨a0, rfl, rfl, rfl, w0⟩ := open_int Try.underlying3 (hval 0 3 v0 rfl rfl) h0
  obtain ⟨a1, len1, cap1, rfl⟩ := okWide_slice Try.underlying28 (hval 1 28 v1 rfl rfl)
  have k1 := h1
  have lt1 : ∀ x ∈ p1, x.block < W.heap.size := by obtain ⟨m, hm⟩ := k1; exact DataW.trod_lt m _ _ _ hm
  obtain ⟨l1, n1, w1⟩ : ∃ l, len1 = List.length l ∧ RI W W.heap.size (.slice a1 len1 cap1) l ∧ (∀ x ∈ l, (Lit.int .i64 x).wf = true) ∧ cap1 ≤ maxLen := by
    obtain ⟨fuel, hf⟩ := h1
    rcases open_ints Try.underlying28 Try.underlying3 (by kernel_rfl) hf with ⟨hcs, _⟩ | ⟨x, l, c, zs, hcs, _, hl, hm, hz, _, hcell, hwz⟩
    · simp [Value.cells] at hcs
      obtain ⟨rfl, rfl, rfl⟩ := hcs
      exact ⟨[], rfl, ⟨none, 0, rfl, ⟨by simp, by simp, fun _ => rfl⟩, fun h => absurd h (by simp)⟩, by simp, by simp⟩
    · simp [Value.cells] at hcs
      obtain ⟨rfl, rfl, rfl⟩ := hcs
      have hz' : zs.length = cap1 := by simpa using hz
      exact ⟨zs.take len1, by simp; omega, ri_of_cells (by omega) hz' hm hcell, fun x hx => hwz x (List.mem_of_mem_take hx), hm⟩
  clear hA0 hval0
  refine (walk a0 a1 len1 cap1 l1 W w0 n1 w1.1 w1.2.1).mono fun e W' ⟨he, bel⟩ => ?_
  subst he
  exact ⟨_, rfl, _, _, _, [], _, [], hW', trodAll_mk1 (shut_bool Try.underlying4 _), (trodAll_cons_mk (shut_int Try.underlying3 w0) (trodAll_cons_mk (Below.trod laidOut (by kernel_rfl) (of_decide_eq_true (by kernel_rfl)) k1 bel lt1) trodAll_mk0)), rfl, bel.frame _, fun h => by cases h⟩

theorem closed : joinedFacts Try.pinned.checked.prog 9 Try.f9 Rows.fnExactLeastRateSpec Rows.fnExactLeastRateRow = true := by
  unfold joinedFacts
  repeat' (with_reducible refine and_t ?_ ?_)
  all_goals first
    | (with_reducible exact init_mayEnter)
    | (with_reducible refine init_lifted ?_; as_aux_lemma => kernel_rfl)
    | (with_reducible refine init_mk ?_; as_aux_lemma => kernel_rfl)
    | (as_aux_lemma => kernel_rfl)

theorem over : Rows.fnExactLeastRateRow.holds Try.pinned (OpenSpec.ofChange Rows.fnExactLeastRateSpec) :=
  OpenClaim.holds_of_wide 9 Try.f9 rfl rfl rfl rfl rfl rfl rfl ⟨rfl, rfl, rfl, rfl, rfl⟩ rfl rfl rfl rfl rfl (by kernel_rfl) Try.func9 closed
    (of_decide_eq_true (by kernel_rfl)) (by unfold Func.isWrapper; first | (rw [if_pos (by decide +kernel)]; kernel_rfl) | (rw [if_neg (by decide +kernel)]; exact ⟨rfl, rfl⟩))
    (fun os started H enc _ => lifted os started H enc)

/-- The given statement. -/
theorem proved : Rows.FnExactLeastRateSaid := over

end Go.Proofs.Ytnlepkeojnnjiaa.lawLeastRate
