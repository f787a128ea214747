/-
  IsServer answers as its model at every argument, writes into no argument, and its answer owns its memory. No condition.
-/
import Derived.Test.YtgkpdlicgllcoaaBoA
import Derived.Test.YtgkpdlicgllcoaaSServer
import Derived.Test.YtgkpdlicgllcoaaSBucket
import Derived.Test.YtgkpdlicgllcoaaFrame
import Derived.Deep.RegionWith
import Derived.Deep.DeepCutAuto
import Derived.Lib.SmallJoins
import Derived.Deep.Slices
import Derived.Deep.Fields
import Derived.ChangeSame
namespace Go.Proofs.Ytgkpdlicgllcoaa.lawIsServer
open Go.RowKit Go.ChangeShapes Go.WideShapes Go.ChangeAt
set_option maxRecDepth 100000
set_option linter.unusedVariables false

set_option maxHeartbeats 4000000 in
theorem walk (z0 : Sv) (w : World)  :
    Calls Try.prog 7 #[SvV z0] w (RetV w (.bool true)) := by
  obtain ⟨y0r, y0l⟩ := z0
  simp only [SvV]
  have t0 : Below w.heap.size w w := Below.refl _ _
  obtain ⟨X, hX⟩ : ∃ X, X = svOk ⟨y0r, y0l⟩ := ⟨_, rfl⟩
  have HI : Hid (∀  w, Calls Try.prog 29 #[.agg #[.int .i64 y0r, .int .i64 y0l]] w (RetV w (.bool X))) := by
    show ∀  w, Calls Try.prog 29 #[.agg #[.int .i64 y0r, .int .i64 y0l]] w (RetV w (.bool X))
    intro  w 
    have h5 := implIsServer_any ⟨y0r, y0l⟩ w
    rw [← hX] at h5
    exact h5
  have HS : Hid (∀  w, Calls Try.prog 27 #[.agg #[.int .i64 y0r, .int .i64 y0l]] w (RetV w (.bool X))) := by
    show ∀  w, Calls Try.prog 27 #[.agg #[.int .i64 y0r, .int .i64 y0l]] w (RetV w (.bool X))
    intro  w 
    have h5 := specIsServer_any ⟨y0r, y0l⟩ w
    rw [← hX] at h5
    exact h5
  have HA0 : Hid (∀ w, Calls Try.prog 28 #[.agg #[.int .i64 y0r, .int .i64 y0l]] w (RetV w (.agg #[.int .i64 y0r, .int .i64 y0l]))) := by
    show ∀ w, Calls Try.prog 28 #[.agg #[.int .i64 y0r, .int .i64 y0l]] w (RetV w (.agg #[.int .i64 y0r, .int .i64 y0l]))
    intro w
    exact toServer_any ⟨y0r, y0l⟩ w
  clear hX
  go_enter Try.func7, Try.ntmps7
  have hb1 : Below w.heap.size w (w.alloc (.cells #[.int .i64 y0r, .int .i64 y0l] 36)) := (Below.refl _ _).alloc (Nat.le_refl _) _
  have bb__0 := BK.made w 36 #[.int .i64 y0r, .int .i64 y0l]
  have lb1 := bb__0.1
  have s1_ := hb1.size
  have t1 := t0.trans (hb1.mono (by omega))
  have j1 := bb__0.cell 0
  have j2 := bb__0.cell 1
  simp at j1 j2
  go_wp2_with fail
  refine (HA0.out _).mono ?_; rintro e w2 ⟨rfl, hb2⟩
  have s2_ := hb2.size
  have t2 := t1.trans (hb2.mono (by omega))
  clear j1 j2
  have f3 := bb__0.step hb2
  clear bb__0
  have j4 := f3.cell 0
  have j5 := f3.cell 1
  simp at j4 j5
  go_wp2_with fail
  refine (HS.out _).mono ?_; rintro e w3 ⟨rfl, hb3⟩
  have s3_ := hb3.size
  have t3 := t2.trans (hb3.mono (by omega))
  clear j4 j5
  have f6 := f3.step hb3
  clear f3
  have j7 := f6.cell 0
  have j8 := f6.cell 1
  simp at j7 j8
  go_wp2_with fail
  refine (HA0.out _).mono ?_; rintro e w4 ⟨rfl, hb4⟩
  have s4_ := hb4.size
  have t4 := t3.trans (hb4.mono (by omega))
  clear j7 j8
  have f9 := f6.step hb4
  clear f6
  have j10 := f9.cell 0
  have j11 := f9.cell 1
  simp at j10 j11
  go_wp2_with fail
  refine (HI.out _).mono ?_; rintro e w5 ⟨rfl, hb5⟩
  have s5_ := hb5.size
  have t5 := t4.trans (hb5.mono (by omega))
  clear j10 j11
  have f12 := f9.step hb5
  clear f9
  have j13 := f12.cell 0
  have j14 := f12.cell 1
  simp at j13 j14
  go_wp2_with fail
  go_ret
  exact ⟨rfl, t5⟩

set_option maxRecDepth 100000 in
theorem lifted (os : Os) (started : os.Started) (H : Type) (enc : TypeId × Value → H) :
    ReturnsInHanded {} Try.checked os 7 .any (Rows.fnExactIsServerSpec.pre6 enc Try.prog Try.f7 Rows.fnExactIsServerRow.domain false) (Rows.fnExactIsServerSpec.post enc Try.prog Try.f7 false true false false) := by
  refine returnsInHanded_of_change (C := Try.checked) own started (by kernel_rfl) Try.func7
    (ChangeSpec.witness6 (enc := enc) (C := Try.checked) false ⟨#[], #[.agg #[.int .i64 0, .int .i64 0]], []⟩ 8 (by kernel_rfl) (by kernel_rfl) (by kernel_rfl) (by kernel_rfl)) ?_
  intro W base args ds gs before hval0 hW hcnd _
  have hval : ∀ (j : Nat) t v, Try.f7.params[j]? = some t → args[j]? = some v → Value.okWide Try.prog W .any base t v := hval0
  have hW' := hW
  obtain ⟨p, q, hA0, hV, rfl, hfz, hnd⟩ := hW
  have hA : DataW.TrodAll enc Try.prog W 0 (fun _ => true) true Try.f7.params.toList args.toList ds p := hA0
  rw [Try.params7] at hA hval
  obtain ⟨v0, vs0, d0, ds0, p0, q0, hargs, rfl, rfl, h0, r0⟩ := trodAll_cons hA
  obtain ⟨rfl, rfl, rfl⟩ := trodAll_nil r0
  obtain rfl : args = #[v0] := by cases args; simp_all
  obtain ⟨rfl, rfl⟩ := trodVars_none hV
  have k0 := h0
  have lt0 : ∀ x ∈ p0, x.block < W.heap.size := by obtain ⟨m, hm⟩ := k0; exact DataW.trod_lt m _ _ _ hm
  obtain ⟨e0_0, e0_1, y0_0, y0_1, m0, rfl, hd0, hp0, g0_0, g0_1⟩ := Go.Joins.open_agg2 Try.underlying36 (by kernel_rfl) (by kernel_rfl) (hval 0 36 v0 rfl rfl) h0
  obtain ⟨x0_0, hx0_0, _, w0_0⟩ := DataW.trod_int Try.underlying3 g0_0
  obtain rfl : e0_0 = .int .i64 x0_0 := by simpa using hx0_0
  obtain ⟨x0_1, hx0_1, _, w0_1⟩ := DataW.trod_int Try.underlying3 g0_1
  obtain rfl : e0_1 = .int .i64 x0_1 := by simpa using hx0_1
  clear hA0 hval0
  refine (walk ⟨x0_0, x0_1⟩ W ).mono fun e W' ⟨he, bel⟩ => ?_
  subst he
  exact ⟨_, rfl, _, _, _, [], _, [], hW', trodAll_mk1 (shut_bool Try.underlying4 _), (trodAll_cons_mk (Below.trod laidOut (by kernel_rfl) (of_decide_eq_true (by kernel_rfl)) k0 bel lt0) trodAll_mk0), rfl, bel.frame _, fun h => by cases h⟩

theorem closed : joinedFacts Try.pinned.checked.prog 7 Try.f7 Rows.fnExactIsServerSpec Rows.fnExactIsServerRow = true := by
  unfold joinedFacts
  repeat' (with_reducible refine and_t ?_ ?_)
  all_goals first
    | (with_reducible exact init_mayEnter)
    | (with_reducible refine init_lifted ?_; as_aux_lemma => kernel_rfl)
    | (with_reducible refine init_mk ?_; as_aux_lemma => kernel_rfl)
    | (as_aux_lemma => kernel_rfl)

theorem over : Rows.fnExactIsServerRow.holds Try.pinned (OpenSpec.ofChange Rows.fnExactIsServerSpec) :=
  OpenClaim.holds_of_wide 7 Try.f7 rfl rfl rfl rfl rfl rfl rfl ⟨rfl, rfl, rfl, rfl, rfl⟩ rfl rfl rfl rfl rfl (by kernel_rfl) Try.func7 closed
    (of_decide_eq_true (by kernel_rfl)) (by unfold Func.isWrapper; first | (rw [if_pos (by decide +kernel)]; kernel_rfl) | (rw [if_neg (by decide +kernel)]; exact ⟨rfl, rfl⟩))
    (fun os started H enc _ => lifted os started H enc)

/-- The given statement. -/
theorem proved : Rows.FnExactIsServerSaid := over

end Go.Proofs.Ytgkpdlicgllcoaa.lawIsServer
