/-
  DelayServed answers as its model at every argument, writes into no argument, and its answer owns its memory. No condition.
-/
import Derived.Test.YtdjpanmhlnnkoaaBqD
import Derived.Test.YtdjpanmhlnnkoaaSServer
import Derived.Test.YtdjpanmhlnnkoaaFrame
import Derived.Deep.RegionWith
import Derived.Deep.DeepCutAuto
import Derived.Lib.SmallJoins
import Derived.Deep.Slices
import Derived.Deep.Fields
import Derived.ChangeSame
namespace Go.Proofs.Ytdjpanmhlnnkoaa.lawDelayServed
open Go.RowKit Go.ChangeShapes Go.WideShapes Go.ChangeAt
set_option maxRecDepth 100000
set_option linter.unusedVariables false

set_option maxHeartbeats 4000000 in
theorem walk (z0 : Sv) (s1 : Value) (d1 : List Int) (w : World) (h1 : RI w w.heap.size s1 d1) (hm1 : d1.length ≤ maxLen) :
    Calls Try.prog 5 #[SvV z0, s1] w (RetV w (.bool true)) := by
  obtain ⟨y0r, y0l⟩ := z0
  simp only [SvV]
  have hr1 := h1
  obtain ⟨a1, c1, rfl, _, _⟩ := h1
  have t0 : Below w.heap.size w w := Below.refl _ _
  rcases Nat.lt_or_ge 1048576 d1.length with hn1 | hn1
  · have hn' : (1048576 : Int) < d1.length := by omega
    go_enter Try.func5, Try.ntmps5
    have hb1 : Below w.heap.size w (w.alloc (.cells #[.int .i64 y0r, .int .i64 y0l] 23)) := (Below.refl _ _).alloc (Nat.le_refl _) _
    have bb__0 := BK.made w 23 #[.int .i64 y0r, .int .i64 y0l]
    have lb1 := bb__0.1
    have s1_ := hb1.size
    have t1 := t0.trans (hb1.mono (by omega))
    have f1 := hr1.step hb1 (by omega)
    clear hr1
    go_wp2_with fail
    go_ret
    exact ⟨rfl, t1⟩
  have hq1 : (d1.length : Int) ≤ 1048576 := by omega
  obtain ⟨X, b, hX⟩ : ∃ X b, (X, b) = dlsSays ⟨y0r, y0l⟩ d1 := ⟨_, _, rfl⟩
  have HI : Hid (∀ v1 w, RI w w.heap.size v1 d1 → Calls Try.prog 16 #[.agg #[.int .i64 y0r, .int .i64 y0l], v1] w (RetV w (.tuple #[.int .i64 X, .bool b]))) := by
    show ∀ v1 w, RI w w.heap.size v1 d1 → Calls Try.prog 16 #[.agg #[.int .i64 y0r, .int .i64 y0l], v1] w (RetV w (.tuple #[.int .i64 X, .bool b]))
    intro v1 w q1
    have h5 := implDelayServed_any v1 ⟨y0r, y0l⟩ d1 w q1 hn1
    rw [← hX] at h5
    exact h5
  have HS : Hid (∀ v1 w, RI w w.heap.size v1 d1 → Calls Try.prog 15 #[.agg #[.int .i64 y0r, .int .i64 y0l], v1] w (RetV w (.tuple #[.int .i64 X, .bool b]))) := by
    show ∀ v1 w, RI w w.heap.size v1 d1 → Calls Try.prog 15 #[.agg #[.int .i64 y0r, .int .i64 y0l], v1] w (RetV w (.tuple #[.int .i64 X, .bool b]))
    intro v1 w q1
    have h5 := specDelayServed_any v1 ⟨y0r, y0l⟩ d1 w q1 hn1
    rw [← hX] at h5
    exact h5
  have HA0 : Hid (∀ w, Calls Try.prog 7 #[.agg #[.int .i64 y0r, .int .i64 y0l]] w (RetV w (.agg #[.int .i64 y0r, .int .i64 y0l]))) := by
    show ∀ w, Calls Try.prog 7 #[.agg #[.int .i64 y0r, .int .i64 y0l]] w (RetV w (.agg #[.int .i64 y0r, .int .i64 y0l]))
    intro w
    exact toServer_any ⟨y0r, y0l⟩ w
  clear hX
  go_enter Try.func5, Try.ntmps5
  have hb1 : Below w.heap.size w (w.alloc (.cells #[.int .i64 y0r, .int .i64 y0l] 23)) := (Below.refl _ _).alloc (Nat.le_refl _) _
  have bb__0 := BK.made w 23 #[.int .i64 y0r, .int .i64 y0l]
  have lb1 := bb__0.1
  have s1_ := hb1.size
  have t1 := t0.trans (hb1.mono (by omega))
  have f1 := hr1.step hb1 (by omega)
  clear hr1
  have j2 := bb__0.cell 0
  have j3 := bb__0.cell 1
  simp at j2 j3
  go_wp2_with fail
  refine (HA0.out _).mono ?_; rintro e w2 ⟨rfl, hb2⟩
  have s2_ := hb2.size
  have t2 := t1.trans (hb2.mono (by omega))
  clear j2 j3
  have f4 := f1.step hb2 (by omega)
  clear f1
  have f5 := bb__0.step hb2
  clear bb__0
  have j6 := f5.cell 0
  have j7 := f5.cell 1
  simp at j6 j7
  go_wp2_with fail
  refine (toIntS_any _ _ _ (f4.more (by omega)) hn1).mono ?_; rintro e w3 ⟨u_p1, rfl, o_p1, hb3⟩
  have s3_ := hb3.size
  have t3 := t2.trans (hb3.mono (by omega))
  clear j6 j7
  have f8 := f4.step hb3 (by omega)
  clear f4
  have f9 := f5.step hb3
  clear f5
  have j10 := f9.cell 0
  have j11 := f9.cell 1
  simp at j10 j11
  go_wp2_with fail
  refine (HS.out _ _ (o_p1.ri.more (by omega))).mono ?_; rintro e w4 ⟨rfl, hb4⟩
  have s4_ := hb4.size
  have t4 := t3.trans (hb4.mono (by omega))
  clear j10 j11
  have f12 := f8.step hb4 (by omega)
  clear f8
  have f13 := f9.step hb4
  clear f9
  have f14 := o_p1.step hb4
  clear o_p1
  have j15 := f13.cell 0
  have j16 := f13.cell 1
  simp at j15 j16
  go_wp2_with fail
  refine (toIntS_any _ _ _ (f12.more (by omega)) hn1).mono ?_; rintro e w5 ⟨u_x1_, rfl, o_x1_, hb5⟩
  have s5_ := hb5.size
  have t5 := t4.trans (hb5.mono (by omega))
  clear j15 j16
  have f17 := f12.step hb5 (by omega)
  clear f12
  have f18 := f13.step hb5
  clear f13
  have j19 := f18.cell 0
  have j20 := f18.cell 1
  simp at j19 j20
  go_wp2_with fail
  refine (HA0.out _).mono ?_; rintro e w6 ⟨rfl, hb6⟩
  have s6_ := hb6.size
  have t6 := t5.trans (hb6.mono (by omega))
  clear j19 j20
  have f21 := f17.step hb6 (by omega)
  clear f17
  have f22 := f18.step hb6
  clear f18
  have f23 := o_x1_.step hb6
  clear o_x1_
  have j24 := f22.cell 0
  have j25 := f22.cell 1
  simp at j24 j25
  go_wp2_with fail
  refine (HI.out _ _ (f23.ri.more (by omega))).mono ?_; rintro e w7 ⟨rfl, hb7⟩
  have s7_ := hb7.size
  have t7 := t6.trans (hb7.mono (by omega))
  clear j24 j25
  have f26 := f21.step hb7 (by omega)
  clear f21
  have f27 := f22.step hb7
  clear f22
  have f28 := f23.step hb7
  clear f23
  have j29 := f27.cell 0
  have j30 := f27.cell 1
  simp at j29 j30
  go_wp2_with fail
  refine (toIntS_any _ _ _ (f26.more (by omega)) hn1).mono ?_; rintro e w8 ⟨u_y, rfl, o_y, hb8⟩
  have s8_ := hb8.size
  have t8 := t7.trans (hb8.mono (by omega))
  clear j29 j30
  have f31 := f26.step hb8 (by omega)
  clear f26
  have f32 := f27.step hb8
  clear f27
  have f33 := f28.step hb8
  clear f28
  have j34 := f32.cell 0
  have j35 := f32.cell 1
  simp at j34 j35
  go_wp2_with fail
  refine (eqIntS_same _ _ _ _ (f33.ri.more (by omega)) (o_y.ri.more (by omega)) hn1).mono ?_; rintro e w9 ⟨rfl, hb9⟩
  have s9_ := hb9.size
  have t9 := t8.trans (hb9.mono (by omega))
  clear j34 j35
  have f36 := f31.step hb9 (by omega)
  clear f31
  have f37 := f32.step hb9
  clear f32
  have f38 := f33.step hb9
  clear f33
  have f39 := o_y.step hb9
  clear o_y
  have j40 := f37.cell 0
  have j41 := f37.cell 1
  simp at j40 j41
  go_wp2_with fail
  go_ret
  exact ⟨rfl, t9⟩

set_option maxRecDepth 100000 in
theorem lifted (os : Os) (started : os.Started) (H : Type) (enc : TypeId × Value → H) :
    ReturnsInHanded {} Try.checked os 5 .any (Rows.fnExactDelayServedSpec.pre6 enc Try.prog Try.f5 Rows.fnExactDelayServedRow.domain false) (Rows.fnExactDelayServedSpec.post enc Try.prog Try.f5 false true false false) := by
  refine returnsInHanded_of_change (C := Try.checked) own started (by kernel_rfl) Try.func5
    (ChangeSpec.witness6 (enc := enc) (C := Try.checked) false ⟨#[], #[.agg #[.int .i64 0, .int .i64 0], .slice none 0 0], []⟩ 8 (by kernel_rfl) (by kernel_rfl) (by kernel_rfl) (by kernel_rfl)) ?_
  intro W base args ds gs before hval0 hW hcnd _
  have hval : ∀ (j : Nat) t v, Try.f5.params[j]? = some t → args[j]? = some v → Value.okWide Try.prog W .any base t v := hval0
  have hW' := hW
  obtain ⟨p, q, hA0, hV, rfl, hfz, hnd⟩ := hW
  have hA : DataW.TrodAll enc Try.prog W 0 (fun _ => true) true Try.f5.params.toList args.toList ds p := hA0
  rw [Try.params5] at hA hval
  obtain ⟨v0, vs0, d0, ds0, p0, q0, hargs, rfl, rfl, h0, r0⟩ := trodAll_cons hA
  obtain ⟨v1, vs1, d1, ds1, p1, q1, rfl, rfl, rfl, h1, r1⟩ := trodAll_cons r0
  obtain ⟨rfl, rfl, rfl⟩ := trodAll_nil r1
  obtain rfl : args = #[v0, v1] := by cases args; simp_all
  obtain ⟨rfl, rfl⟩ := trodVars_none hV
  have k0 := h0
  have lt0 : ∀ x ∈ p0, x.block < W.heap.size := by obtain ⟨m, hm⟩ := k0; exact DataW.trod_lt m _ _ _ hm
  obtain ⟨e0_0, e0_1, y0_0, y0_1, m0, rfl, hd0, hp0, g0_0, g0_1⟩ := Go.Joins.open_agg2 Try.underlying23 (by kernel_rfl) (by kernel_rfl) (hval 0 23 v0 rfl rfl) h0
  obtain ⟨x0_0, hx0_0, _, w0_0⟩ := DataW.trod_int Try.underlying3 g0_0
  obtain rfl : e0_0 = .int .i64 x0_0 := by simpa using hx0_0
  obtain ⟨x0_1, hx0_1, _, w0_1⟩ := DataW.trod_int Try.underlying3 g0_1
  obtain rfl : e0_1 = .int .i64 x0_1 := by simpa using hx0_1
  obtain ⟨a1, len1, cap1, rfl⟩ := okWide_slice Try.underlying24 (hval 1 24 v1 rfl rfl)
  have k1 := h1
  have lt1 : ∀ x ∈ p1, x.block < W.heap.size := by obtain ⟨m, hm⟩ := k1; exact DataW.trod_lt m _ _ _ hm
  obtain ⟨l1, n1, w1⟩ : ∃ l, len1 = List.length l ∧ RI W W.heap.size (.slice a1 len1 cap1) l ∧ (∀ x ∈ l, (Lit.int .i64 x).wf = true) ∧ cap1 ≤ maxLen := by
    obtain ⟨fuel, hf⟩ := h1
    rcases open_ints Try.underlying24 Try.underlying3 (by kernel_rfl) hf with ⟨hcs, _⟩ | ⟨x, l, c, zs, hcs, _, hl, hm, hz, _, hcell, hwz⟩
    · simp [Value.cells] at hcs
      obtain ⟨rfl, rfl, rfl⟩ := hcs
      exact ⟨[], rfl, ⟨none, 0, rfl, ⟨by simp, by simp, fun _ => rfl⟩, fun h => absurd h (by simp)⟩, by simp, by simp⟩
    · simp [Value.cells] at hcs
      obtain ⟨rfl, rfl, rfl⟩ := hcs
      have hz' : zs.length = cap1 := by simpa using hz
      exact ⟨zs.take len1, by simp; omega, ri_of_cells (by omega) hz' hm hcell, fun x hx => hwz x (List.mem_of_mem_take hx), hm⟩
  subst n1
  clear hA0 hval0
  refine (walk ⟨x0_0, x0_1⟩ _ l1 W w1.1 (by obtain ⟨_, _, _, ⟨q1_, q2_, _⟩, _⟩ := w1.1; omega)).mono fun e W' ⟨he, bel⟩ => ?_
  subst he
  exact ⟨_, rfl, _, _, _, [], _, [], hW', trodAll_mk1 (shut_bool Try.underlying4 _), (trodAll_cons_mk (Below.trod laidOut (by kernel_rfl) (of_decide_eq_true (by kernel_rfl)) k0 bel lt0) (trodAll_cons_mk (Below.trod laidOut (by kernel_rfl) (of_decide_eq_true (by kernel_rfl)) k1 bel lt1) trodAll_mk0)), rfl, bel.frame _, fun h => by cases h⟩

theorem closed : joinedFacts Try.pinned.checked.prog 5 Try.f5 Rows.fnExactDelayServedSpec Rows.fnExactDelayServedRow = true := by
  unfold joinedFacts
  repeat' (with_reducible refine and_t ?_ ?_)
  all_goals first
    | (with_reducible exact init_mayEnter)
    | (with_reducible refine init_lifted ?_; as_aux_lemma => kernel_rfl)
    | (with_reducible refine init_mk ?_; as_aux_lemma => kernel_rfl)
    | (as_aux_lemma => kernel_rfl)

theorem over : Rows.fnExactDelayServedRow.holds Try.pinned (OpenSpec.ofChange Rows.fnExactDelayServedSpec) :=
  OpenClaim.holds_of_wide 5 Try.f5 rfl rfl rfl rfl rfl rfl rfl ⟨rfl, rfl, rfl, rfl, rfl⟩ rfl rfl rfl rfl rfl (by kernel_rfl) Try.func5 closed
    (of_decide_eq_true (by kernel_rfl)) (by unfold Func.isWrapper; first | (rw [if_pos (by decide +kernel)]; kernel_rfl) | (rw [if_neg (by decide +kernel)]; exact ⟨rfl, rfl⟩))
    (fun os started H enc _ => lifted os started H enc)

/-- The given statement. -/
theorem proved : Rows.FnExactDelayServedSaid := over

end Go.Proofs.Ytdjpanmhlnnkoaa.lawDelayServed
