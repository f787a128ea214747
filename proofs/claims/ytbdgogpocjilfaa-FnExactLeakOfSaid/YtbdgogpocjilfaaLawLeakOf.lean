/-
  LeakOf answers as its model at every argument, writes into no argument, and its answer owns its memory. No condition.
-/
import Derived.Test.YtbdgogpocjilfaaShN
import Derived.Test.YtbdgogpocjilfaaFrame
import Derived.Deep.RegionWith
import Derived.Deep.DeepCutAuto
import Derived.Lib.SmallJoins
namespace Go.Proofs.Ytbdgogpocjilfaa.lawLeakOf
open Go.RowKit Go.ChangeShapes Go.WideShapes Go.ChangeAt
set_option maxRecDepth 100000
set_option linter.unusedVariables false

set_option maxHeartbeats 4000000 in
theorem walk (x0 : Int) (a1 : Option Addr) (n1 c1 : Nat) (d1 : List Int) (w : World) (hx0 : (Lit.int .i64 x0).wf = true) (hnl1 : n1 = d1.length) (h1 : RI w w.heap.size (.slice a1 n1 c1) d1) (hwf1 : ∀ x ∈ d1, (Lit.int .i64 x).wf = true) :
    Calls Try.prog 6 #[.int .i64 x0, .slice a1 n1 c1] w (RetV w (.bool true)) := by
  subst hnl1
  have hr1 := h1
  have t0 : Below w.heap.size w w := Below.refl _ _
  rcases Nat.lt_or_ge 1048576 d1.length with hn1 | hn1
  · have hn' : (1048576 : Int) < d1.length := by omega
    go_enter Try.func6, Try.ntmps6
    go_wp2
    go_ret
    exact ⟨rfl, Below.refl _ _⟩
  have hq1 : (d1.length : Int) ≤ 1048576 := by omega
  have hlen := leakSays_len x0 d1
  obtain ⟨X, b, hX⟩ : ∃ X b, (X, b) = leakSays x0 d1 := ⟨_, _, rfl⟩
  rw [← hX] at hlen
  simp only at hlen
  have HI : Hid (∀ v1 w, RI w w.heap.size v1 d1 → Calls Try.prog 19 #[.int .i64 x0, v1] w (RetLB 3 w X b)) := by
    show ∀ v1 w, RI w w.heap.size v1 d1 → Calls Try.prog 19 #[.int .i64 x0, v1] w (RetLB 3 w X b)
    intro v1 w q1
    have h5 := implLeakOf_any v1 x0 d1 w q1 hn1 hx0
    rw [← hX] at h5
    exact h5
  have HS : Hid (∀ v1 w, RI w w.heap.size v1 d1 → Calls Try.prog 18 #[.int .i64 x0, v1] w (RetLB 3 w X b)) := by
    show ∀ v1 w, RI w w.heap.size v1 d1 → Calls Try.prog 18 #[.int .i64 x0, v1] w (RetLB 3 w X b)
    intro v1 w q1
    have h5 := specLeakOf_any v1 x0 d1 w q1 hn1 hx0
    rw [← hX] at h5
    exact h5
  clear hX
  have hlen' : (((X).length : Nat) : Int) ≤ 1048576 := by omega
  go_enter Try.func6, Try.ntmps6
  go_wp2_with fail
  refine (toIntS_any _ _ _ (hr1.more (by omega)) hn1).mono ?_; rintro e w1 ⟨p1, rfl, o_p1, hb1⟩
  have s1_ := hb1.size
  have t1 := t0.trans (hb1.mono (by omega))
  have f1 := hr1.step hb1 (by omega)
  clear hr1
  go_wp2_with fail
  refine (HS.out _ _ (o_p1.ri.more (by omega))).mono ?_; rintro e w2 ⟨v0, rfl, o_v0, hb2⟩
  have s2_ := hb2.size
  have t2 := t1.trans (hb2.mono (by omega))
  have f2 := f1.step hb2 (by omega)
  clear f1
  have f3 := o_p1.step hb2
  clear o_p1
  go_wp2_with fail
  refine (toIntS_any _ _ _ (f2.more (by omega)) hn1).mono ?_; rintro e w3 ⟨x1_, rfl, o_x1_, hb3⟩
  have s3_ := hb3.size
  have t3 := t2.trans (hb3.mono (by omega))
  have f4 := f2.step hb3 (by omega)
  clear f2
  have f5 := o_v0.step hb3
  clear o_v0
  go_wp2_with fail
  refine (HI.out _ _ (o_x1_.ri.more (by omega))).mono ?_; rintro e w4 ⟨g0, rfl, o_g0, hb4⟩
  have s4_ := hb4.size
  have t4 := t3.trans (hb4.mono (by omega))
  have f6 := f4.step hb4 (by omega)
  clear f4
  have f7 := f5.step hb4
  clear f5
  have f8 := o_x1_.step hb4
  clear o_x1_
  go_wp2_with fail
  refine (eqIntS_same _ _ _ _ (o_g0.ri.more (by omega)) (f7.ri.more (by omega)) hlen).mono ?_; rintro e w5 ⟨rfl, hb5⟩
  have s5_ := hb5.size
  have t5 := t4.trans (hb5.mono (by omega))
  have f9 := f6.step hb5 (by omega)
  clear f6
  have f10 := f7.step hb5
  clear f7
  have f11 := f8.step hb5
  clear f8
  have f12 := o_g0.step hb5
  clear o_g0
  go_wp2_with fail
  refine (toIntS_any _ _ _ (f9.more (by omega)) hn1).mono ?_; rintro e w6 ⟨y, rfl, o_y, hb6⟩
  have s6_ := hb6.size
  have t6 := t5.trans (hb6.mono (by omega))
  have f13 := f9.step hb6 (by omega)
  clear f9
  have f14 := f10.step hb6
  clear f10
  have f15 := f11.step hb6
  clear f11
  have f16 := f12.step hb6
  clear f12
  go_wp2_with fail
  refine (eqIntS_same _ _ _ _ (f15.ri.more (by omega)) (o_y.ri.more (by omega)) hn1).mono ?_; rintro e w7 ⟨rfl, hb7⟩
  have s7_ := hb7.size
  have t7 := t6.trans (hb7.mono (by omega))
  have f17 := f13.step hb7 (by omega)
  clear f13
  have f18 := f14.step hb7
  clear f14
  have f19 := f15.step hb7
  clear f15
  have f20 := f16.step hb7
  clear f16
  have f21 := o_y.step hb7
  clear o_y
  go_wp2_with fail
  refine (markIntS_any _ _ _ _ _ _ f19 hn1 (by omega) (by omega)).mono ?_; rintro e w8 ⟨rfl, mx1, hg8⟩
  have s8_ := hg8.size
  have t8 := t7.trans (hg8.below (by omega) (by omega))
  have f22 := f17.far hg8 (by omega) (by omega)
  clear f17
  have f23 := f18.far hg8 (by omega)
  clear f18
  have f24 := f20.far hg8 (by omega)
  clear f20
  go_wp2_with fail
  refine (eqIntS_same _ _ _ _ (f24.ri.more (by omega)) (f23.ri.more (by omega)) hlen).mono ?_; rintro e w9 ⟨rfl, hb9⟩
  have s9_ := hb9.size
  have t9 := t8.trans (hb9.mono (by omega))
  have f25 := f22.step hb9 (by omega)
  clear f22
  have f26 := f23.step hb9
  clear f23
  have f27 := f24.step hb9
  clear f24
  go_wp2_with fail
  refine (markIntS_any _ _ _ _ _ _ f27 hlen (by omega) (by omega)).mono ?_; rintro e w10 ⟨rfl, mg, hg10⟩
  have s10_ := hg10.size
  have t10 := t9.trans (hg10.below (by omega) (by omega))
  have f28 := f25.far hg10 (by omega) (by omega)
  clear f25
  have f29 := f26.far hg10 (by omega)
  clear f26
  go_wp2_with fail
  refine (heldIntS_any _ _ _ _ (mg.ri.more (by omega)) hlen (by omega) (by omega)).mono ?_; rintro e w11 ⟨rfl, hb11⟩
  have s11_ := hb11.size
  have t11 := t10.trans (hb11.mono (by omega))
  have f30 := f28.step hb11 (by omega)
  clear f28
  have f31 := f29.step hb11
  clear f29
  have f32 := mg.step hb11
  clear mg
  go_wp2_with fail
  refine (toIntS_any _ _ _ (f30.more (by omega)) hn1).mono ?_; rintro e w12 ⟨e1, rfl, o_e1, hb12⟩
  have s12_ := hb12.size
  have t12 := t11.trans (hb12.mono (by omega))
  have f33 := f30.step hb12 (by omega)
  clear f30
  have f34 := f31.step hb12
  clear f31
  have f35 := f32.step hb12
  clear f32
  go_wp2_with fail
  refine (HI.out _ _ (o_e1.ri.more (by omega))).mono ?_; rintro e w13 ⟨h0, rfl, o_h0, hb13⟩
  have s13_ := hb13.size
  have t13 := t12.trans (hb13.mono (by omega))
  have f36 := f33.step hb13 (by omega)
  clear f33
  have f37 := f34.step hb13
  clear f34
  have f38 := f35.step hb13
  clear f35
  have f39 := o_e1.step hb13
  clear o_e1
  go_wp2_with fail
  refine (eqIntS_same _ _ _ _ (o_h0.ri.more (by omega)) (f37.ri.more (by omega)) hlen).mono ?_; rintro e w14 ⟨rfl, hb14⟩
  have s14_ := hb14.size
  have t14 := t13.trans (hb14.mono (by omega))
  have f40 := f36.step hb14 (by omega)
  clear f36
  have f41 := f37.step hb14
  clear f37
  have f42 := f38.step hb14
  clear f38
  have f43 := o_h0.step hb14
  clear o_h0
  go_wp2_with fail
  refine (heldIntS_any _ _ _ _ (f42.ri.more (by omega)) hlen (by omega) (by omega)).mono ?_; rintro e w15 ⟨rfl, hb15⟩
  have s15_ := hb15.size
  have t15 := t14.trans (hb15.mono (by omega))
  have f44 := f40.step hb15 (by omega)
  clear f40
  have f45 := f41.step hb15
  clear f41
  have f46 := f42.step hb15
  clear f42
  have f47 := f43.step hb15
  clear f43
  go_wp2_with fail
  go_ret
  exact ⟨rfl, t15⟩

set_option maxRecDepth 100000 in
theorem lifted (os : Os) (started : os.Started) (H : Type) (enc : TypeId × Value → H) :
    ReturnsInHanded {} Try.checked os 6 .any (Rows.fnExactLeakOfSpec.pre6 enc Try.prog Try.f6 Rows.fnExactLeakOfRow.domain false) (Rows.fnExactLeakOfSpec.post enc Try.prog Try.f6 false true false false) := by
  refine returnsInHanded_of_change (C := Try.checked) own started (by kernel_rfl) Try.func6
    (ChangeSpec.witness6 (enc := enc) (C := Try.checked) false ⟨#[], #[.int .i64 0, .slice none 0 0], []⟩ 8 (by kernel_rfl) (by kernel_rfl) (by kernel_rfl) (by kernel_rfl)) ?_
  intro W base args ds gs before hval0 hW hcnd _
  have hval : ∀ (j : Nat) t v, Try.f6.params[j]? = some t → args[j]? = some v → Value.okWide Try.prog W .any base t v := hval0
  have hW' := hW
  obtain ⟨p, q, hA0, hV, rfl, hfz, hnd⟩ := hW
  have hA : DataW.TrodAll enc Try.prog W 0 (fun _ => true) true Try.f6.params.toList args.toList ds p := hA0
  rw [Try.params6] at hA hval
  obtain ⟨v0, vs0, d0, ds0, p0, q0, hargs, rfl, rfl, h0, r0⟩ := trodAll_cons hA
  obtain ⟨v1, vs1, d1, ds1, p1, q1, rfl, rfl, rfl, h1, r1⟩ := trodAll_cons r0
  obtain ⟨rfl, rfl, rfl⟩ := trodAll_nil r1
  obtain rfl : args = #[v0, v1] := by cases args; simp_all
  obtain ⟨rfl, rfl⟩ := trodVars_none hV
  obtain ⟨a0, rfl, rfl, rfl, w0⟩ := open_int Try.underlying3 (hval 0 3 v0 rfl rfl) h0
  obtain ⟨a1, len1, cap1, rfl⟩ := okWide_slice Try.underlying24 (hval 1 24 v1 rfl rfl)
  have k1 := h1
  have lt1 : ∀ x ∈ p1, x.block < W.heap.size := by obtain ⟨m, hm⟩ := k1; exact DataW.trod_lt m _ _ _ hm
  obtain ⟨l1, n1, w1⟩ : ∃ l, len1 = List.length l ∧ RI W W.heap.size (.slice a1 len1 cap1) l ∧ (∀ x ∈ l, (Lit.int .i64 x).wf = true) ∧ cap1 ≤ maxLen := by
    obtain ⟨fuel, hf⟩ := h1
    rcases open_ints Try.underlying24 Try.underlying3 (by kernel_rfl) hf with ⟨hcs, _⟩ | ⟨x, l, c, zs, hcs, _, hl, hm, hz, _, hcell, hwz⟩
    · simp [Value.cells] at hcs
      obtain ⟨rfl, rfl, rfl⟩ := hcs
      exact ⟨[], rfl, ⟨none, 0, rfl, ⟨by simp, by simp, fun _ => rfl⟩, fun h => absurd h (by simp)⟩, by simp, by simp⟩
    · simp [Value.cells] at hcs
      obtain ⟨rfl, rfl, rfl⟩ := hcs
      have hz' : zs.length = cap1 := by simpa using hz
      exact ⟨zs.take len1, by simp; omega, ri_of_cells (by omega) hz' hm hcell, fun x hx => hwz x (List.mem_of_mem_take hx), hm⟩
  clear hA0 hval0
  refine (walk a0 a1 len1 cap1 l1 W w0 n1 w1.1 w1.2.1).mono fun e W' ⟨he, bel⟩ => ?_
  subst he
  exact ⟨_, rfl, _, _, _, [], _, [], hW', trodAll_mk1 (shut_bool Try.underlying4 _), (trodAll_cons_mk (shut_int Try.underlying3 w0) (trodAll_cons_mk (Below.trod laidOut (by kernel_rfl) (of_decide_eq_true (by kernel_rfl)) k1 bel lt1) trodAll_mk0)), rfl, bel.frame _, fun h => by cases h⟩

theorem closed : joinedFacts Try.pinned.checked.prog 6 Try.f6 Rows.fnExactLeakOfSpec Rows.fnExactLeakOfRow = true := by
  unfold joinedFacts
  repeat' (with_reducible refine and_t ?_ ?_)
  all_goals first
    | (with_reducible exact init_mayEnter)
    | (with_reducible refine init_lifted ?_; as_aux_lemma => kernel_rfl)
    | (with_reducible refine init_mk ?_; as_aux_lemma => kernel_rfl)
    | (as_aux_lemma => kernel_rfl)

theorem over : Rows.fnExactLeakOfRow.holds Try.pinned (OpenSpec.ofChange Rows.fnExactLeakOfSpec) :=
  OpenClaim.holds_of_wide 6 Try.f6 rfl rfl rfl rfl rfl rfl rfl ⟨rfl, rfl, rfl, rfl, rfl⟩ rfl rfl rfl rfl rfl (by kernel_rfl) Try.func6 closed
    (of_decide_eq_true (by kernel_rfl)) (by unfold Func.isWrapper; first | (rw [if_pos (by decide +kernel)]; kernel_rfl) | (rw [if_neg (by decide +kernel)]; exact ⟨rfl, rfl⟩))
    (fun os started H enc _ => lifted os started H enc)

/-- The given statement. -/
theorem proved : Rows.FnExactLeakOfSaid := over

end Go.Proofs.Ytbdgogpocjilfaa.lawLeakOf
