/-
  DistanceOf answers as its model at every argument, writes into no argument, and its answer owns its memory. No condition.
-/
import Derived.Test.YtaokdocflbabjaaDist
import Derived.Test.YtaokdocflbabjaaFrame
namespace Go.Proofs.Ytaokdocflbabjaa.lawDistanceOf
open Go.RowKit Go.ChangeShapes Go.WideShapes Go.ChangeAt
set_option maxRecDepth 100000
set_option linter.unusedVariables false

theorem walk (a0 : Option Addr) (n0 c0 : Nat) (l0 : List Int) (a1 : Option Addr) (n1 c1 : Nat) (l1 : List Int) (w : World) (hnl0 : n0 = l0.length) (ha0 : RI w w.heap.size (.slice a0 n0 c0) l0) (hwf0 : ∀ x ∈ l0, (Lit.int .i64 x).wf = true) (hnl1 : n1 = l1.length) (ha1 : RI w w.heap.size (.slice a1 n1 c1) l1) (hwf1 : ∀ x ∈ l1, (Lit.int .i64 x).wf = true) :
    Calls Try.prog 14 #[.slice a0 n0 c0, .slice a1 n1 c1] w (RetV w (.bool true)) := by
  subst hnl0
  subst hnl1
  rcases Nat.lt_or_ge 1048576 l0.length with hn0 | hn0
  · have hn' : (1048576 : Int) < l0.length := by omega
    go_enter Try.func14, Try.ntmps14
    go_wp2
    go_ret
    exact ⟨rfl, Below.refl _ _⟩
  rcases Nat.lt_or_ge 1048576 l1.length with hn1 | hn1
  · have hn' : (1048576 : Int) < l1.length := by omega
    have hm0 : (l0.length : Int) ≤ 1048576 := by omega
    go_enter Try.func14, Try.ntmps14
    go_wp2
    go_ret
    exact ⟨rfl, Below.refl _ _⟩
  have hm0 : (l0.length : Int) ≤ 1048576 := by omega
  have hm1 : (l1.length : Int) ≤ 1048576 := by omega
  have t0 : Below w.heap.size w w := Below.refl _ _
  go_enter Try.func14, Try.ntmps14
  go_wp2_with fail
  refine (toIntS_any _ _ _ (ha0.more (by omega)) hn0).mono ?_; rintro e w1 ⟨p0, rfl, op0, hb1⟩
  have s1 := hb1.size
  have t1 := t0.trans (hb1.mono (by omega))
  have f1 := ha0.step hb1 (by omega)
  clear ha0
  have f2 := ha1.step hb1 (by omega)
  clear ha1
  go_wp2_with fail
  refine (toIntS_any _ _ _ (f2.more (by omega)) hn1).mono ?_; rintro e w2 ⟨p1, rfl, op1, hb2⟩
  have s2 := hb2.size
  have t2 := t1.trans (hb2.mono (by omega))
  have f3 := f1.step hb2 (by omega)
  clear f1
  have f4 := f2.step hb2 (by omega)
  clear f2
  have f5 := op0.step hb2
  clear op0
  go_wp2_with fail
  refine (specDistanceOf_any _ _ l0 l1 _ (f5.ri.more (by omega)) (op1.ri.more (by omega)) hn0 hn1).mono ?_; rintro e w3 ⟨rfl, hb3⟩
  have s3 := hb3.size
  have t3 := t2.trans (hb3.mono (by omega))
  have f6 := f3.step hb3 (by omega)
  clear f3
  have f7 := f4.step hb3 (by omega)
  clear f4
  have f8 := f5.step hb3
  clear f5
  have f9 := op1.step hb3
  clear op1
  go_wp2_with fail
  refine (toIntS_any _ _ _ (f6.more (by omega)) hn0).mono ?_; rintro e w4 ⟨x0_, rfl, ox0_, hb4⟩
  have s4 := hb4.size
  have t4 := t3.trans (hb4.mono (by omega))
  have f10 := f6.step hb4 (by omega)
  clear f6
  have f11 := f7.step hb4 (by omega)
  clear f7
  go_wp2_with fail
  refine (toIntS_any _ _ _ (f11.more (by omega)) hn1).mono ?_; rintro e w5 ⟨x1_, rfl, ox1_, hb5⟩
  have s5 := hb5.size
  have t5 := t4.trans (hb5.mono (by omega))
  have f12 := f10.step hb5 (by omega)
  clear f10
  have f13 := f11.step hb5 (by omega)
  clear f11
  have f14 := ox0_.step hb5
  clear ox0_
  go_wp2_with fail
  refine (implDistanceOf_any _ _ l0 l1 _ (f14.ri.more (by omega)) (ox1_.ri.more (by omega)) hn0 hn1).mono ?_; rintro e w6 ⟨rfl, hb6⟩
  have s6 := hb6.size
  have t6 := t5.trans (hb6.mono (by omega))
  have f15 := f12.step hb6 (by omega)
  clear f12
  have f16 := f13.step hb6 (by omega)
  clear f13
  have f17 := f14.step hb6
  clear f14
  have f18 := ox1_.step hb6
  clear ox1_
  go_wp2_with fail
  refine (toIntS_any _ _ _ (f15.more (by omega)) hn0).mono ?_; rintro e w7 ⟨y, rfl, oy, hb7⟩
  have s7 := hb7.size
  have t7 := t6.trans (hb7.mono (by omega))
  have f19 := f15.step hb7 (by omega)
  clear f15
  have f20 := f16.step hb7 (by omega)
  clear f16
  have f21 := f17.step hb7
  clear f17
  have f22 := f18.step hb7
  clear f18
  go_wp2_with fail
  refine (eqIntS_same _ _ _ _ (f21.ri.more (by omega)) (oy.ri.more (by omega)) hn0).mono ?_; rintro e w8 ⟨rfl, hb8⟩
  have s8 := hb8.size
  have t8 := t7.trans (hb8.mono (by omega))
  have f23 := f19.step hb8 (by omega)
  clear f19
  have f24 := f20.step hb8 (by omega)
  clear f20
  have f25 := f21.step hb8
  clear f21
  have f26 := f22.step hb8
  clear f22
  have f27 := oy.step hb8
  clear oy
  go_wp2_with fail
  refine (toIntS_any _ _ _ (f24.more (by omega)) hn1).mono ?_; rintro e w9 ⟨y, rfl, oy, hb9⟩
  have s9 := hb9.size
  have t9 := t8.trans (hb9.mono (by omega))
  have f28 := f23.step hb9 (by omega)
  clear f23
  have f29 := f24.step hb9 (by omega)
  clear f24
  have f30 := f25.step hb9
  clear f25
  have f31 := f26.step hb9
  clear f26
  go_wp2_with fail
  refine (eqIntS_same _ _ _ _ (f31.ri.more (by omega)) (oy.ri.more (by omega)) hn1).mono ?_; rintro e w10 ⟨rfl, hb10⟩
  have s10 := hb10.size
  have t10 := t9.trans (hb10.mono (by omega))
  have f32 := f28.step hb10 (by omega)
  clear f28
  have f33 := f29.step hb10 (by omega)
  clear f29
  have f34 := f30.step hb10
  clear f30
  have f35 := f31.step hb10
  clear f31
  have f36 := oy.step hb10
  clear oy
  go_wp2_with fail
  go_ret
  exact ⟨rfl, t10⟩

set_option maxRecDepth 100000 in
theorem lifted (os : Os) (started : os.Started) (H : Type) (enc : TypeId × Value → H) :
    ReturnsInHanded {} Try.checked os 14 .any (Rows.fnExactDistanceOfSpec.pre6 enc Try.prog Try.f14 Rows.fnExactDistanceOfRow.domain false) (Rows.fnExactDistanceOfSpec.post enc Try.prog Try.f14 false true false false) := by
  refine returnsInHanded_of_change (C := Try.checked) own started (by kernel_rfl) Try.func14
    (ChangeSpec.witness6 (enc := enc) (C := Try.checked) false ⟨#[], #[.slice none 0 0, .slice none 0 0], []⟩ 8 (by kernel_rfl) (by kernel_rfl) (by kernel_rfl) (by kernel_rfl)) ?_
  intro W base args ds gs before hval0 hW hcnd _
  have hval : ∀ (j : Nat) t v, Try.f14.params[j]? = some t → args[j]? = some v → Value.okWide Try.prog W .any base t v := hval0
  have hW' := hW
  obtain ⟨p, q, hA0, hV, rfl, hfz, hnd⟩ := hW
  have hA : DataW.TrodAll enc Try.prog W 0 (fun _ => true) true Try.f14.params.toList args.toList ds p := hA0
  rw [Try.params14] at hA hval
  obtain ⟨v0, vs0, d0, ds0, p0, q0, hargs, rfl, rfl, h0, r0⟩ := trodAll_cons hA
  obtain ⟨v1, vs1, d1, ds1, p1, q1, rfl, rfl, rfl, h1, r1⟩ := trodAll_cons r0
  obtain ⟨rfl, rfl, rfl⟩ := trodAll_nil r1
  obtain rfl : args = #[v0, v1] := by cases args; simp_all
  obtain ⟨rfl, rfl⟩ := trodVars_none hV
  obtain ⟨a0, len0, cap0, rfl⟩ := okWide_slice Try.underlying24 (hval 0 24 v0 rfl rfl)
  have k0 := h0
  have lt0 : ∀ x ∈ p0, x.block < W.heap.size := by obtain ⟨m, hm⟩ := k0; exact DataW.trod_lt m _ _ _ hm
  obtain ⟨l0, n0, w0⟩ : ∃ l, len0 = List.length l ∧ RI W W.heap.size (.slice a0 len0 cap0) l ∧ (∀ x ∈ l, (Lit.int .i64 x).wf = true) ∧ cap0 ≤ maxLen := by
    obtain ⟨fuel, hf⟩ := h0
    rcases open_ints Try.underlying24 Try.underlying3 (by kernel_rfl) hf with ⟨hcs, _⟩ | ⟨x, l, c, zs, hcs, _, hl, hm, hz, _, hcell, hwz⟩
    · simp [Value.cells] at hcs
      obtain ⟨rfl, rfl, rfl⟩ := hcs
      exact ⟨[], rfl, ⟨none, 0, rfl, ⟨by simp, by simp⟩, fun h => absurd h (by simp)⟩, by simp, by simp⟩
    · simp [Value.cells] at hcs
      obtain ⟨rfl, rfl, rfl⟩ := hcs
      have hz' : zs.length = cap0 := by simpa using hz
      exact ⟨zs.take len0, by simp; omega, ri_of_cells (by omega) hz' hm hcell, fun x hx => hwz x (List.mem_of_mem_take hx), hm⟩
  obtain ⟨a1, len1, cap1, rfl⟩ := okWide_slice Try.underlying24 (hval 1 24 v1 rfl rfl)
  have k1 := h1
  have lt1 : ∀ x ∈ p1, x.block < W.heap.size := by obtain ⟨m, hm⟩ := k1; exact DataW.trod_lt m _ _ _ hm
  obtain ⟨l1, n1, w1⟩ : ∃ l, len1 = List.length l ∧ RI W W.heap.size (.slice a1 len1 cap1) l ∧ (∀ x ∈ l, (Lit.int .i64 x).wf = true) ∧ cap1 ≤ maxLen := by
    obtain ⟨fuel, hf⟩ := h1
    rcases open_ints Try.underlying24 Try.underlying3 (by kernel_rfl) hf with ⟨hcs, _⟩ | ⟨x, l, c, zs, hcs, _, hl, hm, hz, _, hcell, hwz⟩
    · simp [Value.cells] at hcs
      obtain ⟨rfl, rfl, rfl⟩ := hcs
      exact ⟨[], rfl, ⟨none, 0, rfl, ⟨by simp, by simp⟩, fun h => absurd h (by simp)⟩, by simp, by simp⟩
    · simp [Value.cells] at hcs
      obtain ⟨rfl, rfl, rfl⟩ := hcs
      have hz' : zs.length = cap1 := by simpa using hz
      exact ⟨zs.take len1, by simp; omega, ri_of_cells (by omega) hz' hm hcell, fun x hx => hwz x (List.mem_of_mem_take hx), hm⟩
  clear hA0 hval0
  refine (walk a0 len0 cap0 l0 a1 len1 cap1 l1 W n0 w0.1 w0.2.1 n1 w1.1 w1.2.1).mono fun e W' ⟨he, bel⟩ => ?_
  subst he
  exact ⟨_, rfl, _, _, _, [], _, [], hW', trodAll_mk1 (shut_bool Try.underlying4 _), (trodAll_cons_mk (Below.trod laidOut (by kernel_rfl) (of_decide_eq_true (by kernel_rfl)) k0 bel lt0) (trodAll_cons_mk (Below.trod laidOut (by kernel_rfl) (of_decide_eq_true (by kernel_rfl)) k1 bel lt1) trodAll_mk0)), rfl, bel.frame _, fun h => by cases h⟩

theorem over : Rows.fnExactDistanceOfRow.holds Try.pinned (OpenSpec.ofChange Rows.fnExactDistanceOfSpec) :=
  OpenClaim.holds_of_wide 14 Try.f14 rfl rfl rfl rfl rfl rfl rfl ⟨rfl, rfl, rfl, rfl, rfl⟩ rfl rfl rfl rfl rfl (by kernel_rfl) Try.func14 (by kernel_rfl)
    (of_decide_eq_true (by kernel_rfl)) (by unfold Func.isWrapper; first | (rw [if_pos (by decide +kernel)]; kernel_rfl) | (rw [if_neg (by decide +kernel)]; exact ⟨rfl, rfl⟩))
    (fun os started H enc _ => lifted os started H enc)

/-- The given statement. -/
theorem proved : Rows.FnExactDistanceOfSaid := over

end Go.Proofs.Ytaokdocflbabjaa.lawDistanceOf
