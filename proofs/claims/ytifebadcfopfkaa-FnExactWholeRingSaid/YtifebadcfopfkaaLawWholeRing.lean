/-
  WholeRing answers as its model at every argument, writes into no argument, and its answer owns its memory. No condition.
-/
import Derived.Test.YtifebadcfopfkaaRingW
import Derived.Test.YtifebadcfopfkaaFrame
import Derived.Deep.RegionWith
import Derived.Deep.DeepCutAuto
import Derived.Lib.SmallJoins
namespace Go.Proofs.Ytifebadcfopfkaa.lawWholeRing
open Go.RowKit Go.ChangeShapes Go.WideShapes Go.ChangeAt
set_option maxRecDepth 100000
set_option linter.unusedVariables false

set_option maxHeartbeats 4000000 in
theorem walk (x0 : Int) (w : World) (hx0 : (Lit.int .i64 x0).wf = true) :
    Calls Try.prog 6 #[.int .i64 x0] w (RetV w (.bool true)) := by
  have t0 : Below w.heap.size w w := Below.refl _ _
  have hlen := wholeRg_len x0
  obtain ⟨X, b, hX⟩ : ∃ X b, (X, b) = wholeRg x0 := ⟨_, _, rfl⟩
  rw [← hX] at hlen
  have HI : Hid (∀  w, Calls Try.prog 41 #[.int .i64 x0] w (RetRgB 3 w X b)) := by
    show ∀  w, Calls Try.prog 41 #[.int .i64 x0] w (RetRgB 3 w X b)
    intro  w 
    have h5 := implWholeRing_any  x0 w hx0
    rw [← hX] at h5
    exact h5
  have HS : Hid (∀  w, Calls Try.prog 42 #[.int .i64 x0] w (RetRgB 3 w X b)) := by
    show ∀  w, Calls Try.prog 42 #[.int .i64 x0] w (RetRgB 3 w X b)
    intro  w 
    have h5 := specWholeRing_any  x0 w hx0
    rw [← hX] at h5
    exact h5
  clear hX
  obtain ⟨rk, dX⟩ := X
  simp only at hlen
  have hlen' : (((dX).length : Nat) : Int) ≤ 1048576 := by omega
  go_enter Try.func6, Try.ntmps6
  go_wp2_with fail
  refine (HS.out _).mono ?_; rintro e w1 ⟨u_v0, rfl, o_v0, hb1⟩
  obtain ⟨s_v0, rfl, o_v0⟩ := o_v0
  obtain ⟨A_v0, c_v0, rfl, _, _⟩ := o_v0.ri
  simp only [RgV]
  have s1_ := hb1.size
  have t1 := t0.trans (hb1.mono (by omega))
  have hb2 : Below w1.heap.size w1 (w1.alloc (.cells #[.int .i64 rk, .slice A_v0 dX.length c_v0] 26)) := (Below.refl _ _).alloc (Nat.le_refl _) _
  have bb__v0 := BK.made w1 26 #[.int .i64 rk, .slice A_v0 dX.length c_v0]
  have lb2 := bb__v0.1
  have s2_ := hb2.size
  have t2 := t1.trans (hb2.mono (by omega))
  have f1 := o_v0.step hb2
  clear o_v0
  have j2 := bb__v0.cell 0
  have j3 := bb__v0.cell 1
  simp at j2 j3
  go_wp2_with fail
  refine (HI.out _).mono ?_; rintro e w3 ⟨u_g0, rfl, o_g0, hb3⟩
  obtain ⟨s_g0, rfl, o_g0⟩ := o_g0
  obtain ⟨A_g0, c_g0, rfl, _, _⟩ := o_g0.ri
  simp only [RgV]
  have s3_ := hb3.size
  have t3 := t2.trans (hb3.mono (by omega))
  clear j2 j3
  have f4 := f1.step hb3
  clear f1
  have f5 := bb__v0.step hb3
  clear bb__v0
  have hb4 : Below w3.heap.size w3 (w3.alloc (.cells #[.int .i64 rk, .slice A_g0 dX.length c_g0] 26)) := (Below.refl _ _).alloc (Nat.le_refl _) _
  have bb__g0 := BK.made w3 26 #[.int .i64 rk, .slice A_g0 dX.length c_g0]
  have lb4 := bb__g0.1
  have s4_ := hb4.size
  have t4 := t3.trans (hb4.mono (by omega))
  have f6 := f4.step hb4
  clear f4
  have f7 := f5.step hb4
  clear f5
  have f8 := o_g0.step hb4
  clear o_g0
  have j9 := f7.cell 0
  have j10 := f7.cell 1
  have j11 := bb__g0.cell 0
  have j12 := bb__g0.cell 1
  simp at j9 j10 j11 j12
  go_wp2_with fail
  refine (eqRing_same _ _ ⟨rk, dX⟩ _ ⟨_, rfl, (f8.ri.more (by omega))⟩ ⟨_, rfl, (f6.ri.more (by omega))⟩ hlen).mono ?_; rintro e w5 ⟨rfl, hb5⟩
  have s5_ := hb5.size
  have t5 := t4.trans (hb5.mono (by omega))
  clear j9 j10 j11 j12
  have f13 := f6.step hb5
  clear f6
  have f14 := f7.step hb5
  clear f7
  have f15 := f8.step hb5
  clear f8
  have f16 := bb__g0.step hb5
  clear bb__g0
  have j17 := f14.cell 0
  have j18 := f14.cell 1
  have j19 := f16.cell 0
  have j20 := f16.cell 1
  simp at j17 j18 j19 j20
  go_wp2_with fail
  refine (markRing_any _ _ _ ⟨rk, dX⟩ _ _ ⟨_, rfl, f15⟩ hlen (by omega) (by omega)).mono ?_; rintro e w6 ⟨rfl, mg, hg6⟩
  have s6_ := hg6.size
  have t6 := t5.trans (hg6.below (by omega) (by omega))
  clear j17 j18 j19 j20
  have f21 := f13.far hg6 (by omega)
  clear f13
  have f22 := f14.far hg6 (by omega)
  clear f14
  have f23 := f16.far hg6 (by omega)
  clear f16
  obtain ⟨sg2, eg2, mg⟩ := mg
  simp only [RgV] at eg2
  injection eg2 with eg2
  obtain rfl : sg2 = .slice A_g0 dX.length c_g0 := by simpa using eg2.symm
  clear eg2
  have j24 := f22.cell 0
  have j25 := f22.cell 1
  have j26 := f23.cell 0
  have j27 := f23.cell 1
  simp at j24 j25 j26 j27
  go_wp2_with fail
  refine (heldRing_any _ ⟨rk, dX⟩ dX.length _ _ ⟨_, rfl, (mg.ri.more (by omega))⟩ hlen (by omega) (by omega)).mono ?_; rintro e w7 ⟨rfl, hb7⟩
  have s7_ := hb7.size
  have t7 := t6.trans (hb7.mono (by omega))
  clear j24 j25 j26 j27
  have f28 := f21.step hb7
  clear f21
  have f29 := f22.step hb7
  clear f22
  have f30 := f23.step hb7
  clear f23
  have f31 := mg.step hb7
  clear mg
  have j32 := f29.cell 0
  have j33 := f29.cell 1
  have j34 := f30.cell 0
  have j35 := f30.cell 1
  simp at j32 j33 j34 j35
  go_wp2_with fail
  refine (HI.out _).mono ?_; rintro e w8 ⟨u_h0, rfl, o_h0, hb8⟩
  obtain ⟨s_h0, rfl, o_h0⟩ := o_h0
  obtain ⟨A_h0, c_h0, rfl, _, _⟩ := o_h0.ri
  simp only [RgV]
  have s8_ := hb8.size
  have t8 := t7.trans (hb8.mono (by omega))
  clear j32 j33 j34 j35
  have f36 := f28.step hb8
  clear f28
  have f37 := f29.step hb8
  clear f29
  have f38 := f30.step hb8
  clear f30
  have f39 := f31.step hb8
  clear f31
  have hb9 : Below w8.heap.size w8 (w8.alloc (.cells #[.int .i64 rk, .slice A_h0 dX.length c_h0] 26)) := (Below.refl _ _).alloc (Nat.le_refl _) _
  have bb__h0 := BK.made w8 26 #[.int .i64 rk, .slice A_h0 dX.length c_h0]
  have lb9 := bb__h0.1
  have s9_ := hb9.size
  have t9 := t8.trans (hb9.mono (by omega))
  have f40 := f36.step hb9
  clear f36
  have f41 := f37.step hb9
  clear f37
  have f42 := f38.step hb9
  clear f38
  have f43 := f39.step hb9
  clear f39
  have f44 := o_h0.step hb9
  clear o_h0
  have j45 := f41.cell 0
  have j46 := f41.cell 1
  have j47 := f42.cell 0
  have j48 := f42.cell 1
  have j49 := bb__h0.cell 0
  have j50 := bb__h0.cell 1
  simp at j45 j46 j47 j48 j49 j50
  go_wp2_with fail
  refine (eqRing_same _ _ ⟨rk, dX⟩ _ ⟨_, rfl, (f44.ri.more (by omega))⟩ ⟨_, rfl, (f40.ri.more (by omega))⟩ hlen).mono ?_; rintro e w10 ⟨rfl, hb10⟩
  have s10_ := hb10.size
  have t10 := t9.trans (hb10.mono (by omega))
  clear j45 j46 j47 j48 j49 j50
  have f51 := f40.step hb10
  clear f40
  have f52 := f41.step hb10
  clear f41
  have f53 := f42.step hb10
  clear f42
  have f54 := f43.step hb10
  clear f43
  have f55 := f44.step hb10
  clear f44
  have f56 := bb__h0.step hb10
  clear bb__h0
  have j57 := f52.cell 0
  have j58 := f52.cell 1
  have j59 := f53.cell 0
  have j60 := f53.cell 1
  have j61 := f56.cell 0
  have j62 := f56.cell 1
  simp at j57 j58 j59 j60 j61 j62
  go_wp2_with fail
  refine (heldRing_any _ ⟨rk, dX⟩ dX.length _ _ ⟨_, rfl, (f54.ri.more (by omega))⟩ hlen (by omega) (by omega)).mono ?_; rintro e w11 ⟨rfl, hb11⟩
  have s11_ := hb11.size
  have t11 := t10.trans (hb11.mono (by omega))
  clear j57 j58 j59 j60 j61 j62
  have f63 := f51.step hb11
  clear f51
  have f64 := f52.step hb11
  clear f52
  have f65 := f53.step hb11
  clear f53
  have f66 := f54.step hb11
  clear f54
  have f67 := f55.step hb11
  clear f55
  have f68 := f56.step hb11
  clear f56
  have j69 := f64.cell 0
  have j70 := f64.cell 1
  have j71 := f65.cell 0
  have j72 := f65.cell 1
  have j73 := f68.cell 0
  have j74 := f68.cell 1
  simp at j69 j70 j71 j72 j73 j74
  go_wp2_with fail
  go_ret
  exact ⟨rfl, t11⟩

set_option maxRecDepth 100000 in
theorem lifted (os : Os) (started : os.Started) (H : Type) (enc : TypeId × Value → H) :
    ReturnsInHanded {} Try.checked os 6 .any (Rows.fnExactWholeRingSpec.pre6 enc Try.prog Try.f6 Rows.fnExactWholeRingRow.domain false) (Rows.fnExactWholeRingSpec.post enc Try.prog Try.f6 false true false false) := by
  refine returnsInHanded_of_change (C := Try.checked) own started (by kernel_rfl) Try.func6
    (ChangeSpec.witness6 (enc := enc) (C := Try.checked) false ⟨#[], #[.int .i64 0], []⟩ 8 (by kernel_rfl) (by kernel_rfl) (by kernel_rfl) (by kernel_rfl)) ?_
  intro W base args ds gs before hval0 hW hcnd _
  have hval : ∀ (j : Nat) t v, Try.f6.params[j]? = some t → args[j]? = some v → Value.okWide Try.prog W .any base t v := hval0
  have hW' := hW
  obtain ⟨p, q, hA0, hV, rfl, hfz, hnd⟩ := hW
  have hA : DataW.TrodAll enc Try.prog W 0 (fun _ => true) true Try.f6.params.toList args.toList ds p := hA0
  rw [Try.params6] at hA hval
  obtain ⟨v0, vs0, d0, ds0, p0, q0, hargs, rfl, rfl, h0, r0⟩ := trodAll_cons hA
  obtain ⟨rfl, rfl, rfl⟩ := trodAll_nil r0
  obtain rfl : args = #[v0] := by cases args; simp_all
  obtain ⟨rfl, rfl⟩ := trodVars_none hV
  obtain ⟨a0, rfl, rfl, rfl, w0⟩ := open_int Try.underlying3 (hval 0 3 v0 rfl rfl) h0
  clear hA0 hval0
  refine (walk a0 W w0).mono fun e W' ⟨he, bel⟩ => ?_
  subst he
  exact ⟨_, rfl, _, _, _, [], _, [], hW', trodAll_mk1 (shut_bool Try.underlying4 _), (trodAll_cons_mk (shut_int Try.underlying3 w0) trodAll_mk0), rfl, bel.frame _, fun h => by cases h⟩

theorem closed : joinedFacts Try.pinned.checked.prog 6 Try.f6 Rows.fnExactWholeRingSpec Rows.fnExactWholeRingRow = true := by
  unfold joinedFacts
  repeat' (with_reducible refine and_t ?_ ?_)
  all_goals first
    | (with_reducible exact init_mayEnter)
    | (with_reducible refine init_lifted ?_; as_aux_lemma => kernel_rfl)
    | (with_reducible refine init_mk ?_; as_aux_lemma => kernel_rfl)
    | (as_aux_lemma => kernel_rfl)

theorem over : Rows.fnExactWholeRingRow.holds Try.pinned (OpenSpec.ofChange Rows.fnExactWholeRingSpec) :=
  OpenClaim.holds_of_wide 6 Try.f6 rfl rfl rfl rfl rfl rfl rfl ⟨rfl, rfl, rfl, rfl, rfl⟩ rfl rfl rfl rfl rfl (by kernel_rfl) Try.func6 closed
    (of_decide_eq_true (by kernel_rfl)) (by unfold Func.isWrapper; first | (rw [if_pos (by decide +kernel)]; kernel_rfl) | (rw [if_neg (by decide +kernel)]; exact ⟨rfl, rfl⟩))
    (fun os started H enc _ => lifted os started H enc)

/-- The given statement. -/
theorem proved : Rows.FnExactWholeRingSaid := over

end Go.Proofs.Ytifebadcfopfkaa.lawWholeRing
