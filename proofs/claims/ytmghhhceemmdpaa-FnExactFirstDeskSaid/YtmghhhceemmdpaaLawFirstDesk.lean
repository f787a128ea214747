/-
  FirstDesk answers as its model, and its answer owns its memory. No condition.
-/
import Derived.Test.YtmghhhceemmdpaaDkA
import Derived.Test.YtmghhhceemmdpaaFrame
import Derived.Deep.RegionWith
import Derived.Deep.DeepCutAuto
import Derived.Lib.SmallJoins
namespace Go.Proofs.Ytmghhhceemmdpaa.lawFirstDesk
open Go.RowKit Go.ChangeShapes Go.WideShapes Go.ChangeAt
set_option maxRecDepth 100000
set_option linter.unusedVariables false

set_option maxHeartbeats 4000000 in
theorem walk (w : World) : Calls Try.prog 3 #[] w (RetV w (.bool true)) := by
  go_enter Try.func3, Try.ntmps3
  have t0 : Below w.heap.size w w := Below.refl _ _
  go_wp2_with fail
  refine (specFirstDesk_any _).mono ?_; rintro e w1 ⟨v0, rfl, o0, hb1⟩
  obtain ⟨s0, p0, m0, rfl, a0, b0, hm0, hn0⟩ := o0
  simp only [firstDk] at a0 b0 ⊢
  obtain ⟨A0, c0, rfl, _, _⟩ := a0.ri
  obtain ⟨B0, e0, rfl, _, _⟩ := b0.ri
  simp only [DkV]
  try simp only [List.length_cons, List.length_nil] at a0 b0 ⊢
  have s1_ := hb1.size
  have t1 := t0.trans (hb1.mono (by omega))
  have hb2 : Below w1.heap.size w1 (w1.alloc (.cells #[.int .i64 5, .slice A0 2 c0, .int .i64 1, .int .i64 2, .int .i64 3, .slice B0 1 e0] 28)) := (Below.refl _ _).alloc (Nat.le_refl _) _
  have x0 := BK.made w1 28 #[.int .i64 5, .slice A0 2 c0, .int .i64 1, .int .i64 2, .int .i64 3, .slice B0 1 e0]
  have l0 := x0.1
  have s2_ := hb2.size
  have t2 := t1.trans (hb2.mono (by omega))
  have f1 := a0.step hb2
  clear a0
  have f2 := b0.step hb2
  clear b0
  have j3 := x0.cell 0
  have j4 := x0.cell 1
  have j5 := x0.cell 2
  have j6 := x0.cell 3
  have j7 := x0.cell 4
  have j8 := x0.cell 5
  simp at j3 j4 j5 j6 j7 j8
  go_wp2_with fail
  refine (implFirstDesk_any _).mono ?_; rintro e w3 ⟨v1, rfl, o1, hb3⟩
  obtain ⟨s1, p1, m1, rfl, a1, b1, hm1, hn1⟩ := o1
  simp only [firstDk] at a1 b1 ⊢
  obtain ⟨A1, c1, rfl, _, _⟩ := a1.ri
  obtain ⟨B1, e1, rfl, _, _⟩ := b1.ri
  simp only [DkV]
  try simp only [List.length_cons, List.length_nil] at a1 b1 ⊢
  have s3_ := hb3.size
  have t3 := t2.trans (hb3.mono (by omega))
  clear j3 j4 j5 j6 j7 j8
  have f9 := f1.step hb3
  clear f1
  have f10 := f2.step hb3
  clear f2
  have f11 := x0.step hb3
  clear x0
  have hb4 : Below w3.heap.size w3 (w3.alloc (.cells #[.int .i64 5, .slice A1 2 c1, .int .i64 1, .int .i64 2, .int .i64 3, .slice B1 1 e1] 28)) := (Below.refl _ _).alloc (Nat.le_refl _) _
  have x1 := BK.made w3 28 #[.int .i64 5, .slice A1 2 c1, .int .i64 1, .int .i64 2, .int .i64 3, .slice B1 1 e1]
  have l1 := x1.1
  have s4_ := hb4.size
  have t4 := t3.trans (hb4.mono (by omega))
  have f12 := f9.step hb4
  clear f9
  have f13 := f10.step hb4
  clear f10
  have f14 := f11.step hb4
  clear f11
  have f15 := a1.step hb4
  clear a1
  have f16 := b1.step hb4
  clear b1
  have j17 := f14.cell 0
  have j18 := f14.cell 1
  have j19 := f14.cell 2
  have j20 := f14.cell 3
  have j21 := f14.cell 4
  have j22 := f14.cell 5
  have j23 := x1.cell 0
  have j24 := x1.cell 1
  have j25 := x1.cell 2
  have j26 := x1.cell 3
  have j27 := x1.cell 4
  have j28 := x1.cell 5
  simp at j17 j18 j19 j20 j21 j22 j23 j24 j25 j26 j27 j28
  go_wp2_with fail
  refine (eqDesk_same _ _ firstDk _ ⟨_, _, rfl, f15.ri.more (by omega), f16.ri.more (by omega)⟩ ⟨_, _, rfl, f12.ri.more (by omega), f13.ri.more (by omega)⟩ (by simp [firstDk]) (by simp [firstDk])).mono ?_; rintro e w5 ⟨rfl, hb5⟩
  have s5_ := hb5.size
  have t5 := t4.trans (hb5.mono (by omega))
  clear j17 j18 j19 j20 j21 j22 j23 j24 j25 j26 j27 j28
  have f29 := f12.step hb5
  clear f12
  have f30 := f13.step hb5
  clear f13
  have f31 := f14.step hb5
  clear f14
  have f32 := f15.step hb5
  clear f15
  have f33 := f16.step hb5
  clear f16
  have f34 := x1.step hb5
  clear x1
  have j35 := f31.cell 0
  have j36 := f31.cell 1
  have j37 := f31.cell 2
  have j38 := f31.cell 3
  have j39 := f31.cell 4
  have j40 := f31.cell 5
  have j41 := f34.cell 0
  have j42 := f34.cell 1
  have j43 := f34.cell 2
  have j44 := f34.cell 3
  have j45 := f34.cell 4
  have j46 := f34.cell 5
  simp at j35 j36 j37 j38 j39 j40 j41 j42 j43 j44 j45 j46
  go_wp2_with fail
  refine (markDesk_any _ _ _ firstDk 1 _ ⟨_, _, m1, rfl, f32, f33, hm1, hn1⟩ (by simp [firstDk]) (by simp [firstDk]) (by omega) (by omega) (by omega)).mono ?_; rintro e w6 ⟨rfl, og, hg⟩
  have s6_ := hg.size
  have t6 := t5.trans (hg.below (by omega) (by omega))
  clear j35 j36 j37 j38 j39 j40 j41 j42 j43 j44 j45 j46
  have f47 := f29.far hg (by omega)
  clear f29
  have f48 := f30.far hg (by omega)
  clear f30
  have f49 := f31.far hg (by omega)
  clear f31
  have f50 := f34.far hg (by omega)
  clear f34
  obtain ⟨s9, p9, m9, eg, a9, b9, hm9, hn9⟩ := og
  simp only [DkV, firstDk] at eg a9 b9
  injection eg with eg
  obtain ⟨rfl, rfl⟩ : s9 = .slice A1 2 c1 ∧ p9 = .slice B1 1 e1 := by simp at eg; exact ⟨eg.1.symm, eg.2.symm⟩
  clear eg
  simp only [firstDk, List.length_cons, List.length_nil] at *
  have hm4 : ((1 : Int) + ((0 + 1 + 1 : Nat) : Int) + ((0 + 1 : Nat) : Int)) = 4 := by decide
  have j51 := f49.cell 0
  have j52 := f49.cell 1
  have j53 := f49.cell 2
  have j54 := f49.cell 3
  have j55 := f49.cell 4
  have j56 := f49.cell 5
  have j57 := f50.cell 0
  have j58 := f50.cell 1
  have j59 := f50.cell 2
  have j60 := f50.cell 3
  have j61 := f50.cell 4
  have j62 := f50.cell 5
  simp at j51 j52 j53 j54 j55 j56 j57 j58 j59 j60 j61 j62
  go_wp2_with fail
  refine (heldDesk_any _ firstDk 2 1 1 _ ⟨_, _, rfl, a9.ri.more (by omega), b9.ri.more (by omega)⟩ (by omega) (by omega) (by omega) (by omega)).mono ?_; rintro e w7 ⟨rfl, hb7⟩
  have s7_ := hb7.size
  have t7 := t6.trans (hb7.mono (by omega))
  clear j51 j52 j53 j54 j55 j56 j57 j58 j59 j60 j61 j62
  have f63 := f47.step hb7
  clear f47
  have f64 := f48.step hb7
  clear f48
  have f65 := f49.step hb7
  clear f49
  have f66 := f50.step hb7
  clear f50
  have f67 := a9.step hb7
  clear a9
  have f68 := b9.step hb7
  clear b9
  have j69 := f65.cell 0
  have j70 := f65.cell 1
  have j71 := f65.cell 2
  have j72 := f65.cell 3
  have j73 := f65.cell 4
  have j74 := f65.cell 5
  have j75 := f66.cell 0
  have j76 := f66.cell 1
  have j77 := f66.cell 2
  have j78 := f66.cell 3
  have j79 := f66.cell 4
  have j80 := f66.cell 5
  simp at j69 j70 j71 j72 j73 j74 j75 j76 j77 j78 j79 j80
  go_wp2_with fail
  refine (implFirstDesk_any _).mono ?_; rintro e w8 ⟨v2, rfl, o2, hb8⟩
  obtain ⟨s2, p2, m2, rfl, a2, b2, hm2, hn2⟩ := o2
  simp only [firstDk] at a2 b2 ⊢
  obtain ⟨A2, c2, rfl, _, _⟩ := a2.ri
  obtain ⟨B2, e2, rfl, _, _⟩ := b2.ri
  simp only [DkV]
  try simp only [List.length_cons, List.length_nil] at a2 b2 ⊢
  have s8_ := hb8.size
  have t8 := t7.trans (hb8.mono (by omega))
  clear j69 j70 j71 j72 j73 j74 j75 j76 j77 j78 j79 j80
  have f81 := f63.step hb8
  clear f63
  have f82 := f64.step hb8
  clear f64
  have f83 := f65.step hb8
  clear f65
  have f84 := f66.step hb8
  clear f66
  have f85 := f67.step hb8
  clear f67
  have f86 := f68.step hb8
  clear f68
  have hb9 : Below w8.heap.size w8 (w8.alloc (.cells #[.int .i64 5, .slice A2 2 c2, .int .i64 1, .int .i64 2, .int .i64 3, .slice B2 1 e2] 28)) := (Below.refl _ _).alloc (Nat.le_refl _) _
  have x2 := BK.made w8 28 #[.int .i64 5, .slice A2 2 c2, .int .i64 1, .int .i64 2, .int .i64 3, .slice B2 1 e2]
  have l2 := x2.1
  have s9_ := hb9.size
  have t9 := t8.trans (hb9.mono (by omega))
  have f87 := f81.step hb9
  clear f81
  have f88 := f82.step hb9
  clear f82
  have f89 := f83.step hb9
  clear f83
  have f90 := f84.step hb9
  clear f84
  have f91 := f85.step hb9
  clear f85
  have f92 := f86.step hb9
  clear f86
  have f93 := a2.step hb9
  clear a2
  have f94 := b2.step hb9
  clear b2
  have j95 := f89.cell 0
  have j96 := f89.cell 1
  have j97 := f89.cell 2
  have j98 := f89.cell 3
  have j99 := f89.cell 4
  have j100 := f89.cell 5
  have j101 := f90.cell 0
  have j102 := f90.cell 1
  have j103 := f90.cell 2
  have j104 := f90.cell 3
  have j105 := f90.cell 4
  have j106 := f90.cell 5
  have j107 := x2.cell 0
  have j108 := x2.cell 1
  have j109 := x2.cell 2
  have j110 := x2.cell 3
  have j111 := x2.cell 4
  have j112 := x2.cell 5
  simp at j95 j96 j97 j98 j99 j100 j101 j102 j103 j104 j105 j106 j107 j108 j109 j110 j111 j112
  go_wp2_with fail
  refine (eqDesk_same _ _ firstDk _ ⟨_, _, rfl, f93.ri.more (by omega), f94.ri.more (by omega)⟩ ⟨_, _, rfl, f87.ri.more (by omega), f88.ri.more (by omega)⟩ (by simp [firstDk]) (by simp [firstDk])).mono ?_; rintro e w10 ⟨rfl, hb10⟩
  have s10_ := hb10.size
  have t10 := t9.trans (hb10.mono (by omega))
  clear j95 j96 j97 j98 j99 j100 j101 j102 j103 j104 j105 j106 j107 j108 j109 j110 j111 j112
  have f113 := f87.step hb10
  clear f87
  have f114 := f88.step hb10
  clear f88
  have f115 := f89.step hb10
  clear f89
  have f116 := f90.step hb10
  clear f90
  have f117 := f91.step hb10
  clear f91
  have f118 := f92.step hb10
  clear f92
  have f119 := f93.step hb10
  clear f93
  have f120 := f94.step hb10
  clear f94
  have f121 := x2.step hb10
  clear x2
  have j122 := f115.cell 0
  have j123 := f115.cell 1
  have j124 := f115.cell 2
  have j125 := f115.cell 3
  have j126 := f115.cell 4
  have j127 := f115.cell 5
  have j128 := f116.cell 0
  have j129 := f116.cell 1
  have j130 := f116.cell 2
  have j131 := f116.cell 3
  have j132 := f116.cell 4
  have j133 := f116.cell 5
  have j134 := f121.cell 0
  have j135 := f121.cell 1
  have j136 := f121.cell 2
  have j137 := f121.cell 3
  have j138 := f121.cell 4
  have j139 := f121.cell 5
  simp at j122 j123 j124 j125 j126 j127 j128 j129 j130 j131 j132 j133 j134 j135 j136 j137 j138 j139
  go_wp2_with fail
  refine (heldDesk_any _ firstDk 2 1 1 _ ⟨_, _, rfl, f117.ri.more (by omega), f118.ri.more (by omega)⟩ (by omega) (by omega) (by omega) (by omega)).mono ?_; rintro e w11 ⟨rfl, hb11⟩
  have s11_ := hb11.size
  have t11 := t10.trans (hb11.mono (by omega))
  clear j122 j123 j124 j125 j126 j127 j128 j129 j130 j131 j132 j133 j134 j135 j136 j137 j138 j139
  have f140 := f113.step hb11
  clear f113
  have f141 := f114.step hb11
  clear f114
  have f142 := f115.step hb11
  clear f115
  have f143 := f116.step hb11
  clear f116
  have f144 := f117.step hb11
  clear f117
  have f145 := f118.step hb11
  clear f118
  have f146 := f119.step hb11
  clear f119
  have f147 := f120.step hb11
  clear f120
  have f148 := f121.step hb11
  clear f121
  have j149 := f142.cell 0
  have j150 := f142.cell 1
  have j151 := f142.cell 2
  have j152 := f142.cell 3
  have j153 := f142.cell 4
  have j154 := f142.cell 5
  have j155 := f143.cell 0
  have j156 := f143.cell 1
  have j157 := f143.cell 2
  have j158 := f143.cell 3
  have j159 := f143.cell 4
  have j160 := f143.cell 5
  have j161 := f148.cell 0
  have j162 := f148.cell 1
  have j163 := f148.cell 2
  have j164 := f148.cell 3
  have j165 := f148.cell 4
  have j166 := f148.cell 5
  simp at j149 j150 j151 j152 j153 j154 j155 j156 j157 j158 j159 j160 j161 j162 j163 j164 j165 j166
  go_wp2_with fail
  go_ret
  exact ⟨rfl, t11⟩


set_option maxRecDepth 100000 in
theorem lifted (os : Os) (started : os.Started) (H : Type) (enc : TypeId × Value → H) :
    ReturnsInHanded {} Try.checked os 3 .any (Rows.fnExactFirstDeskSpec.pre6 enc Try.prog Try.f3 Rows.fnExactFirstDeskRow.domain false) (Rows.fnExactFirstDeskSpec.post enc Try.prog Try.f3 false true false false) := by
  refine returnsInHanded_of_change (C := Try.checked) own started (by kernel_rfl) Try.func3
    (ChangeSpec.witness6 (enc := enc) (C := Try.checked) false ⟨#[], #[], []⟩ 8 (by kernel_rfl) (by kernel_rfl) (by kernel_rfl) (by kernel_rfl)) ?_
  intro W base args ds gs before hval0 hW hcnd _
  have hval : ∀ (j : Nat) t v, Try.f3.params[j]? = some t → args[j]? = some v → Value.okWide Try.prog W .any base t v := hval0
  have hW' := hW
  obtain ⟨p, q, hA0, hV, rfl, hfz, hnd⟩ := hW
  have hA : DataW.TrodAll enc Try.prog W 0 (fun _ => true) true Try.f3.params.toList args.toList ds p := hA0
  rw [Try.params3] at hA hval
  obtain ⟨hargs, rfl, rfl⟩ := trodAll_nil hA
  obtain rfl : args = #[] := by cases args; simp_all
  obtain ⟨rfl, rfl⟩ := trodVars_none hV
  clear hA0 hval0
  refine (walk  W ).mono fun e W' ⟨he, bel⟩ => ?_
  subst he
  exact ⟨_, rfl, _, _, _, [], _, [], hW', trodAll_mk1 (shut_bool Try.underlying4 _), trodAll_mk0, rfl, bel.frame _, fun h => by cases h⟩

theorem closed : joinedFacts Try.pinned.checked.prog 3 Try.f3 Rows.fnExactFirstDeskSpec Rows.fnExactFirstDeskRow = true := by
  unfold joinedFacts
  repeat' (with_reducible refine and_t ?_ ?_)
  all_goals first
    | (with_reducible exact init_mayEnter)
    | (with_reducible refine init_lifted ?_; as_aux_lemma => kernel_rfl)
    | (with_reducible refine init_mk ?_; as_aux_lemma => kernel_rfl)
    | (as_aux_lemma => kernel_rfl)

theorem over : Rows.fnExactFirstDeskRow.holds Try.pinned (OpenSpec.ofChange Rows.fnExactFirstDeskSpec) :=
  OpenClaim.holds_of_wide 3 Try.f3 rfl rfl rfl rfl rfl rfl rfl ⟨rfl, rfl, rfl, rfl, rfl⟩ rfl rfl rfl rfl rfl (by kernel_rfl) Try.func3 closed
    (of_decide_eq_true (by kernel_rfl)) (by unfold Func.isWrapper; first | (rw [if_pos (by decide +kernel)]; kernel_rfl) | (rw [if_neg (by decide +kernel)]; exact ⟨rfl, rfl⟩))
    (fun os started H enc _ => lifted os started H enc)

/-- The given statement. -/
theorem proved : Rows.FnExactFirstDeskSaid := over
end Go.Proofs.Ytmghhhceemmdpaa.lawFirstDesk
