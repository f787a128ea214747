/-
  ServedBy answers as its model at every argument, writes into no argument, and its answer owns its memory. No condition.
-/
import Derived.Test.YtdjpanmhlnnkoaaBqD
import Derived.Test.YtdjpanmhlnnkoaaSServer
import Derived.Test.YtdjpanmhlnnkoaaFrame
import Derived.Deep.RegionWith
import Derived.Deep.DeepCutAuto
import Derived.Lib.SmallJoins
import Derived.Deep.Slices
import Derived.Deep.Fields
import Derived.ChangeSame
namespace Go.Proofs.Ytdjpanmhlnnkoaa.lawServedBy
open Go.RowKit Go.ChangeShapes Go.WideShapes Go.ChangeAt
set_option maxRecDepth 100000
set_option linter.unusedVariables false

set_option maxHeartbeats 4000000 in
theorem walk (z0 : Sv) (s1 : Value) (d1 : List Int) (w : World) (h1 : RI w w.heap.size s1 d1) (hm1 : d1.length ≤ maxLen) :
    Calls Try.prog 3 #[SvV z0, s1] w (RetV w (.bool true)) := by
  obtain ⟨y0r, y0l⟩ := z0
  simp only [SvV]
  have hr1 := h1
  obtain ⟨a1, c1, rfl, _, _⟩ := h1
  have t0 : Below w.heap.size w w := Below.refl _ _
  rcases Nat.lt_or_ge 1048576 d1.length with hn1 | hn1
  · have hn' : (1048576 : Int) < d1.length := by omega
    go_enter Try.func3, Try.ntmps3
    have hb1 : Below w.heap.size w (w.alloc (.cells #[.int .i64 y0r, .int .i64 y0l] 23)) := (Below.refl _ _).alloc (Nat.le_refl _) _
    have bb__0 := BK.made w 23 #[.int .i64 y0r, .int .i64 y0l]
    have lb1 := bb__0.1
    have s1_ := hb1.size
    have t1 := t0.trans (hb1.mono (by omega))
    have f1 := hr1.step hb1 (by omega)
    clear hr1
    go_wp2_with fail
    go_ret
    exact ⟨rfl, t1⟩
  have hq1 : (d1.length : Int) ≤ 1048576 := by omega
  have hlen := srvSays_len ⟨y0r, y0l⟩ d1
  obtain ⟨X, b, hX⟩ : ∃ X b, (X, b) = srvSays ⟨y0r, y0l⟩ d1 := ⟨_, _, rfl⟩
  rw [← hX] at hlen
  simp only at hlen
  have HI : Hid (∀ v1 w, RI w w.heap.size v1 d1 → Calls Try.prog 9 #[.agg #[.int .i64 y0r, .int .i64 y0l], v1] w (RetLB 3 w X b)) := by
    show ∀ v1 w, RI w w.heap.size v1 d1 → Calls Try.prog 9 #[.agg #[.int .i64 y0r, .int .i64 y0l], v1] w (RetLB 3 w X b)
    intro v1 w q1
    have h5 := implServedBy_any v1 ⟨y0r, y0l⟩ d1 w q1 hn1
    rw [← hX] at h5
    exact h5
  have HS : Hid (∀ v1 w, RI w w.heap.size v1 d1 → Calls Try.prog 6 #[.agg #[.int .i64 y0r, .int .i64 y0l], v1] w (RetLB 3 w X b)) := by
    show ∀ v1 w, RI w w.heap.size v1 d1 → Calls Try.prog 6 #[.agg #[.int .i64 y0r, .int .i64 y0l], v1] w (RetLB 3 w X b)
    intro v1 w q1
    have h5 := specServedBy_any v1 ⟨y0r, y0l⟩ d1 w q1 hn1
    rw [← hX] at h5
    exact h5
  have HA0 : Hid (∀ w, Calls Try.prog 7 #[.agg #[.int .i64 y0r, .int .i64 y0l]] w (RetV w (.agg #[.int .i64 y0r, .int .i64 y0l]))) := by
    show ∀ w, Calls Try.prog 7 #[.agg #[.int .i64 y0r, .int .i64 y0l]] w (RetV w (.agg #[.int .i64 y0r, .int .i64 y0l]))
    intro w
    exact toServer_any ⟨y0r, y0l⟩ w
  clear hX
  have hlen' : ((X.length : Nat) : Int) ≤ 1048576 := by omega
  go_enter Try.func3, Try.ntmps3
  have hb1 : Below w.heap.size w (w.alloc (.cells #[.int .i64 y0r, .int .i64 y0l] 23)) := (Below.refl _ _).alloc (Nat.le_refl _) _
  have bb__0 := BK.made w 23 #[.int .i64 y0r, .int .i64 y0l]
  have lb1 := bb__0.1
  have s1_ := hb1.size
  have t1 := t0.trans (hb1.mono (by omega))
  have f1 := hr1.step hb1 (by omega)
  clear hr1
  have j2 := bb__0.cell 0
  have j3 := bb__0.cell 1
  simp at j2 j3
  go_wp2_with fail
  refine (HA0.out _).mono ?_; rintro e w2 ⟨rfl, hb2⟩
  have s2_ := hb2.size
  have t2 := t1.trans (hb2.mono (by omega))
  clear j2 j3
  have f4 := f1.step hb2 (by omega)
  clear f1
  have f5 := bb__0.step hb2
  clear bb__0
  have j6 := f5.cell 0
  have j7 := f5.cell 1
  simp at j6 j7
  go_wp2_with fail
  refine (toIntS_any _ _ _ (f4.more (by omega)) hn1).mono ?_; rintro e w3 ⟨u_p1, rfl, o_p1, hb3⟩
  have s3_ := hb3.size
  have t3 := t2.trans (hb3.mono (by omega))
  clear j6 j7
  have f8 := f4.step hb3 (by omega)
  clear f4
  have f9 := f5.step hb3
  clear f5
  have j10 := f9.cell 0
  have j11 := f9.cell 1
  simp at j10 j11
  go_wp2_with fail
  refine (HS.out _ _ (o_p1.ri.more (by omega))).mono ?_; rintro e w4 ⟨u_v0, rfl, o_v0, hb4⟩
  have s4_ := hb4.size
  have t4 := t3.trans (hb4.mono (by omega))
  clear j10 j11
  have f12 := f8.step hb4 (by omega)
  clear f8
  have f13 := f9.step hb4
  clear f9
  have f14 := o_p1.step hb4
  clear o_p1
  have j15 := f13.cell 0
  have j16 := f13.cell 1
  simp at j15 j16
  go_wp2_with fail
  refine (toIntS_any _ _ _ (f12.more (by omega)) hn1).mono ?_; rintro e w5 ⟨u_x1_, rfl, o_x1_, hb5⟩
  have s5_ := hb5.size
  have t5 := t4.trans (hb5.mono (by omega))
  clear j15 j16
  have f17 := f12.step hb5 (by omega)
  clear f12
  have f18 := f13.step hb5
  clear f13
  have f19 := o_v0.step hb5
  clear o_v0
  have j20 := f18.cell 0
  have j21 := f18.cell 1
  simp at j20 j21
  go_wp2_with fail
  refine (HA0.out _).mono ?_; rintro e w6 ⟨rfl, hb6⟩
  have s6_ := hb6.size
  have t6 := t5.trans (hb6.mono (by omega))
  clear j20 j21
  have f22 := f17.step hb6 (by omega)
  clear f17
  have f23 := f18.step hb6
  clear f18
  have f24 := f19.step hb6
  clear f19
  have f25 := o_x1_.step hb6
  clear o_x1_
  have j26 := f23.cell 0
  have j27 := f23.cell 1
  simp at j26 j27
  go_wp2_with fail
  refine (HI.out _ _ (f25.ri.more (by omega))).mono ?_; rintro e w7 ⟨u_g0, rfl, o_g0, hb7⟩
  have s7_ := hb7.size
  have t7 := t6.trans (hb7.mono (by omega))
  clear j26 j27
  have f28 := f22.step hb7 (by omega)
  clear f22
  have f29 := f23.step hb7
  clear f23
  have f30 := f24.step hb7
  clear f24
  have f31 := f25.step hb7
  clear f25
  have j32 := f29.cell 0
  have j33 := f29.cell 1
  simp at j32 j33
  go_wp2_with fail
  refine (eqIntS_same _ _ _ _ (o_g0.ri.more (by omega)) (f30.ri.more (by omega)) hlen).mono ?_; rintro e w8 ⟨rfl, hb8⟩
  have s8_ := hb8.size
  have t8 := t7.trans (hb8.mono (by omega))
  clear j32 j33
  have f34 := f28.step hb8 (by omega)
  clear f28
  have f35 := f29.step hb8
  clear f29
  have f36 := f30.step hb8
  clear f30
  have f37 := f31.step hb8
  clear f31
  have f38 := o_g0.step hb8
  clear o_g0
  have j39 := f35.cell 0
  have j40 := f35.cell 1
  simp at j39 j40
  go_wp2_with fail
  refine (toIntS_any _ _ _ (f34.more (by omega)) hn1).mono ?_; rintro e w9 ⟨u_y, rfl, o_y, hb9⟩
  have s9_ := hb9.size
  have t9 := t8.trans (hb9.mono (by omega))
  clear j39 j40
  have f41 := f34.step hb9 (by omega)
  clear f34
  have f42 := f35.step hb9
  clear f35
  have f43 := f36.step hb9
  clear f36
  have f44 := f37.step hb9
  clear f37
  have f45 := f38.step hb9
  clear f38
  have j46 := f42.cell 0
  have j47 := f42.cell 1
  simp at j46 j47
  go_wp2_with fail
  refine (eqIntS_same _ _ _ _ (f44.ri.more (by omega)) (o_y.ri.more (by omega)) hn1).mono ?_; rintro e w10 ⟨rfl, hb10⟩
  have s10_ := hb10.size
  have t10 := t9.trans (hb10.mono (by omega))
  clear j46 j47
  have f48 := f41.step hb10 (by omega)
  clear f41
  have f49 := f42.step hb10
  clear f42
  have f50 := f43.step hb10
  clear f43
  have f51 := f44.step hb10
  clear f44
  have f52 := f45.step hb10
  clear f45
  have f53 := o_y.step hb10
  clear o_y
  have j54 := f49.cell 0
  have j55 := f49.cell 1
  simp at j54 j55
  go_wp2_with fail
  refine (markIntS_any _ _ _ _ _ _ f51 hn1 (by omega) (by omega)).mono ?_; rintro e w11 ⟨rfl, mx1, hg11⟩
  have s11_ := hg11.size
  have t11 := t10.trans (hg11.below (by omega) (by omega))
  clear j54 j55
  have f56 := f48.far hg11 (by omega) (by omega)
  clear f48
  have f57 := f49.far hg11 (by omega)
  clear f49
  have f58 := f50.far hg11 (by omega)
  clear f50
  have f59 := f52.far hg11 (by omega)
  clear f52
  have j60 := f57.cell 0
  have j61 := f57.cell 1
  simp at j60 j61
  go_wp2_with fail
  refine (eqIntS_same _ _ _ _ (f59.ri.more (by omega)) (f58.ri.more (by omega)) hlen).mono ?_; rintro e w12 ⟨rfl, hb12⟩
  have s12_ := hb12.size
  have t12 := t11.trans (hb12.mono (by omega))
  clear j60 j61
  have f62 := f56.step hb12 (by omega)
  clear f56
  have f63 := f57.step hb12
  clear f57
  have f64 := f58.step hb12
  clear f58
  have f65 := f59.step hb12
  clear f59
  have j66 := f63.cell 0
  have j67 := f63.cell 1
  simp at j66 j67
  go_wp2_with fail
  refine (markIntS_any _ _ _ _ _ _ f65 hlen (by omega) (by omega)).mono ?_; rintro e w13 ⟨rfl, mg, hg13⟩
  have s13_ := hg13.size
  have t13 := t12.trans (hg13.below (by omega) (by omega))
  clear j66 j67
  have f68 := f62.far hg13 (by omega) (by omega)
  clear f62
  have f69 := f63.far hg13 (by omega)
  clear f63
  have f70 := f64.far hg13 (by omega)
  clear f64
  have j71 := f69.cell 0
  have j72 := f69.cell 1
  simp at j71 j72
  go_wp2_with fail
  refine (heldIntS_any _ _ _ _ (mg.ri.more (by omega)) hlen (by omega) (by omega)).mono ?_; rintro e w14 ⟨rfl, hb14⟩
  have s14_ := hb14.size
  have t14 := t13.trans (hb14.mono (by omega))
  clear j71 j72
  have f73 := f68.step hb14 (by omega)
  clear f68
  have f74 := f69.step hb14
  clear f69
  have f75 := f70.step hb14
  clear f70
  have f76 := mg.step hb14
  clear mg
  have j77 := f74.cell 0
  have j78 := f74.cell 1
  simp at j77 j78
  go_wp2_with fail
  refine (HA0.out _).mono ?_; rintro e w15 ⟨rfl, hb15⟩
  have s15_ := hb15.size
  have t15 := t14.trans (hb15.mono (by omega))
  clear j77 j78
  have f79 := f73.step hb15 (by omega)
  clear f73
  have f80 := f74.step hb15
  clear f74
  have f81 := f75.step hb15
  clear f75
  have f82 := f76.step hb15
  clear f76
  have j83 := f80.cell 0
  have j84 := f80.cell 1
  simp at j83 j84
  go_wp2_with fail
  refine (toIntS_any _ _ _ (f79.more (by omega)) hn1).mono ?_; rintro e w16 ⟨u_e1, rfl, o_e1, hb16⟩
  have s16_ := hb16.size
  have t16 := t15.trans (hb16.mono (by omega))
  clear j83 j84
  have f85 := f79.step hb16 (by omega)
  clear f79
  have f86 := f80.step hb16
  clear f80
  have f87 := f81.step hb16
  clear f81
  have f88 := f82.step hb16
  clear f82
  have j89 := f86.cell 0
  have j90 := f86.cell 1
  simp at j89 j90
  go_wp2_with fail
  refine (HI.out _ _ (o_e1.ri.more (by omega))).mono ?_; rintro e w17 ⟨u_h0, rfl, o_h0, hb17⟩
  have s17_ := hb17.size
  have t17 := t16.trans (hb17.mono (by omega))
  clear j89 j90
  have f91 := f85.step hb17 (by omega)
  clear f85
  have f92 := f86.step hb17
  clear f86
  have f93 := f87.step hb17
  clear f87
  have f94 := f88.step hb17
  clear f88
  have f95 := o_e1.step hb17
  clear o_e1
  have j96 := f92.cell 0
  have j97 := f92.cell 1
  simp at j96 j97
  go_wp2_with fail
  refine (eqIntS_same _ _ _ _ (o_h0.ri.more (by omega)) (f93.ri.more (by omega)) hlen).mono ?_; rintro e w18 ⟨rfl, hb18⟩
  have s18_ := hb18.size
  have t18 := t17.trans (hb18.mono (by omega))
  clear j96 j97
  have f98 := f91.step hb18 (by omega)
  clear f91
  have f99 := f92.step hb18
  clear f92
  have f100 := f93.step hb18
  clear f93
  have f101 := f94.step hb18
  clear f94
  have f102 := o_h0.step hb18
  clear o_h0
  have j103 := f99.cell 0
  have j104 := f99.cell 1
  simp at j103 j104
  go_wp2_with fail
  refine (heldIntS_any _ _ _ _ (f101.ri.more (by omega)) hlen (by omega) (by omega)).mono ?_; rintro e w19 ⟨rfl, hb19⟩
  have s19_ := hb19.size
  have t19 := t18.trans (hb19.mono (by omega))
  clear j103 j104
  have f105 := f98.step hb19 (by omega)
  clear f98
  have f106 := f99.step hb19
  clear f99
  have f107 := f100.step hb19
  clear f100
  have f108 := f101.step hb19
  clear f101
  have f109 := f102.step hb19
  clear f102
  have j110 := f106.cell 0
  have j111 := f106.cell 1
  simp at j110 j111
  go_wp2_with fail
  go_ret
  exact ⟨rfl, t19⟩

set_option maxRecDepth 100000 in
theorem lifted (os : Os) (started : os.Started) (H : Type) (enc : TypeId × Value → H) :
    ReturnsInHanded {} Try.checked os 3 .any (Rows.fnExactServedBySpec.pre6 enc Try.prog Try.f3 Rows.fnExactServedByRow.domain false) (Rows.fnExactServedBySpec.post enc Try.prog Try.f3 false true false false) := by
  refine returnsInHanded_of_change (C := Try.checked) own started (by kernel_rfl) Try.func3
    (ChangeSpec.witness6 (enc := enc) (C := Try.checked) false ⟨#[], #[.agg #[.int .i64 0, .int .i64 0], .slice none 0 0], []⟩ 8 (by kernel_rfl) (by kernel_rfl) (by kernel_rfl) (by kernel_rfl)) ?_
  intro W base args ds gs before hval0 hW hcnd _
  have hval : ∀ (j : Nat) t v, Try.f3.params[j]? = some t → args[j]? = some v → Value.okWide Try.prog W .any base t v := hval0
  have hW' := hW
  obtain ⟨p, q, hA0, hV, rfl, hfz, hnd⟩ := hW
  have hA : DataW.TrodAll enc Try.prog W 0 (fun _ => true) true Try.f3.params.toList args.toList ds p := hA0
  rw [Try.params3] at hA hval
  obtain ⟨v0, vs0, d0, ds0, p0, q0, hargs, rfl, rfl, h0, r0⟩ := trodAll_cons hA
  obtain ⟨v1, vs1, d1, ds1, p1, q1, rfl, rfl, rfl, h1, r1⟩ := trodAll_cons r0
  obtain ⟨rfl, rfl, rfl⟩ := trodAll_nil r1
  obtain rfl : args = #[v0, v1] := by cases args; simp_all
  obtain ⟨rfl, rfl⟩ := trodVars_none hV
  have k0 := h0
  have lt0 : ∀ x ∈ p0, x.block < W.heap.size := by obtain ⟨m, hm⟩ := k0; exact DataW.trod_lt m _ _ _ hm
  obtain ⟨e0_0, e0_1, y0_0, y0_1, m0, rfl, hd0, hp0, g0_0, g0_1⟩ := Go.Joins.open_agg2 Try.underlying23 (by kernel_rfl) (by kernel_rfl) (hval 0 23 v0 rfl rfl) h0
  obtain ⟨x0_0, hx0_0, _, w0_0⟩ := DataW.trod_int Try.underlying3 g0_0
  obtain rfl : e0_0 = .int .i64 x0_0 := by simpa using hx0_0
  obtain ⟨x0_1, hx0_1, _, w0_1⟩ := DataW.trod_int Try.underlying3 g0_1
  obtain rfl : e0_1 = .int .i64 x0_1 := by simpa using hx0_1
  obtain ⟨a1, len1, cap1, rfl⟩ := okWide_slice Try.underlying24 (hval 1 24 v1 rfl rfl)
  have k1 := h1
  have lt1 : ∀ x ∈ p1, x.block < W.heap.size := by obtain ⟨m, hm⟩ := k1; exact DataW.trod_lt m _ _ _ hm
  obtain ⟨l1, n1, w1⟩ : ∃ l, len1 = List.length l ∧ RI W W.heap.size (.slice a1 len1 cap1) l ∧ (∀ x ∈ l, (Lit.int .i64 x).wf = true) ∧ cap1 ≤ maxLen := by
    obtain ⟨fuel, hf⟩ := h1
    rcases open_ints Try.underlying24 Try.underlying3 (by kernel_rfl) hf with ⟨hcs, _⟩ | ⟨x, l, c, zs, hcs, _, hl, hm, hz, _, hcell, hwz⟩
    · simp [Value.cells] at hcs
      obtain ⟨rfl, rfl, rfl⟩ := hcs
      exact ⟨[], rfl, ⟨none, 0, rfl, ⟨by simp, by simp, fun _ => rfl⟩, fun h => absurd h (by simp)⟩, by simp, by simp⟩
    · simp [Value.cells] at hcs
      obtain ⟨rfl, rfl, rfl⟩ := hcs
      have hz' : zs.length = cap1 := by simpa using hz
      exact ⟨zs.take len1, by simp; omega, ri_of_cells (by omega) hz' hm hcell, fun x hx => hwz x (List.mem_of_mem_take hx), hm⟩
  subst n1
  clear hA0 hval0
  refine (walk ⟨x0_0, x0_1⟩ _ l1 W w1.1 (by obtain ⟨_, _, _, ⟨q1_, q2_, _⟩, _⟩ := w1.1; omega)).mono fun e W' ⟨he, bel⟩ => ?_
  subst he
  exact ⟨_, rfl, _, _, _, [], _, [], hW', trodAll_mk1 (shut_bool Try.underlying4 _), (trodAll_cons_mk (Below.trod laidOut (by kernel_rfl) (of_decide_eq_true (by kernel_rfl)) k0 bel lt0) (trodAll_cons_mk (Below.trod laidOut (by kernel_rfl) (of_decide_eq_true (by kernel_rfl)) k1 bel lt1) trodAll_mk0)), rfl, bel.frame _, fun h => by cases h⟩

theorem closed : joinedFacts Try.pinned.checked.prog 3 Try.f3 Rows.fnExactServedBySpec Rows.fnExactServedByRow = true := by
  unfold joinedFacts
  repeat' (with_reducible refine and_t ?_ ?_)
  all_goals first
    | (with_reducible exact init_mayEnter)
    | (with_reducible refine init_lifted ?_; as_aux_lemma => kernel_rfl)
    | (with_reducible refine init_mk ?_; as_aux_lemma => kernel_rfl)
    | (as_aux_lemma => kernel_rfl)

theorem over : Rows.fnExactServedByRow.holds Try.pinned (OpenSpec.ofChange Rows.fnExactServedBySpec) :=
  OpenClaim.holds_of_wide 3 Try.f3 rfl rfl rfl rfl rfl rfl rfl ⟨rfl, rfl, rfl, rfl, rfl⟩ rfl rfl rfl rfl rfl (by kernel_rfl) Try.func3 closed
    (of_decide_eq_true (by kernel_rfl)) (by unfold Func.isWrapper; first | (rw [if_pos (by decide +kernel)]; kernel_rfl) | (rw [if_neg (by decide +kernel)]; exact ⟨rfl, rfl⟩))
    (fun os started H enc _ => lifted os started H enc)

/-- The given statement. -/
theorem proved : Rows.FnExactServedBySaid := over

end Go.Proofs.Ytdjpanmhlnnkoaa.lawServedBy
