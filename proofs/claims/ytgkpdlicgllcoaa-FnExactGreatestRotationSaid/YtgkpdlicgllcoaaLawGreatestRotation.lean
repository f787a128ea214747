/-
  GreatestRotation answers as its model at every argument, writes into no argument, and its answer owns its memory. No condition.
-/
import Derived.Test.YtgkpdlicgllcoaaBpI
import Derived.Test.YtgkpdlicgllcoaaSTimedRing
import Derived.Test.YtgkpdlicgllcoaaIntSS
import Derived.Test.YtgkpdlicgllcoaaFrameR
import Derived.Test.YtgkpdlicgllcoaaMark2
import Derived.Test.YtgkpdlicgllcoaaIntSS2
import Derived.Deep.RegionWith
import Derived.Deep.DeepCutAuto
import Derived.Lib.SmallJoins
namespace Go.Proofs.Ytgkpdlicgllcoaa.lawGreatestRotation
open Go.RowKit Go.ChangeShapes Go.WideShapes Go.ChangeAt
set_option maxRecDepth 100000
set_option linter.unusedVariables false

set_option maxHeartbeats 4000000 in
theorem walk (z0 : Tm) (s0 : Value) (v1 : Value) (d1 : List (List Int)) (w : World) (h0 : RI w w.heap.size s0 z0.d) (hm0 : z0.d.length ≤ maxLen) (h1 : RS w w.heap.size v1 d1) :
    Calls Try.prog 15 #[TmV z0 s0, v1] w (RetV w (.bool true)) := by
  obtain ⟨y0t, y0k, d0⟩ := z0
  simp only [TmV] at h0 hm0 ⊢
  have hr0 := h0
  obtain ⟨A0, c0, rfl, hlc0, hc0⟩ := h0
  clear hc0
  have hr1 := h1
  obtain ⟨_, A1, c1, rfl, _, _, _, _⟩ := h1
  have t0 : Below w.heap.size w w := Below.refl _ _
  have hB1 := BK.made w 24 #[.int .i64 y0t, .int .i64 y0k, .slice A0 d0.length c0]
  have hb0 : Below w.heap.size w (w.alloc (.cells #[.int .i64 y0t, .int .i64 y0k, .slice A0 d0.length c0] 24)) := (Below.refl _ _).alloc (Nat.le_refl _) _
  have hf1 : RTm (w.alloc (.cells #[.int .i64 y0t, .int .i64 y0k, .slice A0 d0.length c0] 24)) (w.alloc (.cells #[.int .i64 y0t, .int .i64 y0k, .slice A0 d0.length c0] 24)).heap.size (TmV ⟨y0t, y0k, d0⟩ (.slice A0 d0.length c0)) ⟨y0t, y0k, d0⟩ := ⟨_, rfl, (hr0.below hb0).more hb0.size⟩
  by_cases hn : 1048576 < (d0.length : Int)
  · go_enter Try.func15, Try.ntmps15
    go_wp2_with fail
    refine (szTimedRing_any _ ⟨y0t, y0k, d0⟩ _ _ hf1 (by omega) (by omega) hm0).mono ?_; rintro e w1 ⟨rfl, hb1⟩
    rw [szLeft_neg (show (1048576 : Int) < (d0.length : Int) by omega)]
    go_wp2_with fail
    go_ret
    exact ⟨rfl, hb0.trans (hb1.mono hb0.size)⟩
  have hn0 : d0.length ≤ 1048576 := by omega
  have hp0 : 0 ≤ 1048576 - (d0.length : Int) := by omega
  have hq0 : (d0.length : Int) ≤ 1048576 := by omega
  obtain ⟨left, hleft⟩ : ∃ left, left = 1048576 - (d0.length : Int) := ⟨_, rfl⟩
  have hz9 : ¬ (left < 0) := by omega
  have HSR := Lib.hid fun W (hb : Below w.heap.size w W) => szIntSS_any (.slice A1 d1.length c1) d1 left W ((hr1.below hb).more hb.size) (by omega) (by omega)
  by_cases hS : left < (d1.length : Int) + total d1
  · have eS : szL left d1 = -1 := if_pos hS
    rw [eS] at HSR
    go_enter Try.func15, Try.ntmps15
    go_wp2_with fail
    refine (szTimedRing_any _ ⟨y0t, y0k, d0⟩ _ _ hf1 (by omega) (by omega) hm0).mono ?_; rintro e w1 ⟨rfl, hb1⟩
    rw [szLeft_pos (show ¬ (1048576 : Int) < (d0.length : Int) by omega), ← hleft]
    have hT1 := hb0.trans (hb1.mono hb0.size)
    clear hleft
    go_wp2_with fail
    refine (HSR.out _ hT1).mono ?_; rintro e w2 ⟨rfl, hb2⟩
    go_wp2_with fail
    go_ret
    exact ⟨rfl, hT1.trans (hb2.mono hT1.size)⟩
  have hn1 : d1.length ≤ 1048576 := by omega
  have ht1 : total d1 ≤ 1048576 := by omega
  have hq1 : (d1.length : Int) ≤ 1048576 := by omega
  have htq1 : (total d1 : Int) ≤ 1048576 := by omega
  obtain ⟨S9, hS9⟩ : ∃ S9, S9 = szL left d1 := ⟨_, rfl⟩
  have hS0 : ¬ (S9 < 0) := by rw [hS9, szL, if_neg hS]; omega
  rw [← hS9] at HSR
  clear hS hS9
  obtain ⟨X, b, hX⟩ : ∃ X b, (X, b) = grSays ⟨y0t, y0k, d0⟩ d1 := ⟨_, _, rfl⟩
  have HI : Hid (∀ v0 v1 w, RTm w w.heap.size v0 ⟨y0t, y0k, d0⟩ → RS w w.heap.size v1 d1 → Calls Try.prog 57 #[v0, v1] w (RetV w (.tuple #[.int .i64 X, .bool b]))) := by
    show ∀ v0 v1 w, RTm w w.heap.size v0 ⟨y0t, y0k, d0⟩ → RS w w.heap.size v1 d1 → Calls Try.prog 57 #[v0, v1] w (RetV w (.tuple #[.int .i64 X, .bool b]))
    intro v0 v1 w q0 q1
    have h5 := implGreatestRotation_any v0 v1 ⟨y0t, y0k, d0⟩ d1 w q0 q1 hn0 hn1 ht1
    rw [← hX] at h5
    exact h5
  have HS : Hid (∀ v0 v1 w, RTm w w.heap.size v0 ⟨y0t, y0k, d0⟩ → RS w w.heap.size v1 d1 → Calls Try.prog 56 #[v0, v1] w (RetV w (.tuple #[.int .i64 X, .bool b]))) := by
    show ∀ v0 v1 w, RTm w w.heap.size v0 ⟨y0t, y0k, d0⟩ → RS w w.heap.size v1 d1 → Calls Try.prog 56 #[v0, v1] w (RetV w (.tuple #[.int .i64 X, .bool b]))
    intro v0 v1 w q0 q1
    have h5 := specGreatestRotation_any v0 v1 ⟨y0t, y0k, d0⟩ d1 w q0 q1 hn0 hn1 ht1
    rw [← hX] at h5
    exact h5
  clear hX
  go_enter Try.func15, Try.ntmps15
  go_wp2_with fail
  refine (szTimedRing_any _ ⟨y0t, y0k, d0⟩ _ _ hf1 (by omega) (by omega) hm0).mono ?_; rintro e w0 ⟨rfl, hb1⟩
  rw [szLeft_pos (show ¬ (1048576 : Int) < (d0.length : Int) by omega), ← hleft]
  have t0_ := hb0.trans (hb1.mono hb0.size)
  have b0_ := hB1.step hb1
  clear hleft hb1 hb0 hB1 hf1
  go_wp2_with fail
  refine (HSR.out _ t0_).mono ?_; rintro e w1 ⟨rfl, hb2⟩
  have s1_ := hb2.size
  have t1 := t0_.trans (hb2.mono t0_.size)
  have b1 := b0_.step hb2
  have r1 := hr0.step t1 (Nat.le_refl _)
  have rr1 := hr1.step t1 (Nat.le_refl _)
  have l1 := b1.1
  clear hb2 t0_ b0_ HSR
  have j1 := b1.cell 0
  have j2 := b1.cell 1
  have j3 := b1.cell 2
  simp at j1 j2 j3
  go_wp2_with fail
  refine (toTimedRing_any _ ⟨y0t, y0k, d0⟩ _ ⟨_, rfl, (r1.more (by omega))⟩ hn0).mono ?_; rintro e w2 ⟨u_p0, rfl, o_p0, hb2⟩
  obtain ⟨s_p0, rfl, o_p0⟩ := o_p0
  obtain ⟨A_p0, c_p0, rfl, _, _⟩ := o_p0.ri
  simp only [TmV]
  have s2_ := hb2.size
  have t2 := t1.trans (hb2.mono (by omega))
  clear j1 j2 j3
  have f4 := r1.step hb2 (by omega)
  clear r1
  have f5 := rr1.step hb2 (by omega)
  clear rr1
  have f6 := b1.step hb2
  clear b1
  have j7 := f6.cell 0
  have j8 := f6.cell 1
  have j9 := f6.cell 2
  simp at j7 j8 j9
  go_wp2_with fail
  refine (toIntSS_any _ _ _ (f5.more (by omega)) hn1 ht1).mono ?_; rintro e w3 ⟨p1, rfl, o_p1, hb3⟩
  have s3_ := hb3.size
  have t3 := t2.trans (hb3.mono (by omega))
  clear j7 j8 j9
  have f10 := f4.step hb3 (by omega)
  clear f4
  have f11 := f5.step hb3 (by omega)
  clear f5
  have f12 := f6.step hb3
  clear f6
  have f13 := o_p0.step hb3
  clear o_p0
  have j14 := f12.cell 0
  have j15 := f12.cell 1
  have j16 := f12.cell 2
  simp at j14 j15 j16
  go_wp2_with fail
  refine (HS.out _ _ _ ⟨_, rfl, (f13.ri.more (by omega))⟩ (o_p1.rd.more (by omega))).mono ?_; rintro e w4 ⟨rfl, hb4⟩
  have s4_ := hb4.size
  have t4 := t3.trans (hb4.mono (by omega))
  clear j14 j15 j16
  have f17 := f10.step hb4 (by omega)
  clear f10
  have f18 := f11.step hb4 (by omega)
  clear f11
  have f19 := f12.step hb4
  clear f12
  have f20 := f13.step hb4
  clear f13
  have f21 := o_p1.step hb4 (by omega)
  clear o_p1
  have j22 := f19.cell 0
  have j23 := f19.cell 1
  have j24 := f19.cell 2
  simp at j22 j23 j24
  go_wp2_with fail
  refine (toTimedRing_any _ ⟨y0t, y0k, d0⟩ _ ⟨_, rfl, (f17.more (by omega))⟩ hn0).mono ?_; rintro e w5 ⟨u_x0_, rfl, o_x0_, hb5⟩
  obtain ⟨s_x0_, rfl, o_x0_⟩ := o_x0_
  obtain ⟨A_x0_, c_x0_, rfl, _, _⟩ := o_x0_.ri
  simp only [TmV]
  have s5_ := hb5.size
  have t5 := t4.trans (hb5.mono (by omega))
  clear j22 j23 j24
  have f25 := f17.step hb5 (by omega)
  clear f17
  have f26 := f18.step hb5 (by omega)
  clear f18
  have f27 := f19.step hb5
  clear f19
  have hb6 : Below w5.heap.size w5 (w5.alloc (.cells #[.int .i64 y0t, .int .i64 y0k, .slice A_x0_ d0.length c_x0_] 27)) := (Below.refl _ _).alloc (Nat.le_refl _) _
  have bb_x0_ := BK.made w5 27 #[.int .i64 y0t, .int .i64 y0k, .slice A_x0_ d0.length c_x0_]
  have lb6 := bb_x0_.1
  have s6_ := hb6.size
  have t6 := t5.trans (hb6.mono (by omega))
  have f28 := f25.step hb6 (by omega)
  clear f25
  have f29 := f26.step hb6 (by omega)
  clear f26
  have f30 := f27.step hb6
  clear f27
  have f31 := o_x0_.step hb6
  clear o_x0_
  have j32 := f30.cell 0
  have j33 := f30.cell 1
  have j34 := f30.cell 2
  have j35 := bb_x0_.cell 0
  have j36 := bb_x0_.cell 1
  have j37 := bb_x0_.cell 2
  simp at j32 j33 j34 j35 j36 j37
  go_wp2_with fail
  refine (toIntSS_any _ _ _ (f29.more (by omega)) hn1 ht1).mono ?_; rintro e w7 ⟨x1_, rfl, o_x1_, hb7⟩
  have s7_ := hb7.size
  have t7 := t6.trans (hb7.mono (by omega))
  clear j32 j33 j34 j35 j36 j37
  have f38 := f28.step hb7 (by omega)
  clear f28
  have f39 := f29.step hb7 (by omega)
  clear f29
  have f40 := f30.step hb7
  clear f30
  have f41 := f31.step hb7
  clear f31
  have f42 := bb_x0_.step hb7
  clear bb_x0_
  have j43 := f40.cell 0
  have j44 := f40.cell 1
  have j45 := f40.cell 2
  have j46 := f42.cell 0
  have j47 := f42.cell 1
  have j48 := f42.cell 2
  simp at j43 j44 j45 j46 j47 j48
  go_wp2_with fail
  refine (HI.out _ _ _ ⟨_, rfl, (f41.ri.more (by omega))⟩ (o_x1_.rd.more (by omega))).mono ?_; rintro e w8 ⟨rfl, hb8⟩
  have s8_ := hb8.size
  have t8 := t7.trans (hb8.mono (by omega))
  clear j43 j44 j45 j46 j47 j48
  have f49 := f38.step hb8 (by omega)
  clear f38
  have f50 := f39.step hb8 (by omega)
  clear f39
  have f51 := f40.step hb8
  clear f40
  have f52 := f41.step hb8
  clear f41
  have f53 := f42.step hb8
  clear f42
  have f54 := o_x1_.step hb8 (by omega)
  clear o_x1_
  have j55 := f51.cell 0
  have j56 := f51.cell 1
  have j57 := f51.cell 2
  have j58 := f53.cell 0
  have j59 := f53.cell 1
  have j60 := f53.cell 2
  simp at j55 j56 j57 j58 j59 j60
  go_upto_region 14 with fail
  go_cut [52] (fun s9 wx => s9 = .bool false ∧ Below w8.heap.size w8 wx)
  case first =>
    have R6 := RI.drewN f49 1
    have Q6 := RI.drewN f52.ri 1
    have X6 : BK (w8.drewN 1) _ _ _ := f53
    have T6 := below_drewN (Below.refl w8.heap.size w8) 1
    have y6 := T6.size
    go_region_with (first
      | (go_at_call 18; refine (toTimedRing_any _ ⟨y0t, y0k, d0⟩ _ ⟨_, rfl, R6.more (by omega)⟩ hn0).mono ?_; rintro e w7 ⟨u7, rfl, ho7, hb7⟩; have t7 := T6.trans (hb7.mono (by omega)); have q7 := Q6.step hb7 (by omega); have x7 := X6.step hb7; have s7 := hb7.size; have d70 := x7.cell 0; have d71 := x7.cell 1; have d72 := x7.cell 2; simp at d70 d71 d72)
      | (go_at_call 20; refine (eqTimedRing_same _ _ ⟨y0t, y0k, d0⟩ _ ⟨_, rfl, q7.more (by omega)⟩ ho7.rd hn0).mono ?_; rintro e w8 ⟨rfl, hb8⟩))
    all_goals
      go_wp2_with fail
      go_meet
      exact ⟨rfl, t7.trans (hb8.mono (by have := t7.size; omega))⟩
  case rest =>
    obtain ⟨rfl, hb9⟩ := hcut
    have s9_ := hb9.size
    have t9 := t8.trans (hb9.mono (by omega))
    clear j55 j56 j57 j58 j59 j60
    have f61 := f49.step hb9 (by omega)
    clear f49
    have f62 := f50.step hb9 (by omega)
    clear f50
    have f63 := f51.step hb9
    clear f51
    have f64 := f52.step hb9
    clear f52
    have f65 := f53.step hb9
    clear f53
    have f66 := f54.step hb9 (by omega)
    clear f54
    have j67 := f63.cell 0
    have j68 := f63.cell 1
    have j69 := f63.cell 2
    have j70 := f65.cell 0
    have j71 := f65.cell 1
    have j72 := f65.cell 2
    simp at j67 j68 j69 j70 j71 j72
    go_wp2_with fail
    refine (toIntSS_any _ _ _ (f62.more (by omega)) hn1 ht1).mono ?_; rintro e w10 ⟨y, rfl, o_y, hb10⟩
    have s10_ := hb10.size
    have t10 := t9.trans (hb10.mono (by omega))
    clear j67 j68 j69 j70 j71 j72
    have f73 := f61.step hb10 (by omega)
    clear f61
    have f74 := f62.step hb10 (by omega)
    clear f62
    have f75 := f63.step hb10
    clear f63
    have f76 := f64.step hb10
    clear f64
    have f77 := f65.step hb10
    clear f65
    have f78 := f66.step hb10 (by omega)
    clear f66
    have j79 := f75.cell 0
    have j80 := f75.cell 1
    have j81 := f75.cell 2
    have j82 := f77.cell 0
    have j83 := f77.cell 1
    have j84 := f77.cell 2
    simp at j79 j80 j81 j82 j83 j84
    go_wp2_with fail
    refine (eqIntSS_same _ _ _ _ (f78.rd.more (by omega)) (o_y.rd.more (by omega)) hn1 ht1).mono ?_; rintro e w11 ⟨rfl, hb11⟩
    have s11_ := hb11.size
    have t11 := t10.trans (hb11.mono (by omega))
    clear j79 j80 j81 j82 j83 j84
    have f85 := f73.step hb11 (by omega)
    clear f73
    have f86 := f74.step hb11 (by omega)
    clear f74
    have f87 := f75.step hb11
    clear f75
    have f88 := f76.step hb11
    clear f76
    have f89 := f77.step hb11
    clear f77
    have f90 := f78.step hb11 (by omega)
    clear f78
    have f91 := o_y.step hb11 (by omega)
    clear o_y
    have j92 := f87.cell 0
    have j93 := f87.cell 1
    have j94 := f87.cell 2
    have j95 := f89.cell 0
    have j96 := f89.cell 1
    have j97 := f89.cell 2
    simp at j92 j93 j94 j95 j96 j97
    go_wp2_with fail
    go_ret
    exact ⟨rfl, t11⟩

set_option maxRecDepth 100000 in
theorem lifted (os : Os) (started : os.Started) (H : Type) (enc : TypeId × Value → H) :
    ReturnsInHanded {} Try.checked os 15 .any (Rows.fnExactGreatestRotationSpec.pre6 enc Try.prog Try.f15 Rows.fnExactGreatestRotationRow.domain false) (Rows.fnExactGreatestRotationSpec.post enc Try.prog Try.f15 false true false false) := by
  refine returnsInHanded_of_change (C := Try.checked) own started (by kernel_rfl) Try.func15
    (ChangeSpec.witness6 (enc := enc) (C := Try.checked) false ⟨#[], #[.agg #[.int .i64 0, .int .i64 0, .slice none 0 0], .slice none 0 0], []⟩ 8 (by kernel_rfl) (by kernel_rfl) (by kernel_rfl) (by kernel_rfl)) ?_
  intro W base args ds gs before hval0 hW hcnd _
  have hval : ∀ (j : Nat) t v, Try.f15.params[j]? = some t → args[j]? = some v → Value.okWide Try.prog W .any base t v := hval0
  have hW' := hW
  obtain ⟨p, q, hA0, hV, rfl, hfz, hnd⟩ := hW
  have hA : DataW.TrodAll enc Try.prog W 0 (fun _ => true) true Try.f15.params.toList args.toList ds p := hA0
  rw [Try.params15] at hA hval
  obtain ⟨v0, vs0, d0, ds0, p0, q0, hargs, rfl, rfl, h0, r0⟩ := trodAll_cons hA
  obtain ⟨v1, vs1, d1, ds1, p1, q1, rfl, rfl, rfl, h1, r1⟩ := trodAll_cons r0
  obtain ⟨rfl, rfl, rfl⟩ := trodAll_nil r1
  obtain rfl : args = #[v0, v1] := by cases args; simp_all
  obtain ⟨rfl, rfl⟩ := trodVars_none hV
  have k0 := h0
  have lt0 : ∀ x ∈ p0, x.block < W.heap.size := by obtain ⟨m, hm⟩ := k0; exact DataW.trod_lt m _ _ _ hm
  obtain ⟨e0_0, e0_1, e0_2, y0_0, y0_1, y0_2, m0, rfl, hd0, hp0, g0_0, g0_1, g0_2⟩ := Go.Joins.open_agg3 Try.underlying24 (by kernel_rfl) (by kernel_rfl) (hval 0 24 v0 rfl rfl) h0
  obtain ⟨x0_0, hx0_0, _, w0_0⟩ := DataW.trod_int Try.underlying3 g0_0
  obtain rfl : e0_0 = .int .i64 x0_0 := by simpa using hx0_0
  obtain ⟨x0_1, hx0_1, _, w0_1⟩ := DataW.trod_int Try.underlying3 g0_1
  obtain rfl : e0_1 = .int .i64 x0_1 := by simpa using hx0_1
  obtain ⟨l0_2, w0_2⟩ : ∃ l, RI W W.heap.size e0_2 l ∧ (∀ x ∈ l, (Lit.int .i64 x).wf = true) ∧ l.length ≤ maxLen := by
    rcases open_ints Try.underlying22 Try.underlying3 (by kernel_rfl) g0_2 with ⟨hcs, _⟩ | ⟨x, l, c, zs, hcs, _, hl, hm, hz, _, hcell, hwz⟩
    · obtain rfl : e0_2 = .slice none 0 0 := by simpa using hcs
      exact ⟨[], ⟨none, 0, rfl, ⟨by simp, by simp, fun _ => rfl⟩, fun h => absurd h (by simp)⟩, by simp, by simp⟩
    · obtain rfl : e0_2 = .slice (some x) l c := by simpa using hcs
      have hz' : zs.length = c := by simpa using hz
      exact ⟨zs.take l, ri_of_cells (by omega) hz' hm hcell, fun y hy => hwz y (List.mem_of_mem_take hy), by simp; omega⟩
  obtain ⟨a1, len1, cap1, rfl⟩ := okWide_slice Try.underlying59 (hval 1 59 v1 rfl rfl)
  have k1 := h1
  have lt1 : ∀ x ∈ p1, x.block < W.heap.size := by obtain ⟨m, hm⟩ := k1; exact DataW.trod_lt m _ _ _ hm
  obtain ⟨l1, n1⟩ : ∃ l, RS W W.heap.size (.slice a1 len1 cap1) l := by
    obtain ⟨fuel, hf⟩ := h1
    exact open_rows9 Try.underlying59 Try.underlying22 Try.underlying3 (by kernel_rfl) (by kernel_rfl) ⟨_, _, _, rfl⟩ hf
  clear hA0 hval0
  refine (walk ⟨x0_0, x0_1, l0_2⟩ e0_2 (.slice a1 len1 cap1) l1 W w0_2.1 w0_2.2.2 n1).mono fun e W' ⟨he, bel⟩ => ?_
  subst he
  exact ⟨_, rfl, _, _, _, [], _, [], hW', trodAll_mk1 (shut_bool Try.underlying4 _), (trodAll_cons_mk (Below.trod laidOut (by kernel_rfl) (of_decide_eq_true (by kernel_rfl)) k0 bel lt0) (trodAll_cons_mk (Below.trod laidOut (by kernel_rfl) (of_decide_eq_true (by kernel_rfl)) k1 bel lt1) trodAll_mk0)), rfl, bel.frame _, fun h => by cases h⟩

theorem closed : joinedFacts Try.pinned.checked.prog 15 Try.f15 Rows.fnExactGreatestRotationSpec Rows.fnExactGreatestRotationRow = true := by
  unfold joinedFacts
  repeat' (with_reducible refine and_t ?_ ?_)
  all_goals first
    | (with_reducible exact init_mayEnter)
    | (with_reducible refine init_lifted ?_; as_aux_lemma => kernel_rfl)
    | (with_reducible refine init_mk ?_; as_aux_lemma => kernel_rfl)
    | (as_aux_lemma => kernel_rfl)

theorem over : Rows.fnExactGreatestRotationRow.holds Try.pinned (OpenSpec.ofChange Rows.fnExactGreatestRotationSpec) :=
  OpenClaim.holds_of_wide 15 Try.f15 rfl rfl rfl rfl rfl rfl rfl ⟨rfl, rfl, rfl, rfl, rfl⟩ rfl rfl rfl rfl rfl (by kernel_rfl) Try.func15 closed
    (of_decide_eq_true (by kernel_rfl)) (by unfold Func.isWrapper; first | (rw [if_pos (by decide +kernel)]; kernel_rfl) | (rw [if_neg (by decide +kernel)]; exact ⟨rfl, rfl⟩))
    (fun os started H enc _ => lifted os started H enc)

/-- The given statement. -/
theorem proved : Rows.FnExactGreatestRotationSaid := over

end Go.Proofs.Ytgkpdlicgllcoaa.lawGreatestRotation
