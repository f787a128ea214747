/-
  IsDesk answers as its model at every argument, and writes into no argument. No condition.
-/
import Derived.Test.YtmghhhceemmdpaaDkA
import Derived.Test.YtmghhhceemmdpaaFDesk
import Derived.Deep.RegionWith
import Derived.Deep.DeepCutAuto
import Derived.Lib.SmallJoins
namespace Go.Proofs.Ytmghhhceemmdpaa.lawIsDesk
open Go.RowKit Go.ChangeShapes Go.WideShapes Go.ChangeAt
set_option maxRecDepth 100000
set_option linter.unusedVariables false

set_option maxHeartbeats 4000000 in
theorem walk (x : Dk) (s t : Value) (w : World) (h : RI w w.heap.size s x.r.d) (k : RI w w.heap.size t x.f.d) (h2 : x.r.d.length ≤ maxLen) (k2 : x.f.d.length ≤ maxLen) :
    Calls Try.prog 4 #[DkV x s t] w (RetV w (.bool true)) := by
  obtain ⟨⟨rk, rd⟩, ⟨ff, ft, fp, fd⟩⟩ := x
  simp only [DkV] at h k h2 k2 ⊢
  have r1 := h
  have r2 := k
  obtain ⟨A, c, rfl, hlc, hc⟩ := h
  obtain ⟨B, e, rfl, hle, he⟩ := k
  clear hc he
  have t0 : Below w.heap.size w (w.alloc (.cells #[.int .i64 rk, .slice A rd.length c, .int .i64 ff, .int .i64 ft, .int .i64 fp, .slice B fd.length e] 36)) := (Below.refl _ _).alloc (Nat.le_refl _) _
  have hB := BK.made w 36 #[.int .i64 rk, .slice A rd.length c, .int .i64 ff, .int .i64 ft, .int .i64 fp, .slice B fd.length e]
  have q1 := (r1.below t0).more t0.size
  have q2 := (r2.below t0).more t0.size
  have hsz := szDesk_any (.agg #[.int .i64 rk, .slice A rd.length c, .int .i64 ff, .int .i64 ft, .int .i64 fp, .slice B fd.length e]) ⟨⟨rk, rd⟩, ⟨ff, ft, fp, fd⟩⟩ 1048576 (w.alloc (.cells #[.int .i64 rk, .slice A rd.length c, .int .i64 ff, .int .i64 ft, .int .i64 fp, .slice B fd.length e] 36)) ⟨_, _, rfl, q1, q2⟩ (by omega) (by omega) h2 k2
  simp only at hsz
  by_cases hn : (1048576 : Int) < rd.length
  · rw [if_pos hn] at hsz
    go_enter Try.func4, Try.ntmps4
    go_wp2_with fail
    refine hsz.mono ?_; rintro e w1 ⟨rfl, hb1⟩
    go_wp2_with fail
    go_ret
    exact ⟨rfl, t0.trans (hb1.mono t0.size)⟩
  rw [if_neg hn] at hsz
  by_cases hm : (1048576 - rd.length : Int) < fd.length
  · rw [szLeft_neg hm] at hsz
    go_enter Try.func4, Try.ntmps4
    go_wp2_with fail
    refine hsz.mono ?_; rintro e w1 ⟨rfl, hb1⟩
    go_wp2_with fail
    go_ret
    exact ⟨rfl, t0.trans (hb1.mono t0.size)⟩
  rw [szLeft_pos hm] at hsz
  have hn1 : rd.length ≤ 1048576 := by omega
  have hm1 : fd.length ≤ 1048576 := by omega
  have hp : 0 ≤ (1048576 : Int) - rd.length - fd.length := by omega
  obtain ⟨Z, hZ⟩ : ∃ Z, Z = isDk ⟨⟨rk, rd⟩, ⟨ff, ft, fp, fd⟩⟩ := ⟨_, rfl⟩
  have HI : Hid (∀ v w, RDk w w.heap.size v ⟨⟨rk, rd⟩, ⟨ff, ft, fp, fd⟩⟩ → Calls Try.prog 13 #[v] w (RetV w (.bool Z))) := fun v w q => by rw [hZ]; exact implIsDesk_any v _ w q hn1 hm1
  have HS : Hid (∀ v w, RDk w w.heap.size v ⟨⟨rk, rd⟩, ⟨ff, ft, fp, fd⟩⟩ → Calls Try.prog 11 #[v] w (RetV w (.bool Z))) := fun v w q => by rw [hZ]; exact specIsDesk_any v _ w q hn1 hm1
  clear hZ
  go_enter Try.func4, Try.ntmps4
  go_wp2_with fail
  refine hsz.mono ?_; rintro e w1 ⟨rfl, hb1⟩
  have s1_ := hb1.size
  have t1 := t0.trans (hb1.mono t0.size)
  have b1 := hB.step hb1
  have y1 := r1.step t1 (Nat.le_refl _)
  have y2 := r2.step t1 (Nat.le_refl _)
  have l1 := b1.1
  clear hb1 t0 hB q1 q2 hsz
  have j1 := b1.cell 0
  have j2 := b1.cell 1
  have j3 := b1.cell 2
  have j4 := b1.cell 3
  have j5 := b1.cell 4
  have j6 := b1.cell 5
  simp at j1 j2 j3 j4 j5 j6
  go_wp2_with fail
  refine (toDesk_any _ ⟨⟨rk, rd⟩, ⟨ff, ft, fp, fd⟩⟩ _ ⟨_, _, rfl, y1.more (by omega), y2.more (by omega)⟩ hn1 hm1).mono ?_; rintro e w2 ⟨vp, rfl, op, hb2⟩
  obtain ⟨sp, pp, mp, rfl, ap, dp, hmp_, hnp_⟩ := op
  obtain ⟨Ap, cp, rfl, _, _⟩ := ap.ri
  obtain ⟨Bp, ep, rfl, _, _⟩ := dp.ri
  simp only [DkV]
  have s2_ := hb2.size
  have t2 := t1.trans (hb2.mono (by omega))
  clear j1 j2 j3 j4 j5 j6
  have f7 := y1.step hb2 (by omega)
  clear y1
  have f8 := y2.step hb2 (by omega)
  clear y2
  have f9 := b1.step hb2
  clear b1
  have j10 := f9.cell 0
  have j11 := f9.cell 1
  have j12 := f9.cell 2
  have j13 := f9.cell 3
  have j14 := f9.cell 4
  have j15 := f9.cell 5
  simp at j10 j11 j12 j13 j14 j15
  go_wp2_with fail
  refine (HS.out _ _ ⟨_, _, rfl, ap.ri.more (by omega), dp.ri.more (by omega)⟩).mono ?_; rintro e w3 ⟨rfl, hb3⟩
  have s3_ := hb3.size
  have t3 := t2.trans (hb3.mono (by omega))
  clear j10 j11 j12 j13 j14 j15
  have f16 := f7.step hb3 (by omega)
  clear f7
  have f17 := f8.step hb3 (by omega)
  clear f8
  have f18 := f9.step hb3
  clear f9
  have f19 := ap.step hb3
  clear ap
  have f20 := dp.step hb3
  clear dp
  have j21 := f18.cell 0
  have j22 := f18.cell 1
  have j23 := f18.cell 2
  have j24 := f18.cell 3
  have j25 := f18.cell 4
  have j26 := f18.cell 5
  simp at j21 j22 j23 j24 j25 j26
  go_wp2_with fail
  refine (toDesk_any _ ⟨⟨rk, rd⟩, ⟨ff, ft, fp, fd⟩⟩ _ ⟨_, _, rfl, f16.more (by omega), f17.more (by omega)⟩ hn1 hm1).mono ?_; rintro e w4 ⟨vq, rfl, oq, hb4⟩
  obtain ⟨sq, pq, mq, rfl, aq, dq, hmq_, hnq_⟩ := oq
  obtain ⟨Aq, cq, rfl, _, _⟩ := aq.ri
  obtain ⟨Bq, eq, rfl, _, _⟩ := dq.ri
  simp only [DkV]
  have s4_ := hb4.size
  have t4 := t3.trans (hb4.mono (by omega))
  clear j21 j22 j23 j24 j25 j26
  have f27 := f16.step hb4 (by omega)
  clear f16
  have f28 := f17.step hb4 (by omega)
  clear f17
  have f29 := f18.step hb4
  clear f18
  have hb5 : Below w4.heap.size w4 (w4.alloc (.cells #[.int .i64 rk, .slice Aq rd.length cq, .int .i64 ff, .int .i64 ft, .int .i64 fp, .slice Bq fd.length eq] 28)) := (Below.refl _ _).alloc (Nat.le_refl _) _
  have xq := BK.made w4 28 #[.int .i64 rk, .slice Aq rd.length cq, .int .i64 ff, .int .i64 ft, .int .i64 fp, .slice Bq fd.length eq]
  have lq := xq.1
  have s5_ := hb5.size
  have t5 := t4.trans (hb5.mono (by omega))
  have f30 := f27.step hb5 (by omega)
  clear f27
  have f31 := f28.step hb5 (by omega)
  clear f28
  have f32 := f29.step hb5
  clear f29
  have f33 := aq.step hb5
  clear aq
  have f34 := dq.step hb5
  clear dq
  have j35 := f32.cell 0
  have j36 := f32.cell 1
  have j37 := f32.cell 2
  have j38 := f32.cell 3
  have j39 := f32.cell 4
  have j40 := f32.cell 5
  have j41 := xq.cell 0
  have j42 := xq.cell 1
  have j43 := xq.cell 2
  have j44 := xq.cell 3
  have j45 := xq.cell 4
  have j46 := xq.cell 5
  simp at j35 j36 j37 j38 j39 j40 j41 j42 j43 j44 j45 j46
  go_wp2_with fail
  refine (HI.out _ _ ⟨_, _, rfl, f33.ri.more (by omega), f34.ri.more (by omega)⟩).mono ?_; rintro e w6 ⟨rfl, hb6⟩
  have s6_ := hb6.size
  have t6 := t5.trans (hb6.mono (by omega))
  clear j35 j36 j37 j38 j39 j40 j41 j42 j43 j44 j45 j46
  have f47 := f30.step hb6 (by omega)
  clear f30
  have f48 := f31.step hb6 (by omega)
  clear f31
  have f49 := f32.step hb6
  clear f32
  have f50 := f33.step hb6
  clear f33
  have f51 := f34.step hb6
  clear f34
  have f52 := xq.step hb6
  clear xq
  have j53 := f49.cell 0
  have j54 := f49.cell 1
  have j55 := f49.cell 2
  have j56 := f49.cell 3
  have j57 := f49.cell 4
  have j58 := f49.cell 5
  have j59 := f52.cell 0
  have j60 := f52.cell 1
  have j61 := f52.cell 2
  have j62 := f52.cell 3
  have j63 := f52.cell 4
  have j64 := f52.cell 5
  simp at j53 j54 j55 j56 j57 j58 j59 j60 j61 j62 j63 j64
  go_upto_region 10 with fail
  go_cut [26] (fun s9 wx => s9 = .bool false ∧ Below w6.heap.size w6 wx)
  case first =>
    have R6 := RI.drewN f47 1
    have P6 := RI.drewN f48 1
    have Q6 := RI.drewN f50.ri 1
    have O6 := RI.drewN f51.ri 1
    have X6 : BK (w6.drewN 1) _ _ _ := f52
    have T6 := below_drewN (Below.refl w6.heap.size w6) 1
    have y6 := T6.size
    go_region_with (first
      | (go_at_call 12; refine (toDesk_any _ ⟨⟨rk, rd⟩, ⟨ff, ft, fp, fd⟩⟩ _ ⟨_, _, rfl, R6.more (by omega), P6.more (by omega)⟩ hn1 hm1).mono ?_; rintro e w7 ⟨u7, rfl, ho7, hb7⟩; have t7 := T6.trans (hb7.mono (by omega)); have q7 := Q6.step hb7 (by omega); have o7 := O6.step hb7 (by omega); have x7 := X6.step hb7; have s7 := hb7.size; have d70 := x7.cell 0; have d71 := x7.cell 1; have d72 := x7.cell 2; have d73 := x7.cell 3; have d74 := x7.cell 4; have d75 := x7.cell 5; simp at d70 d71 d72 d73 d74 d75)
      | (go_at_call 7; refine (eqDesk_same _ _ ⟨⟨rk, rd⟩, ⟨ff, ft, fp, fd⟩⟩ _ ⟨_, _, rfl, q7.more (by omega), o7.more (by omega)⟩ ho7.rd hn1 hm1).mono ?_; rintro e w8 ⟨rfl, hb8⟩))
    all_goals
      go_wp2_with fail
      go_meet
      exact ⟨rfl, t7.trans (hb8.mono (by have := t7.size; omega))⟩
  case rest =>
    obtain ⟨rfl, hbz⟩ := hcut
    have tz := t6.trans (hbz.mono (by have := t6.size; omega))
    go_wp2_with fail
    go_ret
    exact ⟨rfl, tz⟩

set_option maxRecDepth 100000 in
theorem lifted (os : Os) (started : os.Started) (H : Type) (enc : TypeId × Value → H) :
    ReturnsInHanded {} Try.checked os 4 .any (Rows.fnExactIsDeskSpec.pre6 enc Try.prog Try.f4 Rows.fnExactIsDeskRow.domain false) (Rows.fnExactIsDeskSpec.post enc Try.prog Try.f4 false true false false) := by
  refine returnsInHanded_of_change (C := Try.checked) own started (by kernel_rfl) Try.func4
    (ChangeSpec.witness6 (enc := enc) (C := Try.checked) false ⟨#[], #[.agg #[.int .i64 0, .slice none 0 0, .int .i64 0, .int .i64 0, .int .i64 0, .slice none 0 0]], []⟩ 8 (by kernel_rfl) (by kernel_rfl) (by kernel_rfl) (by kernel_rfl)) ?_
  intro W base args ds gs before hval0 hW hcnd _
  have hval : ∀ (j : Nat) t v, Try.f4.params[j]? = some t → args[j]? = some v → Value.okWide Try.prog W .any base t v := hval0
  have hW' := hW
  obtain ⟨p, q, hA0, hV, rfl, hfz, hnd⟩ := hW
  have hA : DataW.TrodAll enc Try.prog W 0 (fun _ => true) true Try.f4.params.toList args.toList ds p := hA0
  rw [Try.params4] at hA hval
  obtain ⟨v0, vs0, d0, ds0, p0, q0, hargs, rfl, rfl, h0, r0⟩ := trodAll_cons hA
  obtain ⟨rfl, rfl, rfl⟩ := trodAll_nil r0
  obtain rfl : args = #[v0] := by cases args; simp_all
  obtain ⟨rfl, rfl⟩ := trodVars_none hV
  have k0 := h0
  have lt0 : ∀ x ∈ p0, x.block < W.heap.size := by obtain ⟨m, hm⟩ := k0; exact DataW.trod_lt m _ _ _ hm
  obtain ⟨x0, s0, t0, rfl, r1_0, r2_0, n1_0, n2_0⟩ := open_desk (hval 0 36 v0 rfl rfl) h0
  clear hA0 hval0
  refine (walk x0 s0 t0 W r1_0 r2_0 n1_0 n2_0).mono fun e W' ⟨he, bel⟩ => ?_
  subst he
  exact ⟨_, rfl, _, _, _, [], _, [], hW', trodAll_mk1 (shut_bool Try.underlying4 _), (trodAll_cons_mk (Below.trod laidOut (by kernel_rfl) (of_decide_eq_true (by kernel_rfl)) k0 bel lt0) trodAll_mk0), rfl, bel.frame _, fun h => by cases h⟩

theorem closed : joinedFacts Try.pinned.checked.prog 4 Try.f4 Rows.fnExactIsDeskSpec Rows.fnExactIsDeskRow = true := by
  unfold joinedFacts
  repeat' (with_reducible refine and_t ?_ ?_)
  all_goals first
    | (with_reducible exact init_mayEnter)
    | (with_reducible refine init_lifted ?_; as_aux_lemma => kernel_rfl)
    | (with_reducible refine init_mk ?_; as_aux_lemma => kernel_rfl)
    | (as_aux_lemma => kernel_rfl)

theorem over : Rows.fnExactIsDeskRow.holds Try.pinned (OpenSpec.ofChange Rows.fnExactIsDeskSpec) :=
  OpenClaim.holds_of_wide 4 Try.f4 rfl rfl rfl rfl rfl rfl rfl ⟨rfl, rfl, rfl, rfl, rfl⟩ rfl rfl rfl rfl rfl (by kernel_rfl) Try.func4 closed
    (of_decide_eq_true (by kernel_rfl)) (by unfold Func.isWrapper; first | (rw [if_pos (by decide +kernel)]; kernel_rfl) | (rw [if_neg (by decide +kernel)]; exact ⟨rfl, rfl⟩))
    (fun os started H enc _ => lifted os started H enc)

/-- The given statement. -/
theorem proved : Rows.FnExactIsDeskSaid := over

end Go.Proofs.Ytmghhhceemmdpaa.lawIsDesk
