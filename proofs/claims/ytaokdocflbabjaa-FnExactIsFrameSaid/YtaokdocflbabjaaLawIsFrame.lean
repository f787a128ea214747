/-
  IsFrame answers as its model at every argument, and writes into no argument. No condition.
-/
import Derived.Test.YtaokdocflbabjaaIsFrame
import Derived.Test.YtaokdocflbabjaaFrame
import Derived.Deep.RegionWith
import Derived.Lib.SmallJoins
namespace Go.Proofs.Ytaokdocflbabjaa.lawIsFrame
open Go.RowKit Go.ChangeShapes Go.WideShapes Go.ChangeAt
set_option maxRecDepth 100000
set_option linter.unusedVariables false

set_option maxHeartbeats 2000000 in
theorem walk (x : Fr) (s : Value) (w : World) (h : RI w w.heap.size s x.d) (hm : x.d.length ≤ maxLen) :
    Calls Try.prog 4 #[frV x s] w (RetV w (.bool true)) := by
  obtain ⟨f, t, p, d⟩ := x
  simp only [frV] at h hm ⊢
  have h0 := h
  obtain ⟨A, c, rfl, hlc, hc⟩ := h
  clear hc
  have hB1 := BK.made w 31 #[.int .i64 f, .int .i64 t, .int .i64 p, .slice A d.length c]
  have hb0 : Below w.heap.size w (w.alloc (.cells #[.int .i64 f, .int .i64 t, .int .i64 p, .slice A d.length c] 31)) := (Below.refl _ _).alloc (Nat.le_refl _) _
  have hz0 : (w.alloc (.cells #[.int .i64 f, .int .i64 t, .int .i64 p, .slice A d.length c] 31)).heap.size = w.heap.size + 1 := World.size_alloc _ _
  have hf1 : RF _ _ (frV ⟨f, t, p, d⟩ (.slice A d.length c)) ⟨f, t, p, d⟩ := ⟨_, rfl, (h0.below hb0).more hb0.size⟩
  by_cases hn : 1048576 < (d.length : Int)
  · go_enter Try.func4, Try.ntmps4
    go_wp2_with fail
    refine (szFrame_any _ ⟨f, t, p, d⟩ _ _ hf1 (by omega) (by omega) hm).mono ?_; rintro e w1 ⟨rfl, hb1⟩
    rw [szLeft_neg (show (1048576 : Int) < (d.length : Int) by omega)]
    go_wp2_with fail
    go_ret
    exact ⟨rfl, hb0.trans (hb1.mono hb0.size)⟩
  · have hn2 : d.length ≤ 1048576 := by omega
    have hn3 : 0 ≤ 1048576 - (d.length : Int) := by omega
    have HZ := Lib.hid hz0
    clear hz0
    go_enter Try.func4, Try.ntmps4
    go_wp2_with fail
    refine (szFrame_any _ ⟨f, t, p, d⟩ _ _ hf1 (by omega) (by omega) hm).mono ?_; rintro e w1 ⟨rfl, hb1⟩
    rw [szLeft_pos (show ¬ (1048576 : Int) < (d.length : Int) by omega)]
    have s1 := hb1.size
    have t1 := hb0.trans (hb1.mono hb0.size)
    have b1 := hB1.step hb1
    have r1 := h0.step t1 (Nat.le_refl _)
    have l1 := b1.1
    have c10 := b1.cell 0
    have c11 := b1.cell 1
    have c12 := b1.cell 2
    have c13 := b1.cell 3
    simp at c10 c11 c12 c13
    clear hb1 hb0 hB1 hf1
    go_wp2_with fail
    refine (toFrame_any _ ⟨f, t, p, d⟩ _ ⟨_, rfl, r1.more (by omega)⟩ hn2).mono ?_; rintro e w2 ⟨u1, rfl, ho1, hb2⟩
    have s2 := hb2.size
    have t2 := t1.trans (hb2.mono (by omega))
    have b2 := b1.step hb2
    have r2 := r1.step hb2 (by omega)
    clear c10 c11 c12 c13 b1 r1
    have c20 := b2.cell 0
    have c21 := b2.cell 1
    have c22 := b2.cell 2
    have c23 := b2.cell 3
    simp at c20 c21 c22 c23
    go_wp2_with fail
    refine (specIsFrame_any _ ⟨f, t, p, d⟩ _ ho1.rf hn2).mono ?_; rintro e w3 ⟨rfl, hb3⟩
    have s3 := hb3.size
    have t3 := t2.trans (hb3.mono (by omega))
    have b3 := b2.step hb3
    have r3 := r2.step hb3 (by omega)
    clear c20 c21 c22 c23 b2 r2 ho1
    have c30 := b3.cell 0
    have c31 := b3.cell 1
    have c32 := b3.cell 2
    have c33 := b3.cell 3
    simp at c30 c31 c32 c33
    go_wp2_with fail
    refine (toFrame_any _ ⟨f, t, p, d⟩ _ ⟨_, rfl, r3.more (by omega)⟩ hn2).mono ?_; rintro e w4 ⟨u2, rfl, ho2, hb4⟩
    have s4 := hb4.size
    have t4 := t3.trans (hb4.mono (by omega))
    have b4 := b3.step hb4
    have r4 := r3.step hb4 (by omega)
    clear c30 c31 c32 c33 b3 r3
    obtain ⟨s2, rfl, ho2⟩ := ho2
    have q4 := ho2.ri
    obtain ⟨A2, c2, rfl, _, _⟩ := ho2.ri
    simp only [frV]
    have hb5 : Below w4.heap.size w4 (w4.alloc (.cells #[.int .i64 f, .int .i64 t, .int .i64 p, .slice A2 d.length c2] 34)) := (Below.refl _ _).alloc (Nat.le_refl _) _
    have b5 := b4.step hb5
    have r5 := r4.step hb5 (by omega)
    have q5 := q4.step hb5 (Nat.le_refl _)
    have x5 := BK.made w4 34 #[.int .i64 f, .int .i64 t, .int .i64 p, .slice A2 d.length c2]
    have t5 := t4.trans (hb5.mono (by omega))
    have s5 := hb5.size
    have z5 : (w4.alloc (.cells #[.int .i64 f, .int .i64 t, .int .i64 p, .slice A2 d.length c2] 34)).heap.size = w4.heap.size + 1 := World.size_alloc _ _
    have Z5 := Lib.hid z5
    clear z5
    go_wp2_with fail
    refine (implIsFrame_any _ ⟨f, t, p, d⟩ _ ⟨_, rfl, q5.more (by omega)⟩ hn2).mono ?_; rintro e w6 ⟨rfl, hb6⟩
    have s6 := hb6.size
    have t6 := t5.trans (hb6.mono (by omega))
    have b6 := b5.step hb6
    have x6 := x5.step hb6
    have r6 := r5.step hb6 (by omega)
    have q6 := q5.step hb6 (by omega)
    have c60 := b6.cell 0
    have c61 := b6.cell 1
    have c62 := b6.cell 2
    have c63 := b6.cell 3
    have d60 := x6.cell 0
    have d61 := x6.cell 1
    have d62 := x6.cell 2
    have d63 := x6.cell 3
    simp at c60 c61 c62 c63 d60 d61 d62 d63
    clear b4 b5 x5 r4 r5 q4 q5 ho2
    clear hb2 hb3 hb4 hb5 hb6
    have R6 : RI w6.drew w.heap.size (.slice A d.length c) d := r6
    have Q6 : RI w6.drew w4.heap.size (.slice A2 d.length c2) d := q6
    have T6 : Below w.heap.size w w6.drew := t6.drew
    have X6 : BK w6.drew w4.heap.size 34 #[.int .i64 f, .int .i64 t, .int .i64 p, .slice A2 d.length c2] := x6
    have z6 : w6.drew.heap.size = w6.heap.size := rfl
    have Z6 := Lib.hid z6
    have y6 : w6.heap.size ≤ w6.drew.heap.size := Nat.le_refl _
    clear z6
    go_wp2_with fail
    go_region_with (first
      | (go_at_call 33; refine (toFrame_any _ ⟨f, t, p, d⟩ _ ⟨_, rfl, R6.more (by omega)⟩ hn2).mono ?_; rintro e w7 ⟨u7, rfl, ho7, hb7⟩; have t7 := T6.trans (hb7.mono (by omega)); have q7 := Q6.step hb7 (by omega); have x7 := X6.step hb7; have s7 := hb7.size; have d70 := x7.cell 0; have d71 := x7.cell 1; have d72 := x7.cell 2; have d73 := x7.cell 3; simp at d70 d71 d72 d73)
      | (go_at_call 35; refine (eqFrame_same _ _ ⟨f, t, p, d⟩ _ ⟨_, rfl, q7.more (by omega)⟩ ho7.rf hn2).mono ?_; rintro e w8 ⟨rfl, hb8⟩))
    all_goals
      go_wp2_with fail
      go_ret
      exact ⟨rfl, t7.trans (hb8.mono (by have := t7.size; omega))⟩

set_option maxRecDepth 100000 in
theorem lifted (os : Os) (started : os.Started) (H : Type) (enc : TypeId × Value → H) :
    ReturnsInHanded {} Try.checked os 4 .any (Rows.fnExactIsFrameSpec.pre6 enc Try.prog Try.f4 Rows.fnExactIsFrameRow.domain false) (Rows.fnExactIsFrameSpec.post enc Try.prog Try.f4 false true false false) := by
  refine returnsInHanded_of_change (C := Try.checked) own started (by kernel_rfl) Try.func4
    (ChangeSpec.witness6 (enc := enc) (C := Try.checked) false ⟨#[], #[.agg #[.int .i64 0, .int .i64 0, .int .i64 0, .slice none 0 0]], []⟩ 8 (by kernel_rfl) (by kernel_rfl) (by kernel_rfl) (by kernel_rfl)) ?_
  intro W base args ds gs before hval0 hW hcnd _
  have hval : ∀ (j : Nat) t v, Try.f4.params[j]? = some t → args[j]? = some v → Value.okWide Try.prog W .any base t v := hval0
  have hW' := hW
  obtain ⟨p, q, hA0, hV, rfl, hfz, hnd⟩ := hW
  have hA : DataW.TrodAll enc Try.prog W 0 (fun _ => true) true Try.f4.params.toList args.toList ds p := hA0
  rw [Try.params4] at hA hval
  obtain ⟨v0, vs0, d0, ds0, p0, q0, hargs, rfl, rfl, h0, r0⟩ := trodAll_cons hA
  obtain ⟨rfl, rfl, rfl⟩ := trodAll_nil r0
  obtain rfl : args = #[v0] := by cases args; simp_all
  obtain ⟨rfl, rfl⟩ := trodVars_none hV
  have k0 := h0
  have lt0 : ∀ x ∈ p0, x.block < W.heap.size := by obtain ⟨m, hm⟩ := k0; exact DataW.trod_lt m _ _ _ hm
  obtain ⟨e0_0, e0_1, e0_2, e0_3, y0_0, y0_1, y0_2, y0_3, m0, rfl, hd0, hp0, g0_0, g0_1, g0_2, g0_3⟩ := Go.Joins.open_agg4 Try.underlying31 (by kernel_rfl) (by kernel_rfl) (hval 0 31 v0 rfl rfl) h0
  obtain ⟨x0_0, hx0_0, _, w0_0⟩ := DataW.trod_int Try.underlying3 g0_0
  obtain rfl : e0_0 = .int .i64 x0_0 := by simpa using hx0_0
  obtain ⟨x0_1, hx0_1, _, w0_1⟩ := DataW.trod_int Try.underlying3 g0_1
  obtain rfl : e0_1 = .int .i64 x0_1 := by simpa using hx0_1
  obtain ⟨x0_2, hx0_2, _, w0_2⟩ := DataW.trod_int Try.underlying3 g0_2
  obtain rfl : e0_2 = .int .i64 x0_2 := by simpa using hx0_2
  obtain ⟨l0_3, w0_3⟩ : ∃ l, RI W W.heap.size e0_3 l ∧ (∀ x ∈ l, (Lit.int .i64 x).wf = true) ∧ l.length ≤ maxLen := by
    rcases open_ints Try.underlying24 Try.underlying3 (by kernel_rfl) g0_3 with ⟨hcs, _⟩ | ⟨x, l, c, zs, hcs, _, hl, hm, hz, _, hcell, hwz⟩
    · obtain rfl : e0_3 = .slice none 0 0 := by simpa using hcs
      exact ⟨[], ⟨none, 0, rfl, ⟨by simp, by simp⟩, fun h => absurd h (by simp)⟩, by simp, by simp⟩
    · obtain rfl : e0_3 = .slice (some x) l c := by simpa using hcs
      have hz' : zs.length = c := by simpa using hz
      exact ⟨zs.take l, ri_of_cells (by omega) hz' hm hcell, fun y hy => hwz y (List.mem_of_mem_take hy), by simp; omega⟩
  clear hA0 hval0
  refine (walk ⟨x0_0, x0_1, x0_2, l0_3⟩ e0_3 W w0_3.1 w0_3.2.2).mono fun e W' ⟨he, bel⟩ => ?_
  subst he
  exact ⟨_, rfl, _, _, _, [], _, [], hW', trodAll_mk1 (shut_bool Try.underlying4 _), (trodAll_cons_mk (Below.trod laidOut (by kernel_rfl) (of_decide_eq_true (by kernel_rfl)) k0 bel lt0) trodAll_mk0), rfl, bel.frame _, fun h => by cases h⟩

theorem over : Rows.fnExactIsFrameRow.holds Try.pinned (OpenSpec.ofChange Rows.fnExactIsFrameSpec) :=
  OpenClaim.holds_of_wide 4 Try.f4 rfl rfl rfl rfl rfl rfl rfl ⟨rfl, rfl, rfl, rfl, rfl⟩ rfl rfl rfl rfl rfl (by kernel_rfl) Try.func4 (by kernel_rfl)
    (of_decide_eq_true (by kernel_rfl)) (by unfold Func.isWrapper; first | (rw [if_pos (by decide +kernel)]; kernel_rfl) | (rw [if_neg (by decide +kernel)]; exact ⟨rfl, rfl⟩))
    (fun os started H enc _ => lifted os started H enc)

/-- The given statement. -/
theorem proved : Rows.FnExactIsFrameSaid := over

end Go.Proofs.Ytaokdocflbabjaa.lawIsFrame
