/-
  HopsOfMessage answers as its model at every argument, writes into no argument, and its answer owns its memory. No condition.
-/
import Derived.Test.YtihdjnphnfiapaaSlD
import Derived.Test.YtihdjnphnfiapaaHeld
import Derived.Test.YtihdjnphnfiapaaFrame
import Derived.Deep.RegionWith
import Derived.Deep.DeepCutAuto
import Derived.Lib.SmallJoins
import Derived.Deep.Slices
import Derived.Deep.Fields
import Derived.ChangeSame
namespace Go.Proofs.Ytihdjnphnfiapaa.lawHopsOfMessage
open Go.RowKit Go.ChangeShapes Go.WideShapes Go.ChangeAt
set_option maxRecDepth 100000
set_option linter.unusedVariables false

set_option maxHeartbeats 4000000 in
theorem walk (z0 : Sr) (z1 : Ms) (w : World)  :
    Calls Try.prog 5 #[SrV z0, MsV z1] w (RetV w (.bool true)) := by
  obtain ⟨y0n, y0h⟩ := z0
  simp only [SrV]
  obtain ⟨y1t, y1f, y1o⟩ := z1
  simp only [MsV]
  have t0 : Below w.heap.size w w := Below.refl _ _
  obtain ⟨X, b, hX⟩ : ∃ X b, (X, b) = hopsMsOf ⟨y0n, y0h⟩ ⟨y1t, y1f, y1o⟩ := ⟨_, _, rfl⟩
  have HI : Hid (∀  w, Calls Try.prog 19 #[.agg #[.int .i64 y0n, .bool y0h], .agg #[.int .i64 y1t, .int .i64 y1f, .int .i64 y1o]] w (RetV w (.tuple #[.int .i64 X, .bool b]))) := by
    show ∀  w, Calls Try.prog 19 #[.agg #[.int .i64 y0n, .bool y0h], .agg #[.int .i64 y1t, .int .i64 y1f, .int .i64 y1o]] w (RetV w (.tuple #[.int .i64 X, .bool b]))
    intro  w 
    have h5 := implHopsOfMessage_any ⟨y0n, y0h⟩ ⟨y1t, y1f, y1o⟩ w
    rw [← hX] at h5
    exact h5
  have HS : Hid (∀  w, Calls Try.prog 17 #[.agg #[.int .i64 y0n, .bool y0h], .agg #[.int .i64 y1t, .int .i64 y1f, .int .i64 y1o]] w (RetV w (.tuple #[.int .i64 X, .bool b]))) := by
    show ∀  w, Calls Try.prog 17 #[.agg #[.int .i64 y0n, .bool y0h], .agg #[.int .i64 y1t, .int .i64 y1f, .int .i64 y1o]] w (RetV w (.tuple #[.int .i64 X, .bool b]))
    intro  w 
    have h5 := specHopsOfMessage_any ⟨y0n, y0h⟩ ⟨y1t, y1f, y1o⟩ w
    rw [← hX] at h5
    exact h5
  have HA0 : Hid (∀ w, Calls Try.prog 10 #[.agg #[.int .i64 y0n, .bool y0h]] w (RetV w (.agg #[.int .i64 y0n, .bool y0h]))) := by
    show ∀ w, Calls Try.prog 10 #[.agg #[.int .i64 y0n, .bool y0h]] w (RetV w (.agg #[.int .i64 y0n, .bool y0h]))
    intro w
    exact toSlotRing_any ⟨y0n, y0h⟩ w
  have HA1 : Hid (∀ w, Calls Try.prog 18 #[.agg #[.int .i64 y1t, .int .i64 y1f, .int .i64 y1o]] w (RetV w (.agg #[.int .i64 y1t, .int .i64 y1f, .int .i64 y1o]))) := by
    show ∀ w, Calls Try.prog 18 #[.agg #[.int .i64 y1t, .int .i64 y1f, .int .i64 y1o]] w (RetV w (.agg #[.int .i64 y1t, .int .i64 y1f, .int .i64 y1o]))
    intro w
    exact toMessage_any ⟨y1t, y1f, y1o⟩ w
  clear hX
  go_enter Try.func5, Try.ntmps5
  have bA0 := (BK.made w 23 #[.int .i64 y0n, .bool y0h]).alloc (.cells #[.int .i64 y1t, .int .i64 y1f, .int .i64 y1o] 37)
  have bB0 : BK ((w.alloc (.cells #[.int .i64 y0n, .bool y0h] 23)).alloc (.cells #[.int .i64 y1t, .int .i64 y1f, .int .i64 y1o] 37)) (w.heap.size + 1) 37 #[.int .i64 y1t, .int .i64 y1f, .int .i64 y1o] := by simpa using BK.made (w.alloc (.cells #[.int .i64 y0n, .bool y0h] 23)) 37 #[.int .i64 y1t, .int .i64 y1f, .int .i64 y1o]
  have lA0 := bA0.1
  have lB0 := bB0.1
  have t1 : Below w.heap.size w ((w.alloc (.cells #[.int .i64 y0n, .bool y0h] 23)).alloc (.cells #[.int .i64 y1t, .int .i64 y1f, .int .i64 y1o] 37)) := (t0.alloc (Nat.le_refl _) _).alloc (by simp) _
  have a0 : ∀ s : HW ((w.alloc (.cells #[.int .i64 y0n, .bool y0h] 23)).alloc (.cells #[.int .i64 y1t, .int .i64 y1f, .int .i64 y1o] 37)), s.W.cell? ⟨w.heap.size, 0, none⟩ = some (.int .i64 y0n) := fun s => HW.cellIs (p := ⟨w.heap.size, 0, none⟩) (by simp) (lA0) s
  have a1 : ∀ s : HW ((w.alloc (.cells #[.int .i64 y0n, .bool y0h] 23)).alloc (.cells #[.int .i64 y1t, .int .i64 y1f, .int .i64 y1o] 37)), s.W.cell? ⟨w.heap.size, 1, none⟩ = some (.bool y0h) := fun s => HW.cellIs (p := ⟨w.heap.size, 1, none⟩) (by simp) (lA0) s
  have a2 : ∀ s : HW ((w.alloc (.cells #[.int .i64 y0n, .bool y0h] 23)).alloc (.cells #[.int .i64 y1t, .int .i64 y1f, .int .i64 y1o] 37)), s.W.cell? ⟨w.heap.size + 1, 0, none⟩ = some (.int .i64 y1t) := fun s => HW.cellIs (p := ⟨w.heap.size + 1, 0, none⟩) (by simp) (lB0) s
  have a3 : ∀ s : HW ((w.alloc (.cells #[.int .i64 y0n, .bool y0h] 23)).alloc (.cells #[.int .i64 y1t, .int .i64 y1f, .int .i64 y1o] 37)), s.W.cell? ⟨w.heap.size + 1, 1, none⟩ = some (.int .i64 y1f) := fun s => HW.cellIs (p := ⟨w.heap.size + 1, 1, none⟩) (by simp) (lB0) s
  have a4 : ∀ s : HW ((w.alloc (.cells #[.int .i64 y0n, .bool y0h] 23)).alloc (.cells #[.int .i64 y1t, .int .i64 y1f, .int .i64 y1o] 37)), s.W.cell? ⟨w.heap.size + 1, 2, none⟩ = some (.int .i64 y1o) := fun s => HW.cellIs (p := ⟨w.heap.size + 1, 2, none⟩) (by simp) (lB0) s
  go_upto_region 1 with fail
  refine wp_region_held_lit (by kernel_rfl) (by kernel_rfl) ?_
  repeat (go_big_quiet_step ((first | (go_at_call 10; with_reducible exact held_call _ (HA0.out _)) | (go_at_call 18; with_reducible exact held_call _ (HA1.out _)) | (go_at_call 17; with_reducible exact held_call _ (HS.out _)))))
  refine wpQuiet_nil ?_
  intro _ hw'
  obtain ⟨s5, hw''⟩ := hw'
  subst hw''
  clear a0 a1 a2 a3 a4
  have bA1 := bA0.step s5.bel
  have bB1 := bB0.step s5.bel
  have lA1 := bA1.1
  have lB1 := bB1.1
  have t2 := t1.trans (s5.bel.mono t1.size)
  have a0 : ∀ s : HW s5.W, s.W.cell? ⟨w.heap.size, 0, none⟩ = some (.int .i64 y0n) := fun s => HW.cellIs (p := ⟨w.heap.size, 0, none⟩) (by have := bA1.cell 0; simpa using this) (lA1) s
  have a1 : ∀ s : HW s5.W, s.W.cell? ⟨w.heap.size, 1, none⟩ = some (.bool y0h) := fun s => HW.cellIs (p := ⟨w.heap.size, 1, none⟩) (by have := bA1.cell 1; simpa using this) (lA1) s
  have a2 : ∀ s : HW s5.W, s.W.cell? ⟨w.heap.size + 1, 0, none⟩ = some (.int .i64 y1t) := fun s => HW.cellIs (p := ⟨w.heap.size + 1, 0, none⟩) (by have := bB1.cell 0; simpa using this) (lB1) s
  have a3 : ∀ s : HW s5.W, s.W.cell? ⟨w.heap.size + 1, 1, none⟩ = some (.int .i64 y1f) := fun s => HW.cellIs (p := ⟨w.heap.size + 1, 1, none⟩) (by have := bB1.cell 1; simpa using this) (lB1) s
  have a4 : ∀ s : HW s5.W, s.W.cell? ⟨w.heap.size + 1, 2, none⟩ = some (.int .i64 y1o) := fun s => HW.cellIs (p := ⟨w.heap.size + 1, 2, none⟩) (by have := bB1.cell 2; simpa using this) (lB1) s
  go_upto_region 2 with fail
  refine wp_region_held_lit (by kernel_rfl) (by kernel_rfl) ?_
  repeat (go_big_quiet_step ((first | (go_at_call 10; with_reducible exact held_call _ (HA0.out _)) | (go_at_call 18; with_reducible exact held_call _ (HA1.out _)) | (go_at_call 19; with_reducible exact held_call _ (HI.out _)))))
  refine wpQuiet_nil ?_
  intro _ hw'
  obtain ⟨s6, hw''⟩ := hw'
  subst hw''
  clear a0 a1 a2 a3 a4
  have t3 := t2.trans (s6.bel.mono t2.size)
  go_wp2_with fail
  go_ret
  exact ⟨rfl, t3⟩

set_option maxRecDepth 100000 in
theorem lifted (os : Os) (started : os.Started) (H : Type) (enc : TypeId × Value → H) :
    ReturnsInHanded {} Try.checked os 5 .any (Rows.fnExactHopsOfMessageSpec.pre6 enc Try.prog Try.f5 Rows.fnExactHopsOfMessageRow.domain false) (Rows.fnExactHopsOfMessageSpec.post enc Try.prog Try.f5 false true false false) := by
  refine returnsInHanded_of_change (C := Try.checked) own started (by kernel_rfl) Try.func5
    (ChangeSpec.witness6 (enc := enc) (C := Try.checked) false ⟨#[], #[.agg #[.int .i64 0, .bool false], .agg #[.int .i64 0, .int .i64 0, .int .i64 0]], []⟩ 8 (by kernel_rfl) (by kernel_rfl) (by kernel_rfl) (by kernel_rfl)) ?_
  intro W base args ds gs before hval0 hW hcnd _
  have hval : ∀ (j : Nat) t v, Try.f5.params[j]? = some t → args[j]? = some v → Value.okWide Try.prog W .any base t v := hval0
  have hW' := hW
  obtain ⟨p, q, hA0, hV, rfl, hfz, hnd⟩ := hW
  have hA : DataW.TrodAll enc Try.prog W 0 (fun _ => true) true Try.f5.params.toList args.toList ds p := hA0
  rw [Try.params5] at hA hval
  obtain ⟨v0, vs0, d0, ds0, p0, q0, hargs, rfl, rfl, h0, r0⟩ := trodAll_cons hA
  obtain ⟨v1, vs1, d1, ds1, p1, q1, rfl, rfl, rfl, h1, r1⟩ := trodAll_cons r0
  obtain ⟨rfl, rfl, rfl⟩ := trodAll_nil r1
  obtain rfl : args = #[v0, v1] := by cases args; simp_all
  obtain ⟨rfl, rfl⟩ := trodVars_none hV
  have k0 := h0
  have lt0 : ∀ x ∈ p0, x.block < W.heap.size := by obtain ⟨m, hm⟩ := k0; exact DataW.trod_lt m _ _ _ hm
  obtain ⟨e0_0, e0_1, y0_0, y0_1, m0, rfl, hd0, hp0, g0_0, g0_1⟩ := Go.Joins.open_agg2 Try.underlying23 (by kernel_rfl) (by kernel_rfl) (hval 0 23 v0 rfl rfl) h0
  obtain ⟨x0_0, hx0_0, _, w0_0⟩ := DataW.trod_int Try.underlying3 g0_0
  obtain rfl : e0_0 = .int .i64 x0_0 := by simpa using hx0_0
  obtain ⟨x0_1, hx0_1, _⟩ := DataW.trod_bool Try.underlying4 g0_1
  obtain rfl : e0_1 = .bool x0_1 := by simpa using hx0_1
  have k1 := h1
  have lt1 : ∀ x ∈ p1, x.block < W.heap.size := by obtain ⟨m, hm⟩ := k1; exact DataW.trod_lt m _ _ _ hm
  obtain ⟨e1_0, e1_1, e1_2, y1_0, y1_1, y1_2, m1, rfl, hd1, hp1, g1_0, g1_1, g1_2⟩ := Go.Joins.open_agg3 Try.underlying37 (by kernel_rfl) (by kernel_rfl) (hval 1 37 v1 rfl rfl) h1
  obtain ⟨x1_0, hx1_0, _, w1_0⟩ := DataW.trod_int Try.underlying3 g1_0
  obtain rfl : e1_0 = .int .i64 x1_0 := by simpa using hx1_0
  obtain ⟨x1_1, hx1_1, _, w1_1⟩ := DataW.trod_int Try.underlying3 g1_1
  obtain rfl : e1_1 = .int .i64 x1_1 := by simpa using hx1_1
  obtain ⟨x1_2, hx1_2, _, w1_2⟩ := DataW.trod_int Try.underlying3 g1_2
  obtain rfl : e1_2 = .int .i64 x1_2 := by simpa using hx1_2
  clear hA0 hval0
  refine (walk ⟨x0_0, x0_1⟩ ⟨x1_0, x1_1, x1_2⟩ W ).mono fun e W' ⟨he, bel⟩ => ?_
  subst he
  exact ⟨_, rfl, _, _, _, [], _, [], hW', trodAll_mk1 (shut_bool Try.underlying4 _), (trodAll_cons_mk (Below.trod laidOut (by kernel_rfl) (of_decide_eq_true (by kernel_rfl)) k0 bel lt0) (trodAll_cons_mk (Below.trod laidOut (by kernel_rfl) (of_decide_eq_true (by kernel_rfl)) k1 bel lt1) trodAll_mk0)), rfl, bel.frame _, fun h => by cases h⟩

theorem closed : joinedFacts Try.pinned.checked.prog 5 Try.f5 Rows.fnExactHopsOfMessageSpec Rows.fnExactHopsOfMessageRow = true := by
  unfold joinedFacts
  repeat' (with_reducible refine and_t ?_ ?_)
  all_goals first
    | (with_reducible exact init_mayEnter)
    | (with_reducible refine init_lifted ?_; as_aux_lemma => kernel_rfl)
    | (with_reducible refine init_mk ?_; as_aux_lemma => kernel_rfl)
    | (as_aux_lemma => kernel_rfl)

theorem over : Rows.fnExactHopsOfMessageRow.holds Try.pinned (OpenSpec.ofChange Rows.fnExactHopsOfMessageSpec) :=
  OpenClaim.holds_of_wide 5 Try.f5 rfl rfl rfl rfl rfl rfl rfl ⟨rfl, rfl, rfl, rfl, rfl⟩ rfl rfl rfl rfl rfl (by kernel_rfl) Try.func5 closed
    (of_decide_eq_true (by kernel_rfl)) (by unfold Func.isWrapper; first | (rw [if_pos (by decide +kernel)]; kernel_rfl) | (rw [if_neg (by decide +kernel)]; exact ⟨rfl, rfl⟩))
    (fun os started H enc _ => lifted os started H enc)

/-- The given statement. -/
theorem proved : Rows.FnExactHopsOfMessageSaid := over

end Go.Proofs.Ytihdjnphnfiapaa.lawHopsOfMessage
