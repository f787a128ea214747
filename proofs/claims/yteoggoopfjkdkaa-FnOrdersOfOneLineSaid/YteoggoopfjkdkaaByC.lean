/-
  FirstStarts, StrictStarts, AgedStarts, the model's side; both sides together.
-/
import Derived.Test.YteoggoopfjkdkaaByB
import Derived.Test.YteoggoopfjkdkaaStarts
namespace Go.Proofs.Yteoggoopfjkdkaa
open Go.RowKit
set_option maxRecDepth 100000
set_option linter.unusedVariables false

theorem specFirstStarts_any (v : Value) (js : List Jb) (w : World) (h : RJbS w w.heap.size v js) (hn : js.length ≤ 1048576) :
    Calls Try.prog 7 #[v] w (RetLB 3 w (firstOf js).1 (firstOf js).2) := by
  have HA := Lib.hid (prJobs_any v js w h hn)
  cases hg : areJb js
  · have HF : firstOf js = ([], false) := by simp [firstOf, hg]
    rw [HF]
    rw [hg] at HA
    clear hg HF
    go_enter Try.func7, Try.ntmps7
    go_wp2_with fail
    refine HA.out.mono ?_; rintro e w1 ⟨rfl, T⟩
    go_wp2_with fail
    go_ret2
    exact ⟨_, rfl, .inl ⟨rfl, none, 0, rfl, by simp, fun _ => rfl⟩, T⟩
  have HF : firstOf js = (startsOf rk0 js, true) := by simp [firstOf, hg]
  rw [HF]
  have HP := Lib.hid (fun (w' : World) (hb : Below w.heap.size w w') => prBy0_any v js w' ((h.step hb (Nat.le_refl _)).more hb.size) hg)
  rw [hg] at HA
  clear hg HF
  go_enter Try.func7, Try.ntmps7
  go_wp2_with fail
  refine HA.out.mono ?_; rintro e w1 ⟨rfl, T⟩
  have hT := T.size
  go_wp2_with fail
  refine (HP.out _ T).mono ?_; rintro e w2 ⟨u, rfl, ho, hb⟩
  have HO := Lib.hid (ho.wide hT (Nat.le_refl _))
  have HB := Lib.hid (T.trans (hb.mono hT))
  obtain ⟨A, c, rfl, _⟩ := ho.ri
  clear ho hb T
  go_wp2_with fail
  go_ret2
  exact ⟨_, rfl, HO.out, HB.out⟩
theorem specStrictStarts_any (v : Value) (js : List Jb) (w : World) (h : RJbS w w.heap.size v js) (hn : js.length ≤ 1048576) :
    Calls Try.prog 9 #[v] w (RetLB 3 w (strictOf js).1 (strictOf js).2) := by
  have HA := Lib.hid (prJobs_any v js w h hn)
  cases hg : areJb js
  · have HF : strictOf js = ([], false) := by simp [strictOf, hg]
    rw [HF]
    rw [hg] at HA
    clear hg HF
    go_enter Try.func9, Try.ntmps9
    go_wp2_with fail
    refine HA.out.mono ?_; rintro e w1 ⟨rfl, T⟩
    go_wp2_with fail
    go_ret2
    exact ⟨_, rfl, .inl ⟨rfl, none, 0, rfl, by simp, fun _ => rfl⟩, T⟩
  have HF : strictOf js = (startsOf rkC js, true) := by simp [strictOf, hg]
  rw [HF]
  have HP := Lib.hid (fun (w' : World) (hb : Below w.heap.size w w') => prByC_any v js w' ((h.step hb (Nat.le_refl _)).more hb.size) hg)
  rw [hg] at HA
  clear hg HF
  go_enter Try.func9, Try.ntmps9
  go_wp2_with fail
  refine HA.out.mono ?_; rintro e w1 ⟨rfl, T⟩
  have hT := T.size
  go_wp2_with fail
  refine (HP.out _ T).mono ?_; rintro e w2 ⟨u, rfl, ho, hb⟩
  have HO := Lib.hid (ho.wide hT (Nat.le_refl _))
  have HB := Lib.hid (T.trans (hb.mono hT))
  obtain ⟨A, c, rfl, _⟩ := ho.ri
  clear ho hb T
  go_wp2_with fail
  go_ret2
  exact ⟨_, rfl, HO.out, HB.out⟩
theorem specAgedStarts_any (v : Value) (js : List Jb) (step : Int) (w : World) (h : RJbS w w.heap.size v js) (hn : js.length ≤ 1048576) (hx : (Lit.int .i64 step).wf = true) :
    Calls Try.prog 15 #[v, .int .i64 step] w (RetLB 3 w (agedOf js step).1 (agedOf js step).2) := by
  have HA := Lib.hid (prJobs_any v js w h hn)
  cases hg : areJb js
  · have HF : agedOf js step = ([], false) := by simp [agedOf, hg]
    rw [HF]
    rw [hg] at HA
    clear hg HF
    go_enter Try.func15, Try.ntmps15
    go_wp2_with fail
    refine HA.out.mono ?_; rintro e w1 ⟨rfl, T⟩
    go_wp2_with fail
    go_ret2
    exact ⟨_, rfl, .inl ⟨rfl, none, 0, rfl, by simp, fun _ => rfl⟩, T⟩
  cases hwa : wi step 1 100
  · have HF : agedOf js step = ([], false) := by simp [agedOf, hwa]
    rw [HF]
    rw [hg] at HA
    clear hg HF
    go_enter Try.func15, Try.ntmps15
    go_wp2_with fail
    refine HA.out.mono ?_; rintro e w1 ⟨rfl, T⟩
    go_wp2_with (go_at_call 38; refine (l1In_is _ _ _ _ false hwa).mono ?_; rintro e w' ⟨rfl, rfl⟩)
    go_ret2
    exact ⟨_, rfl, .inl ⟨rfl, none, 0, rfl, by simp, fun _ => rfl⟩, T⟩
  have hst : 1 ≤ step ∧ step ≤ 100 := by simpa [wi] using hwa
  have HF : agedOf js step = (startsOf (rkA step) js, true) := by simp [agedOf, hg, hwa]
  rw [HF]
  have HP := Lib.hid (fun (w' : World) (hb : Below w.heap.size w w') => prByA_any v js step w' ((h.step hb (Nat.le_refl _)).more hb.size) hg hst)
  rw [hg] at HA
  clear hg HF
  go_enter Try.func15, Try.ntmps15
  go_wp2_with fail
  refine HA.out.mono ?_; rintro e w1 ⟨rfl, T⟩
  have hT := T.size
  go_wp2_with (first | (go_at_call 38; refine (l1In_is _ _ _ _ true hwa).mono ?_; rintro e w' ⟨rfl, rfl⟩) | fail)
  refine (HP.out _ T).mono ?_; rintro e w2 ⟨u, rfl, ho, hb⟩
  have HO := Lib.hid (ho.wide hT (Nat.le_refl _))
  have HB := Lib.hid (T.trans (hb.mono hT))
  obtain ⟨A, c, rfl, _⟩ := ho.ri
  clear ho hb T
  go_wp2_with fail
  go_ret2
  exact ⟨_, rfl, HO.out, HB.out⟩
end Go.Proofs.Yteoggoopfjkdkaa
