/-
  Slot rings with messages: the contracts of AreMessages, HopsOfMessage and SlotBound.
-/
import Derived.Test.YtehmhkbiofndaaaSlB
namespace Go.Proofs.Ytehmhkbiofndaaa
open Go.RowKit
set_option maxRecDepth 100000
set_option linter.unusedVariables false

theorem mul_in {a b A B : Int} (ha : 0 ≤ a) (hA : a ≤ A) (hb : 0 ≤ b) (hB : b ≤ B) : 0 ≤ a * b ∧ a * b ≤ A * B :=
  ⟨Int.mul_nonneg ha hb, Int.mul_le_mul hA hB hb (by omega)⟩

theorem slRing_any (v : Value) (x : Sr) (l : List Ms) (w : World) (h : RMsS w w.heap.size v l) (hn : l.length ≤ 1048576) :
    Calls Try.prog 23 #[SrV x, v] w (RetV w (.bool (slOk x l))) := by
  have HG := Lib.hid (fun w => implIsSlotRing_any x w)
  have hr := h
  obtain ⟨A, c, rfl, _, hlc, _⟩ := h
  cases hg : isSr x
  · rw [slOk, hg, Bool.false_and]
    rw [hg] at HG
    obtain ⟨k, hh⟩ := x
    simp only [SrV] at HG ⊢
    have hW : Below w.heap.size w (w.alloc (.cells #[.int .i64 k, .bool hh] 25)) := (Below.refl _ _).alloc (Nat.le_refl _) _
    clear hg
    go_enter Try.func23, Try.ntmps23
    go_wp2_with fail
    refine (HG.out _).mono ?_; rintro e w1 ⟨rfl, hb⟩
    go_wp2_with fail
    go_ret
    exact ⟨rfl, hW.trans (hb.mono hW.size)⟩
  · rw [slOk, hg, Bool.true_and]
    rw [hg] at HG
    have HL := Lib.hid (fun w h => (areMessagesFor_any _ x.n l w h hn (isSr_in hg) : Calls _ _ #[_, .slice A l.length c] w _))
    obtain ⟨k, hh⟩ := x
    simp only [SrV] at HG HL ⊢
    have hW : Below w.heap.size w (w.alloc (.cells #[.int .i64 k, .bool hh] 25)) := (Below.refl _ _).alloc (Nat.le_refl _) _
    have hB := BK.made w 25 #[.int .i64 k, .bool hh]
    clear hg
    go_enter Try.func23, Try.ntmps23
    go_wp2_with fail
    refine (HG.out _).mono ?_; rintro e w1 ⟨rfl, hb⟩
    have hB1 := hB.step hb
    have c0 := hB1.cell 0
    have c1 := hB1.cell 1
    simp at c0 c1
    have T1 := hW.trans (hb.mono hW.size)
    go_wp2_with fail
    refine (HL.out _ ((hr.step T1 (Nat.le_refl _)).more T1.size)).mono ?_; rintro e w2 ⟨rfl, hb2⟩
    go_wp2_with fail
    go_ret
    exact ⟨rfl, T1.trans (hb2.mono T1.size)⟩
theorem slHops_any (x : Sr) (y : Ms) (w : World) (hin : 2 ≤ x.n ∧ x.n ≤ 12) (hy : MsIn x.n y) : Calls Try.prog 50 #[SrV x, MsV y] w (RetV w (.int .i64 (hopsI x.n y))) := by
  obtain ⟨k, hh⟩ := x
  obtain ⟨t, f, o⟩ := y
  obtain ⟨_, _, h1, h2, h3, h4, h5⟩ := hy
  simp only [SrV, MsV, hopsI] at hin h1 h2 h3 h4 h5 ⊢
  have hW : Below w.heap.size w ((w.alloc (.cells #[.int .i64 k, .bool hh] 25)).alloc (.cells #[.int .i64 t, .int .i64 f, .int .i64 o] 35)) := ((Below.refl _ _).alloc (Nat.le_refl _) _).alloc (by simp) _
  have e1 : IntKind.i64.wrap (o - f) = o - f := IntWalk.i64_in _ (by omega)
  have e2 : IntKind.i64.wrap (o - f + k) = o - f + k := IntWalk.i64_in _ (by omega)
  have hm0 : 0 ≤ (o - f + k).tmod k := Int.tmod_nonneg _ (by omega)
  have hm1 : (o - f + k).tmod k < k := Int.tmod_lt_of_pos _ (by omega)
  have e3 : IntKind.i64.wrap ((o - f + k).tmod k) = (o - f + k).tmod k := IntWalk.i64_in _ (by omega)
  have hk0 : k ≠ 0 := by omega
  have HE : Hid ((o - f) % k = (o - f + k).tmod k) := by
    show _ = _
    rw [Int.tmod_eq_emod_of_nonneg (by omega), Int.add_emod_right]
  go_enter Try.func50, Try.ntmps50
  go_wp2_with fail
  go_ret
  exact ⟨congrArg (fun z => Ending.returned (.int .i64 z)) HE.out, hW⟩
theorem lit1M (w : World) (t f o : Int) : RMsS (w.alloc (.cells #[.int .i64 t, .int .i64 f, .int .i64 o] 35)) (w.heap.size + 1) (.slice (some ⟨w.heap.size, 0, none⟩) 1 1) [⟨t, f, o⟩] := by
  refine ⟨_, _, rfl, rfl, ⟨by simp, by simp [maxLen], by simp⟩, fun _ => ⟨w.heap.size, 0, rfl, by omega, ?_⟩⟩
  intro j hj
  match j, hj with
  | 0, _ => simp [flatMs]
  | 1, _ => simp [flatMs]
  | 2, _ => simp [flatMs]
theorem slOk_one (x : Sr) (t f o : Int) : slOk x [⟨t, f, o⟩] = (isSr x && (wi t 0 100 && msOk x.n ⟨t, f, o⟩)) := by simp [slOk, areMs, msFrom]
end Go.Proofs.Ytehmhkbiofndaaa