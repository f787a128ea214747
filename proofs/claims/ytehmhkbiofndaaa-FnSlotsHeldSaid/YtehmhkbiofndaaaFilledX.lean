/-
  The contracts of FilledAt, both sides.
-/
import Derived.Test.YtehmhkbiofndaaaWholeB
import Derived.Test.YtehmhkbiofndaaaFilled
import Derived.Test.YtehmhkbiofndaaaSlB
import Derived.Test.YtehmhkbiofndaaaSlC
namespace Go.Proofs.Ytehmhkbiofndaaa
open Go.RowKit Go.Maps
set_option maxRecDepth 100000
set_option linter.unusedVariables false

/-- The model's ticks of filling, in the end. -/
theorem F_need {x : Sr} {l : List Ms} (hg : slOk x l = true) (i : Nat) (hi : i < l.length) : (swOf x l).F (needT x l) i = (swOf x l).fin (lastT l) i ∧ 0 ≤ (swOf x l).fin (lastT l) i ∧ (swOf x l).fin (lastT l) i < (lastT l + l.length * (x.n.toNat + 1) : Nat) := by
  have hin := isSr_in (slOk_in hg).1
  obtain ⟨hl20, hall, _⟩ := areMs_in (slOk_in hg).2
  have h1 := Sw.filled_in (swOk hin hall) (lastT l) (fun i hi => (lastT_le (slOk_in hg).2 i hi).1) i hi
  have e1 : (swOf x l).len = l.length := rfl
  have e2 : (swOf x l).n = x.n.toNat := rfl
  have hf : (swOf x l).fin (lastT l) i = (swOf x l).F (lastT l + (swOf x l).len * ((swOf x l).n + 1)) i := rfl
  rw [hf]
  refine ⟨?_, h1⟩
  rw [e1, e2] at h1 ⊢
  have hn : needT x l = lastT l + 2 * x.n.toNat * (l.length + 1) := by unfold needT; rw [if_neg (by omega)]
  have h2 : l.length * (x.n.toNat + 1) ≤ 2 * x.n.toNat * (l.length + 1) := by
    have h3 : l.length * 1 ≤ l.length * x.n.toNat := Nat.mul_le_mul_left _ (by omega)
    have h4 : 2 * x.n.toNat * (l.length + 1) = l.length * x.n.toNat + l.length * x.n.toNat + 2 * x.n.toNat := by
      rw [Nat.mul_add, Nat.mul_one, Nat.mul_assoc, Nat.mul_comm x.n.toNat l.length]; omega
    rw [Nat.mul_add, h4]
    omega
  have h3 := Sw.F_keeps (x := swOf x l) (lastT l + l.length * (x.n.toNat + 1)) (2 * x.n.toNat * (l.length + 1) - l.length * (x.n.toNat + 1)) i h1.1
  rw [show lastT l + l.length * (x.n.toNat + 1) + (2 * x.n.toNat * (l.length + 1) - l.length * (x.n.toNat + 1)) = needT x l by omega] at h3
  exact h3
theorem tab_need {x : Sr} {l : List Ms} (hg : slOk x l = true) : tab ((swOf x l).F (needT x l)) l.length = finL x l := by
  unfold finL
  exact tab_congr fun i hi => (F_need hg i hi).1
theorem GV.oi {w : World} {v : Value} {b lo : Nat} {L : List Int} (h : GV w v b L) (hb : lo ≤ b) : OI 3 w lo w.heap.size v L := by
  rcases h with ⟨rfl, rfl⟩ | ⟨c, rfl, h⟩
  · exact .inl ⟨rfl, none, 0, rfl, by simp, fun _ => rfl⟩
  · exact h.oi hb (Nat.le_refl _)
/-- What FilledAt says. -/
def filledSays (x : Sr) (l : List Ms) : List Int × Bool := if slOk x l then (finL x l, true) else ([], false)
theorem filledSays_no {x : Sr} {l : List Ms} (h : slOk x l = false) : filledSays x l = ([], false) := by simp only [filledSays, h]; rfl
theorem filledSays_yes {x : Sr} {l : List Ms} (h : slOk x l = true) : filledSays x l = (finL x l, true) := by simp only [filledSays, h, if_true]
theorem filledSays_len (x : Sr) (l : List Ms) : (filledSays x l).1.length ≤ 1048576 := by
  cases h : slOk x l
  · rw [filledSays_no h]; simp
  · rw [filledSays_yes h]
    show (finL x l).length ≤ _
    rw [finL_len]
    have := (areMs_in (slOk_in h).2).1
    omega
set_option maxHeartbeats 2000000 in
theorem implFilledAt_any (v : Value) (x : Sr) (l : List Ms) (w : World) (h : RMsS w w.heap.size v l) (hn : l.length ≤ 1048576) :
    Calls Try.prog 9 #[SrV x, v] w (RetLB 3 w (filledSays x l).1 (filledSays x l).2) := by
  have HG := Lib.hid (fun w h => (slRing_any _ x l w h hn : Calls _ _ #[_, v] w _))
  have hr := h
  obtain ⟨A, c, rfl, _, hlc, _⟩ := h
  cases hg : slOk x l
  · rw [filledSays_no hg]
    rw [hg] at HG
    obtain ⟨k, hh⟩ := x
    simp only [SrV] at HG ⊢
    have hW : Below w.heap.size w (w.alloc (.cells #[.int .i64 k, .bool hh] 25)) := (Below.refl _ _).alloc (Nat.le_refl _) _
    clear hg
    go_enter Try.func9, Try.ntmps9
    go_wp2_with fail
    refine (HG.out _ ((hr.step hW (Nat.le_refl _)).more hW.size)).mono ?_; rintro e w1 ⟨rfl, hb⟩
    go_wp2_with fail
    go_ret2
    exact ⟨_, rfl, .inl ⟨rfl, none, 0, rfl, by simp, fun _ => rfl⟩, hW.trans (hb.mono hW.size)⟩
  rw [filledSays_yes hg]
  have HF := Lib.hid (fun w h => (filledAt_any _ x l w h hg : Calls _ _ #[_, .slice A l.length c] w _))
  rw [hg] at HG
  clear hg
  obtain ⟨k, hh⟩ := x
  simp only [SrV] at HG HF ⊢
  have hW : Below w.heap.size w (w.alloc (.cells #[.int .i64 k, .bool hh] 25)) := (Below.refl _ _).alloc (Nat.le_refl _) _
  have hB := BK.made w 25 #[.int .i64 k, .bool hh]
  go_enter Try.func9, Try.ntmps9
  go_wp2_with fail
  refine (HG.out _ ((hr.step hW (Nat.le_refl _)).more hW.size)).mono ?_; rintro e w1 ⟨rfl, hb⟩
  have T1 := hW.trans (hb.mono hW.size)
  have hB1 := hB.step hb
  have c0 := hB1.cell 0
  have c1 := hB1.cell 1
  simp at c0 c1
  have HR1 := Lib.hid ((hr.step T1 (Nat.le_refl _)).more T1.size)
  have HT1 := Lib.hid T1
  clear hW hB hb hB1 T1 hr
  go_wp2_with fail
  refine (HF.out _ HR1.out).mono ?_; rintro e w2 ⟨u, rfl, ho, hb2⟩
  have HO := Lib.hid (ho.wide HT1.out.size (Nat.le_refl _))
  have HB := Lib.hid (HT1.out.trans (hb2.mono HT1.out.size))
  clear ho hb2
  go_wp2_with fail
  go_ret2
  exact ⟨_, rfl, HO.out, HB.out⟩
end Go.Proofs.Ytehmhkbiofndaaa
