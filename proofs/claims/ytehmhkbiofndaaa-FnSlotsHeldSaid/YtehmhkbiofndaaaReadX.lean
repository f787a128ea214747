/-
  The contracts of ReadAt, both sides.
-/
import Derived.Test.YtehmhkbiofndaaaReadI
namespace Go.Proofs.Ytehmhkbiofndaaa
open Go.RowKit Go.Maps
set_option maxRecDepth 100000
set_option linter.unusedVariables false

theorem Rd_need {x : Sr} {l : List Ms} (hg : slOk x l = true) (i : Nat) (hi : i < l.length) : (swOf x l).Rd (needT x l) i = (swOf x l).fin (lastT l) i + ((swOf x l).hop i : Int) := by
  have hin := isSr_in (slOk_in hg).1
  obtain ⟨hl20, hall, _⟩ := areMs_in (slOk_in hg).2
  obtain ⟨h1, h2, h3⟩ := F_need hg i hi
  have h4 := (Sw.hop_in (swOk hin hall) (i := i) hi).2
  have e2 : (swOf x l).n = x.n.toNat := rfl
  have hn : needT x l = lastT l + 2 * x.n.toNat * (l.length + 1) := by unfold needT; rw [if_neg (by omega)]
  have h5 : l.length * (x.n.toNat + 1) + x.n.toNat ≤ 2 * x.n.toNat * (l.length + 1) := by
    have h6 : l.length * 1 ≤ l.length * x.n.toNat := Nat.mul_le_mul_left _ (by omega)
    have h7 : 2 * x.n.toNat * (l.length + 1) = l.length * x.n.toNat + l.length * x.n.toNat + 2 * x.n.toNat := by
      rw [Nat.mul_add, Nat.mul_one, Nat.mul_assoc, Nat.mul_comm x.n.toNat l.length]; omega
    rw [Nat.mul_add, h7]
    omega
  unfold Sw.Rd
  rw [h1, if_pos ⟨h2, by omega⟩]
theorem tabR_need {x : Sr} {l : List Ms} (hg : slOk x l = true) : tab ((swOf x l).Rd (needT x l)) l.length = readL x l := by
  unfold readL rdU tab
  apply List.map_congr_left
  intro i hi
  have hi2 : i < l.length := by simpa using hi
  rw [if_pos hi2]
  exact Rd_need hg i hi2
/-- What ReadAt says. -/
def readSays (x : Sr) (l : List Ms) : List Int × Bool := if slOk x l then (readL x l, true) else ([], false)
theorem readSays_no {x : Sr} {l : List Ms} (h : slOk x l = false) : readSays x l = ([], false) := by simp only [readSays, h]; rfl
theorem readSays_yes {x : Sr} {l : List Ms} (h : slOk x l = true) : readSays x l = (readL x l, true) := by simp only [readSays, h, if_true]
theorem readSays_len (x : Sr) (l : List Ms) : (readSays x l).1.length ≤ 1048576 := by
  cases h : slOk x l
  · rw [readSays_no h]; simp
  · rw [readSays_yes h]
    show (readL x l).length ≤ _
    rw [readL_len]
    have := (areMs_in (slOk_in h).2).1
    omega
set_option maxHeartbeats 2000000 in
theorem implReadAt_any (v : Value) (x : Sr) (l : List Ms) (w : World) (h : RMsS w w.heap.size v l) (hn : l.length ≤ 1048576) :
    Calls Try.prog 10 #[SrV x, v] w (RetLB 3 w (readSays x l).1 (readSays x l).2) := by
  have HG := Lib.hid (fun w h => (slRing_any _ x l w h hn : Calls _ _ #[_, v] w _))
  have hr := h
  obtain ⟨A, c, rfl, _, hlc, _⟩ := h
  cases hg : slOk x l
  · rw [readSays_no hg]
    rw [hg] at HG
    obtain ⟨k, hh⟩ := x
    simp only [SrV] at HG ⊢
    have hW : Below w.heap.size w (w.alloc (.cells #[.int .i64 k, .bool hh] 25)) := (Below.refl _ _).alloc (Nat.le_refl _) _
    clear hg
    go_enter Try.func10, Try.ntmps10
    go_wp2_with fail
    refine (HG.out _ ((hr.step hW (Nat.le_refl _)).more hW.size)).mono ?_; rintro e w1 ⟨rfl, hb⟩
    go_wp2_with fail
    go_ret2
    exact ⟨_, rfl, .inl ⟨rfl, none, 0, rfl, by simp, fun _ => rfl⟩, hW.trans (hb.mono hW.size)⟩
  rw [readSays_yes hg]
  have HF := Lib.hid (fun w h => (readAt_any _ x l w h hg : Calls _ _ #[_, .slice A l.length c] w _))
  rw [hg] at HG
  clear hg
  obtain ⟨k, hh⟩ := x
  simp only [SrV] at HG HF ⊢
  have hW : Below w.heap.size w (w.alloc (.cells #[.int .i64 k, .bool hh] 25)) := (Below.refl _ _).alloc (Nat.le_refl _) _
  have hB := BK.made w 25 #[.int .i64 k, .bool hh]
  go_enter Try.func10, Try.ntmps10
  go_wp2_with fail
  refine (HG.out _ ((hr.step hW (Nat.le_refl _)).more hW.size)).mono ?_; rintro e w1 ⟨rfl, hb⟩
  have T1 := hW.trans (hb.mono hW.size)
  have hB1 := hB.step hb
  have c0 := hB1.cell 0
  have c1 := hB1.cell 1
  simp at c0 c1
  have HR1 := Lib.hid ((hr.step T1 (Nat.le_refl _)).more T1.size)
  have HT1 := Lib.hid T1
  clear hW hB hb hB1 T1 hr
  go_wp2_with fail
  refine (HF.out _ HR1.out).mono ?_; rintro e w2 ⟨u, rfl, ho, hb2⟩
  have HO := Lib.hid (ho.wide HT1.out.size (Nat.le_refl _))
  have HB := Lib.hid (HT1.out.trans (hb2.mono HT1.out.size))
  clear ho hb2
  go_wp2_with fail
  go_ret2
  exact ⟨_, rfl, HO.out, HB.out⟩
end Go.Proofs.Ytehmhkbiofndaaa
