/-
  The contracts of LastInsertRead, both sides.
-/
import Derived.Test.YthgnflcdpmedlaaInsX
namespace Go.Proofs.Ythgnflcdpmedlaa
open Go.RowKit Go.Conc
set_option maxRecDepth 100000
set_option linter.unusedVariables false

/-- The greatest of the first j numbers and 0. -/
def topTo (F : Nat → Int) : Nat → Int
  | 0 => 0
  | j + 1 => max (topTo F j) (F j)
def lastRdSays (x : Ir) (l : List Ms) : Int × Bool := if inOk x l then (topTo (endOf x l).R l.length, true) else (0, false)
theorem lastRdSays_no {x : Ir} {l : List Ms} (h : inOk x l = false) : lastRdSays x l = (0, false) := by simp only [lastRdSays, h]; rfl
theorem lastRdSays_yes {x : Ir} {l : List Ms} (h : inOk x l = true) : lastRdSays x l = (topTo (endOf x l).R l.length, true) := by simp only [lastRdSays, h, if_true]
set_option maxHeartbeats 2000000 in
theorem implLastInsertRead_any (v : Value) (x : Ir) (l : List Ms) (w : World) (h : RMsS w w.heap.size v l) (hn : l.length ≤ 1048576) :
    Calls Try.prog 28 #[IrV x, v] w (RetV w (.tuple #[.int .i64 (lastRdSays x l).1, .bool (lastRdSays x l).2])) := by
  have HG := Lib.hid (fun w h => (isInsertRingWith_any _ x l w h hn : Calls _ _ #[_, v] w _))
  have hr := h
  obtain ⟨A, c, rfl, _, hlc, _⟩ := h
  have hW : Below w.heap.size w (w.alloc (.cells #[.int .i64 x.n, .int .i64 x.r, .bool x.h] 25)) := (Below.refl _ _).alloc (Nat.le_refl _) _
  have hB := BK.made w 25 #[.int .i64 x.n, .int .i64 x.r, .bool x.h]
  cases hg : inOk x l
  · rw [lastRdSays_no hg]
    rw [hg] at HG
    unfold IrV at HG ⊢
    clear hg hB
    go_enter Try.func28, Try.ntmps28
    go_wp2_with fail
    refine (HG.out _ ((hr.step hW (Nat.le_refl _)).more hW.size)).mono ?_; rintro e w1 ⟨rfl, hb⟩
    go_wp2_with fail
    go_ret2
    exact ⟨rfl, hW.trans (hb.mono hW.size)⟩
  rw [lastRdSays_yes hg]
  have HF := Lib.hid (fun w h => (walkOfAll_any _ x l w h hg : Calls _ _ #[_, .slice A l.length c] w _))
  have hl20 := (areMs_in (inOk_in hg).2).1
  have hl2 : (l.length : Int) ≤ 20 := by omega
  rw [hg] at HG
  clear hg
  unfold IrV at HG HF ⊢
  go_enter Try.func28, Try.ntmps28
  go_wp2_with fail
  refine (HG.out _ ((hr.step hW (Nat.le_refl _)).more hW.size)).mono ?_; rintro e w1 ⟨rfl, hb⟩
  have T1 := hW.trans (hb.mono hW.size)
  have hB1 := hB.step hb
  have c0 := hB1.cell 0
  have c1 := hB1.cell 1
  have c2 := hB1.cell 2
  simp only [List.getElem?_toArray, List.getElem?_cons_zero, List.getElem?_cons_succ] at c0 c1 c2
  have HR1 := Lib.hid ((hr.step T1 (Nat.le_refl _)).more T1.size)
  have HT1 := Lib.hid T1
  clear hW hB hb hB1 T1 hr
  go_wp2_with fail
  refine (HF.out _ HR1.out).mono ?_; rintro e w2 ⟨A2, c2', hAc, p, rfl, ⟨hpA, hpc⟩, hp, hS⟩
  have HB := Lib.hid (HT1.out.trans (hS.bel.mono HT1.out.size))
  have c4 := hS.run.cell 9
  simp only [List.getElem?_toArray, List.getElem?_cons_zero, List.getElem?_cons_succ] at c4
  change GoS _ _ _ _ _ _ _ (endOf x l) at hS
  obtain ⟨VA, VC, hV, hVA⟩ := hS.read.form
  rw [tabl_len] at hV hVA
  rw [hV] at c4
  have HRC : Hid (∀ j, j < l.length → ∃ q, VA = some ⟨q, 0, none⟩ ∧ q < w2.heap.size ∧ w2.cell? ⟨q, j, none⟩ = some (.int .i64 ((endOf x l).R j))) := by
    show ∀ _, _
    intro j hj
    obtain ⟨c3, h3, h4⟩ := hS.read.at_ j (by rw [tabl_len]; exact hj)
    have h5 := h4.cell j (by rw [tabl_len]; exact hj)
    rw [tabl_at _ _ _ hj] at h5
    exact ⟨_, hVA (by omega), h4.lt, h5⟩
  have HTS : Hid (∀ j, topTo (endOf x l).R (j + 1) = max (topTo (endOf x l).R j) ((endOf x l).R j)) := fun j => rfl
  have HT0 : Hid (topTo (endOf x l).R 0 = 0) := rfl
  generalize topTo (endOf x l).R = M at *
  generalize (endOf x l).R = R at *
  clear hS hp c0 c1 c2 hpA hpc hAc hV hVA
  go_wp2_with fail
  go_loopw [20, 6] (fun i m wr => ∃ j : Nat, j ≤ l.length ∧ i = .int .i64 j ∧ m = .int .i64 (M j) ∧ Below w2.heap.size w2 wr) (fun i _ _ => l.length - (intOf i).toNat)
  case atStart => exact ⟨0, Nat.zero_le _, rfl, by rw [HT0.out], Below.refl _ _⟩
  case round =>
    obtain ⟨j, hj, rfl, rfl, hbw⟩ := hrel
    by_cases hlt : j < l.length
    · have hjI : (j : Int) < (l.length : Int) := by omega
      obtain ⟨q, hq, hql, hcell⟩ := HRC.out j hlt
      rw [hq]
      have d0 := (hbw.cell (p := ⟨q, j, none⟩) hql).trans hcell
      have HS := Lib.hid (HTS.out j)
      generalize M j = m at HS
      generalize R j = y at d0 HS
      have HBW := Lib.hid hbw
      clear hbw hq hcell
      go_wp2_with fail
      go_roundw
      case rel => exact ⟨j + 1, by omega, by go_num, by rw [HS.out], HBW.out⟩
      case measure => simp [intOf]; omega
    · obtain rfl : j = l.length := by omega
      have HBW := Lib.hid (HB.out.trans (hbw.mono HB.out.size))
      clear hbw
      go_wp2_with fail
      go_ret2
      exact ⟨rfl, HBW.out⟩
set_option maxHeartbeats 2000000 in
theorem specLastInsertRead_any (v : Value) (x : Ir) (l : List Ms) (w : World) (h : RMsS w w.heap.size v l) (hn : l.length ≤ 1048576) :
    Calls Try.prog 27 #[IrV x, v] w (RetV w (.tuple #[.int .i64 (lastRdSays x l).1, .bool (lastRdSays x l).2])) := by
  have HG := Lib.hid (fun w h => (inAll_any _ x l w h hn : Calls _ _ #[_, v] w _))
  have hr := h
  obtain ⟨A, c, rfl, _, hlc, _⟩ := h
  have hW : Below w.heap.size w (w.alloc (.cells #[.int .i64 x.n, .int .i64 x.r, .bool x.h] 25)) := (Below.refl _ _).alloc (Nat.le_refl _) _
  have hB := BK.made w 25 #[.int .i64 x.n, .int .i64 x.r, .bool x.h]
  cases hg : inOk x l
  · rw [lastRdSays_no hg]
    rw [hg] at HG
    unfold IrV at HG ⊢
    clear hg hB
    go_enter Try.func27, Try.ntmps27
    go_wp2_with fail
    refine (HG.out _ ((hr.step hW (Nat.le_refl _)).more hW.size)).mono ?_; rintro e w1 ⟨rfl, hb⟩
    go_wp2_with fail
    go_ret2
    exact ⟨rfl, hW.trans (hb.mono hW.size)⟩
  rw [lastRdSays_yes hg]
  have HF := Lib.hid (fun w h => (inDone_any _ x l w h hg : Calls _ _ #[_, .slice A l.length c] w _))
  have hl20 := (areMs_in (inOk_in hg).2).1
  have hl2 : (l.length : Int) ≤ 20 := by omega
  rw [hg] at HG
  clear hg
  unfold IrV at HG HF ⊢
  go_enter Try.func27, Try.ntmps27
  go_wp2_with fail
  refine (HG.out _ ((hr.step hW (Nat.le_refl _)).more hW.size)).mono ?_; rintro e w1 ⟨rfl, hb⟩
  have T1 := hW.trans (hb.mono hW.size)
  have hB1 := hB.step hb
  have c0 := hB1.cell 0
  have c1 := hB1.cell 1
  have c2 := hB1.cell 2
  simp only [List.getElem?_toArray, List.getElem?_cons_zero, List.getElem?_cons_succ] at c0 c1 c2
  have HR1 := Lib.hid ((hr.step T1 (Nat.le_refl _)).more T1.size)
  have HT1 := Lib.hid T1
  clear hW hB hb hB1 T1 hr
  go_wp2_with fail
  refine (HF.out _ HR1.out).mono ?_; rintro e w2 ⟨A2, c2', hAc, p, vs, rfl, ⟨hpA, hpc⟩, hp, hS⟩
  have HB := Lib.hid (HT1.out.trans (hS.bel.mono HT1.out.size))
  have c4 := hS.run.cell 7
  simp only [List.getElem?_toArray, List.getElem?_cons_zero, List.getElem?_cons_succ] at c4
  change InS _ _ _ _ _ _ (endOf x l) at hS
  obtain ⟨VA, VC, hV, hVA⟩ := hS.read.form
  rw [tabl_len] at hV hVA
  rw [hV] at c4
  have HRC : Hid (∀ j, j < l.length → ∃ q, VA = some ⟨q, 0, none⟩ ∧ q < w2.heap.size ∧ w2.cell? ⟨q, j, none⟩ = some (.int .i64 ((endOf x l).R j))) := by
    show ∀ _, _
    intro j hj
    obtain ⟨c3, h3, h4⟩ := hS.read.at_ j (by rw [tabl_len]; exact hj)
    have h5 := h4.cell j (by rw [tabl_len]; exact hj)
    rw [tabl_at _ _ _ hj] at h5
    exact ⟨_, hVA (by omega), h4.lt, h5⟩
  have HTS : Hid (∀ j, topTo (endOf x l).R (j + 1) = max (topTo (endOf x l).R j) ((endOf x l).R j)) := fun j => rfl
  have HT0 : Hid (topTo (endOf x l).R 0 = 0) := rfl
  generalize topTo (endOf x l).R = M at *
  generalize (endOf x l).R = R at *
  clear hS hp c0 c1 c2 hpA hpc hAc hV hVA
  go_wp2_with fail
  go_loopw [20, 6] (fun i m wr => ∃ j : Nat, j ≤ l.length ∧ i = .int .i64 j ∧ m = .int .i64 (M j) ∧ Below w2.heap.size w2 wr) (fun i _ _ => l.length - (intOf i).toNat)
  case atStart => exact ⟨0, Nat.zero_le _, rfl, by rw [HT0.out], Below.refl _ _⟩
  case round =>
    obtain ⟨j, hj, rfl, rfl, hbw⟩ := hrel
    by_cases hlt : j < l.length
    · have hjI : (j : Int) < (l.length : Int) := by omega
      obtain ⟨q, hq, hql, hcell⟩ := HRC.out j hlt
      rw [hq]
      have d0 := (hbw.cell (p := ⟨q, j, none⟩) hql).trans hcell
      have HS := Lib.hid (HTS.out j)
      generalize M j = m at HS
      generalize R j = y at d0 HS
      have HBW := Lib.hid hbw
      clear hbw hq hcell
      go_wp2_with fail
      refine (inMost_any _ _ _).mono ?_; rintro e w' ⟨rfl, rfl⟩
      go_wp2_with fail
      go_roundw
      case rel => exact ⟨j + 1, by omega, by go_num, by rw [HS.out], HBW.out⟩
      case measure => simp [intOf]; omega
    · obtain rfl : j = l.length := by omega
      have HBW := Lib.hid (HB.out.trans (hbw.mono HB.out.size))
      clear hbw
      go_wp2_with fail
      go_ret2
      exact ⟨rfl, HBW.out⟩
end Go.Proofs.Ythgnflcdpmedlaa
