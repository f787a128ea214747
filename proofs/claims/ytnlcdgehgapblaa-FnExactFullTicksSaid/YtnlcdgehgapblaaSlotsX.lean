/-
  The contracts of SlotsAt, both sides.
-/
import Derived.Test.YtnlcdgehgapblaaSlotsB
import Derived.Deep.RegionHeld3
namespace Go.Proofs.Ytnlcdgehgapblaa
open Go.RowKit Go.Maps
set_option maxRecDepth 100000
set_option linter.unusedVariables false

/-- The slots behind a tick. -/
def slotsL (x : Sr) (l : List Ms) (T : Nat) : List Int := tab (fun k => ((swOf x l).S (T + 1) k : Int)) x.n.toNat
/-- What SlotsAt says. -/
def slotsSays (x : Sr) (l : List Ms) (tick : Int) : List Int × Bool := if slOk x l && wi tick 0 400 then (slotsL x l tick.toNat, true) else ([], false)
theorem slotsSays_no {x : Sr} {l : List Ms} {tick : Int} (h : (slOk x l && wi tick 0 400) = false) : slotsSays x l tick = ([], false) := by simp only [slotsSays, h]; rfl
theorem slotsSays_yes {x : Sr} {l : List Ms} {tick : Int} (h : (slOk x l && wi tick 0 400) = true) : slotsSays x l tick = (slotsL x l tick.toNat, true) := by simp only [slotsSays, h, if_true]
theorem slotsSays_len (x : Sr) (l : List Ms) (tick : Int) : (slotsSays x l tick).1.length ≤ 1048576 := by
  cases h : (slOk x l && wi tick 0 400)
  · rw [slotsSays_no h]; simp
  · rw [slotsSays_yes h]
    have h2 := isSr_in (slOk_in (Bool.and_eq_true _ _ ▸ h).1).1
    show (slotsL x l tick.toNat).length ≤ _
    unfold slotsL
    rw [tab_len]
    omega
set_option maxHeartbeats 4000000 in
theorem implSlotsAt_any (v : Value) (x : Sr) (l : List Ms) (tick : Int) (w : World) (h : RMsS w w.heap.size v l) (hn : l.length ≤ 1048576) (hwt : (Lit.int .i64 tick).wf = true) :
    Calls Try.prog 22 #[SrV x, v, .int .i64 tick] w (RetLB 3 w (slotsSays x l tick).1 (slotsSays x l tick).2) := by
  have HG := Lib.hid (fun w h => (slRing_any _ x l w h hn : Calls _ _ #[_, v] w _))
  have hr := h
  obtain ⟨A, c, rfl, _, hlc, _⟩ := h
  cases hg : slOk x l
  · rw [slotsSays_no (by rw [hg, Bool.false_and])]
    rw [hg] at HG
    obtain ⟨k, hh⟩ := x
    simp only [SrV] at HG ⊢
    have hW : Below w.heap.size w (w.alloc (.cells #[.int .i64 k, .bool hh] 29)) := (Below.refl _ _).alloc (Nat.le_refl _) _
    clear hg
    go_enter Try.func22, Try.ntmps22
    go_wp2_with fail
    refine (HG.out _ ((hr.step hW (Nat.le_refl _)).more hW.size)).mono ?_; rintro e w1 ⟨rfl, hb1⟩
    go_wp2_with fail
    go_ret2
    exact ⟨_, rfl, .inl ⟨rfl, none, 0, rfl, by simp, fun _ => rfl⟩, hW.trans (hb1.mono hW.size)⟩
  cases h2 : wi tick 0 400
  · rw [slotsSays_no (by rw [h2, Bool.and_false])]
    rw [hg] at HG
    obtain ⟨k, hh⟩ := x
    simp only [SrV] at HG ⊢
    have hW : Below w.heap.size w (w.alloc (.cells #[.int .i64 k, .bool hh] 29)) := (Below.refl _ _).alloc (Nat.le_refl _) _
    clear hg
    go_enter Try.func22, Try.ntmps22
    go_wp2_with fail
    refine (HG.out _ ((hr.step hW (Nat.le_refl _)).more hW.size)).mono ?_; rintro e w1 ⟨rfl, hb1⟩
    go_wp2_with (go_at_call 38; refine (isWithin_wi _ _ _ _).mono ?_; rintro e w' ⟨rfl, rfl⟩)
    go_ret2
    exact ⟨_, rfl, .inl ⟨rfl, none, 0, rfl, by simp, fun _ => rfl⟩, hW.trans (hb1.mono hW.size)⟩
  rw [slotsSays_yes (by rw [hg, h2]; rfl)]
  have hin := isSr_in (slOk_in hg).1
  obtain ⟨hl20, hall, _⟩ := areMs_in (slOk_in hg).2
  have ht2 : 0 ≤ tick ∧ tick ≤ 400 := by simpa [wi] using h2
  obtain ⟨T, hT⟩ : ∃ T : Nat, tick = (T : Int) := ⟨tick.toNat, by omega⟩
  subst hT
  simp only [Int.toNat_natCast]
  have HF := Lib.hid (fun w h => (filledAt_any _ x l w h hg : Calls _ _ #[_, .slice A l.length c] w _))
  have HSB := Lib.hid (fun fv w h hf => (slotsBehind_any _ fv x l T w h hf hg (by omega) : Calls _ _ #[_, .slice A l.length c, fv, _] w _))
  have HFL := Lib.hid (finL_len x l)
  unfold slotsL
  generalize tab (fun k => ((swOf x l).S (T + 1) k : Int)) x.n.toNat = SL at *
  generalize finL x l = FL at *
  rw [hg] at HG
  clear hg hall
  obtain ⟨k, hh⟩ := x
  simp only [SrV] at HG HF HSB ⊢
  have hW : Below w.heap.size w (w.alloc (.cells #[.int .i64 k, .bool hh] 29)) := (Below.refl _ _).alloc (Nat.le_refl _) _
  have hB := BK.made w 29 #[.int .i64 k, .bool hh]
  go_enter Try.func22, Try.ntmps22
  go_wp2_with fail
  refine (HG.out _ ((hr.step hW (Nat.le_refl _)).more hW.size)).mono ?_; rintro e w1 ⟨rfl, hb⟩
  have T1 := hW.trans (hb.mono hW.size)
  have hB1 := hB.step hb
  have c0 := hB1.cell 0
  have c1 := hB1.cell 1
  simp at c0 c1
  have HR1 := Lib.hid ((hr.step T1 (Nat.le_refl _)).more T1.size)
  have HT1 := Lib.hid T1
  have hz : w.heap.size < w1.heap.size := hB1.1
  have HR : Hid (∀ w', Below w.heap.size w w' → RMsS w' w'.heap.size (.slice A l.length c) l) := by
    show ∀ _, _
    intro w' hb
    exact (hr.step hb (Nat.le_refl _)).more hb.size
  clear hW hB hb hB1 T1 hr
  go_upto_region 3 with (go_at_call 38; refine (isWithin_wi _ _ _ _).mono ?_; rintro e w' ⟨rfl, rfl⟩)
  have hWd : Below w.heap.size w w1.drew := HT1.out.drew
  have hszd : w1.heap.size ≤ w1.drew.heap.size := Nat.le_refl _
  go_region_held3 (fun w' => w'.cell? ⟨w.heap.size, 0, none⟩ = some (.int .i64 k) ∧ w'.cell? ⟨w.heap.size, 1, none⟩ = some (.bool hh)) (with_reducible first | exact ⟨c0, c1⟩ | (refine ⟨?_, ?_⟩ <;> assumption) | go_keep)
    (first
      | (go_at_call 33; (with_reducible refine (HF.out _ (HR.out _ hWd)).mono ?_); rintro e w2 ⟨u, rfl, ho, hb2⟩; have hb3 := hWd.trans (hb2.mono hWd.size); have hrf := ho.ri; obtain ⟨A3, c3, hu, _, _⟩ := ho.ri; rw [HFL.out] at hu; subst hu; have HRF := Lib.hid hrf; clear ho hrf; have d0 := (hb2.cell (p := ⟨w.heap.size, 0, none⟩) hz).trans c0; have d1 := (hb2.cell (p := ⟨w.heap.size, 1, none⟩) hz).trans c1)
      | (go_at_call 39; (with_reducible refine (HSB.out _ _ (HR.out _ hb3) HRF.out).mono ?_); rintro e w4 ⟨u4, rfl, ho4, hb4⟩; have HO4 := Lib.hid ho4; obtain ⟨A4, c4, hu4, _, _⟩ := ho4.ri; subst hu4; clear ho4; have hz2 := hb2.size; have hz3 : w.heap.size < w2.heap.size := Nat.lt_of_lt_of_le hz hz2; have f0 := (hb4.cell (p := ⟨w.heap.size, 0, none⟩) hz3).trans d0; have f1 := (hb4.cell (p := ⟨w.heap.size, 1, none⟩) hz3).trans d1))
  have HO := Lib.hid (HO4.out.wide hb3.size (Nat.le_refl _))
  have HBL := Lib.hid (hb3.trans (hb4.mono hb3.size))
  go_wp2_with fail
  go_ret2
  exact ⟨_, rfl, HO.out, HBL.out⟩
set_option maxHeartbeats 4000000 in
theorem specSlotsAt_any (v : Value) (x : Sr) (l : List Ms) (tick : Int) (w : World) (h : RMsS w w.heap.size v l) (hn : l.length ≤ 1048576) (hwt : (Lit.int .i64 tick).wf = true) :
    Calls Try.prog 21 #[SrV x, v, .int .i64 tick] w (RetLB 3 w (slotsSays x l tick).1 (slotsSays x l tick).2) := by
  have HG := Lib.hid (fun w h => (slAll_any _ x l w h hn : Calls _ _ #[_, v] w _))
  have hr := h
  obtain ⟨A, c, rfl, _, hlc, _⟩ := h
  cases hg : slOk x l
  · rw [slotsSays_no (by rw [hg, Bool.false_and])]
    rw [hg] at HG
    obtain ⟨k, hh⟩ := x
    simp only [SrV] at HG ⊢
    have hW : Below w.heap.size w (w.alloc (.cells #[.int .i64 k, .bool hh] 29)) := (Below.refl _ _).alloc (Nat.le_refl _) _
    clear hg
    go_enter Try.func21, Try.ntmps21
    go_wp2_with fail
    refine (HG.out _ ((hr.step hW (Nat.le_refl _)).more hW.size)).mono ?_; rintro e w1 ⟨rfl, hb1⟩
    go_wp2_with fail
    go_ret2
    exact ⟨_, rfl, .inl ⟨rfl, none, 0, rfl, by simp, fun _ => rfl⟩, hW.trans (hb1.mono hW.size)⟩
  cases h2 : wi tick 0 400
  · rw [slotsSays_no (by rw [h2, Bool.and_false])]
    rw [hg] at HG
    obtain ⟨k, hh⟩ := x
    simp only [SrV] at HG ⊢
    have hW : Below w.heap.size w (w.alloc (.cells #[.int .i64 k, .bool hh] 29)) := (Below.refl _ _).alloc (Nat.le_refl _) _
    clear hg
    go_enter Try.func21, Try.ntmps21
    go_wp2_with fail
    refine (HG.out _ ((hr.step hW (Nat.le_refl _)).more hW.size)).mono ?_; rintro e w1 ⟨rfl, hb1⟩
    go_wp2_with (go_at_call 36; refine (l1In_wi _ _ _ _).mono ?_; rintro e w' ⟨rfl, rfl⟩)
    go_ret2
    exact ⟨_, rfl, .inl ⟨rfl, none, 0, rfl, by simp, fun _ => rfl⟩, hW.trans (hb1.mono hW.size)⟩
  rw [slotsSays_yes (by rw [hg, h2]; rfl)]
  have hin := isSr_in (slOk_in hg).1
  obtain ⟨hl20, hall, _⟩ := areMs_in (slOk_in hg).2
  have ht2 : 0 ≤ tick ∧ tick ≤ 400 := by simpa [wi] using h2
  obtain ⟨T, hT⟩ : ∃ T : Nat, tick = (T : Int) := ⟨tick.toNat, by omega⟩
  subst hT
  simp only [Int.toNat_natCast]
  have HF := Lib.hid (fun w h => slEnd_any x l A c (T + 1) w hin hall hl20 hlc.1 h (by omega))
  unfold EndP at HF
  unfold slotsL
  generalize (swOf x l).S (T + 1) = Sx at HF ⊢
  generalize (swOf x l).F (T + 1) = Fx at HF
  generalize (swOf x l).Rd (T + 1) = Rx at HF
  have et : IntKind.i64.wrap ((T : Int) + 1) = ((T + 1 : Nat) : Int) := by rw [IntWalk.i64_in _ (by omega)]; push_cast; rfl
  rw [hg] at HG
  clear hg hall
  obtain ⟨k, hh⟩ := x
  simp only [SrV] at HG HF  ⊢
  have hW : Below w.heap.size w (w.alloc (.cells #[.int .i64 k, .bool hh] 29)) := (Below.refl _ _).alloc (Nat.le_refl _) _
  have hB := BK.made w 29 #[.int .i64 k, .bool hh]
  go_enter Try.func21, Try.ntmps21
  go_wp2_with fail
  refine (HG.out _ ((hr.step hW (Nat.le_refl _)).more hW.size)).mono ?_; rintro e w1 ⟨rfl, hb⟩
  have T1 := hW.trans (hb.mono hW.size)
  have hB1 := hB.step hb
  have c0 := hB1.cell 0
  have c1 := hB1.cell 1
  simp at c0 c1
  have HR1 := Lib.hid ((hr.step T1 (Nat.le_refl _)).more T1.size)
  have HT1 := Lib.hid T1
  have hz : w.heap.size < w1.heap.size := hB1.1
  have HR : Hid (∀ w', Below w.heap.size w w' → RMsS w' w'.heap.size (.slice A l.length c) l) := by
    show ∀ _, _
    intro w' hb
    exact (hr.step hb (Nat.le_refl _)).more hb.size
  clear hW hB hb hB1 T1 hr
  go_wp2_with (go_at_call 36; refine (l1In_wi _ _ _ _).mono ?_; rintro e w' ⟨rfl, rfl⟩)
  refine (HF.out _ HR1.out).mono ?_; rintro e w2 ⟨g, sb, fb, qb, vf, vr, rfl, hp, hS⟩
  have HBL := Lib.hid (HT1.out.trans (hS.bel.mono HT1.out.size))
  have c3 := hS.run.cell 3
  simp only [List.getElem?_toArray, List.getElem?_cons_zero, List.getElem?_cons_succ] at c3
  have ho := hS.slots.oi (lo := w.heap.size) (Nat.le_trans HT1.out.size hp.s0) (Nat.le_refl _)
  rw [tab_len] at ho
  have HO := Lib.hid ho
  clear hS hp ho c0 c1
  go_wp2_with fail
  go_ret2
  exact ⟨_, rfl, HO.out, HBL.out⟩
end Go.Proofs.Ytnlcdgehgapblaa
