/-
  The contracts of FullTicks, both sides.
-/
import Derived.Test.YtnlcdgehgapblaaSlotsX
import Derived.Test.YtnlcdgehgapblaaHasI
namespace Go.Proofs.Ytnlcdgehgapblaa
open Go.RowKit Go.Maps
set_option maxRecDepth 100000
set_option linter.unusedVariables false

theorem slotsL_len (x : Sr) (l : List Ms) (T : Nat) : (slotsL x l T).length = x.n.toNat := tab_len _ _
/-- At how many of the first ticks all slots are full. -/
def fullTo (x : Sr) (l : List Ms) : Nat → Int
  | 0 => 0
  | m + 1 => if hasI (slotsL x l m) 0 = true then fullTo x l m else fullTo x l m + 1
theorem fullTo_in (x : Sr) (l : List Ms) (m : Nat) : 0 ≤ fullTo x l m ∧ fullTo x l m ≤ m := by
  induction m with
  | zero => simp [fullTo]
  | succ m ih =>
    unfold fullTo
    split <;> omega
/-- What FullTicks says. -/
def fullSays (x : Sr) (l : List Ms) (ticks : Int) : Int × Bool := if slOk x l && wi ticks 0 400 then (fullTo x l ticks.toNat, true) else (0, false)
theorem fullSays_no {x : Sr} {l : List Ms} {ticks : Int} (h : (slOk x l && wi ticks 0 400) = false) : fullSays x l ticks = (0, false) := by simp only [fullSays, h]; rfl
theorem fullSays_yes {x : Sr} {l : List Ms} {ticks : Int} (h : (slOk x l && wi ticks 0 400) = true) : fullSays x l ticks = (fullTo x l ticks.toNat, true) := by simp only [fullSays, h, if_true]
set_option maxHeartbeats 4000000 in
theorem implFullTicks_any (v : Value) (x : Sr) (l : List Ms) (ticks : Int) (w : World) (h : RMsS w w.heap.size v l) (hn : l.length ≤ 1048576) (hwt : (Lit.int .i64 ticks).wf = true) :
    Calls Try.prog 26 #[SrV x, v, .int .i64 ticks] w (RetV w (.tuple #[.int .i64 (fullSays x l ticks).1, .bool (fullSays x l ticks).2])) := by
  have HG := Lib.hid (fun w h => (slRing_any _ x l w h hn : Calls _ _ #[_, v] w _))
  have hr := h
  obtain ⟨A, c, rfl, _, hlc, _⟩ := h
  cases hg : slOk x l
  · rw [fullSays_no (by rw [hg, Bool.false_and])]
    rw [hg] at HG
    obtain ⟨k, hh⟩ := x
    simp only [SrV] at HG ⊢
    have hW : Below w.heap.size w (w.alloc (.cells #[.int .i64 k, .bool hh] 29)) := (Below.refl _ _).alloc (Nat.le_refl _) _
    clear hg
    go_enter Try.func26, Try.ntmps26
    go_wp2_with fail
    refine (HG.out _ ((hr.step hW (Nat.le_refl _)).more hW.size)).mono ?_; rintro e w1 ⟨rfl, hb1⟩
    go_wp2_with fail
    go_ret2
    exact ⟨rfl, hW.trans (hb1.mono hW.size)⟩
  cases h2 : wi ticks 0 400
  · rw [fullSays_no (by rw [h2, Bool.and_false])]
    rw [hg] at HG
    obtain ⟨k, hh⟩ := x
    simp only [SrV] at HG ⊢
    have hW : Below w.heap.size w (w.alloc (.cells #[.int .i64 k, .bool hh] 29)) := (Below.refl _ _).alloc (Nat.le_refl _) _
    clear hg
    go_enter Try.func26, Try.ntmps26
    go_wp2_with fail
    refine (HG.out _ ((hr.step hW (Nat.le_refl _)).more hW.size)).mono ?_; rintro e w1 ⟨rfl, hb1⟩
    go_wp2_with (go_at_call 38; refine (isWithin_wi _ _ _ _).mono ?_; rintro e w' ⟨rfl, rfl⟩)
    go_ret2
    exact ⟨rfl, hW.trans (hb1.mono hW.size)⟩
  rw [fullSays_yes (by rw [hg, h2]; rfl)]
  have hin := isSr_in (slOk_in hg).1
  obtain ⟨hl20, hall, _⟩ := areMs_in (slOk_in hg).2
  have ht2 : 0 ≤ ticks ∧ ticks ≤ 400 := by simpa [wi] using h2
  obtain ⟨T, hT⟩ : ∃ T : Nat, ticks = (T : Int) := ⟨ticks.toNat, by omega⟩
  subst hT
  simp only [Int.toNat_natCast]
  have HFT := Lib.hid (fun m => fullTo_in x l m)
  have HF0 : Hid (fullTo x l 0 = 0) := rfl
  have HFS : Hid (∀ m, (hasI (slotsL x l m) 0 = true → fullTo x l (m + 1) = fullTo x l m) ∧ (hasI (slotsL x l m) 0 = false → fullTo x l (m + 1) = fullTo x l m + 1)) := by
    show ∀ _, _
    intro m
    refine ⟨fun h => ?_, fun h => ?_⟩
    · show (if hasI (slotsL x l m) 0 = true then fullTo x l m else fullTo x l m + 1) = _; rw [if_pos h]
    · show (if hasI (slotsL x l m) 0 = true then fullTo x l m else fullTo x l m + 1) = _; rw [if_neg (by rw [h]; simp)]
  have HSL : Hid (∀ m, (slotsL x l m).length ≤ 1048576) := by show ∀ _, _; intro m; rw [slotsL_len]; omega
  have HF := Lib.hid (fun w h => (filledAt_any _ x l w h hg : Calls _ _ #[_, .slice A l.length c] w _))
  have HSB : Hid (∀ fv w m, RMsS w w.heap.size (.slice A l.length c) l → RI w w.heap.size fv (finL x l) → m ≤ 400 → Calls Try.prog 39 #[SrV x, .slice A l.length c, fv, .int .i64 (m : Nat)] w (RetL 3 w (slotsL x l m))) := by
    show ∀ _, _
    exact fun fv w m h hf hm => slotsBehind_any _ fv x l m w h hf hg hm
  have HFL := Lib.hid (finL_len x l)
  generalize finL x l = FL at *
  generalize slotsL x l = SL at *
  rw [hg] at HG
  generalize fullTo x l = C at *
  clear hg hall
  obtain ⟨k, hh⟩ := x
  simp only [SrV] at HG HF HSB ⊢
  have hW : Below w.heap.size w (w.alloc (.cells #[.int .i64 k, .bool hh] 29)) := (Below.refl _ _).alloc (Nat.le_refl _) _
  have hB := BK.made w 29 #[.int .i64 k, .bool hh]
  go_enter Try.func26, Try.ntmps26
  go_wp2_with fail
  refine (HG.out _ ((hr.step hW (Nat.le_refl _)).more hW.size)).mono ?_; rintro e w1 ⟨rfl, hb⟩
  have T1 := hW.trans (hb.mono hW.size)
  have hB1 := hB.step hb
  have c0 := hB1.cell 0
  have c1 := hB1.cell 1
  simp at c0 c1
  have HR1 := Lib.hid ((hr.step T1 (Nat.le_refl _)).more T1.size)
  have HT1 := Lib.hid T1
  have HB1 := Lib.hid hB1
  have HR : Hid (∀ w', Below w.heap.size w w' → RMsS w' w'.heap.size (.slice A l.length c) l) := by
    show ∀ _, _
    intro w' hb
    exact (hr.step hb (Nat.le_refl _)).more hb.size
  clear hW hB hb hB1 T1 hr
  go_wp2_with (go_at_call 38; refine (isWithin_wi _ _ _ _).mono ?_; rintro e w' ⟨rfl, rfl⟩)
  refine (HF.out _ HR1.out).mono ?_; rintro e w2 ⟨u, rfl, ho, hb2⟩
  have HB := Lib.hid (HT1.out.trans (hb2.mono HT1.out.size))
  have HBK := Lib.hid (HB1.out.step hb2)
  have hri := ho.ri
  obtain ⟨A3, c3, hu, _, _⟩ := ho.ri
  rw [HFL.out] at hu
  subst hu
  have HRI := Lib.hid hri
  clear ho hb2 c0 c1 hri
  go_wp2_with fail
  go_loopw [24, 9] (fun i q wr => ∃ j : Nat, j ≤ T ∧ i = .int .i64 j ∧ q = .int .i64 (C j) ∧ Below w2.heap.size w2 wr) (fun i _ _ => T - (intOf i).toNat)
  case atStart => exact ⟨0, Nat.zero_le _, rfl, by rw [HF0.out], Below.refl _ _⟩
  case round =>
    obtain ⟨j, hj, rfl, rfl, hbw⟩ := hrel
    by_cases hlt : j < T
    · have hjI : (j : Int) < (T : Int) := by omega
      have hk := HBK.out.step hbw
      have d0 := hk.cell 0
      have d1 := hk.cell 1
      simp only [List.getElem?_toArray, List.getElem?_cons_zero, List.getElem?_cons_succ] at d0 d1
      have hbel := HB.out.trans (hbw.mono HB.out.size)
      have HRM := Lib.hid (HR.out _ hbel)
      have HRF := Lib.hid ((HRI.out.step hbw (Nat.le_refl _)).more hbw.size)
      have HBW := Lib.hid hbw
      clear hbw hk hbel
      obtain ⟨hy, hno⟩ := HFS.out j
      have HY := Lib.hid hy
      have HNO := Lib.hid hno
      have hcb := HFT.out j
      have hsl := HSL.out j
      have HSJ := Lib.hid (fun fv w h hf => HSB.out fv w j h hf (by omega))
      generalize C j = q at hcb HY HNO
      generalize SL j = L at HY HNO hsl HSJ
      have ew : IntKind.i64.wrap (q + 1) = q + 1 := IntWalk.i64_in _ (by omega)
      clear hy hno
      go_wp2_with fail
      refine (HSJ.out _ _ HRM.out HRF.out).mono ?_; rintro e w4 ⟨u4, rfl, ho4, hb4⟩
      have HRI4 := Lib.hid ho4.ri
      obtain ⟨A4, c4, hu4, _, _⟩ := ho4.ri
      subst hu4
      have HB4 := Lib.hid (HBW.out.trans (hb4.mono HBW.out.size))
      clear ho4 hb4
      cases hz : hasI L 0
      · have HE : Hid (C (j + 1) = q + 1) := HNO.out hz
        go_wp2_with (go_at_call 44; refine (contains_any _ L 0 _ HRI4.out hsl).mono ?_; rintro e w' ⟨rfl, rfl⟩)
        go_roundw
        case rel => exact ⟨j + 1, by omega, by go_num, by rw [HE.out], HB4.out⟩
        case measure => simp [intOf]; omega
      · have HE : Hid (C (j + 1) = q) := HY.out hz
        go_wp2_with (go_at_call 44; refine (contains_any _ L 0 _ HRI4.out hsl).mono ?_; rintro e w' ⟨rfl, rfl⟩)
        go_roundw
        case rel => exact ⟨j + 1, by omega, by go_num, by rw [HE.out], HB4.out⟩
        case measure => simp [intOf]; omega
    · obtain rfl : j = T := by omega
      have HBL := Lib.hid (HB.out.trans (hbw.mono HB.out.size))
      clear hbw
      go_wp2_with fail
      go_ret2
      exact ⟨rfl, HBL.out⟩
set_option maxHeartbeats 4000000 in
theorem specFullTicks_any (v : Value) (x : Sr) (l : List Ms) (ticks : Int) (w : World) (h : RMsS w w.heap.size v l) (hn : l.length ≤ 1048576) (hwt : (Lit.int .i64 ticks).wf = true) :
    Calls Try.prog 25 #[SrV x, v, .int .i64 ticks] w (RetV w (.tuple #[.int .i64 (fullSays x l ticks).1, .bool (fullSays x l ticks).2])) := by
  have HG := Lib.hid (fun w h => (slAll_any _ x l w h hn : Calls _ _ #[_, v] w _))
  have hr := h
  obtain ⟨A, c, rfl, _, hlc, _⟩ := h
  cases hg : slOk x l
  · rw [fullSays_no (by rw [hg, Bool.false_and])]
    rw [hg] at HG
    obtain ⟨k, hh⟩ := x
    simp only [SrV] at HG ⊢
    have hW : Below w.heap.size w (w.alloc (.cells #[.int .i64 k, .bool hh] 29)) := (Below.refl _ _).alloc (Nat.le_refl _) _
    clear hg
    go_enter Try.func25, Try.ntmps25
    go_wp2_with fail
    refine (HG.out _ ((hr.step hW (Nat.le_refl _)).more hW.size)).mono ?_; rintro e w1 ⟨rfl, hb1⟩
    go_wp2_with fail
    go_ret2
    exact ⟨rfl, hW.trans (hb1.mono hW.size)⟩
  cases h2 : wi ticks 0 400
  · rw [fullSays_no (by rw [h2, Bool.and_false])]
    rw [hg] at HG
    obtain ⟨k, hh⟩ := x
    simp only [SrV] at HG ⊢
    have hW : Below w.heap.size w (w.alloc (.cells #[.int .i64 k, .bool hh] 29)) := (Below.refl _ _).alloc (Nat.le_refl _) _
    clear hg
    go_enter Try.func25, Try.ntmps25
    go_wp2_with fail
    refine (HG.out _ ((hr.step hW (Nat.le_refl _)).more hW.size)).mono ?_; rintro e w1 ⟨rfl, hb1⟩
    go_wp2_with (go_at_call 36; refine (l1In_wi _ _ _ _).mono ?_; rintro e w' ⟨rfl, rfl⟩)
    go_ret2
    exact ⟨rfl, hW.trans (hb1.mono hW.size)⟩
  rw [fullSays_yes (by rw [hg, h2]; rfl)]
  have hin := isSr_in (slOk_in hg).1
  obtain ⟨hl20, hall, _⟩ := areMs_in (slOk_in hg).2
  have ht2 : 0 ≤ ticks ∧ ticks ≤ 400 := by simpa [wi] using h2
  obtain ⟨T, hT⟩ : ∃ T : Nat, ticks = (T : Int) := ⟨ticks.toNat, by omega⟩
  subst hT
  simp only [Int.toNat_natCast]
  have HFT := Lib.hid (fun m => fullTo_in x l m)
  have HF0 : Hid (fullTo x l 0 = 0) := rfl
  have HFS : Hid (∀ m, (hasI (slotsL x l m) 0 = true → fullTo x l (m + 1) = fullTo x l m) ∧ (hasI (slotsL x l m) 0 = false → fullTo x l (m + 1) = fullTo x l m + 1)) := by
    show ∀ _, _
    intro m
    refine ⟨fun h => ?_, fun h => ?_⟩
    · show (if hasI (slotsL x l m) 0 = true then fullTo x l m else fullTo x l m + 1) = _; rw [if_pos h]
    · show (if hasI (slotsL x l m) 0 = true then fullTo x l m else fullTo x l m + 1) = _; rw [if_neg (by rw [h]; simp)]
  have HSL : Hid (∀ m, (slotsL x l m).length ≤ 1048576) := by show ∀ _, _; intro m; rw [slotsL_len]; omega
  have HF := Lib.hid (fun w => slNew_any x l A c w hin hl20 hlc.1)
  have HTK := Lib.hid (fun w0 g sb fb qb vf vr t w h1 h2 h3 h4 => slTick_any x l w0 A c g sb fb qb vf vr t w hin hall hl20 h1 h2 h3 h4)
  have HSD : Hid (∀ m, slotsL x l m = tab (fun k => ((swOf x l).S (m + 1) k : Int)) x.n.toNat) := fun _ => rfl
  have HXN : Hid (2 ≤ x.n ∧ x.n ≤ 12) := hin
  generalize slotsL x l = SL at *
  obtain ⟨y, hy⟩ : ∃ y, y = swOf x l := ⟨_, rfl⟩
  rw [← hy] at HF HTK HSD
  clear hy
  rw [hg] at HG
  generalize fullTo x l = C at *
  clear hg hall
  obtain ⟨k, hh⟩ := x
  simp only [SrV] at HG HF  ⊢
  have hW : Below w.heap.size w (w.alloc (.cells #[.int .i64 k, .bool hh] 29)) := (Below.refl _ _).alloc (Nat.le_refl _) _
  have hB := BK.made w 29 #[.int .i64 k, .bool hh]
  go_enter Try.func25, Try.ntmps25
  go_wp2_with fail
  refine (HG.out _ ((hr.step hW (Nat.le_refl _)).more hW.size)).mono ?_; rintro e w1 ⟨rfl, hb⟩
  have T1 := hW.trans (hb.mono hW.size)
  have hB1 := hB.step hb
  have c0 := hB1.cell 0
  have c1 := hB1.cell 1
  simp at c0 c1
  have HR1 := Lib.hid ((hr.step T1 (Nat.le_refl _)).more T1.size)
  have HT1 := Lib.hid T1
  have HB1 := Lib.hid hB1
  have HR : Hid (∀ w', Below w.heap.size w w' → RMsS w' w'.heap.size (.slice A l.length c) l) := by
    show ∀ _, _
    intro w' hb
    exact (hr.step hb (Nat.le_refl _)).more hb.size
  clear hW hB hb hB1 T1 hr
  go_wp2_with (go_at_call 36; refine (l1In_wi _ _ _ _).mono ?_; rintro e w' ⟨rfl, rfl⟩)
  refine (HF.out _).mono ?_; rintro e w2 ⟨g, sb, fb, qb, vf, vr, rfl, hp, hS⟩
  have HP := Lib.hid hp
  have HS := Lib.hid hS
  clear hp hS c0 c1
  go_wp2_with fail
  go_loopw [10, 9] (fun i q wr => ∃ j : Nat, j ≤ T ∧ i = .int .i64 j ∧ q = .int .i64 (C j) ∧ RunS w1 wr ⟨k, hh⟩ l A c g sb fb qb vf vr (y.S j) (y.F j) (y.Rd j)) (fun i _ _ => T - (intOf i).toNat)
  case atStart => exact ⟨0, Nat.zero_le _, rfl, by rw [HF0.out], HS.out⟩
  case round =>
    clear HS
    obtain ⟨j, hj, rfl, rfl, hS⟩ := hrel
    have HS := Lib.hid hS
    clear hS
    by_cases hlt : j < T
    · have hjI : (j : Int) < (T : Int) := by omega
      obtain ⟨hy, hno⟩ := HFS.out j
      have HY := Lib.hid hy
      have HNO := Lib.hid hno
      have hcb := HFT.out j
      have hsl := HSL.out j
      generalize C j = q at hcb HY HNO
      have ew : IntKind.i64.wrap (q + 1) = q + 1 := IntWalk.i64_in _ (by omega)
      clear hy hno
      go_wp2_with fail
      refine (HTK.out w1 g sb fb qb vf vr j _ HP.out HS.out HR1.out (by omega)).mono ?_; rintro e w3 ⟨rfl, hS3⟩
      have c3 := hS3.run.cell 3
      simp only [List.getElem?_toArray, List.getElem?_cons_zero, List.getElem?_cons_succ] at c3
      have hri := hS3.slots.ri hS3.slots.lt
      rw [tab_len, ← HSD.out j] at hri
      have HRI4 := Lib.hid hri
      have HS3 := Lib.hid hS3
      clear hS3 hri
      generalize SL j = L at HY HNO hsl HRI4
      cases hz : hasI L 0
      · have HE : Hid (C (j + 1) = q + 1) := HNO.out hz
        go_wp2_with (go_at_call 43; refine (l1Has_any _ L 0 _ HRI4.out hsl).mono ?_; rintro e w' ⟨rfl, rfl⟩)
        go_roundw
        case rel => exact ⟨j + 1, by omega, by go_num, by rw [HE.out], HS3.out⟩
        case measure => simp [intOf]; omega
      · have HE : Hid (C (j + 1) = q) := HY.out hz
        go_wp2_with (go_at_call 43; refine (l1Has_any _ L 0 _ HRI4.out hsl).mono ?_; rintro e w' ⟨rfl, rfl⟩)
        go_roundw
        case rel => exact ⟨j + 1, by omega, by go_num, by rw [HE.out], HS3.out⟩
        case measure => simp [intOf]; omega
    · obtain rfl : j = T := by omega
      have HBL := Lib.hid (HT1.out.trans (HS.out.bel.mono HT1.out.size))
      go_wp2_with fail
      go_ret2
      exact ⟨rfl, HBL.out⟩
end Go.Proofs.Ytnlcdgehgapblaa
