/-
  The contracts of QueueAt, both sides. The contracts of FullTicks, both sides.
-/
import Derived.Test.YtehmhkbiofndaaaReadX
import Derived.Test.YtehmhkbiofndaaaIn
import Derived.Test.YtehmhkbiofndaaaSlotsXM
import Derived.Test.YtehmhkbiofndaaaHasI
namespace Go.Proofs.Ytehmhkbiofndaaa
section
open Go.RowKit Go.Maps
set_option maxRecDepth 100000
set_option linter.unusedVariables false

/-- Message i waits at station s behind a tick. -/
def inQ (x : Sr) (l : List Ms) (s tick : Int) (i : Nat) : Bool := decide (l[i]!.f = s) && (decide (l[i]!.t ≤ tick) && decide (tick < (swOf x l).fin (lastT l) i))
def qTo (x : Sr) (l : List Ms) (s tick : Int) (j : Nat) : List Int := ((List.range j).filter (inQ x l s tick)).map (fun i : Nat => (i : Int))
theorem qTo_yes {x : Sr} {l : List Ms} {s tick : Int} {j : Nat} (h : inQ x l s tick j = true) : qTo x l s tick (j + 1) = qTo x l s tick j ++ [(j : Int)] := by
  simp [qTo, List.range_succ, List.filter_append, h]
theorem qTo_no {x : Sr} {l : List Ms} {s tick : Int} {j : Nat} (h : inQ x l s tick j = false) : qTo x l s tick (j + 1) = qTo x l s tick j := by
  simp [qTo, List.range_succ, List.filter_append, h]
theorem qTo_len (x : Sr) (l : List Ms) (s tick : Int) (j : Nat) : (qTo x l s tick j).length ≤ j := by
  unfold qTo
  rw [List.length_map]
  exact Nat.le_trans (List.length_filter_le _ _) (by simp)
theorem slAcc_step {E : TypeId} {w w' : World} {lo : Nat} {v : Value} {l : List Int} (h : Acc E w lo v l) (hb : Below w.heap.size w w') : Acc E w' lo v l := by
  rcases h.2 with ⟨hv, hr⟩ | ⟨g, c, cur, hv, h1, h2, rest⟩
  · exact ⟨h.1, .inl ⟨hv, hr⟩⟩
  · exact ⟨h.1, .inr ⟨g, c, cur, hv, h1, (hb.block g (Array.getElem?_eq_some_iff.1 h2).1).trans h2, rest⟩⟩
/-- What QueueAt says. -/
def queueSays (x : Sr) (l : List Ms) (s tick : Int) : List Int × Bool := if slOk x l && (wi s 0 (x.n - 1) && wi tick 0 400) then (qTo x l s tick l.length, true) else ([], false)
theorem queueSays_no {x : Sr} {l : List Ms} {s tick : Int} (h : (slOk x l && (wi s 0 (x.n - 1) && wi tick 0 400)) = false) : queueSays x l s tick = ([], false) := by simp only [queueSays, h]; rfl
theorem queueSays_yes {x : Sr} {l : List Ms} {s tick : Int} (h : (slOk x l && (wi s 0 (x.n - 1) && wi tick 0 400)) = true) : queueSays x l s tick = (qTo x l s tick l.length, true) := by simp only [queueSays, h, if_true]
theorem queueSays_len (x : Sr) (l : List Ms) (s tick : Int) : (queueSays x l s tick).1.length ≤ 1048576 := by
  cases h : (slOk x l && (wi s 0 (x.n - 1) && wi tick 0 400))
  · rw [queueSays_no h]; simp
  · rw [queueSays_yes h]
    have h1 := qTo_len x l s tick l.length
    have h2 := (areMs_in (slOk_in (Bool.and_eq_true _ _ ▸ h).1).2).1
    show (qTo x l s tick l.length).length ≤ _
    omega
set_option maxHeartbeats 4000000 in
theorem implQueueAt_any (v : Value) (x : Sr) (l : List Ms) (s tick : Int) (w : World) (h : RMsS w w.heap.size v l) (hn : l.length ≤ 1048576) (hws : (Lit.int .i64 s).wf = true) (hwt : (Lit.int .i64 tick).wf = true) :
    Calls Try.prog 12 #[SrV x, v, .int .i64 s, .int .i64 tick] w (RetLB 3 w (queueSays x l s tick).1 (queueSays x l s tick).2) := by
  have HG := Lib.hid (fun w h => (slRing_any _ x l w h hn : Calls _ _ #[_, v] w _))
  have hr := h
  obtain ⟨A, c, rfl, _, hlc, _⟩ := h
  cases hg : slOk x l
  · rw [queueSays_no (by rw [hg, Bool.false_and])]
    rw [hg] at HG
    obtain ⟨k, hh⟩ := x
    simp only [SrV] at HG  ⊢
    have hW : Below w.heap.size w (w.alloc (.cells #[.int .i64 k, .bool hh] 25)) := (Below.refl _ _).alloc (Nat.le_refl _) _
    have hB := BK.made w 25 #[.int .i64 k, .bool hh]
    skip
    clear hg
    go_enter Try.func12, Try.ntmps12
    go_wp2_with fail
    refine (HG.out _ ((hr.step hW (Nat.le_refl _)).more hW.size)).mono ?_; rintro e w1 ⟨rfl, hb1⟩
    have c0 := (hB.step hb1).cell 0
    simp at c0
    go_wp2_with fail
    go_ret2
    exact ⟨_, rfl, .inl ⟨rfl, none, 0, rfl, by simp, fun _ => rfl⟩, hW.trans (hb1.mono hW.size)⟩
  have hin := isSr_in (slOk_in hg).1
  cases h1 : wi s 0 (x.n - 1)
  · rw [queueSays_no (by rw [h1, Bool.false_and, Bool.and_false])]
    rw [hg] at HG
    obtain ⟨k, hh⟩ := x
    simp only [SrV] at HG hin h1 ⊢
    have hW : Below w.heap.size w (w.alloc (.cells #[.int .i64 k, .bool hh] 25)) := (Below.refl _ _).alloc (Nat.le_refl _) _
    have hB := BK.made w 25 #[.int .i64 k, .bool hh]
    have e7 : IntKind.i64.wrap (k - 1) = k - 1 := IntWalk.i64_in _ (by omega)
    clear hg
    go_enter Try.func12, Try.ntmps12
    go_wp2_with fail
    refine (HG.out _ ((hr.step hW (Nat.le_refl _)).more hW.size)).mono ?_; rintro e w1 ⟨rfl, hb1⟩
    have c0 := (hB.step hb1).cell 0
    simp at c0
    go_wp2_with (go_at_call 24; refine (isWithin_wi _ _ _ _).mono ?_; rintro e w' ⟨rfl, rfl⟩)
    go_ret2
    exact ⟨_, rfl, .inl ⟨rfl, none, 0, rfl, by simp, fun _ => rfl⟩, hW.trans (hb1.mono hW.size)⟩
  cases h2 : wi tick 0 400
  · rw [queueSays_no (by rw [h2, Bool.and_false, Bool.and_false])]
    rw [hg] at HG
    obtain ⟨k, hh⟩ := x
    simp only [SrV] at HG hin h1 ⊢
    have hW : Below w.heap.size w (w.alloc (.cells #[.int .i64 k, .bool hh] 25)) := (Below.refl _ _).alloc (Nat.le_refl _) _
    have hB := BK.made w 25 #[.int .i64 k, .bool hh]
    have e7 : IntKind.i64.wrap (k - 1) = k - 1 := IntWalk.i64_in _ (by omega)
    clear hg
    go_enter Try.func12, Try.ntmps12
    go_wp2_with fail
    refine (HG.out _ ((hr.step hW (Nat.le_refl _)).more hW.size)).mono ?_; rintro e w1 ⟨rfl, hb1⟩
    have c0 := (hB.step hb1).cell 0
    simp at c0
    go_wp2_with (go_at_call 24; refine (isWithin_wi _ _ _ _).mono ?_; rintro e w' ⟨rfl, rfl⟩)
    go_ret2
    exact ⟨_, rfl, .inl ⟨rfl, none, 0, rfl, by simp, fun _ => rfl⟩, hW.trans (hb1.mono hW.size)⟩
  rw [queueSays_yes (by rw [hg, h1, h2]; rfl)]
  obtain ⟨hl20, hall, _⟩ := areMs_in (slOk_in hg).2
  have HFB : Hid (∀ i, i < l.length → 0 ≤ (swOf x l).fin (lastT l) i ∧ (swOf x l).fin (lastT l) i ≤ 1000) := by
    show ∀ _, _
    intro i hi
    obtain ⟨_, h1, h2⟩ := F_need hg i hi
    have h3 := (lastT_le (slOk_in hg).2 i hi).2
    have h4 : l.length * (x.n.toNat + 1) ≤ 20 * 13 := Nat.mul_le_mul hl20 (by omega)
    omega
  have ht2 : 0 ≤ tick ∧ tick ≤ 400 := by simpa [wi] using h2
  have hl2 : (l.length : Int) ≤ 20 := by omega
  have HQL := Lib.hid (fun j => qTo_len x l s tick j)
  have HIQ : Hid (∀ i, (l[i]!.f = s ∧ l[i]!.t ≤ tick ∧ tick < (swOf x l).fin (lastT l) i → qTo x l s tick (i + 1) = qTo x l s tick i ++ [(i : Int)]) ∧ (¬ (l[i]!.f = s ∧ l[i]!.t ≤ tick ∧ tick < (swOf x l).fin (lastT l) i) → qTo x l s tick (i + 1) = qTo x l s tick i)) := by
    show ∀ _, _
    intro i
    refine ⟨fun h => qTo_yes (by simp only [inQ, Bool.and_eq_true, decide_eq_true_eq]; exact h), fun h => qTo_no ?_⟩
    cases hq : inQ x l s tick i
    · rfl
    · simp only [inQ, Bool.and_eq_true, decide_eq_true_eq] at hq
      exact absurd hq h
  have hq0 : qTo x l s tick 0 = [] := rfl
  have HF := Lib.hid (fun w h => (filledAt_any _ x l w h hg : Calls _ _ #[_, .slice A l.length c] w _))
  have HFL : Hid (finL x l = (List.range l.length).map ((swOf x l).fin (lastT l))) := rfl
  have HLN := Lib.hid (finL_len x l)
  have HFA := Lib.hid (fun i hi => finL_at x l i hi)
  clear HFL
  generalize finL x l = L at *
  rw [hg] at HG
  clear hg hall
  generalize (swOf x l).fin (lastT l) = fin at *
  generalize qTo x l s tick = Q at *
  obtain ⟨i0, hi, hz0, hz1, hz2⟩ := info_parts int_info
  obtain ⟨k, hh⟩ := x
  simp only [SrV] at HG HF hin h1 ⊢
  have hW : Below w.heap.size w (w.alloc (.cells #[.int .i64 k, .bool hh] 25)) := (Below.refl _ _).alloc (Nat.le_refl _) _
  have hB := BK.made w 25 #[.int .i64 k, .bool hh]
  have e7 : IntKind.i64.wrap (k - 1) = k - 1 := IntWalk.i64_in _ (by omega)
  go_enter Try.func12, Try.ntmps12
  go_wp2_with fail
  refine (HG.out _ ((hr.step hW (Nat.le_refl _)).more hW.size)).mono ?_; rintro e w1 ⟨rfl, hb⟩
  have T1 := hW.trans (hb.mono hW.size)
  have hB1 := hB.step hb
  have c0 := hB1.cell 0
  have c1 := hB1.cell 1
  simp at c0 c1
  have HR1 := Lib.hid ((hr.step T1 (Nat.le_refl _)).more T1.size)
  have HT1 := Lib.hid T1
  have HR := Lib.hid hr
  clear hW hB hb hB1 T1 hr
  go_wp2_with (go_at_call 24; refine (isWithin_wi _ _ _ _).mono ?_; rintro e w' ⟨rfl, rfl⟩)
  refine (HF.out _ HR1.out).mono ?_; rintro e w2 ⟨u, rfl, ho, hb2⟩
  have HB := Lib.hid (HT1.out.trans (hb2.mono HT1.out.size))
  obtain ⟨A3, c3, hu, _, hcells⟩ := ho.ri
  rw [HLN.out] at hu
  subst hu
  have HCE := Lib.hid hcells
  clear ho hb2 c0 c1 hcells
  go_wp2_with fail
  go_loopw [34, 10] (fun i q wr => ∃ j : Nat, j ≤ l.length ∧ i = .int .i64 j ∧ Acc 3 wr w2.heap.size q (Q j) ∧ Below w2.heap.size w2 wr) (fun i _ _ => l.length - (intOf i).toNat)
  case atStart => exact ⟨0, Nat.zero_le _, rfl, by rw [hq0]; exact Acc.nil _ _ _, Below.refl _ _⟩
  case round =>
    clear hq0
    obtain ⟨j, hj, rfl, hacc, hbw⟩ := hrel
    by_cases hlt : j < l.length
    · have hjI : (j : Int) < (l.length : Int) := by omega
      obtain ⟨b2, off2, hA2, hbB2, hcell⟩ := HCE.out (by rw [HLN.out]; omega)
      subst hA2
      have d0 := (hbw.cell (p := ⟨b2, off2 + j, none⟩) hbB2).trans (hcell j (by rw [HLN.out]; exact hlt))
      rw [HFA.out j hlt] at d0
      clear hcell
      obtain ⟨_, _, _, hc⟩ := HR.out.parts
      obtain ⟨b, off, hA, hbB, hcell⟩ := hc (by omega)
      subst hA
      obtain ⟨hd0, hd1, _⟩ := hcell j hlt
      have hbel := HB.out.trans (hbw.mono HB.out.size)
      have hc0 := (hbel.cell (p := ⟨b, off + j * 3, none⟩) hbB).trans hd0
      have hc1 := (hbel.cell (p := ⟨b, off + j * 3 + 1, none⟩) hbB).trans hd1
      have hfb := HFB.out j hlt
      obtain ⟨hy, hno⟩ := HIQ.out j
      have HY := Lib.hid hy
      have HNO := Lib.hid hno
      have hql : (Q j).length < 1000000000 := by have := HQL.out j; omega
      clear hcell hc hd0 hd1 hbel hy hno
      generalize l[j]! = m at hc0 hc1 HY HNO
      generalize fin j = y at d0 hfb HY HNO
      obtain ⟨mt, mf, mo⟩ := m
      simp only at hc0 hc1 HY HNO
      have hsl := hbw.size
      have ew : IntKind.i64.wrap (y - 1) = y - 1 := IntWalk.i64_in _ (by omega)
      by_cases hf : mf = s
      · subst hf
        cases hwi : wi tick mt (y - 1)
        · have HE : Hid (Q (j + 1) = Q j) := HNO.out (fun h => by
            have : wi tick mt (y - 1) = true := by simp [wi]; omega
            rw [hwi] at this
            cases this)
          have HA := Lib.hid hacc
          have HBW := Lib.hid hbw
          clear hacc hbw
          go_wp2_with (go_at_call 24; refine (isWithin_wi _ _ _ _).mono ?_; rintro e w' ⟨rfl, rfl⟩)
          go_roundw
          case rel => exact ⟨j + 1, by omega, by go_num, by rw [HE.out]; exact HA.out, HBW.out⟩
          case measure => simp [intOf]; omega
        · have hwi2 : mt ≤ tick ∧ tick ≤ y - 1 := by simpa [wi] using hwi
          have HE : Hid (Q (j + 1) = Q j ++ [(j : Int)]) := HY.out ⟨rfl, by omega, by omega⟩
          clear hwi2
          go_wp2_with (first | (go_at_call 24; refine (isWithin_wi _ _ _ _).mono ?_; rintro e w' ⟨rfl, rfl⟩) | (at_builtin; refine wpList_push rfl _ _ _ rfl 3 i0 Try.underlying29 hi hz0 hz1 hz2 _ w2 w2.heap.size _ (Q j) _ rfl rfl hacc rfl hql hsl hbw ?_; intro v3 w3 hacc3 hb3))
          go_roundw
          case rel => exact ⟨j + 1, by omega, by go_num, by rw [HE.out]; exact hacc3, hb3⟩
          case measure => simp [intOf]; omega
      · have HE : Hid (Q (j + 1) = Q j) := HNO.out (fun h => hf h.1)
        have HA := Lib.hid hacc
        have HBW := Lib.hid hbw
        clear hacc hbw
        go_wp2_with fail
        go_roundw
        case rel => exact ⟨j + 1, by omega, by go_num, by rw [HE.out]; exact HA.out, HBW.out⟩
        case measure => simp [intOf]; omega
    · obtain rfl : j = l.length := by omega
      have HO := Lib.hid ((Acc.oi hacc).wide (HB.out.size) (Nat.le_refl _))
      have HBW := Lib.hid (HB.out.trans (hbw.mono HB.out.size))
      obtain ⟨A5, c5, hv5, _⟩ := (Acc.oi hacc).ri
      subst hv5
      clear hbw hacc
      go_wp2_with fail
      go_ret2
      exact ⟨_, rfl, HO.out, HBW.out⟩
set_option maxHeartbeats 4000000 in
theorem specQueueAt_any (v : Value) (x : Sr) (l : List Ms) (s tick : Int) (w : World) (h : RMsS w w.heap.size v l) (hn : l.length ≤ 1048576) (hws : (Lit.int .i64 s).wf = true) (hwt : (Lit.int .i64 tick).wf = true) :
    Calls Try.prog 13 #[SrV x, v, .int .i64 s, .int .i64 tick] w (RetLB 3 w (queueSays x l s tick).1 (queueSays x l s tick).2) := by
  have HG := Lib.hid (fun w h => (slAll_any _ x l w h hn : Calls _ _ #[_, v] w _))
  have hr := h
  obtain ⟨A, c, rfl, _, hlc, _⟩ := h
  cases hg : slOk x l
  · rw [queueSays_no (by rw [hg, Bool.false_and])]
    rw [hg] at HG
    obtain ⟨k, hh⟩ := x
    simp only [SrV] at HG  ⊢
    have hW : Below w.heap.size w (w.alloc (.cells #[.int .i64 k, .bool hh] 25)) := (Below.refl _ _).alloc (Nat.le_refl _) _
    have hB := BK.made w 25 #[.int .i64 k, .bool hh]
    skip
    clear hg
    go_enter Try.func13, Try.ntmps13
    go_wp2_with fail
    refine (HG.out _ ((hr.step hW (Nat.le_refl _)).more hW.size)).mono ?_; rintro e w1 ⟨rfl, hb1⟩
    have c0 := (hB.step hb1).cell 0
    simp at c0
    go_wp2_with fail
    go_ret2
    exact ⟨_, rfl, .inl ⟨rfl, none, 0, rfl, by simp, fun _ => rfl⟩, hW.trans (hb1.mono hW.size)⟩
  have hin := isSr_in (slOk_in hg).1
  cases h1 : wi s 0 (x.n - 1)
  · rw [queueSays_no (by rw [h1, Bool.false_and, Bool.and_false])]
    rw [hg] at HG
    obtain ⟨k, hh⟩ := x
    simp only [SrV] at HG hin h1 ⊢
    have hW : Below w.heap.size w (w.alloc (.cells #[.int .i64 k, .bool hh] 25)) := (Below.refl _ _).alloc (Nat.le_refl _) _
    have hB := BK.made w 25 #[.int .i64 k, .bool hh]
    have e7 : IntKind.i64.wrap (k - 1) = k - 1 := IntWalk.i64_in _ (by omega)
    clear hg
    go_enter Try.func13, Try.ntmps13
    go_wp2_with fail
    refine (HG.out _ ((hr.step hW (Nat.le_refl _)).more hW.size)).mono ?_; rintro e w1 ⟨rfl, hb1⟩
    have c0 := (hB.step hb1).cell 0
    simp at c0
    go_wp2_with (go_at_call 28; refine (l1In_wi _ _ _ _).mono ?_; rintro e w' ⟨rfl, rfl⟩)
    go_ret2
    exact ⟨_, rfl, .inl ⟨rfl, none, 0, rfl, by simp, fun _ => rfl⟩, hW.trans (hb1.mono hW.size)⟩
  cases h2 : wi tick 0 400
  · rw [queueSays_no (by rw [h2, Bool.and_false, Bool.and_false])]
    rw [hg] at HG
    obtain ⟨k, hh⟩ := x
    simp only [SrV] at HG hin h1 ⊢
    have hW : Below w.heap.size w (w.alloc (.cells #[.int .i64 k, .bool hh] 25)) := (Below.refl _ _).alloc (Nat.le_refl _) _
    have hB := BK.made w 25 #[.int .i64 k, .bool hh]
    have e7 : IntKind.i64.wrap (k - 1) = k - 1 := IntWalk.i64_in _ (by omega)
    clear hg
    go_enter Try.func13, Try.ntmps13
    go_wp2_with fail
    refine (HG.out _ ((hr.step hW (Nat.le_refl _)).more hW.size)).mono ?_; rintro e w1 ⟨rfl, hb1⟩
    have c0 := (hB.step hb1).cell 0
    simp at c0
    go_wp2_with (go_at_call 28; refine (l1In_wi _ _ _ _).mono ?_; rintro e w' ⟨rfl, rfl⟩)
    go_ret2
    exact ⟨_, rfl, .inl ⟨rfl, none, 0, rfl, by simp, fun _ => rfl⟩, hW.trans (hb1.mono hW.size)⟩
  rw [queueSays_yes (by rw [hg, h1, h2]; rfl)]
  obtain ⟨hl20, hall, _⟩ := areMs_in (slOk_in hg).2
  have HFB : Hid (∀ i, i < l.length → 0 ≤ (swOf x l).fin (lastT l) i ∧ (swOf x l).fin (lastT l) i ≤ 1000) := by
    show ∀ _, _
    intro i hi
    obtain ⟨_, h1, h2⟩ := F_need hg i hi
    have h3 := (lastT_le (slOk_in hg).2 i hi).2
    have h4 : l.length * (x.n.toNat + 1) ≤ 20 * 13 := Nat.mul_le_mul hl20 (by omega)
    omega
  have ht2 : 0 ≤ tick ∧ tick ≤ 400 := by simpa [wi] using h2
  have hl2 : (l.length : Int) ≤ 20 := by omega
  have HQL := Lib.hid (fun j => qTo_len x l s tick j)
  have HIQ : Hid (∀ i, (l[i]!.f = s ∧ l[i]!.t ≤ tick ∧ tick < (swOf x l).fin (lastT l) i → qTo x l s tick (i + 1) = qTo x l s tick i ++ [(i : Int)]) ∧ (¬ (l[i]!.f = s ∧ l[i]!.t ≤ tick ∧ tick < (swOf x l).fin (lastT l) i) → qTo x l s tick (i + 1) = qTo x l s tick i)) := by
    show ∀ _, _
    intro i
    refine ⟨fun h => qTo_yes (by simp only [inQ, Bool.and_eq_true, decide_eq_true_eq]; exact h), fun h => qTo_no ?_⟩
    cases hq : inQ x l s tick i
    · rfl
    · simp only [inQ, Bool.and_eq_true, decide_eq_true_eq] at hq
      exact absurd hq h
  have hq0 : qTo x l s tick 0 = [] := rfl
  obtain ⟨T, hT⟩ : ∃ T : Nat, tick = (T : Int) := ⟨tick.toNat, by omega⟩
  have HF := Lib.hid (fun w h => slEnd_any x l A c (T + 1) w hin hall hl20 hlc.1 h (by omega))
  have HQ : Hid (∀ i, i < l.length → ((swOf x l).F (T + 1) i < 0 ↔ tick < (swOf x l).fin (lastT l) i)) := by
    show ∀ _, _
    intro i hi
    have h3 := Sw.F_of_fin (swOk hin hall) (lastT l) (fun i hi => (lastT_le (slOk_in hg).2 i hi).1) (T + 1) i hi
    have h4 := (F_need hg i hi).2.1
    rw [h3]
    split <;> omega
  unfold EndP at HF
  generalize (swOf x l).S (T + 1) = Sx at HF
  generalize (swOf x l).F (T + 1) = Fx at HF HQ
  generalize (swOf x l).Rd (T + 1) = Rx at HF
  subst hT
  have et : IntKind.i64.wrap ((T : Int) + 1) = ((T + 1 : Nat) : Int) := by rw [IntWalk.i64_in _ (by omega)]; push_cast; rfl
  rw [hg] at HG
  clear hg hall
  generalize (swOf x l).fin (lastT l) = fin at *
  generalize qTo x l s (T : Int) = Q at *
  obtain ⟨i0, hi, hz0, hz1, hz2⟩ := info_parts int_info
  obtain ⟨k, hh⟩ := x
  simp only [SrV] at HG HF hin h1 ⊢
  have hW : Below w.heap.size w (w.alloc (.cells #[.int .i64 k, .bool hh] 25)) := (Below.refl _ _).alloc (Nat.le_refl _) _
  have hB := BK.made w 25 #[.int .i64 k, .bool hh]
  have e7 : IntKind.i64.wrap (k - 1) = k - 1 := IntWalk.i64_in _ (by omega)
  go_enter Try.func13, Try.ntmps13
  go_wp2_with fail
  refine (HG.out _ ((hr.step hW (Nat.le_refl _)).more hW.size)).mono ?_; rintro e w1 ⟨rfl, hb⟩
  have T1 := hW.trans (hb.mono hW.size)
  have hB1 := hB.step hb
  have c0 := hB1.cell 0
  have c1 := hB1.cell 1
  simp at c0 c1
  have HR1 := Lib.hid ((hr.step T1 (Nat.le_refl _)).more T1.size)
  have HT1 := Lib.hid T1
  have HR := Lib.hid hr
  clear hW hB hb hB1 T1 hr
  go_wp2_with (go_at_call 28; refine (l1In_wi _ _ _ _).mono ?_; rintro e w' ⟨rfl, rfl⟩)
  refine (HF.out _ HR1.out).mono ?_; rintro e w2 ⟨g, sb, fb, qb, vf, vr, rfl, hp, hS⟩
  have HB := Lib.hid (HT1.out.trans (hS.bel.mono HT1.out.size))
  have HS := Lib.hid hS
  clear hS hp c0 c1
  go_wp2_with fail
  go_loopw [38, 11] (fun i q wr => ∃ j : Nat, j ≤ l.length ∧ i = .int .i64 j ∧ Acc 3 wr w2.heap.size q (Q j) ∧ Below w2.heap.size w2 wr) (fun i _ _ => l.length - (intOf i).toNat)
  case atStart => exact ⟨0, Nat.zero_le _, rfl, by rw [hq0]; exact Acc.nil _ _ _, Below.refl _ _⟩
  case round =>
    clear hq0
    obtain ⟨j, hj, rfl, hacc, hbw⟩ := hrel
    by_cases hlt : j < l.length
    · have hjI : (j : Int) < (l.length : Int) := by omega
      obtain ⟨_, _, _, hc⟩ := HR.out.parts
      obtain ⟨b, off, hA, hbB, hcell⟩ := hc (by omega)
      subst hA
      obtain ⟨hd0, hd1, hd2⟩ := hcell j hlt
      have hbel := HB.out.trans (hbw.mono HB.out.size)
      have hc0 := (hbel.cell (p := ⟨b, off + j * 3, none⟩) hbB).trans hd0
      have hc1 := (hbel.cell (p := ⟨b, off + j * 3 + 1, none⟩) hbB).trans hd1
      have hc2 := (hbel.cell (p := ⟨b, off + j * 3 + 2, none⟩) hbB).trans hd2
      obtain ⟨hy, hno⟩ := HIQ.out j
      have HIF := Lib.hid (HQ.out j hlt)
      rw [← HIF.out] at hy hno
      have HY := Lib.hid hy
      have HNO := Lib.hid hno
      have hql : (Q j).length < 1000000000 := by have := HQL.out j; omega
      clear hcell hc hd0 hd1 hd2 hbel hy hno HIF
      have hS1 := HS.out.step hbw
      obtain ⟨cf, hvf, hrc⟩ := hS1.filled.at_ j (by rw [tab_len]; exact hlt)
      rw [tab_len] at hvf
      generalize l[j]! = m at hc0 hc1 hc2 HY HNO
      obtain ⟨mt, mf, mo⟩ := m
      simp only at hc0 hc1 hc2 HY HNO
      have hsl := hbw.size
      have hba : Below wr.heap.size wr (wr.alloc (.cells #[.int .i64 mt, .int .i64 mf, .int .i64 mo] 35)) := (Below.refl _ _).alloc (Nat.le_refl _) _
      have hM := BK.made wr 35 #[.int .i64 mt, .int .i64 mf, .int .i64 mo]
      have hS2 := hS1.step hba
      have hrc2 := hrc.step hba
      have hacc2 := slAcc_step hacc hba
      have hb2 := hbw.trans (hba.mono hsl)
      have hsl2 := hb2.size
      have q0 := hM.cell 0
      have q1 := hM.cell 1
      have x4 := hS2.run.cell 4
      have r0 := hrc2.cell j (by rw [tab_len]; exact hlt)
      rw [tab_at _ _ _ hlt] at r0
      simp only [List.getElem?_toArray, List.getElem?_cons_zero, List.getElem?_cons_succ] at q0 q1 x4
      subst hvf
      generalize Fx j = fj at r0 HY HNO
      clear hM hS2 hrc hrc2 hS1 hba hacc hbw
      obtain ⟨ub, hub⟩ : ∃ ub, ub = wr.heap.size := ⟨_, rfl⟩
      go_upto_region 8 with fail
      generalize wr.alloc (.cells #[.int .i64 mt, .int .i64 mf, .int .i64 mo] 35) = w5 at *
      rw [← hub] at q0 q1 ⊢
      clear hub hc0 hc1 hc2
      by_cases h1 : mf = s
      · subst h1
        by_cases h2 : mt ≤ (T : Int)
        · by_cases h3 : fj < 0
          · have HE : Hid (Q (j + 1) = Q j ++ [(j : Int)]) := HY.out ⟨rfl, h2, h3⟩
            go_wp2_with (at_builtin; refine wpList_push rfl _ _ _ rfl 3 i0 Try.underlying29 hi hz0 hz1 hz2 _ w2 w2.heap.size _ (Q j) _ rfl rfl hacc2 rfl hql hsl2 hb2 ?_; intro v3 w3 hacc3 hb3)
            go_roundw
            case rel => exact ⟨j + 1, by omega, by go_num, by rw [HE.out]; exact hacc3, hb3⟩
            case measure => simp [intOf]; omega
          · have HE : Hid (Q (j + 1) = Q j) := HNO.out (fun h => h3 h.2.2)
            have HA := Lib.hid hacc2
            have HBW := Lib.hid hb2
            clear hacc2 hb2
            go_wp2_with fail
            go_roundw
            case rel => exact ⟨j + 1, by omega, by go_num, by rw [HE.out]; exact HA.out, HBW.out⟩
            case measure => simp [intOf]; omega
        · have HE : Hid (Q (j + 1) = Q j) := HNO.out (fun h => h2 h.2.1)
          have HA := Lib.hid hacc2
          have HBW := Lib.hid hb2
          clear hacc2 hb2
          go_wp2_with fail
          go_roundw
          case rel => exact ⟨j + 1, by omega, by go_num, by rw [HE.out]; exact HA.out, HBW.out⟩
          case measure => simp [intOf]; omega
      · have HE : Hid (Q (j + 1) = Q j) := HNO.out (fun h => h1 h.1)
        have HA := Lib.hid hacc2
        have HBW := Lib.hid hb2
        clear hacc2 hb2
        go_wp2_with fail
        go_roundw
        case rel => exact ⟨j + 1, by omega, by go_num, by rw [HE.out]; exact HA.out, HBW.out⟩
        case measure => simp [intOf]; omega
    · obtain rfl : j = l.length := by omega
      have HO := Lib.hid ((Acc.oi hacc).wide (HB.out.size) (Nat.le_refl _))
      have HBW := Lib.hid (HB.out.trans (hbw.mono HB.out.size))
      obtain ⟨A5, c5, hv5, _⟩ := (Acc.oi hacc).ri
      subst hv5
      clear hbw hacc
      go_wp2_with fail
      go_ret2
      exact ⟨_, rfl, HO.out, HBW.out⟩
end
section
open Go.RowKit Go.Maps
set_option maxRecDepth 100000
set_option linter.unusedVariables false

theorem slotsL_len (x : Sr) (l : List Ms) (T : Nat) : (slotsL x l T).length = x.n.toNat := tab_len _ _
/-- At how many of the first ticks all slots are full. -/
def fullTo (x : Sr) (l : List Ms) : Nat → Int
  | 0 => 0
  | m + 1 => if hasI (slotsL x l m) 0 = true then fullTo x l m else fullTo x l m + 1
theorem fullTo_in (x : Sr) (l : List Ms) (m : Nat) : 0 ≤ fullTo x l m ∧ fullTo x l m ≤ m := by
  induction m with
  | zero => simp [fullTo]
  | succ m ih =>
    unfold fullTo
    split <;> omega
/-- What FullTicks says. -/
def fullSays (x : Sr) (l : List Ms) (ticks : Int) : Int × Bool := if slOk x l && wi ticks 0 400 then (fullTo x l ticks.toNat, true) else (0, false)
theorem fullSays_no {x : Sr} {l : List Ms} {ticks : Int} (h : (slOk x l && wi ticks 0 400) = false) : fullSays x l ticks = (0, false) := by simp only [fullSays, h]; rfl
theorem fullSays_yes {x : Sr} {l : List Ms} {ticks : Int} (h : (slOk x l && wi ticks 0 400) = true) : fullSays x l ticks = (fullTo x l ticks.toNat, true) := by simp only [fullSays, h, if_true]
set_option maxHeartbeats 4000000 in
theorem implFullTicks_any (v : Value) (x : Sr) (l : List Ms) (ticks : Int) (w : World) (h : RMsS w w.heap.size v l) (hn : l.length ≤ 1048576) (hwt : (Lit.int .i64 ticks).wf = true) :
    Calls Try.prog 15 #[SrV x, v, .int .i64 ticks] w (RetV w (.tuple #[.int .i64 (fullSays x l ticks).1, .bool (fullSays x l ticks).2])) := by
  have HG := Lib.hid (fun w h => (slRing_any _ x l w h hn : Calls _ _ #[_, v] w _))
  have hr := h
  obtain ⟨A, c, rfl, _, hlc, _⟩ := h
  cases hg : slOk x l
  · rw [fullSays_no (by rw [hg, Bool.false_and])]
    rw [hg] at HG
    obtain ⟨k, hh⟩ := x
    simp only [SrV] at HG ⊢
    have hW : Below w.heap.size w (w.alloc (.cells #[.int .i64 k, .bool hh] 25)) := (Below.refl _ _).alloc (Nat.le_refl _) _
    clear hg
    go_enter Try.func15, Try.ntmps15
    go_wp2_with fail
    refine (HG.out _ ((hr.step hW (Nat.le_refl _)).more hW.size)).mono ?_; rintro e w1 ⟨rfl, hb1⟩
    go_wp2_with fail
    go_ret2
    exact ⟨rfl, hW.trans (hb1.mono hW.size)⟩
  cases h2 : wi ticks 0 400
  · rw [fullSays_no (by rw [h2, Bool.and_false])]
    rw [hg] at HG
    obtain ⟨k, hh⟩ := x
    simp only [SrV] at HG ⊢
    have hW : Below w.heap.size w (w.alloc (.cells #[.int .i64 k, .bool hh] 25)) := (Below.refl _ _).alloc (Nat.le_refl _) _
    clear hg
    go_enter Try.func15, Try.ntmps15
    go_wp2_with fail
    refine (HG.out _ ((hr.step hW (Nat.le_refl _)).more hW.size)).mono ?_; rintro e w1 ⟨rfl, hb1⟩
    go_wp2_with (go_at_call 24; refine (isWithin_wi _ _ _ _).mono ?_; rintro e w' ⟨rfl, rfl⟩)
    go_ret2
    exact ⟨rfl, hW.trans (hb1.mono hW.size)⟩
  rw [fullSays_yes (by rw [hg, h2]; rfl)]
  have hin := isSr_in (slOk_in hg).1
  obtain ⟨hl20, hall, _⟩ := areMs_in (slOk_in hg).2
  have ht2 : 0 ≤ ticks ∧ ticks ≤ 400 := by simpa [wi] using h2
  obtain ⟨T, hT⟩ : ∃ T : Nat, ticks = (T : Int) := ⟨ticks.toNat, by omega⟩
  subst hT
  simp only [Int.toNat_natCast]
  have HFT := Lib.hid (fun m => fullTo_in x l m)
  have HF0 : Hid (fullTo x l 0 = 0) := rfl
  have HFS : Hid (∀ m, (hasI (slotsL x l m) 0 = true → fullTo x l (m + 1) = fullTo x l m) ∧ (hasI (slotsL x l m) 0 = false → fullTo x l (m + 1) = fullTo x l m + 1)) := by
    show ∀ _, _
    intro m
    refine ⟨fun h => ?_, fun h => ?_⟩
    · show (if hasI (slotsL x l m) 0 = true then fullTo x l m else fullTo x l m + 1) = _; rw [if_pos h]
    · show (if hasI (slotsL x l m) 0 = true then fullTo x l m else fullTo x l m + 1) = _; rw [if_neg (by rw [h]; simp)]
  have HSL : Hid (∀ m, (slotsL x l m).length ≤ 1048576) := by show ∀ _, _; intro m; rw [slotsL_len]; omega
  have HF := Lib.hid (fun w h => (filledAt_any _ x l w h hg : Calls _ _ #[_, .slice A l.length c] w _))
  have HSB : Hid (∀ fv w m, RMsS w w.heap.size (.slice A l.length c) l → RI w w.heap.size fv (finL x l) → m ≤ 400 → Calls Try.prog 25 #[SrV x, .slice A l.length c, fv, .int .i64 (m : Nat)] w (RetL 3 w (slotsL x l m))) := by
    show ∀ _, _
    exact fun fv w m h hf hm => slotsBehind_any _ fv x l m w h hf hg hm
  have HFL := Lib.hid (finL_len x l)
  generalize finL x l = FL at *
  generalize slotsL x l = SL at *
  rw [hg] at HG
  generalize fullTo x l = C at *
  clear hg hall
  obtain ⟨k, hh⟩ := x
  simp only [SrV] at HG HF HSB ⊢
  have hW : Below w.heap.size w (w.alloc (.cells #[.int .i64 k, .bool hh] 25)) := (Below.refl _ _).alloc (Nat.le_refl _) _
  have hB := BK.made w 25 #[.int .i64 k, .bool hh]
  go_enter Try.func15, Try.ntmps15
  go_wp2_with fail
  refine (HG.out _ ((hr.step hW (Nat.le_refl _)).more hW.size)).mono ?_; rintro e w1 ⟨rfl, hb⟩
  have T1 := hW.trans (hb.mono hW.size)
  have hB1 := hB.step hb
  have c0 := hB1.cell 0
  have c1 := hB1.cell 1
  simp at c0 c1
  have HR1 := Lib.hid ((hr.step T1 (Nat.le_refl _)).more T1.size)
  have HT1 := Lib.hid T1
  have HB1 := Lib.hid hB1
  have HR : Hid (∀ w', Below w.heap.size w w' → RMsS w' w'.heap.size (.slice A l.length c) l) := by
    show ∀ _, _
    intro w' hb
    exact (hr.step hb (Nat.le_refl _)).more hb.size
  clear hW hB hb hB1 T1 hr
  go_wp2_with (go_at_call 24; refine (isWithin_wi _ _ _ _).mono ?_; rintro e w' ⟨rfl, rfl⟩)
  refine (HF.out _ HR1.out).mono ?_; rintro e w2 ⟨u, rfl, ho, hb2⟩
  have HB := Lib.hid (HT1.out.trans (hb2.mono HT1.out.size))
  have HBK := Lib.hid (HB1.out.step hb2)
  have hri := ho.ri
  obtain ⟨A3, c3, hu, _, _⟩ := ho.ri
  rw [HFL.out] at hu
  subst hu
  have HRI := Lib.hid hri
  clear ho hb2 c0 c1 hri
  go_wp2_with fail
  go_loopw [24, 9] (fun i q wr => ∃ j : Nat, j ≤ T ∧ i = .int .i64 j ∧ q = .int .i64 (C j) ∧ Below w2.heap.size w2 wr) (fun i _ _ => T - (intOf i).toNat)
  case atStart => exact ⟨0, Nat.zero_le _, rfl, by rw [HF0.out], Below.refl _ _⟩
  case round =>
    obtain ⟨j, hj, rfl, rfl, hbw⟩ := hrel
    by_cases hlt : j < T
    · have hjI : (j : Int) < (T : Int) := by omega
      have hk := HBK.out.step hbw
      have d0 := hk.cell 0
      have d1 := hk.cell 1
      simp only [List.getElem?_toArray, List.getElem?_cons_zero, List.getElem?_cons_succ] at d0 d1
      have hbel := HB.out.trans (hbw.mono HB.out.size)
      have HRM := Lib.hid (HR.out _ hbel)
      have HRF := Lib.hid ((HRI.out.step hbw (Nat.le_refl _)).more hbw.size)
      have HBW := Lib.hid hbw
      clear hbw hk hbel
      obtain ⟨hy, hno⟩ := HFS.out j
      have HY := Lib.hid hy
      have HNO := Lib.hid hno
      have hcb := HFT.out j
      have hsl := HSL.out j
      have HSJ := Lib.hid (fun fv w h hf => HSB.out fv w j h hf (by omega))
      generalize C j = q at hcb HY HNO
      generalize SL j = L at HY HNO hsl HSJ
      have ew : IntKind.i64.wrap (q + 1) = q + 1 := IntWalk.i64_in _ (by omega)
      clear hy hno
      go_wp2_with fail
      refine (HSJ.out _ _ HRM.out HRF.out).mono ?_; rintro e w4 ⟨u4, rfl, ho4, hb4⟩
      have HRI4 := Lib.hid ho4.ri
      obtain ⟨A4, c4, hu4, _, _⟩ := ho4.ri
      subst hu4
      have HB4 := Lib.hid (HBW.out.trans (hb4.mono HBW.out.size))
      clear ho4 hb4
      cases hz : hasI L 0
      · have HE : Hid (C (j + 1) = q + 1) := HNO.out hz
        go_wp2_with (go_at_call 32; refine (contains_any _ L 0 _ HRI4.out hsl).mono ?_; rintro e w' ⟨rfl, rfl⟩)
        go_roundw
        case rel => exact ⟨j + 1, by omega, by go_num, by rw [HE.out], HB4.out⟩
        case measure => simp [intOf]; omega
      · have HE : Hid (C (j + 1) = q) := HY.out hz
        go_wp2_with (go_at_call 32; refine (contains_any _ L 0 _ HRI4.out hsl).mono ?_; rintro e w' ⟨rfl, rfl⟩)
        go_roundw
        case rel => exact ⟨j + 1, by omega, by go_num, by rw [HE.out], HB4.out⟩
        case measure => simp [intOf]; omega
    · obtain rfl : j = T := by omega
      have HBL := Lib.hid (HB.out.trans (hbw.mono HB.out.size))
      clear hbw
      go_wp2_with fail
      go_ret2
      exact ⟨rfl, HBL.out⟩
set_option maxHeartbeats 4000000 in
theorem specFullTicks_any (v : Value) (x : Sr) (l : List Ms) (ticks : Int) (w : World) (h : RMsS w w.heap.size v l) (hn : l.length ≤ 1048576) (hwt : (Lit.int .i64 ticks).wf = true) :
    Calls Try.prog 16 #[SrV x, v, .int .i64 ticks] w (RetV w (.tuple #[.int .i64 (fullSays x l ticks).1, .bool (fullSays x l ticks).2])) := by
  have HG := Lib.hid (fun w h => (slAll_any _ x l w h hn : Calls _ _ #[_, v] w _))
  have hr := h
  obtain ⟨A, c, rfl, _, hlc, _⟩ := h
  cases hg : slOk x l
  · rw [fullSays_no (by rw [hg, Bool.false_and])]
    rw [hg] at HG
    obtain ⟨k, hh⟩ := x
    simp only [SrV] at HG ⊢
    have hW : Below w.heap.size w (w.alloc (.cells #[.int .i64 k, .bool hh] 25)) := (Below.refl _ _).alloc (Nat.le_refl _) _
    clear hg
    go_enter Try.func16, Try.ntmps16
    go_wp2_with fail
    refine (HG.out _ ((hr.step hW (Nat.le_refl _)).more hW.size)).mono ?_; rintro e w1 ⟨rfl, hb1⟩
    go_wp2_with fail
    go_ret2
    exact ⟨rfl, hW.trans (hb1.mono hW.size)⟩
  cases h2 : wi ticks 0 400
  · rw [fullSays_no (by rw [h2, Bool.and_false])]
    rw [hg] at HG
    obtain ⟨k, hh⟩ := x
    simp only [SrV] at HG ⊢
    have hW : Below w.heap.size w (w.alloc (.cells #[.int .i64 k, .bool hh] 25)) := (Below.refl _ _).alloc (Nat.le_refl _) _
    clear hg
    go_enter Try.func16, Try.ntmps16
    go_wp2_with fail
    refine (HG.out _ ((hr.step hW (Nat.le_refl _)).more hW.size)).mono ?_; rintro e w1 ⟨rfl, hb1⟩
    go_wp2_with (go_at_call 28; refine (l1In_wi _ _ _ _).mono ?_; rintro e w' ⟨rfl, rfl⟩)
    go_ret2
    exact ⟨rfl, hW.trans (hb1.mono hW.size)⟩
  rw [fullSays_yes (by rw [hg, h2]; rfl)]
  have hin := isSr_in (slOk_in hg).1
  obtain ⟨hl20, hall, _⟩ := areMs_in (slOk_in hg).2
  have ht2 : 0 ≤ ticks ∧ ticks ≤ 400 := by simpa [wi] using h2
  obtain ⟨T, hT⟩ : ∃ T : Nat, ticks = (T : Int) := ⟨ticks.toNat, by omega⟩
  subst hT
  simp only [Int.toNat_natCast]
  have HFT := Lib.hid (fun m => fullTo_in x l m)
  have HF0 : Hid (fullTo x l 0 = 0) := rfl
  have HFS : Hid (∀ m, (hasI (slotsL x l m) 0 = true → fullTo x l (m + 1) = fullTo x l m) ∧ (hasI (slotsL x l m) 0 = false → fullTo x l (m + 1) = fullTo x l m + 1)) := by
    show ∀ _, _
    intro m
    refine ⟨fun h => ?_, fun h => ?_⟩
    · show (if hasI (slotsL x l m) 0 = true then fullTo x l m else fullTo x l m + 1) = _; rw [if_pos h]
    · show (if hasI (slotsL x l m) 0 = true then fullTo x l m else fullTo x l m + 1) = _; rw [if_neg (by rw [h]; simp)]
  have HSL : Hid (∀ m, (slotsL x l m).length ≤ 1048576) := by show ∀ _, _; intro m; rw [slotsL_len]; omega
  have HF := Lib.hid (fun w => slNew_any x l A c w hin hl20 hlc.1)
  have HTK := Lib.hid (fun w0 g sb fb qb vf vr t w h1 h2 h3 h4 => slTick_any x l w0 A c g sb fb qb vf vr t w hin hall hl20 h1 h2 h3 h4)
  have HSD : Hid (∀ m, slotsL x l m = tab (fun k => ((swOf x l).S (m + 1) k : Int)) x.n.toNat) := fun _ => rfl
  have HXN : Hid (2 ≤ x.n ∧ x.n ≤ 12) := hin
  generalize slotsL x l = SL at *
  obtain ⟨y, hy⟩ : ∃ y, y = swOf x l := ⟨_, rfl⟩
  rw [← hy] at HF HTK HSD
  clear hy
  rw [hg] at HG
  generalize fullTo x l = C at *
  clear hg hall
  obtain ⟨k, hh⟩ := x
  simp only [SrV] at HG HF  ⊢
  have hW : Below w.heap.size w (w.alloc (.cells #[.int .i64 k, .bool hh] 25)) := (Below.refl _ _).alloc (Nat.le_refl _) _
  have hB := BK.made w 25 #[.int .i64 k, .bool hh]
  go_enter Try.func16, Try.ntmps16
  go_wp2_with fail
  refine (HG.out _ ((hr.step hW (Nat.le_refl _)).more hW.size)).mono ?_; rintro e w1 ⟨rfl, hb⟩
  have T1 := hW.trans (hb.mono hW.size)
  have hB1 := hB.step hb
  have c0 := hB1.cell 0
  have c1 := hB1.cell 1
  simp at c0 c1
  have HR1 := Lib.hid ((hr.step T1 (Nat.le_refl _)).more T1.size)
  have HT1 := Lib.hid T1
  have HB1 := Lib.hid hB1
  have HR : Hid (∀ w', Below w.heap.size w w' → RMsS w' w'.heap.size (.slice A l.length c) l) := by
    show ∀ _, _
    intro w' hb
    exact (hr.step hb (Nat.le_refl _)).more hb.size
  clear hW hB hb hB1 T1 hr
  go_wp2_with (go_at_call 28; refine (l1In_wi _ _ _ _).mono ?_; rintro e w' ⟨rfl, rfl⟩)
  refine (HF.out _).mono ?_; rintro e w2 ⟨g, sb, fb, qb, vf, vr, rfl, hp, hS⟩
  have HP := Lib.hid hp
  have HS := Lib.hid hS
  clear hp hS c0 c1
  go_wp2_with fail
  go_loopw [10, 9] (fun i q wr => ∃ j : Nat, j ≤ T ∧ i = .int .i64 j ∧ q = .int .i64 (C j) ∧ RunS w1 wr ⟨k, hh⟩ l A c g sb fb qb vf vr (y.S j) (y.F j) (y.Rd j)) (fun i _ _ => T - (intOf i).toNat)
  case atStart => exact ⟨0, Nat.zero_le _, rfl, by rw [HF0.out], HS.out⟩
  case round =>
    clear HS
    obtain ⟨j, hj, rfl, rfl, hS⟩ := hrel
    have HS := Lib.hid hS
    clear hS
    by_cases hlt : j < T
    · have hjI : (j : Int) < (T : Int) := by omega
      obtain ⟨hy, hno⟩ := HFS.out j
      have HY := Lib.hid hy
      have HNO := Lib.hid hno
      have hcb := HFT.out j
      have hsl := HSL.out j
      generalize C j = q at hcb HY HNO
      have ew : IntKind.i64.wrap (q + 1) = q + 1 := IntWalk.i64_in _ (by omega)
      clear hy hno
      go_wp2_with fail
      refine (HTK.out w1 g sb fb qb vf vr j _ HP.out HS.out HR1.out (by omega)).mono ?_; rintro e w3 ⟨rfl, hS3⟩
      have c3 := hS3.run.cell 3
      simp only [List.getElem?_toArray, List.getElem?_cons_zero, List.getElem?_cons_succ] at c3
      have hri := hS3.slots.ri hS3.slots.lt
      rw [tab_len, ← HSD.out j] at hri
      have HRI4 := Lib.hid hri
      have HS3 := Lib.hid hS3
      clear hS3 hri
      generalize SL j = L at HY HNO hsl HRI4
      cases hz : hasI L 0
      · have HE : Hid (C (j + 1) = q + 1) := HNO.out hz
        go_wp2_with (go_at_call 35; refine (l1Has_any _ L 0 _ HRI4.out hsl).mono ?_; rintro e w' ⟨rfl, rfl⟩)
        go_roundw
        case rel => exact ⟨j + 1, by omega, by go_num, by rw [HE.out], HS3.out⟩
        case measure => simp [intOf]; omega
      · have HE : Hid (C (j + 1) = q) := HY.out hz
        go_wp2_with (go_at_call 35; refine (l1Has_any _ L 0 _ HRI4.out hsl).mono ?_; rintro e w' ⟨rfl, rfl⟩)
        go_roundw
        case rel => exact ⟨j + 1, by omega, by go_num, by rw [HE.out], HS3.out⟩
        case measure => simp [intOf]; omega
    · obtain rfl : j = T := by omega
      have HBL := Lib.hid (HT1.out.trans (HS.out.bel.mono HT1.out.size))
      go_wp2_with fail
      go_ret2
      exact ⟨rfl, HBL.out⟩
end
end Go.Proofs.Ytehmhkbiofndaaa
