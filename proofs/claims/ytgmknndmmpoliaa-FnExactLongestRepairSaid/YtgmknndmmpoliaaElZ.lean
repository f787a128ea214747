/-
  Chapter 7: a round of the program's election by rounds.
-/
import Derived.Test.YtgmknndmmpoliaaElL
import Derived.Test.YtgmknndmmpoliaaElK
import Derived.Test.YtgmknndmmpoliaaElO
import Derived.Maps.OwnOps
import Derived.Deep.LoopGhost
namespace Go.Proofs.Ytgmknndmmpoliaa
open Go.RowKit Go.Maps
set_option maxRecDepth 100000
set_option linter.unusedVariables false

theorem zeroI (w : World) : (zeroValue 3).run Try.prog w = .ok (.int .i64 0) w := by kernel_rfl
/-- Those of the next round that are known when j of this one have been asked. -/
def tkA (A : Nat → Bool) (V : Nat → Int) (n j s : Nat) : Bool := nextA A V n s && decide (cntA A s < j)
theorem tkA_no {A : Nat → Bool} {V : Nat → Int} {n j s : Nat} (hs : s < n) (hA : A s = true) (hj : cntA A s = j) (hb : svB (ownL A V n) j = false) (i : Nat) (hi : i < n) : tkA A V n j i = tkA A V n (j + 1) i := by
  unfold tkA
  cases hn : nextA A V n i
  · rfl
  · have hne : cntA A i ≠ j := by
      intro e
      have h2 := hn
      unfold nextA at h2
      rw [e, hb] at h2
      simp at h2
    rw [Bool.true_and, Bool.true_and]
    exact decide_eq_decide.2 (by omega)
theorem tkA_yes {A : Nat → Bool} {V : Nat → Int} {n j s : Nat} (hs : s < n) (hA : A s = true) (hj : cntA A s = j) (hb : svB (ownL A V n) j = true) (i : Nat) (hi : i < n) : updB (tkA A V n j) s true i = tkA A V n (j + 1) i := by
  unfold updB
  by_cases e : i = s
  · rw [if_pos e, e]
    unfold tkA nextA
    rw [hA, hj, hb]
    simp
  · rw [if_neg e]
    unfold tkA
    cases hn : nextA A V n i
    · rfl
    · have hAi : A i = true := by unfold nextA at hn; simp only [Bool.and_eq_true] at hn; exact hn.1
      have hne : cntA A i ≠ j := by
        intro e2
        have h1 := alL_at hi hAi
        have h2 := alL_at hs hA
        rw [e2] at h1
        rw [hj, h1] at h2
        omega
      rw [Bool.true_and, Bool.true_and]
      exact decide_eq_decide.2 (by omega)
theorem tkA_end {A : Nat → Bool} {V : Nat → Int} {n : Nat} (i : Nat) (hi : i < n) : tkA A V n (cntA A n) i = nextA A V n i := by
  unfold tkA
  cases hn : nextA A V n i
  · rfl
  · have hAi : A i = true := by unfold nextA at hn; simp only [Bool.and_eq_true] at hn; exact hn.1
    have := cntA_lt hi hAi
    simpa using this
/-- What a call for the taken names leaves. -/
def RetTk (n : Nat) (A : Nat → Bool) (V : Nat → Int) (w : World) (e : Ending) (w' : World) : Prop := ∃ tb kb Dt, e = .returned (.map (some tb)) ∧ w.heap.size ≤ tb ∧ kb ≤ 12 ∧ w'.ownsMap Try.prog 3 (plainElem (H := Unit) Try.prog 3) tb kb Dt ∧ MF Dt n (nextA A V n) (nextV A V n) ∧ Below w.heap.size w w'
set_option maxHeartbeats 8000000 in
theorem taken_any (mb nn : Nat) (D : DataW Unit) (n : Nat) (A : Nat → Bool) (V : Nat → Int) (w : World) (hn : n ≤ 12) (h2 : 2 ≤ cntA A n) (hV : ∀ s, s < n → A s = true → 0 ≤ V s ∧ V s ≤ 999) (hown : w.ownsMap Try.prog 3 (plainElem (H := Unit) Try.prog 3) mb nn D) (hm : MF D n A V) :
    Calls Try.prog 78 #[.map (some mb)] w fun e w' => RetTk n A V w e w' := by
  have HORD := Lib.hid (inOrder_any mb nn D n A V w (by omega) hown hm)
  have HOWN := Lib.hid hown
  have HM := Lib.hid hm
  have HV := Lib.hid hV
  have HMB := Lib.hid hown.lt
  have hmm := @run_makeMap Try.prog
  have hlen := alL_len A n
  have hm12 : (alL A n).length ≤ 12 := Nat.le_trans (alL_le A n) hn
  have HEND : Hid (∀ i, i < n → tkA A V n (alL A n).length i = nextA A V n i) := fun i hi => by rw [alL_len]; exact tkA_end i hi
  have HOL : Hid ((ownL A V n).length = (alL A n).length) := by show _ = _; rw [ownL_len, alL_len]
  have HAT : Hid (∀ j, j < (alL A n).length → ∃ s : Nat, s < n ∧ A s = true ∧ (alL A n).getD j 0 = (s : Int) ∧ cntA A s = j ∧ (ownL A V n).getD j 0 = V s) := by
    show ∀ j, _
    intro j hj
    obtain ⟨s, h3, h4, h5, h6⟩ := alL_of hj
    exact ⟨s, h3, h4, h5, h6, by rw [← h6]; exact ownL_at h3 h4⟩
  rw [← hlen] at h2
  obtain ⟨O, hO⟩ : ∃ O, O = alL A n := ⟨_, rfl⟩
  rw [← hO] at HORD hm12 h2 HAT HOL HEND
  clear hown hm hV hlen hO
  have hm2 : (2 : Int) ≤ (O.length : Int) ∧ (O.length : Int) ≤ 12 := by omega
  go_enter Try.func78, Try.ntmps78
  go_wp2_with fail
  refine HORD.out.mono ?_; rintro e W1 ⟨u, rfl, ho, hb1⟩
  have HB1 := Lib.hid hb1
  have hm0 := World.ownsMap_made W1 Try.prog 3 (plainElem (H := Unit) Try.prog 3)
  have hbm : Below W1.heap.size W1 (W1.alloc (.map #[] 0)) := (Below.refl _ _).alloc (Nat.le_refl _) _
  have HM0 := Lib.hid hm0
  have HBM := Lib.hid hbm
  have hri := ho.ri
  obtain ⟨A5, c5, rfl, _, hc5⟩ := hri
  obtain ⟨b5, off5, rfl, hb5, hcell5⟩ := hc5 (by omega)
  have HC5 := Lib.hid hcell5
  have HB5 : Hid (b5 < W1.heap.size) := hb5
  clear ho hb1 hm0 hbm hc5 hcell5 hb5
  go_wp2_with fail
  go_loopg [14] O.length (fun g s14 wx => ∃ (j kb : Nat) (Dt : DataW Unit), j + g = O.length ∧ kb ≤ j ∧ s14 = .int .i64 j ∧ wx.ownsMap Try.prog 3 (plainElem (H := Unit) Try.prog 3) W1.heap.size kb Dt ∧ Hid (MF Dt n (tkA A V n j) (nextV A V n)) ∧ Below W1.heap.size W1 wx)
  case atStart => exact ⟨0, 0, _, by omega, Nat.le_refl _, rfl, HM0.out, (MF.empty n _).congr (fun i hi => by unfold tkA; simp) (fun _ _ _ => rfl), HBM.out⟩
  case round =>
    obtain ⟨j, kb, Dt, hjg, hkb, rfl, hown, HMT, hbw⟩ := hrel
    rename World => W2
    have HBW := Lib.hid hbw
    cases gk with
    | zero =>
      obtain rfl : j = O.length := by omega
      have HOT := Lib.hid hown
      have hz : ¬ ((O.length : Int) < (O.length : Int)) := by omega
      clear hown hbw
      go_wp2_with fail
      go_ret
      unfold RetTk
      exact ⟨_, kb, Dt, rfl, HB1.out.size, by omega, HOT.out, HMT.out.congr HEND.out (fun _ _ _ => rfl), HB1.out.trans (HBW.out.mono HB1.out.size)⟩
    | succ g =>
      have hj : j < O.length := by omega
      have hj' : (j : Int) < (O.length : Int) := by omega
      have hown2 : W2.ownsMap Try.prog 3 (plainElem (H := Unit) Try.prog 3) mb nn D := (HOWN.out.kept (below_grown0 HB1.out none) (by simp)).kept (below_grown0 hbw none) (by simp)
      obtain ⟨s, hs, hAs, hse, hcs, hsv⟩ := HAT.out j hj
      have hq1 : nrI O.length j < O.length := Nat.mod_lt _ (by omega)
      have hq2 : frI O.length j < O.length := Nat.mod_lt _ (by omega)
      obtain ⟨s1, hs1, hA1, hse1, _, hsv1⟩ := HAT.out (nrI O.length j) hq1
      obtain ⟨s2, hs2, hA2, hse2, _, hsv2⟩ := HAT.out (frI O.length j) hq2
      have cx : ∀ q, q < O.length → W2.cell? ⟨b5, off5 + q, none⟩ = some (.int .i64 (O.getD q 0)) := fun q hq => (hbw.cell (p := ⟨b5, off5 + q, none⟩) HB5.out).trans (HC5.out q hq)
      have c0 := cx j hj
      have c1 := cx _ hq1
      have c2 := cx _ hq2
      rw [hse] at c0
      rw [hse1] at c1
      rw [hse2] at c2
      have HSVB : Hid (svB (ownL A V n) j = (decide (V s2 < V s1) && decide (V s < V s1))) := by
        show _ = _
        unfold svB
        rw [HOL.out, hsv1, hsv2, hsv]
      have HNV : Hid (nextV A V n s = V s1) := by
        show _ = _
        unfold nextV
        rw [HOL.out, hcs, hsv1]
      have k0 : keyOf Try.prog 3 (.int .i64 (s : Int)) = some (stKey s) := keyOf_int_mk Try.underlying3 (stKey_wf (by omega))
      have k1 : keyOf Try.prog 3 (.int .i64 (s1 : Int)) = some (stKey s1) := keyOf_int_mk Try.underlying3 (stKey_wf (by omega))
      have k2 : keyOf Try.prog 3 (.int .i64 (s2 : Int)) = some (stKey s2) := keyOf_int_mk Try.underlying3 (stKey_wf (by omega))
      obtain ⟨x0, r0, a0, _⟩ := hown2.lookup_int (t := 51) (int_keyed Try.underlying3) Try.underlying51 Try.underlying3 (zeroI _) k0
      obtain ⟨x1, r1, a1, _⟩ := hown2.lookup_int (t := 51) (int_keyed Try.underlying3) Try.underlying51 Try.underlying3 (zeroI _) k1
      obtain ⟨x2, r2, a2, _⟩ := hown2.lookup_int (t := 51) (int_keyed Try.underlying3) Try.underlying51 Try.underlying3 (zeroI _) k2
      rw [HM.out.at_ s hs hAs] at a0
      rw [HM.out.at_ s1 hs1 hA1] at a1
      rw [HM.out.at_ s2 hs2 hA2] at a2
      obtain rfl : V s = x0 := by injection a0 with a0; injection a0
      obtain rfl : V s1 = x1 := by injection a1 with a1; injection a1
      obtain rfl : V s2 = x2 := by injection a2 with a2; injection a2
      have hv0 := HV.out s hs hAs
      have hv1 := HV.out s1 hs1 hA1
      have hv2 := HV.out s2 hs2 hA2
      have HTN : Hid (svB (ownL A V n) j = false → ∀ i, i < n → tkA A V n j i = tkA A V n (j + 1) i) := fun hb => tkA_no hs hAs hcs hb
      have HTY : Hid (svB (ownL A V n) j = true → ∀ i, i < n → updB (tkA A V n j) s true i = tkA A V n (j + 1) i) := fun hb => tkA_yes hs hAs hcs hb
      have HS : Hid (s < n) := hs
      have HK0 := Lib.hid k0
      have HOT := Lib.hid hown
      clear a0 a1 a2 k0 k1 k2 hown2 hse hse1 hse2 hsv hsv1 hsv2 hcs hAs hA1 hA2 hs hs1 hs2 cx hown hbw
      generalize V s = y0 at r0 hv0 HSVB
      generalize V s1 = y1 at r1 hv1 HSVB HNV
      generalize V s2 = y2 at r2 hv2 HSVB
      have e1 : ((j : Int) + (O.length : Int) - 1) % (O.length : Int) = ((nrI O.length j : Nat) : Int) := by
        unfold nrI
        rw [Int.natCast_emod]
        congr 1
        omega
      have e2 : ((j : Int) + (O.length : Int) - 2) % (O.length : Int) = ((frI O.length j : Nat) : Int) := by
        unfold frI
        rw [Int.natCast_emod]
        congr 1
        omega
      have e3 : ((j : Int) + (O.length : Int) - 1).tmod (O.length : Int) = ((nrI O.length j : Nat) : Int) := by rw [Int.tmod_eq_emod_of_nonneg (by omega), e1]
      have e4 : ((j : Int) + (O.length : Int) - 2).tmod (O.length : Int) = ((frI O.length j : Nat) : Int) := by rw [Int.tmod_eq_emod_of_nonneg (by omega), e2]
      generalize nrI O.length j = q1 at e1 e3 hq1 c1
      generalize frI O.length j = q2 at e2 e4 hq2 c2
      have hq1' : (q1 : Int) < (O.length : Int) := by omega
      have hq2' : (q2 : Int) < (O.length : Int) := by omega
      have hz : (O.length : Int) ≠ 0 := by omega
      have hz2 : O.length ≠ 0 := by omega
      by_cases h21 : y2 < y1
      · by_cases h01 : y0 < y1
        · have hsb : svB (ownL A V n) j = true := by rw [HSVB.out]; simp [h21, h01]
          have HTY2 := Lib.hid (HTY.out hsb)
          clear hsb
          go_wp2_with (at_mapUpdate; refine wpList_mapUpdate_own _ rfl _ _ _ 51 rfl 3 3 (int_keyed Try.underlying3) Try.underlying51 _ W1.heap.size kb _ rfl HOT.out (by unfold maxLen; omega) _ _ _ rfl rfl HK0.out _ [] (plainElem_int Try.underlying3 (WalkArith.wf_i64 (by omega) : (Lit.int .i64 y1).wf = true)) ?_; intro w5 hown5 hgrow5)
          go_roundg g
          case measure => omega
          case rel => exact ⟨j + 1, kb + 1, _, by omega, by omega, by go_num, hown5, (HMT.out.put HS.out (by omega) y1).congr HTY2.out (fun i hi hb => by
            unfold updV
            by_cases e : i = s
            · rw [if_pos e, e, HNV.out]
            · rw [if_neg e]), HBW.out.grown hgrow5 HBW.out.size (fun k hk => by cases hk; exact Nat.le_refl _)⟩
        · have hsb : svB (ownL A V n) j = false := by rw [HSVB.out]; simp [h01]
          have HTN2 := Lib.hid (HTN.out hsb)
          clear hsb
          go_wp2_with fail
          go_roundg g
          case measure => omega
          case rel => exact ⟨j + 1, kb, _, by omega, by omega, by go_num, HOT.out, HMT.out.congr HTN2.out (fun _ _ _ => rfl), HBW.out⟩
      · have hsb : svB (ownL A V n) j = false := by rw [HSVB.out]; simp [h21]
        have HTN2 := Lib.hid (HTN.out hsb)
        clear hsb
        go_wp2_with fail
        go_roundg g
        case measure => omega
        case rel => exact ⟨j + 1, kb, _, by omega, by omega, by go_num, HOT.out, HMT.out.congr HTN2.out (fun _ _ _ => rfl), HBW.out⟩

end Go.Proofs.Ytgmknndmmpoliaa
