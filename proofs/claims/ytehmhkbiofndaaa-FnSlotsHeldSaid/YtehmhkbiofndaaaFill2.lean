/-
  A station fills a slot: the walk.
-/
import Derived.Test.YtehmhkbiofndaaaFill
namespace Go.Proofs.Ytehmhkbiofndaaa
open Go.RowKit Go.Maps
set_option maxRecDepth 100000
set_option linter.unusedVariables false

theorem BK.three {w : World} {g : Nat} {T : TypeId} {x y z : Value} (h : BK w g T #[x, y, z]) (a b c : Value) : BK (((w.setCell ⟨g, 0, none⟩ a).setCell ⟨g, 1, none⟩ b).setCell ⟨g, 2, none⟩ c) g T #[a, b, c] := by
  have := ((h.put 0 a).put 1 b).put 2 c
  simpa using this
theorem Wr.setNew {lo hi : Nat} {a w : World} (h : Wr lo hi a w) {p : Addr} (hp : a.heap.size ≤ p.block) (u : Value) : Wr lo hi a (w.setCell p u) := by
  refine ⟨h.os, h.tape, h.output, by simpa [World.setCell] using h.size, fun k hk hn => ?_⟩
  rw [← h.block k hk hn]
  unfold World.setCell
  have : p.block ≠ k := by omega
  simp [Array.getElem?_modify, this]
set_option maxHeartbeats 2000000 in
theorem fill_any (x : Sr) (l : List Ms) (g mb B c : Nat) (A : Option Addr) (F : Nat → Int) (t s : Nat) (w : World) (hin : 2 ≤ x.n ∧ x.n ≤ 12) (hall : ∀ y ∈ l, MsIn x.n y) (hl20 : l.length ≤ 20)
    (hB : BK w g 73 #[.int .i64 x.n, .bool x.h, .slice A l.length c, .int .i64 t, .map (some mb)]) (hr : RMsS w B (.slice A l.length c) l) (hBm : B ≤ mb) (hBw : B ≤ w.heap.size)
    (hm : MapAt w mb l F) (ht : t ≤ 1000) (hs : s ≤ 12) :
    Calls Try.prog 55 #[.pointer (some ⟨g, 0, none⟩), .int .i64 s] w (FillPost l F t mb w ((swOf x l).next F s t)) := by
  obtain ⟨_, _, _, hc⟩ := hr.parts
  have HN1 := Lib.hid (fun j hj hw hno => next_at_some (x := x) (l := l) (F := F) (s := s) (t := t) (j := j) hall hj hw hno)
  have HN0 := Lib.hid (fun hno => next_at_none (x := x) (l := l) (F := F) (s := s) (t := t) hall hno)
  obtain ⟨R, hR⟩ : ∃ R, R = (swOf x l).next F s t := ⟨_, rfl⟩
  rw [← hR] at HN1 HN0 ⊢
  clear hR
  obtain ⟨k, hh⟩ := x
  simp only at hB hin hall HN1 HN0
  have hl2 : (l.length : Int) ≤ 20 := by omega
  have HALL := Lib.hid hall
  have HC := Lib.hid hc
  have HM := Lib.hid hm
  have HRM := Lib.hid hr
  clear hall hc hm hr
  have hgl := hB.1
  have hmb := HM.out.lt
  have hB1 := hB.alloc (.cells #[.int .i64 0, .int .i64 0, .int .i64 0] 78)
  have hR1 := BK.made w 78 #[.int .i64 0, .int .i64 0, .int .i64 0]
  have hW : Below w.heap.size w (w.alloc (.cells #[.int .i64 0, .int .i64 0, .int .i64 0] 78)) := (Below.refl _ _).alloc (Nat.le_refl _) _
  obtain ⟨w1, hw1⟩ : ∃ w1, w1 = w.alloc (.cells #[.int .i64 0, .int .i64 0, .int .i64 0] 78) := ⟨_, rfl⟩
  have hz1 : w1.heap.size = w.heap.size + 1 := by rw [hw1]; simp
  rw [← hw1] at hB1 hR1 hW
  have hx1 := hB1.cell 2
  have hx0 := hB1.cell 0
  have hx3 := hB1.cell 3
  have hx4 := hB1.cell 4
  simp at hx1 hx0 hx3 hx4
  have HW1 := Lib.hid hw1
  have HB1 := Lib.hid hB1
  have HR1 := Lib.hid hR1
  have HBW := Lib.hid hW
  have HQ : Hid (∀ (e' : Ending) (w' : World), (e' = Ending.returned (slotV l 0)) → Below w.heap.size w w' → R = none → FillPost l F t mb w R e' w') := by
    intro e' w' h1 h2 h3
    rw [h3]
    exact ⟨h1, h2⟩
  clear hB hB1 hR1 hW
  go_enter Try.func55, Try.ntmps55
  clear hw1
  go_upto_region 1 with fail
  rw [← HW1.out]
  go_wp2_with fail
  go_loopw [15] (fun i wr => ∃ j : Nat, j ≤ l.length ∧ i = .int .i64 j ∧ (∀ i', i' < j → ¬ waitsI l F s t i') ∧ Below w1.heap.size w1 wr) (fun i _ => l.length - (intOf i).toNat)
  case atStart => exact ⟨0, Nat.zero_le _, rfl, fun i' h => absurd h (Nat.not_lt_zero _), Below.refl _ _⟩
  case round =>
    obtain ⟨j, hj, rfl, hno, hb⟩ := hrel
    have HNO := Lib.hid hno
    have hbs := hb.size
    have HB := Lib.hid hb
    have hBr := HB1.out.step hb
    have hRr := HR1.out.step hb
    have HT := Lib.hid (HBW.out.trans (hb.mono (by omega)))
    clear hno hx0 hx1 hx3 hx4
    by_cases hlt : j < l.length
    · obtain ⟨b, off, rfl, hbB, hcell⟩ := HC.out (by omega)
      obtain ⟨hd0, hd1, hd2⟩ := hcell j hlt
      have hc0 := (HT.out.cell (p := ⟨b, off + j * 3, none⟩) (by show b < w.heap.size; omega)).trans hd0
      have hc1 := (HT.out.cell (p := ⟨b, off + j * 3 + 1, none⟩) (by show b < w.heap.size; omega)).trans hd1
      have hc2 := (HT.out.cell (p := ⟨b, off + j * 3 + 2, none⟩) (by show b < w.heap.size; omega)).trans hd2
      clear hd0 hd1 hd2 hcell
      have hml := msAt HALL.out j hlt
      have HWI : Hid (∀ (h : l[j]!.f = (s : Int) ∧ l[j]!.t ≤ (t : Int) ∧ F j < 0), waitsI l F s t j) := fun h => h
      have HSN : Hid (¬ waitsI l F s t j → ∀ i', i' < j + 1 → ¬ waitsI l F s t i') := fun h i' hi' => by
        by_cases e : i' = j
        · rw [e]; exact h
        · exact HNO.out i' (by omega)
      have HWE : Hid (waitsI l F s t j → (l[j]!.f = (s : Int) ∧ l[j]!.t ≤ (t : Int) ∧ F j < 0)) := fun h => h
      have HLK := Lib.hid (fun w' (h : MapAt w' mb l F) => h.look hin.2 HALL.out hl20 hlt)
      have HKY := Lib.hid (mWf hin.2 HALL.out hl20 j hlt)
      have HMK : Hid (mKey l j = slKey ((j : Int) + 1) l[j]!.f l[j]!.o) := rfl
      have HSV : Hid (slotV l (j + 1) = slV ((j : Int) + 1) l[j]!.f l[j]!.o) := by
        show slotV l (j + 1) = _
        unfold slotV
        rw [if_neg (by omega), Nat.add_sub_cancel]
        push_cast
        rfl
      have HSW := Lib.hid (fun w => slotWith_any j l[j]! w (by omega))
      generalize l[j]! = y at hc0 hc1 hc2 hml HWI HWE HLK HKY HMK HSV HSW
      obtain ⟨yt, yf, yo⟩ := y
      obtain ⟨m1, m2, m3, m4, m5, m6, m7⟩ := hml
      simp only [MsV] at hc0 hc1 hc2 m1 m2 m3 m4 m5 m6 HWI HWE HLK HKY HMK HSV HSW
      clear m7
      have hBm' := hBr.alloc (.cells #[.int .i64 yt, .int .i64 yf, .int .i64 yo] 35)
      have hMm := BK.made wr 35 #[.int .i64 yt, .int .i64 yf, .int .i64 yo]
      have hRm := hRr.alloc (.cells #[.int .i64 yt, .int .i64 yf, .int .i64 yo] 35)
      have hbm := hb.alloc (by omega) (.cells #[.int .i64 yt, .int .i64 yf, .int .i64 yo] 35)
      have hzr : w1.heap.size ≤ wr.heap.size := hbs
      obtain ⟨w2, hw2⟩ : ∃ w2, w2 = wr.alloc (.cells #[.int .i64 yt, .int .i64 yf, .int .i64 yo] 35) := ⟨_, rfl⟩
      have hz2 : w2.heap.size = wr.heap.size + 1 := by rw [hw2]; simp
      rw [← hw2] at hBm' hMm hRm hbm
      have x0 := hBm'.cell 3
      have x1 := hBm'.cell 4
      have y0 := hMm.cell 0
      have y1 := hMm.cell 1
      have y2 := hMm.cell 2
      simp at x0 x1 y0 y1 y2
      have HW2 := Lib.hid hw2
      have HB2 := Lib.hid hbm
      have HBm := Lib.hid hBm'
      have HMm := Lib.hid hMm
      have HRm := Lib.hid hRm
      clear hb hBr hRr hBm' hMm hRm hbm hw2
      have hjI : (j : Int) < (l.length : Int) := by omega
      go_upto_region 4 with fail
      rw [← HW2.out]
      clear hc0 hc1 hc2
      by_cases hfs : yf = (s : Int)
      · subst hfs
        have hne0 : decide ((s : Int) ≠ (s : Int)) = false := by simp
        by_cases htt : yt ≤ (t : Int)
        · have htd : decide ((t : Int) < yt) = false := by rw [decide_eq_false_iff_not]; omega
          go_quiet (fail)
          go_wp2_with fail
          refine (HSW.out _).mono ?_; rintro e w3 ⟨rfl, hb3⟩
          have hBg : BK w3 g 73 _ := BK.step (w := w2.drewN nq) HBm.out hb3
          have hRg : BK w3 w.heap.size 78 _ := BK.step (w := w2.drewN nq) HRm.out hb3
          have T2 : Below w.heap.size w (w2.drewN nq) := HBW.out.trans ((below_drewN HB2.out _).mono (by omega))
          have hz3 : w2.heap.size ≤ w3.heap.size := hb3.size
          have T3 := T2.trans (hb3.mono (show w.heap.size ≤ w2.heap.size by omega))
          have T4 := T3.alloc (by omega) (.cells #[.int .i64 ((j : Int) + 1), .int .i64 (s : Int), .int .i64 yo] 78)
          have hBg4 := hBg.alloc (.cells #[.int .i64 ((j : Int) + 1), .int .i64 (s : Int), .int .i64 yo] 78)
          have hRg4 := hRg.alloc (.cells #[.int .i64 ((j : Int) + 1), .int .i64 (s : Int), .int .i64 yo] 78)
          have hSg4 := BK.made w3 78 #[.int .i64 ((j : Int) + 1), .int .i64 (s : Int), .int .i64 yo]
          have HB3 := Lib.hid ((below_drewN HB2.out nq).trans ((hb3.mono (show w1.heap.size ≤ w2.heap.size by omega)).alloc (by omega) (.cells #[.int .i64 ((j : Int) + 1), .int .i64 (s : Int), .int .i64 yo] 78)))
          simp only [slV]
          go_upto_region 6 with fail
          have HM4 : Hid (MapAt (w3.alloc (.cells #[.int .i64 ((j : Int) + 1), .int .i64 (s : Int), .int .i64 yo] 78)) mb l F) := HM.out.step T4
          obtain ⟨w4, hw4⟩ : ∃ w4, w4 = w3.alloc (.cells #[.int .i64 ((j : Int) + 1), .int .i64 (s : Int), .int .i64 yo] 78) := ⟨_, rfl⟩
          have hz4 : w4.heap.size = w3.heap.size + 1 := by rw [hw4]; simp
          rw [← hw4] at HM4 hBg4 hRg4 hSg4 HB3 T4 ⊢
          have HBg := Lib.hid hBg4
          have HRg := Lib.hid hRg4
          have HSg := Lib.hid hSg4
          have HT4 := Lib.hid T4
          have c3 := hBg4.cell 3
          have c4 := hBg4.cell 4
          have s0 := hSg4.cell 0
          have s1 := hSg4.cell 1
          have s2 := hSg4.cell 2
          simp at c3 c4 s0 s1 s2
          obtain ⟨cv, hlk⟩ := HLK.out w4 HM4.out
          simp only [slV] at hlk
          clear hw4 hBg hRg T2 T3 T4 hBg4 hRg4 hSg4 hb3 x0 x1 y0 y1 y2
          by_cases h0 : F j < 0
          · have hf0 : decide (0 ≤ F j) = false := by rw [decide_eq_false_iff_not]; omega
            rw [hf0] at hlk
            have HW := Lib.hid (HN1.out j hlt (HWI.out ⟨trivial, htt, h0⟩) HNO.out)
            have HF0 := Lib.hid h0
            clear h0 hf0
            go_quiet (fail)
            have c3' : (w4.drewN nq).cell? ⟨g, 3, none⟩ = some (.int .i64 t) := c3
            have c4' : (w4.drewN nq).cell? ⟨g, 4, none⟩ = some (.map (some mb)) := c4
            have s0' : (w4.drewN nq).cell? ⟨w3.heap.size, 0, none⟩ = some (.int .i64 ((j : Int) + 1)) := s0
            have s1' : (w4.drewN nq).cell? ⟨w3.heap.size, 1, none⟩ = some (.int .i64 (s : Int)) := s1
            have s2' : (w4.drewN nq).cell? ⟨w3.heap.size, 2, none⟩ = some (.int .i64 yo) := s2
            have HM5 : Hid (MapAt (w4.drewN nq) mb l F) := HM4.out
            have HBg5 : Hid (BK (w4.drewN nq) g 73 #[.int .i64 k, .bool hh, .slice (some ⟨b, off, none⟩) l.length c, .int .i64 t, .map (some mb)]) := HBg.out
            have HRg5 : Hid (BK (w4.drewN nq) w.heap.size 78 #[.int .i64 0, .int .i64 0, .int .i64 0]) := HRg.out
            have HT5 : Hid (Below w.heap.size w (w4.drewN nq)) := below_drewN HT4.out _
            have hz5 : (w4.drewN nq).heap.size = w3.heap.size + 1 := hz4
            generalize w4.drewN nq = w5 at *
            clear hlk c3 c4 s0 s1 s2
            go_wp2_with fail
            go_upto_region 8 with fail
            obtain ⟨D, hown, hmi⟩ := HM5.out
            have hkey := slKey_is HKY.out.1 HKY.out.2.1 HKY.out.2.2
            have hval : plainElem (H := Unit) Try.prog 3 (.int .i64 (t : Int)) = some (.lit (.int .i64 (t : Int)), []) := plainElem_int Try.underlying3 (WalkArith.wf_i64 (by omega))
            have hcn : cntF F l.length ≤ l.length := cntF_le F l.length
            have HQ2 : Hid (∀ (e' : Ending) (w' : World), e' = .returned (.agg #[.int .i64 ((j : Int) + 1), .int .i64 (s : Int), .int .i64 yo]) → MapAt w' mb l (updF F j t) → Wr mb (mb + 1) w w' → FillPost l F t mb w R e' w') := by
              intro e' w' h1 h2 h3
              rw [HW.out]
              refine ⟨?_, h2, h3⟩
              rw [h1, HSV.out]
              rfl
            go_still_tail 9, (by kernel_rfl)
            change wpList _ _ _ _ _ w5.drew
            refine wpList_mapUpdate_own _ rfl _ _ _ 71 rfl 78 3 slLaw Try.underlying71 _ mb (cntF F l.length) D rfl hown.drew (by unfold maxLen; omega) _ _ _ rfl rfl hkey _ [] hval ?_
            intro w6 hown6 hg6
            have HM6 : Hid (MapAt w6 mb l (updF F j t)) := by
              refine ⟨_, ?_, MapIs.put hin.2 HALL.out hl20 hmi (hown.tidy slLaw) hlt HF0.out (by omega)⟩
              rw [cntF_upd hlt HF0.out (by omega), HMK.out]
              exact hown6
            have hg8 : Wr mb (mb + 1) w5.drew w6 := Wr.of_row hg6 (Nat.le_refl _) (Nat.lt_succ_self _)
            have hg7 : Wr mb (mb + 1) w5 w6 := ⟨hg8.os, hg8.tape, hg8.output, hg8.size, hg8.block⟩
            have hT6 := ((Wr.of_below HT5.out mb (mb + 1)).trans hg7)
            have hR6 := HRg5.out.far hg7 (by omega)
            have hnem : w3.heap.size ≠ mb := by omega
            have e0 : w6.cell? ⟨w3.heap.size, 0, none⟩ = some (.int .i64 ((j : Int) + 1)) := hg6.cell (a := ⟨w3.heap.size, 0, none⟩) s0' (fun h => hnem (Option.some.inj h))
            have e1 : w6.cell? ⟨w3.heap.size, 1, none⟩ = some (.int .i64 (s : Int)) := hg6.cell (a := ⟨w3.heap.size, 1, none⟩) s1' (fun h => hnem (Option.some.inj h))
            have e2 : w6.cell? ⟨w3.heap.size, 2, none⟩ = some (.int .i64 yo) := hg6.cell (a := ⟨w3.heap.size, 2, none⟩) s2' (fun h => hnem (Option.some.inj h))
            have u0 := hR6.cell 0
            have u1 := hR6.cell 1
            have u2 := hR6.cell 2
            have v0 := hR6.free 0
            have v1 := hR6.free 1
            have v2 := hR6.free 2
            have h3 := hR6.three (.int .i64 ((j : Int) + 1)) (.int .i64 (s : Int)) (.int .i64 yo)
            have z0 := h3.cell 0
            have z1 := h3.cell 1
            have z2 := h3.cell 2
            simp only [List.getElem?_toArray, List.getElem?_cons_zero, List.getElem?_cons_succ] at z0 z1 z2 u0 u1 u2
            have HT7 := Lib.hid (((hT6.setNew (p := ⟨w.heap.size, 0, none⟩) (Nat.le_refl _) (.int .i64 ((j : Int) + 1))).setNew (p := ⟨w.heap.size, 1, none⟩) (Nat.le_refl _) (.int .i64 (s : Int))).setNew (p := ⟨w.heap.size, 2, none⟩) (Nat.le_refl _) (.int .i64 yo))
            have HM7 := Lib.hid (HM6.out.far ((((Wr.refl w.heap.size (w.heap.size + 1) w6).setCell (p := ⟨w.heap.size, 0, none⟩) (Nat.le_refl _) (Nat.lt_succ_self _) (.int .i64 ((j : Int) + 1))).setCell (p := ⟨w.heap.size, 1, none⟩) (Nat.le_refl _) (Nat.lt_succ_self _) (.int .i64 (s : Int))).setCell (p := ⟨w.heap.size, 2, none⟩) (Nat.le_refl _) (Nat.lt_succ_self _) (.int .i64 yo)) (.inl hmb))
            clear hown hmi hkey hval hown6 hg6 hg7 hg8 hT6 hR6 h3 s0' s1' s2' c3' c4'
            go_wp2_with fail
            refine bodyPost_ret (v := .agg #[.int .i64 ((j : Int) + 1), .int .i64 (s : Int), .int .i64 yo]) (by simp [results, Try.results55, go_sem, z0, z1, z2]) rfl (HQ2.out _ _ rfl HM7.out HT7.out)
          · have hf0 : decide (0 ≤ F j) = true := by rw [decide_eq_true_eq]; omega
            rw [hf0] at hlk
            have HS2 := Lib.hid (HSN.out (fun h => h0 (HWE.out h).2.2))
            clear h0 hf0
            go_quiet (fail)
            go_wp2_with fail
            go_roundw
            case rel => exact ⟨j + 1, by omega, by go_num, HS2.out, below_drewN HB3.out _⟩
            case measure => simp [intOf]; omega
        · have htd : (t : Int) < yt := by omega
          have HS2 := Lib.hid (HSN.out (fun h => htt (HWE.out h).2.1))
          go_quiet (fail)
          go_wp2_with fail
          go_roundw
          case rel => exact ⟨j + 1, by omega, by go_num, HS2.out, below_drewN HB2.out _⟩
          case measure => simp [intOf]; omega
      · have HS2 := Lib.hid (HSN.out (fun h => hfs (HWE.out h).1))
        go_quiet (fail)
        go_wp2_with fail
        go_roundw
        case rel => exact ⟨j + 1, by omega, by go_num, HS2.out, below_drewN HB2.out _⟩
        case measure => simp [intOf]; omega
    · obtain rfl : j = l.length := by omega
      have HRN := Lib.hid (HN0.out (fun i hi => HNO.out i hi))
      have q0 := hRr.cell 0
      have q1 := hRr.cell 1
      have q2 := hRr.cell 2
      simp at q0 q1 q2
      have HZ : Hid (slotV l 0 = .agg #[.int .i64 0, .int .i64 0, .int .i64 0]) := rfl
      have HQ1 := Lib.hid (fun e' w' h1 h2 => HQ.out e' w' h1 h2 HRN.out)
      rw [HZ.out] at HQ1
      have r0 := hRr.free 0
      have r1 := hRr.free 1
      have r2 := hRr.free 2
      have h3 := hRr.three (.int .i64 0) (.int .i64 0) (.int .i64 0)
      have z0 := h3.cell 0
      have z1 := h3.cell 1
      have z2 := h3.cell 2
      simp only [List.getElem?_toArray, List.getElem?_cons_zero, List.getElem?_cons_succ] at z0 z1 z2
      go_wp2_with fail
      refine bodyPost_ret (v := .agg #[.int .i64 0, .int .i64 0, .int .i64 0]) (by simp [results, Try.results55, go_sem, z0, z1, z2]) rfl (HQ1.out _ _ rfl ?_)
      repeat (first | exact HT.out | refine Below.alloc ?_ (by simp <;> omega) _ | refine Below.setCell ?_ (by simp <;> omega) _)
end Go.Proofs.Ytehmhkbiofndaaa
