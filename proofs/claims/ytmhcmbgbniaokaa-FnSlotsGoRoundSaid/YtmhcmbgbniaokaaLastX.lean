/-
  The contracts of LastRead, both sides.
-/
import Derived.Test.YtmhcmbgbniaokaaReadX
namespace Go.Proofs.Ytmhcmbgbniaokaa
open Go.RowKit Go.Maps
set_option maxRecDepth 100000
set_option linter.unusedVariables false

def lastOf (L : List Int) (j : Nat) : Int := (L.take j).foldl max 0
theorem lastOf_succ (L : List Int) (j : Nat) (hj : j < L.length) : lastOf L (j + 1) = max (lastOf L j) (L.getD j 0) := by
  unfold lastOf
  rw [List.take_add_one, List.foldl_append, List.getElem?_eq_getElem hj, List.getD_eq_getElem?_getD, List.getElem?_eq_getElem hj]
  rfl
theorem slMost_any (a b : Int) (w : World) : Calls Try.prog 31 #[.int .i64 a, .int .i64 b] w fun e w' => e = .returned (.int .i64 (max a b)) ∧ w = w' := by
  rw [Int.max_def]
  by_cases h : b < a
  · have h3 : (if a ≤ b then b else a) = a := by rw [if_neg (by omega)]
    rw [h3]
    clear h3
    go_enter Try.func31, Try.ntmps31
    go_wp2
    go_ret
    exact ⟨rfl, rfl⟩
  · have h3 : (if a ≤ b then b else a) = b := by rw [if_pos (by omega)]
    rw [h3]
    have h2 : a ≤ b := by omega
    clear h3
    go_enter Try.func31, Try.ntmps31
    go_wp2
    go_ret
    exact ⟨rfl, rfl⟩
/-- What LastRead says. -/
def lastSays (x : Sr) (l : List Ms) : Int × Bool := if slOk x l then (lastOf (readL x l) l.length, true) else (0, false)
theorem lastSays_no {x : Sr} {l : List Ms} (h : slOk x l = false) : lastSays x l = (0, false) := by simp only [lastSays, h]; rfl
theorem lastSays_yes {x : Sr} {l : List Ms} (h : slOk x l = true) : lastSays x l = (lastOf (readL x l) l.length, true) := by simp only [lastSays, h, if_true]
set_option maxHeartbeats 2000000 in
theorem implLastRead_any (v : Value) (x : Sr) (l : List Ms) (w : World) (h : RMsS w w.heap.size v l) (hn : l.length ≤ 1048576) :
    Calls Try.prog 10 #[SrV x, v] w (RetV w (.tuple #[.int .i64 (lastSays x l).1, .bool (lastSays x l).2])) := by
  have HG := Lib.hid (fun w h => (slRing_any _ x l w h hn : Calls _ _ #[_, v] w _))
  have hr := h
  obtain ⟨A, c, rfl, _, hlc, _⟩ := h
  cases hg : slOk x l
  · rw [lastSays_no hg]
    rw [hg] at HG
    obtain ⟨k, hh⟩ := x
    simp only [SrV] at HG ⊢
    have hW : Below w.heap.size w (w.alloc (.cells #[.int .i64 k, .bool hh] 25)) := (Below.refl _ _).alloc (Nat.le_refl _) _
    clear hg
    go_enter Try.func10, Try.ntmps10
    go_wp2_with fail
    refine (HG.out _ ((hr.step hW (Nat.le_refl _)).more hW.size)).mono ?_; rintro e w1 ⟨rfl, hb⟩
    go_wp2_with fail
    go_ret2
    exact ⟨rfl, hW.trans (hb.mono hW.size)⟩
  rw [lastSays_yes hg]
  have HF := Lib.hid (fun w h => (readAt_any _ x l w h hg : Calls _ _ #[_, .slice A l.length c] w _))
  rw [hg] at HG
  have hl20 := (areMs_in (slOk_in hg).2).1
  have hl2 : (l.length : Int) ≤ 20 := by omega
  have HLN := Lib.hid (readL_len x l)
  generalize readL x l = L at *
  clear hg
  obtain ⟨k, hh⟩ := x
  simp only [SrV] at HG HF ⊢
  have hW : Below w.heap.size w (w.alloc (.cells #[.int .i64 k, .bool hh] 25)) := (Below.refl _ _).alloc (Nat.le_refl _) _
  have hB := BK.made w 25 #[.int .i64 k, .bool hh]
  go_enter Try.func10, Try.ntmps10
  go_wp2_with fail
  refine (HG.out _ ((hr.step hW (Nat.le_refl _)).more hW.size)).mono ?_; rintro e w1 ⟨rfl, hb⟩
  have T1 := hW.trans (hb.mono hW.size)
  have hB1 := hB.step hb
  have c0 := hB1.cell 0
  have c1 := hB1.cell 1
  simp at c0 c1
  have HR1 := Lib.hid ((hr.step T1 (Nat.le_refl _)).more T1.size)
  have HT1 := Lib.hid T1
  clear hW hB hb hB1 T1 hr
  go_wp2_with fail
  refine (HF.out _ HR1.out).mono ?_; rintro e w2 ⟨u, rfl, ho, hb2⟩
  have HB := Lib.hid (HT1.out.trans (hb2.mono HT1.out.size))
  obtain ⟨A3, c3, hu, _, hcells⟩ := ho.ri
  rw [HLN.out] at hu
  subst hu
  clear ho hb2
  go_wp2_with fail
  go_loopw [17, 6] (fun i m wr => ∃ j : Nat, j ≤ l.length ∧ i = .int .i64 j ∧ m = .int .i64 (lastOf L j) ∧ Below w2.heap.size w2 wr) (fun i _ _ => l.length - (intOf i).toNat)
  case atStart => exact ⟨0, Nat.zero_le _, rfl, rfl, Below.refl _ _⟩
  case round =>
    obtain ⟨j, hj, rfl, rfl, hbw⟩ := hrel
    by_cases hlt : j < l.length
    · have hjI : (j : Int) < (l.length : Int) := by omega
      have HS := Lib.hid (lastOf_succ L j (by rw [HLN.out]; exact hlt))
      obtain ⟨b2, off2, hA2, hbB2, hcell⟩ := hcells (by rw [HLN.out]; omega)
      subst hA2
      have d0 := (hbw.cell (p := ⟨b2, off2 + j, none⟩) hbB2).trans (hcell j (by rw [HLN.out]; exact hlt))
      clear hcell
      generalize lastOf L j = m at HS
      generalize L.getD j 0 = y at d0 HS
      have HBW := Lib.hid hbw
      clear hbw
      by_cases h : m < y
      · have hE : Hid (lastOf L (j + 1) = y) := by show _ = _; rw [HS.out, Int.max_def]; rw [if_pos (by omega)]
        go_wp2_with fail
        go_roundw
        case rel => exact ⟨j + 1, by omega, by go_num, by rw [hE.out], HBW.out⟩
        case measure => simp [intOf]; omega
      · have hE : Hid (lastOf L (j + 1) = m) := by show _ = _; rw [HS.out, Int.max_def]; split <;> omega
        have h2 : y ≤ m := by omega
        go_wp2_with fail
        go_roundw
        case rel => exact ⟨j + 1, by omega, by go_num, by rw [hE.out], HBW.out⟩
        case measure => simp [intOf]; omega
    · obtain rfl : j = l.length := by omega
      have HBW := Lib.hid (HB.out.trans (hbw.mono HB.out.size))
      clear hbw
      go_wp2_with fail
      go_ret2
      exact ⟨rfl, HBW.out⟩
set_option maxHeartbeats 2000000 in
theorem specLastRead_any (v : Value) (x : Sr) (l : List Ms) (w : World) (h : RMsS w w.heap.size v l) (hn : l.length ≤ 1048576) :
    Calls Try.prog 11 #[SrV x, v] w (RetV w (.tuple #[.int .i64 (lastSays x l).1, .bool (lastSays x l).2])) := by
  have HG := Lib.hid (fun w h => (slAll_any _ x l w h hn : Calls _ _ #[_, v] w _))
  have hr := h
  obtain ⟨A, c, rfl, _, hlc, _⟩ := h
  cases hg : slOk x l
  · rw [lastSays_no hg]
    rw [hg] at HG
    obtain ⟨k, hh⟩ := x
    simp only [SrV] at HG ⊢
    have hW : Below w.heap.size w (w.alloc (.cells #[.int .i64 k, .bool hh] 25)) := (Below.refl _ _).alloc (Nat.le_refl _) _
    clear hg
    go_enter Try.func11, Try.ntmps11
    go_wp2_with fail
    refine (HG.out _ ((hr.step hW (Nat.le_refl _)).more hW.size)).mono ?_; rintro e w1 ⟨rfl, hb⟩
    go_wp2_with fail
    go_ret2
    exact ⟨rfl, hW.trans (hb.mono hW.size)⟩
  rw [lastSays_yes hg]
  have HF := Lib.hid (fun w h => slWhole_any x l A c w hg hlc.1 h)
  have HQ := Lib.hid (tabR_need hg)
  rw [hg] at HG
  have hl20 := (areMs_in (slOk_in hg).2).1
  have hl2 : (l.length : Int) ≤ 20 := by omega
  have HLN := Lib.hid (readL_len x l)
  generalize readL x l = L at *
  clear hg
  obtain ⟨k, hh⟩ := x
  simp only [SrV] at HG HF ⊢
  have hW : Below w.heap.size w (w.alloc (.cells #[.int .i64 k, .bool hh] 25)) := (Below.refl _ _).alloc (Nat.le_refl _) _
  have hB := BK.made w 25 #[.int .i64 k, .bool hh]
  go_enter Try.func11, Try.ntmps11
  go_wp2_with fail
  refine (HG.out _ ((hr.step hW (Nat.le_refl _)).more hW.size)).mono ?_; rintro e w1 ⟨rfl, hb⟩
  have T1 := hW.trans (hb.mono hW.size)
  have hB1 := hB.step hb
  have c0 := hB1.cell 0
  have c1 := hB1.cell 1
  simp at c0 c1
  have HR1 := Lib.hid ((hr.step T1 (Nat.le_refl _)).more T1.size)
  have HT1 := Lib.hid T1
  clear hW hB hb hB1 T1 hr
  go_wp2_with fail
  refine (HF.out _ HR1.out).mono ?_; rintro e w2 ⟨g, sb, fb, qb, vf, vr, rfl, hp, hS⟩
  have hf := hS.read
  rw [HQ.out] at hf
  have HB := Lib.hid (HT1.out.trans (hS.bel.mono HT1.out.size))
  have c5 := hS.run.cell 5
  simp only [List.getElem?_toArray, List.getElem?_cons_zero, List.getElem?_cons_succ] at c5
  obtain ⟨A3, c3, hu, _, hcells⟩ := (hf.oi (Nat.le_trans HT1.out.size hp.q0)).ri
  rw [HLN.out] at hu
  subst hu
  clear hf hS hp c0 c1
  go_wp2_with fail
  go_loopw [20, 6] (fun i m wr => ∃ j : Nat, j ≤ l.length ∧ i = .int .i64 j ∧ m = .int .i64 (lastOf L j) ∧ Below w2.heap.size w2 wr) (fun i _ _ => l.length - (intOf i).toNat)
  case atStart => exact ⟨0, Nat.zero_le _, rfl, rfl, Below.refl _ _⟩
  case round =>
    obtain ⟨j, hj, rfl, rfl, hbw⟩ := hrel
    by_cases hlt : j < l.length
    · have hjI : (j : Int) < (l.length : Int) := by omega
      have HS := Lib.hid (lastOf_succ L j (by rw [HLN.out]; exact hlt))
      obtain ⟨b2, off2, hA2, hbB2, hcell⟩ := hcells (by rw [HLN.out]; omega)
      subst hA2
      have d0 := (hbw.cell (p := ⟨b2, off2 + j, none⟩) hbB2).trans (hcell j (by rw [HLN.out]; exact hlt))
      clear hcell
      generalize lastOf L j = m at HS
      generalize L.getD j 0 = y at d0 HS
      have HBW := Lib.hid hbw
      clear hbw
      go_wp2_with fail
      refine (slMost_any _ _ _).mono ?_; rintro e w' ⟨rfl, rfl⟩
      go_wp2_with fail
      go_roundw
      case rel => exact ⟨j + 1, by omega, by go_num, by rw [HS.out], HBW.out⟩
      case measure => simp [intOf]; omega
    · obtain rfl : j = l.length := by omega
      have HBW := Lib.hid (HB.out.trans (hbw.mono HB.out.size))
      clear hbw
      go_wp2_with fail
      go_ret2
      exact ⟨rfl, HBW.out⟩
end Go.Proofs.Ytmhcmbgbniaokaa
