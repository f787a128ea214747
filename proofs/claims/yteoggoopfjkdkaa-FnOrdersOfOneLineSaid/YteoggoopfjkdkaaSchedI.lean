/-
  Whether starts are a schedule: the program's side.
-/
import Derived.Test.YteoggoopfjkdkaaOrderOf
namespace Go.Proofs.Yteoggoopfjkdkaa
open Go.RowKit
set_option maxRecDepth 100000
set_option linter.unusedVariables false

/-- When the line is free behind the first k. -/
def FreeAt (js : List Jb) (ss d : List Int) (k : Nat) (f : Int) : Prop := (k = 0 → f = 0) ∧ ∀ q, q + 1 = k → f = sk ss (d.getD q 0) + js[(d.getD q 0).toNat]!.l
/-- The cells of jobs and starts. -/
theorem job_cells {w : World} {B : Nat} {v : Value} {js : List Jb} (h : RJbS w B v js) (hp : 0 < js.length) : ∃ b off c, v = .slice (some ⟨b, off, none⟩) js.length c ∧ b < B ∧
    ∀ i, i < js.length → w.cell? ⟨b, off + i * 3, none⟩ = some (.int .i64 js[i]!.t) ∧ w.cell? ⟨b, off + i * 3 + 1, none⟩ = some (.int .i64 js[i]!.c) ∧ w.cell? ⟨b, off + i * 3 + 2, none⟩ = some (.int .i64 js[i]!.l) := by
  have h0 := h
  obtain ⟨A, c, rfl, _⟩ := h
  obtain ⟨_, _, _, hc⟩ := h0.parts
  obtain ⟨b, off, rfl, hb, hcell⟩ := hc hp
  exact ⟨b, off, c, rfl, hb, hcell⟩

set_option maxHeartbeats 2000000 in
theorem implIsSched_any (v u : Value) (js : List Jb) (ss : List Int) (w : World) (h : RJbS w w.heap.size v js) (h' : RI w w.heap.size u ss) (hg : givenB js ss = true) :
    Calls Try.prog 51 #[v, u] w (RetV w (.bool (schedB js ss))) := by
  obtain ⟨hjl, hn, hsb, hjb⟩ := givenB_in hg
  have HO := Lib.hid (orderOf_any u ss w h' hn)
  have HJ := Lib.hid h
  obtain ⟨A, c, rfl, _⟩ := h
  obtain ⟨A', c', rfl, hlc', hc'⟩ := h'
  obtain ⟨n, hN⟩ : ∃ n, ss.length = n := ⟨_, rfl⟩
  rw [hjl] at HJ ⊢
  rw [hN] at HJ HO hc' hlc' hn hsb hjb ⊢
  have HN := Lib.hid hN
  have hn' : (n : Int) ≤ 20 := by omega
  obtain ⟨R, hR⟩ : ∃ R, R = schedB js ss := ⟨_, rfl⟩
  rw [← hR]
  have HR := Lib.hid hR
  have HG := Lib.hid hg
  have HJL := Lib.hid hjl
  have HSB := Lib.hid hsb
  have HJB := Lib.hid hjb
  have HC := Lib.hid hc'
  clear hR hg hjl hsb hjb hc' hN
  go_enter Try.func51, Try.ntmps51
  go_wp2_with fail
  refine HO.out.mono ?_; rintro e w1 ⟨o, d, rfl, hod, hsd, hoi, hb1⟩
  have hri := hoi.ri
  obtain ⟨A3, c3, rfl, hlc3, hc3⟩ := hri
  have hs1 := hb1.size
  have hdl := hod.len
  rw [HN.out] at hod hsd hdl
  rw [hdl] at hc3 hlc3 ⊢
  have HOD := Lib.hid hod
  have HSD := Lib.hid hsd
  have HC3 := Lib.hid hc3
  have HT := Lib.hid hb1
  clear hod hsd hdl hoi hc3 hb1
  go_wp2_with fail
  go_loopw [5, 11] (fun f i wr => ∃ (k : Nat) (x : Int), k ≤ n ∧ i = .int .i64 k ∧ f = .int .i64 x ∧ Chain js ss d k ∧ FreeAt js ss d k x ∧ 0 ≤ x ∧ x ≤ 6000 ∧ Below w1.heap.size w1 wr) (fun _ i _ => n - (intOf i).toNat)
  case atStart => exact ⟨0, 0, Nat.zero_le _, rfl, rfl, fun p hp => absurd hp (by omega), ⟨fun _ => rfl, fun q hq => absurd hq (by omega)⟩, by omega, by omega, Below.refl _ _⟩
  case round =>
    obtain ⟨k, x, hk, rfl, rfl, hch, hfr, hx0, hx1, hbw⟩ := hrel
    have HBW := Lib.hid hbw
    have HCH := Lib.hid hch
    have HFR := Lib.hid hfr
    have hs2 := hbw.size
    have HT2 := Lib.hid (HT.out.trans (hbw.mono hs1))
    clear hbw hch hfr
    by_cases hlt : k < n
    · have hlt' : (k : Int) < (n : Int) := by omega
      have r1 := HOD.out.rng k hlt
      obtain ⟨X, hX⟩ : ∃ X : Nat, d.getD k 0 = X := ⟨(d.getD k 0).toNat, by omega⟩
      have hXn : X < n := by omega
      have hXn' : (X : Int) < (n : Int) := by omega
      obtain ⟨b3, off3, rfl, hb3, hcell3⟩ := HC3.out (by omega)
      have hc0 := (HBW.out.cell (p := ⟨b3, off3 + k, none⟩) hb3).trans (hcell3 k hlt)
      rw [hX] at hc0
      clear hcell3
      obtain ⟨b2, off2, rfl, hb2, hcell2⟩ := HC.out (by omega)
      have hc1 := (HT2.out.cell (p := ⟨b2, off2 + X, none⟩) hb2).trans (hcell2 X hXn)
      clear hcell2
      obtain ⟨b4, off4, c4, hv4, hb4, hcell4⟩ := job_cells HJ.out (by rw [HJL.out, HN.out]; omega)
      rw [HJL.out, HN.out] at hv4 hcell4
      injection hv4 with hA4 _ hC4
      subst hA4; subst hC4
      obtain ⟨hd0, _, hd2⟩ := hcell4 X hXn
      have hc2 := (HT2.out.cell (p := ⟨b4, off4 + X * 3, none⟩) hb4).trans hd0
      have hc4 := (HT2.out.cell (p := ⟨b4, off4 + X * 3 + 2, none⟩) hb4).trans hd2
      clear hcell4 hd0 hd2
      have s1 := HSB.out X hXn
      have j1 := HJB.out X hXn
      have HNT : Hid (ss.getD X 0 < js[X]!.t → R = false) := fun h9 => by
        rw [HR.out]
        exact sched_no_t (k := k) (by rw [HN.out]; exact HOD.out) (by rw [HN.out]; exact hlt) (by rw [hX, sk_nat, Int.toNat_natCast]; exact h9)
      have HNF : Hid (ss.getD X 0 < x → R = false) := fun h9 => by
        rw [HR.out]
        obtain ⟨q, hq⟩ : ∃ q, q + 1 = k := by
          rcases Nat.eq_zero_or_pos k with h0 | h0
          · have := HFR.out.1 h0; omega
          · exact ⟨k - 1, by omega⟩
        have h8 := HFR.out.2 q hq
        exact sched_no_l (k := k) (q := q) HG.out (by rw [HN.out]; exact HOD.out) (by rw [HN.out]; exact HSD.out) (by rw [HN.out]; exact hlt) hq (by rw [← h8, hX, sk_nat]; exact h9)
      have HGO : Hid (¬ ss.getD X 0 < js[X]!.t → ¬ ss.getD X 0 < x → Chain js ss d (k + 1) ∧ FreeAt js ss d (k + 1) (ss.getD X 0 + js[X]!.l)) := fun h8 h9 => by
        refine ⟨HCH.out.succ (by rw [hX, sk_nat, Int.toNat_natCast]; omega) (fun q hq => ?_), fun h => absurd h (by omega), fun q hq => ?_⟩
        · have h7 := HFR.out.2 q hq
          rw [← h7, hX, sk_nat]; omega
        · obtain rfl : q = k := by omega
          rw [hX, sk_nat, Int.toNat_natCast]
      have HX := Lib.hid hX
      generalize ss.getD X 0 = sx at hc1 s1 HNT HNF HGO
      generalize js[X]! = y at hc2 hc4 j1 HNT HGO
      obtain ⟨yt, yc, yl⟩ := y
      simp only at hc2 hc4 j1 HNT HGO
      clear hX
      have hxs : 0 ≤ sx + yl ∧ sx + yl ≤ 6000 := by omega
      have HRET := Lib.hid (below_drewN HT2.out)
      by_cases hm : yt < x
      · by_cases h8 : sx < x
        · have HF := Lib.hid (HNF.out h8)
          go_wp2_with fail
          go_quiet (fail)
          go_wp2_with fail
          go_ret
          exact ⟨congrArg (fun z => Ending.returned (.bool z)) HF.out.symm, HRET.out _⟩
        · have HF := Lib.hid (HGO.out (by omega) (by omega))
          go_wp2_with fail
          go_quiet (fail)
          go_wp2_with fail
          go_quiet (fail)
          go_wp2_with fail
          go_roundw
          case rel => exact ⟨k + 1, sx + yl, by omega, by go_num, rfl, HF.out.1, HF.out.2, by omega, by omega, below_drewN HBW.out _⟩
          case measure => simp [intOf]; omega
      · by_cases h8 : sx < yt
        · have HF := Lib.hid (HNT.out h8)
          go_wp2_with fail
          go_quiet (fail)
          go_wp2_with fail
          go_ret
          exact ⟨congrArg (fun z => Ending.returned (.bool z)) HF.out.symm, HRET.out _⟩
        · have HF := Lib.hid (HGO.out (by omega) (by omega))
          go_wp2_with fail
          go_quiet (fail)
          go_wp2_with fail
          go_quiet (fail)
          go_wp2_with fail
          go_roundw
          case rel => exact ⟨k + 1, sx + yl, by omega, by go_num, rfl, HF.out.1, HF.out.2, by omega, by omega, below_drewN HBW.out _⟩
          case measure => simp [intOf]; omega
    · obtain rfl : k = n := by omega
      have HF : Hid (R = true) := by
        show _ = _
        rw [HR.out]
        exact Chain.sched HG.out (by rw [HN.out]; exact HOD.out) (by rw [HN.out]; exact HSD.out) (by rw [HN.out]; exact HCH.out)
      go_wp2_with fail
      go_ret
      exact ⟨congrArg (fun z => Ending.returned (.bool z)) HF.out.symm, HT2.out⟩

theorem given_no_len {js : List Jb} {ss : List Int} (h : js.length ≠ ss.length) : givenB js ss = false := by simp [givenB, h]
set_option maxHeartbeats 1000000 in
theorem implGiven_any (v u : Value) (js : List Jb) (ss : List Int) (w : World) (h : RJbS w w.heap.size v js) (h' : RI w w.heap.size u ss) (hn : js.length ≤ 1048576) (hn2 : ss.length ≤ 1048576) :
    Calls Try.prog 50 #[v, u] w (RetV w (.bool (givenB js ss))) := by
  have HA := Lib.hid (implAreJobs_any v js w h hn)
  have HU := Lib.hid (fun (w' : World) (hb : Below w.heap.size w w') => areAllUpTo_any u ss 5000 w' ((h'.step hb (Nat.le_refl _)).more hb.size) hn2)
  obtain ⟨A, c, rfl, _⟩ := h
  obtain ⟨A', c', rfl, _⟩ := h'
  have hl1 : (js.length : Int) ≤ 1048576 := by omega
  have hl2 : (ss.length : Int) ≤ 1048576 := by omega
  cases hj : areJb js
  · have HF : Hid (givenB js ss = false) := by show _ = _; simp [givenB, hj]
    rw [hj] at HA
    clear hj
    go_enter Try.func50, Try.ntmps50
    go_wp2_with fail
    refine HA.out.mono ?_; rintro e w1 ⟨rfl, hb⟩
    go_wp2_with fail
    go_ret
    exact ⟨congrArg (fun z => Ending.returned (.bool z)) HF.out.symm, hb⟩
  · rw [hj] at HA
    by_cases he : js.length = ss.length
    · have HF : Hid (givenB js ss = okAll 0 5000 ss) := by show _ = _; simp [givenB, hj, he]
      have he1 : (((ss.length : Int)) == ((js.length : Int))) = true := by rw [he]; simp
      have he2 : (ss.length == js.length) = true := by rw [he]; simp
      clear hj he
      go_enter Try.func50, Try.ntmps50
      go_wp2_with fail
      refine HA.out.mono ?_; rintro e w1 ⟨rfl, hb⟩
      go_wp2_with fail
      refine (HU.out _ hb).mono ?_; rintro e w2 ⟨rfl, rfl⟩
      go_wp2_with fail
      go_ret
      exact ⟨congrArg (fun z => Ending.returned (.bool z)) HF.out.symm, hb⟩
    · have HF : Hid (givenB js ss = false) := given_no_len he
      have he1 : (((ss.length : Int)) == ((js.length : Int))) = false := by simp; omega
      have he2 : (ss.length == js.length) = false := by simp; omega
      clear hj he
      go_enter Try.func50, Try.ntmps50
      go_wp2_with fail
      refine HA.out.mono ?_; rintro e w1 ⟨rfl, hb⟩
      go_wp2_with fail
      go_ret
      exact ⟨congrArg (fun z => Ending.returned (.bool z)) HF.out.symm, hb⟩
set_option maxHeartbeats 1000000 in
theorem implScheduled_any (v u : Value) (js : List Jb) (ss : List Int) (w : World) (h : RJbS w w.heap.size v js) (h' : RI w w.heap.size u ss) (hn : js.length ≤ 1048576) (hn2 : ss.length ≤ 1048576) :
    Calls Try.prog 49 #[v, u] w (RetV w (.bool (schd js ss))) := by
  have HA := Lib.hid (implGiven_any v u js ss w h h' hn hn2)
  cases hg : givenB js ss
  · have HF : Hid (schd js ss = false) := by show _ = _; simp [schd, hg]
    rw [hg] at HA
    clear hg
    go_enter Try.func49, Try.ntmps49
    go_wp2_with fail
    refine HA.out.mono ?_; rintro e w1 ⟨rfl, hb⟩
    go_wp2_with fail
    go_ret
    exact ⟨congrArg (fun z => Ending.returned (.bool z)) HF.out.symm, hb⟩
  · have HF : Hid (schd js ss = schedB js ss) := by show _ = _; simp [schd, hg]
    have HS := Lib.hid (fun (w' : World) (hb : Below w.heap.size w w') => implIsSched_any v u js ss w' ((h.step hb (Nat.le_refl _)).more hb.size) ((h'.step hb (Nat.le_refl _)).more hb.size) hg)
    rw [hg] at HA
    clear hg
    go_enter Try.func49, Try.ntmps49
    go_wp2_with fail
    refine HA.out.mono ?_; rintro e w1 ⟨rfl, hb⟩
    go_wp2_with fail
    refine (HS.out _ hb).mono ?_; rintro e w2 ⟨rfl, hb2⟩
    go_wp2_with fail
    go_ret
    exact ⟨congrArg (fun z => Ending.returned (.bool z)) HF.out.symm, hb.trans (hb2.mono hb.size)⟩
end Go.Proofs.Yteoggoopfjkdkaa
