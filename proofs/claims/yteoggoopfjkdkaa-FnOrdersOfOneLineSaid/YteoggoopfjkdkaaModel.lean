/-
  A line of the model: its cells; what waits; the tick at which one can begin; one begins.
-/
import Derived.Test.YteoggoopfjkdkaaMathLine
import Derived.Test.YteoggoopfjkdkaaHeld
namespace Go.Proofs.Yteoggoopfjkdkaa
open Go.RowKit
set_option maxRecDepth 100000
set_option linter.unusedVariables false

/-- A line of the model: block g, the jobs below it, the starts behind it. -/
structure PN (w : World) (g : Nat) (vj : Value) (js : List Jb) (vs : Value) (sp : List Int) (now done : Int) : Prop where
  bk : BK w g 72 #[vj, vs, .int .i64 now, .int .i64 done]
  jobs : RJbS w g vj js
  row : Acc 3 w (g + 1) vs sp
theorem Acc.far {E : TypeId} {w w' : World} {lo a b : Nat} {v : Value} {l : List Int} (h : Acc E w lo v l) (hg : Wr a b w w') (hlo : b ≤ lo) : Acc E w' lo v l := by
  have h0 := h
  rcases h.2 with ⟨rfl, hn⟩ | ⟨g, c, cur, rfl, hgl, _⟩
  · exact ⟨h.1, .inl ⟨rfl, hn⟩⟩
  · exact row_far h0 hg (.inr (by omega))
theorem PN.step {w w' : World} {g : Nat} {vj vs : Value} {js : List Jb} {sp : List Int} {now done : Int} (h : PN w g vj js vs sp now done) (hb : Below w.heap.size w w') : PN w' g vj js vs sp now done :=
  ⟨h.bk.step hb, RK.below h.jobs (hb.mono (Nat.le_of_lt h.bk.1)), Acc.step h.row hb⟩
theorem PN.lt {w : World} {g : Nat} {vj vs : Value} {js : List Jb} {sp : List Int} {now done : Int} (h : PN w g vj js vs sp now done) : g < w.heap.size := h.bk.1
/-- Job i waits. -/
def wtB (js : List Jb) (sp : List Int) (now : Int) (i : Nat) : Bool := decide (sp.getD i 0 < 0) && decide (js[i]!.t ≤ now)
set_option maxHeartbeats 1000000 in
theorem prWaits_any (g : Nat) (vj vs : Value) (js : List Jb) (sp : List Int) (now done : Int) (i : Nat) (w : World) (h : PN w g vj js vs sp now done) (hi : i < js.length) (hl : sp.length = js.length) (hn : js.length ≤ 20) :
    Calls Try.prog 56 #[.pointer (some ⟨g, 0, none⟩), .int .i64 i] w fun e w' => e = .returned (.bool (wtB js sp now i)) ∧ ∃ m, w' = w.drewN m := by
  have c0 := h.bk.cell 0
  have c1 := h.bk.cell 1
  have c2 := h.bk.cell 2
  simp at c0 c1 c2
  obtain ⟨b, off, c, rfl, hb, e0, _, _⟩ := left_cells h.jobs i hi
  obtain ⟨b2, off2, c9, hvs, d0⟩ : ∃ b2 off2 c9, vs = .slice (some ⟨b2, off2, none⟩) sp.length c9 ∧ w.cell? ⟨b2, off2 + i, none⟩ = some (.int .i64 (sp.getD i 0)) := by
    obtain ⟨A, c, hv, hlc, hc⟩ := (Acc.oi h.row).ri
    obtain ⟨b2, off2, rfl, _, hcell⟩ := hc (by omega)
    exact ⟨b2, off2, c, hv, hcell i (by omega)⟩
  subst hvs
  rw [hl] at c1
  have hii : (i : Int) < (js.length : Int) := by omega
  have hn' : (js.length : Int) ≤ 20 := by omega
  obtain ⟨s, hs⟩ : ∃ s, sp.getD i 0 = s := ⟨_, rfl⟩
  obtain ⟨t, ht⟩ : ∃ t, js[i]!.t = t := ⟨_, rfl⟩
  have HV : Hid (wtB js sp now i = (decide (s < 0) && decide (t ≤ now))) := by show _ = _; rw [wtB, hs, ht]
  rw [hs] at d0
  rw [ht] at e0
  clear hs ht h
  by_cases h1 : s < 0
  · have HF : Hid (wtB js sp now i = decide (t ≤ now)) := by show _ = _; rw [HV.out, decide_eq_true h1, Bool.true_and]
    go_enter Try.func56, Try.ntmps56
    go_wp2_with fail
    go_quiet (fail)
    go_wp2_with fail
    go_ret
    exact ⟨congrArg (fun z => Ending.returned (.bool z)) HF.out.symm, _, rfl⟩
  · have HF : Hid (wtB js sp now i = false) := by show _ = _; rw [HV.out, decide_eq_false h1, Bool.false_and]
    have h1d : decide (s < 0) = false := decide_eq_false h1
    go_enter Try.func56, Try.ntmps56
    go_wp2_with fail
    go_quiet (fail)
    go_wp2_with fail
    go_ret
    exact ⟨congrArg (fun z => Ending.returned (.bool z)) HF.out.symm, _, rfl⟩
/-- Some job waits. -/
def someB (js : List Jb) (sp : List Int) (now : Int) : Nat → Bool
  | 0 => false
  | m + 1 => someB js sp now m || wtB js sp now m
theorem someB_at {js : List Jb} {sp : List Int} {now : Int} {m k : Nat} (hk : k < m) (h : wtB js sp now k = true) : someB js sp now m = true := by
  induction m with
  | zero => omega
  | succ m ih =>
    rw [someB]
    by_cases e : k = m
    · rw [← e, h, Bool.or_true]
    · rw [ih (by omega), Bool.true_or]
theorem someB_no {js : List Jb} {sp : List Int} {now : Int} {m : Nat} (h : ∀ j, j < m → wtB js sp now j = false) : someB js sp now m = false := by
  induction m with
  | zero => rfl
  | succ m ih => rw [someB, ih (fun j hj => h j (by omega)), h m (by omega)]; rfl
set_option maxHeartbeats 1000000 in
theorem prSome_any (g : Nat) (vj vs : Value) (js : List Jb) (sp : List Int) (now done : Int) (w : World) (h : PN w g vj js vs sp now done) (hl : sp.length = js.length) (hn : js.length ≤ 20) :
    Calls Try.prog 66 #[.pointer (some ⟨g, 0, none⟩)] w fun e w' => e = .returned (.bool (someB js sp now js.length)) ∧ ∃ m, w' = w.drewN m := by
  have c0 := h.bk.cell 0
  simp at c0
  obtain ⟨A, c, rfl, _⟩ := h.jobs
  have hn' : (js.length : Int) ≤ 20 := by omega
  have HWT := Lib.hid (fun (i m : Nat) (hi : i < js.length) => prWaits_any g _ vs js sp now done i (w.drewN m) ⟨h.bk, h.jobs, h.row⟩ hi hl hn)
  obtain ⟨n, hN⟩ : ∃ n, js.length = n := ⟨_, rfl⟩
  obtain ⟨R, hR⟩ : ∃ R, R = someB js sp now js.length := ⟨_, rfl⟩
  rw [← hR]
  have HR := Lib.hid hR
  rw [hN] at HR HWT c0 hn'
  clear h hR hN hl hn
  go_enter Try.func66, Try.ntmps66
  go_wp2_with fail
  go_loopw [9] (fun i wr => ∃ j m : Nat, j ≤ n ∧ i = .int .i64 j ∧ (∀ q, q < j → wtB js sp now q = false) ∧ wr = w.drewN m) (fun i _ => n - (intOf i).toNat)
  case atStart => exact ⟨0, 0, Nat.zero_le _, rfl, fun q hq => absurd hq (by omega), rfl⟩
  case round =>
    obtain ⟨j, m, hj, rfl, hno, rfl⟩ := hrel
    have HNO := Lib.hid hno
    clear hno
    by_cases hlt : j < n
    · have hji : (j : Int) < (n : Int) := by omega
      have HQ := Lib.hid (HWT.out j m hlt)
      cases hw : wtB js sp now j
      · have HN : Hid (∀ q, q < j + 1 → wtB js sp now q = false) := fun q hq => by
          by_cases e : q = j
          · rw [e]; exact hw
          · exact HNO.out q (by omega)
        rw [hw] at HQ
        clear hw
        go_wp2_with fail
        refine HQ.out.mono ?_; rintro e w2 ⟨rfl, m2, rfl⟩
        go_wp2_with fail
        go_roundw
        case rel => exact ⟨j + 1, m + m2, by omega, by go_num, HN.out, rfl⟩
        case measure => simp [intOf]; omega
      · have HX : Hid (R = true) := by show _ = _; rw [HR.out]; exact someB_at hlt hw
        rw [hw] at HQ
        clear hw
        go_wp2_with fail
        refine HQ.out.mono ?_; rintro e w2 ⟨rfl, m2, rfl⟩
        go_wp2_with fail
        go_ret
        exact ⟨congrArg (fun z => Ending.returned (.bool z)) HX.out.symm, m + m2, rfl⟩
    · obtain rfl : j = n := by omega
      have HX : Hid (R = false) := by show _ = _; rw [HR.out]; exact someB_no HNO.out
      go_wp2_with fail
      go_ret
      exact ⟨congrArg (fun z => Ending.returned (.bool z)) HX.out.symm, m, rfl⟩
theorem PN.drewN {w : World} {g : Nat} {vj vs : Value} {js : List Jb} {sp : List Int} {now done : Int} (h : PN w g vj js vs sp now done) (m : Nat) : PN (w.drewN m) g vj js vs sp now done := ⟨h.bk, h.jobs, h.row⟩
def lsT (a b : Int) : Int := if a < b then a else b
theorem l1Least_any (a b : Int) (w : World) : Calls Try.prog 67 #[.int .i64 a, .int .i64 b] w fun e w' => e = .returned (.int .i64 (lsT a b)) ∧ w = w' := by
  by_cases h : a < b
  · have e : lsT a b = a := if_pos h
    rw [e]
    clear e
    go_enter Try.func67, Try.ntmps67
    go_wp2
    go_ret
    exact ⟨rfl, rfl⟩
  · have e : lsT a b = b := if_neg h
    rw [e]
    clear e
    go_enter Try.func67, Try.ntmps67
    go_wp2
    go_ret
    exact ⟨rfl, rfl⟩
/-- The least tick of those that have not begun, of the first m. -/
def leastT (js : List Jb) (sp : List Int) : Nat → Int
  | 0 => 5000
  | m + 1 => if sp.getD m 0 < 0 then lsT (leastT js sp m) js[m]!.t else leastT js sp m
theorem leastT_le (js : List Jb) (sp : List Int) (hb : ∀ i, i < js.length → 0 ≤ js[i]!.t ∧ js[i]!.t ≤ 1000) (m : Nat) (hm : m ≤ js.length) : 0 ≤ leastT js sp m ∧ leastT js sp m ≤ 5000 := by
  induction m with
  | zero => simp [leastT]
  | succ m ih =>
    have := ih (by omega)
    have := hb m (by omega)
    rw [leastT]
    split
    · unfold lsT; split <;> omega
    · omega
/-- Since the ticks do not fall it is the first one's. -/
theorem leastT_is {js : List Jb} {sp : List Int} {u n : Nat} (hs : ∀ i j, i ≤ j → j < n → js[i]!.t ≤ js[j]!.t) (hb : ∀ i, i < n → js[i]!.t ≤ 1000) (hu : u < n) (h1 : sp.getD u 0 < 0) (h2 : ∀ j, j < u → ¬ sp.getD j 0 < 0) : leastT js sp n = js[u]!.t := by
  have key : ∀ m, m ≤ n → (m ≤ u → leastT js sp m = 5000) ∧ (u < m → leastT js sp m = js[u]!.t) := by
    intro m
    induction m with
    | zero => intro _; exact ⟨fun _ => rfl, fun h => absurd h (by omega)⟩
    | succ m ih =>
      intro hm
      obtain ⟨i1, i2⟩ := ih (by omega)
      constructor
      · intro h
        rw [leastT, if_neg (h2 m (by omega)), i1 (by omega)]
      · intro h
        by_cases e : u = m
        · subst e
          rw [leastT, if_pos h1, i1 (Nat.le_refl _), lsT, if_neg]
          have := hb u hu
          omega
        · rw [leastT, i2 (by omega)]
          split
          · unfold lsT
            split
            · rfl
            · have := hs u m (by omega) (by omega)
              omega
          · rfl
  exact (key n (Nat.le_refl _)).2 hu
/-- The tick behind 'skip'. -/
def skipT (js : List Jb) (sp : List Int) (now done : Int) : Int := if someB js sp now js.length || decide (done = js.length) then now else leastT js sp js.length
def RetSkip (g : Nat) (vj vs : Value) (js : List Jb) (sp : List Int) (now done : Int) (w : World) (e : Ending) (w' : World) : Prop :=
  e = .returned (.bool (!(someB js sp now js.length || decide (done = js.length)))) ∧ PN w' g vj js vs sp (skipT js sp now done) done ∧ Below g w w'
set_option maxHeartbeats 2000000 in
theorem prSkip_any (g : Nat) (vj vs : Value) (js : List Jb) (sp : List Int) (now done : Int) (w : World) (h : PN w g vj js vs sp now done) (hl : sp.length = js.length) (hA : areJb js = true) (hd : 0 ≤ done ∧ done ≤ js.length) :
    Calls Try.prog 45 #[.pointer (some ⟨g, 0, none⟩)] w (RetSkip g vj vs js sp now done w) := by
  have hgs := h.lt
  have c0 := h.bk.cell 0
  have c1 := h.bk.cell 1
  have c3 := h.bk.cell 3
  simp at c0 c1 c3
  have hn := (areJb_in hA).1
  have hJ := fun k (hk : k < js.length) => left_cells h.jobs k hk
  have hRI := (Acc.oi h.row).ri
  obtain ⟨A, c, rfl, _⟩ := h.jobs
  obtain ⟨A2, c2, rfl, hlc2, hc2⟩ := hRI
  have hJB : ∀ i, i < js.length → 0 ≤ js[i]!.t ∧ js[i]!.t ≤ 1000 := fun i hi => by
    have := (areJb_in hA).2.1 _ (List.getElem_mem hi)
    rw [getElem!_pos js i hi]
    omega
  have hLB := leastT_le js sp hJB
  have HSO := Lib.hid (fun m => prSome_any g _ _ js sp now done (w.drewN m) (h.drewN m) hl hn)
  obtain ⟨SK, hSK⟩ : ∃ x, skipT js sp now done = x := ⟨_, rfl⟩
  unfold RetSkip
  rw [hSK]
  obtain ⟨LE, hLE⟩ : ∃ x, leastT js sp js.length = x := ⟨_, rfl⟩
  have HLE := Lib.hid hLE
  have hskip : SK = if someB js sp now js.length || decide (done = js.length) then now else LE := by rw [← hSK, ← hLE]; rfl
  generalize someB js sp now js.length = SB at HSO hskip ⊢
  obtain ⟨n, hN⟩ : ∃ n, js.length = n := ⟨_, rfl⟩
  rw [hN] at h
  have HPN := Lib.hid h
  rw [hl] at c1 hc2
  rw [hN] at c0 c1 hn hJ hJB hLB HLE hd hskip hc2 ⊢
  have hn' : (n : Int) ≤ 20 := by omega
  have HJ := Lib.hid hJ
  have HJB := Lib.hid hJB
  have HLB := Lib.hid hLB
  have HC2 := Lib.hid hc2
  clear h hl hN hSK hJ hJB hLB hc2 hLE
  cases SB
  · by_cases hdn : done = n
    · have e1 : SK = now := by rw [hskip, decide_eq_true hdn]; rfl
      rw [e1, decide_eq_true hdn]
      have hq : (done == (n : Int)) = true := by simp [hdn]
      clear hskip e1 hdn
      go_enter Try.func45, Try.ntmps45
      go_wp2_with fail
      go_quiet ((go_at_call 66; exact Calls.quiet_of (HSO.out _)))
      go_wp2_with fail
      go_ret
      exact ⟨rfl, HPN.out.drewN _, below_drewN (Below.refl _ _) _⟩
    · have e1 : SK = LE := by rw [hskip, decide_eq_false hdn]; rfl
      rw [e1, decide_eq_false hdn]
      have hq : (done == (n : Int)) = false := by simp [hdn]
      clear hskip e1 hdn
      go_enter Try.func45, Try.ntmps45
      go_wp2_with fail
      go_quiet ((go_at_call 66; exact Calls.quiet_of (HSO.out _)))
      go_wp2_with fail
      go_loopw [3, 25] (fun x i wr => ∃ j : Nat, j ≤ n ∧ i = .int .i64 j ∧ x = .int .i64 (leastT js sp j) ∧ Below w.heap.size w wr) (fun _ i _ => n - (intOf i).toNat)
      case atStart => exact ⟨0, Nat.zero_le _, rfl, rfl, below_drewN (Below.refl _ _) _⟩
      case round =>
        obtain ⟨j, hj, rfl, rfl, hbw⟩ := hrel
        have hs1 := hbw.size
        have HBW := Lib.hid hbw
        have d1 := (hbw.cell (p := ⟨g, 1, none⟩) hgs).trans c1
        have hlb := HLB.out j hj
        by_cases hlt : j < n
        · have hji : (j : Int) < (n : Int) := by omega
          obtain ⟨b, off, c9, hv, hb, e0, e1, e2⟩ := HJ.out j hlt
          injection hv with hA9 _ hC9
          subst hA9; subst hC9
          have y0 := (hbw.cell (p := ⟨b, off + j * 3, none⟩) (by simp; omega)).trans e0
          have y1 := (hbw.cell (p := ⟨b, off + j * 3 + 1, none⟩) (by simp; omega)).trans e1
          have y2 := (hbw.cell (p := ⟨b, off + j * 3 + 2, none⟩) (by simp; omega)).trans e2
          obtain ⟨b2, off2, hA2, hb2, hcell⟩ := HC2.out (by omega)
          subst hA2
          have x0 := (hbw.cell (p := ⟨b2, off2 + j, none⟩) hb2).trans (hcell j hlt)
          have HST : Hid (leastT js sp (j + 1) = if sp.getD j 0 < 0 then lsT (leastT js sp j) js[j]!.t else leastT js sp j) := rfl
          have jb := HJB.out j hlt
          clear e0 e1 e2 hcell hbw
          generalize leastT js sp j = L at HST hlb ⊢
          generalize js[j]! = y at y0 y1 y2 HST jb
          generalize sp.getD j 0 = s at x0 HST
          obtain ⟨yt, yc, yl⟩ := y
          simp only at y0 y1 y2 HST jb
          have q1 : (wr.alloc (.cells #[.int .i64 yt, .int .i64 yc, .int .i64 yl] 43)).cell? ⟨g, 1, none⟩ = _ := (World.cell?_alloc_lt wr _ ⟨g, 1, none⟩ (show g < wr.heap.size by omega)).trans d1
          have q2 : (wr.alloc (.cells #[.int .i64 yt, .int .i64 yc, .int .i64 yl] 43)).cell? ⟨b2, off2 + j, none⟩ = _ := (World.cell?_alloc_lt wr _ _ (show b2 < wr.heap.size by omega)).trans x0
          have HNB := Lib.hid (HBW.out.alloc hs1 (.cells #[.int .i64 yt, .int .i64 yc, .int .i64 yl] 43))
          by_cases hsn : s < 0
          · have HF : Hid (leastT js sp (j + 1) = lsT L yt) := by show _ = _; rw [HST.out, if_pos hsn]
            go_wp2_with (go_at_call 67; refine (l1Least_any _ _ _).mono ?_; rintro e w' ⟨rfl, rfl⟩)
            go_roundw
            case rel => exact ⟨j + 1, by omega, by go_num, by rw [HF.out], HNB.out⟩
            case measure => simp [intOf]; omega
          · have HF : Hid (leastT js sp (j + 1) = L) := by show _ = _; rw [HST.out, if_neg hsn]
            go_wp2_with fail
            go_roundw
            case rel => exact ⟨j + 1, by omega, by go_num, by rw [HF.out], HNB.out⟩
            case measure => simp [intOf]; omega
        · obtain rfl : j = n := by omega
          have hpn := HPN.out.step hbw
          have d2 := hpn.bk.cell 2
          have f2 := hpn.bk.free 2
          simp at d2
          have HP2 : Hid (PN (wr.setCell ⟨g, 2, none⟩ (.int .i64 LE)) g (.slice A j c) js (.slice A2 sp.length c2) sp LE done) := by
            have hk := hpn.bk.put 2 (.int .i64 LE)
            have hwr := (Wr.refl g (g + 1) wr).at 2 (.int .i64 LE)
            exact ⟨hk, RK.below hpn.jobs (hwr.below (Nat.le_refl _) (Nat.le_of_lt hpn.lt)), Acc.far hpn.row hwr (Nat.le_refl _)⟩
          have HB2 : Hid (Below g w (wr.setCell ⟨g, 2, none⟩ (.int .i64 LE))) := (HBW.out.mono (Nat.le_of_lt hgs)).setCell (p := ⟨g, 2, none⟩) (Nat.le_refl _) _
          rw [HLE.out]
          clear hpn hbw
          go_wp2_with fail
          go_ret
          exact ⟨rfl, HP2.out, HB2.out⟩
  · have e1 : SK = now := by rw [hskip]; rfl
    rw [e1]
    clear hskip e1
    go_enter Try.func45, Try.ntmps45
    go_wp2_with fail
    go_quiet ((go_at_call 66; exact Calls.quiet_of (HSO.out _)))
    go_wp2_with fail
    go_ret
    exact ⟨rfl, HPN.out.drewN _, below_drewN (Below.refl _ _) _⟩
end Go.Proofs.Yteoggoopfjkdkaa
