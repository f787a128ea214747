/-
  The contracts of TurnInserted, both sides.
-/
import Derived.Test.YtfphkgialmjfnaaThruA
import Derived.Test.YtfphkgialmjfnaaTurnMs
namespace Go.Proofs.Ytfphkgialmjfnaa
open Go.RowKit Go.Conc
set_option maxRecDepth 100000
set_option linter.unusedVariables false

/-- What TurnInserted says. -/
def tiSays (x : Ir) (l : List Ms) (b : Int) : List Int × Bool := if (inOk x l && wi b 0 (x.n - 1)) = true then (tabl (endOf x (l.map (turnMs x.n b))).I l.length, true) else ([], false)
theorem tiSays_len (x : Ir) (l : List Ms) (b : Int) : (tiSays x l b).1.length ≤ 1048576 := by
  unfold tiSays
  split
  · next h =>
    simp only [Bool.and_eq_true] at h
    have := (areMs_in (inOk_in h.1).2).1
    simp only [tabl_len]
    omega
  · simp
theorem turned_in {x : Ir} {l : List Ms} {b : Int} (h : isIr x = true) : turned ⟨x.n, false⟩ l b = if (inOk x l && wi b 0 (x.n - 1)) = true then (l.map (turnMs x.n b), true) else ([], false) := by
  have h2 := (isIr_in h).1
  have e : slOk ⟨x.n, false⟩ l = inOk x l := by rw [areMs_both x.n l h2]; simp [inOk, h]
  unfold turned
  rw [e]
set_option maxHeartbeats 4000000 in
theorem specTurnInserted_any (v : Value) (x : Ir) (l : List Ms) (b : Int) (w : World) (h : RMsS w w.heap.size v l) (hn : l.length ≤ 1048576) (hb : (Lit.int .i64 b).wf = true) :
    Calls Try.prog 19 #[IrV x, v, .int .i64 b] w (RetLB 3 w (tiSays x l b).1 (tiSays x l b).2) := by
  have HG := Lib.hid (fun w h => (inAll_any _ x l w h hn : Calls _ _ #[_, v] w _))
  have hr := h
  obtain ⟨A, c, rfl, _, hlc, _⟩ := h
  have hW : Below w.heap.size w (w.alloc (.cells #[.int .i64 x.n, .int .i64 x.r, .bool x.h] 29)) := (Below.refl _ _).alloc (Nat.le_refl _) _
  have hB := BK.made w 29 #[.int .i64 x.n, .int .i64 x.r, .bool x.h]
  cases hg : inOk x l
  · rw [show tiSays x l b = ([], false) from by simp [tiSays, hg]]
    rw [hg] at HG
    unfold IrV at HG ⊢
    clear hg hB
    go_enter Try.func19, Try.ntmps19
    go_wp2_with fail
    refine (HG.out _ ((hr.step hW (Nat.le_refl _)).more hW.size)).mono ?_; rintro e w1 ⟨rfl, hb⟩
    go_wp2_with fail
    go_ret2
    exact ⟨_, rfl, .inl ⟨rfl, none, 0, rfl, by simp, fun _ => rfl⟩, hW.trans (hb.mono hW.size)⟩
  have hin := (isIr_in (inOk_in hg).1).1
  have HC0 : Hid (∀ w, Calls Try.prog 40 #[.int .i64 b, .int .i64 0, .int .i64 (x.n - 1)] w fun e w' => e = .returned (.bool (wi b 0 (x.n - 1))) ∧ w = w') := fun w => l1In_wi b 0 (x.n - 1) w
  cases g0 : wi b 0 (x.n - 1)
  · rw [show tiSays x l b = ([], false) from by simp [tiSays, g0]]
    rw [hg] at HG
    rw [g0] at HC0
    unfold IrV at HG ⊢
    clear hg g0
    go_enter Try.func19, Try.ntmps19
    go_wp2_with fail
    refine (HG.out _ ((hr.step hW (Nat.le_refl _)).more hW.size)).mono ?_; rintro e w1 ⟨rfl, hb⟩
    have T1 := hW.trans (hb.mono hW.size)
    have hB1 := hB.step hb
    have c0 := hB1.cell 0
    have c1 := hB1.cell 1
    have c2 := hB1.cell 2
    simp only [List.getElem?_toArray, List.getElem?_cons_zero, List.getElem?_cons_succ] at c0 c1 c2
    go_wp2_with fail
    refine (HC0.out _).mono ?_; rintro e w' ⟨rfl, rfl⟩
    go_wp2_with fail
    go_ret2
    exact ⟨_, rfl, .inl ⟨rfl, none, 0, rfl, by simp, fun _ => rfl⟩, T1⟩
  have hTU : turned ⟨x.n, false⟩ l b = (l.map (turnMs x.n b), true) := by rw [turned_in (inOk_in hg).1, hg, g0]; rfl
  have HT := Lib.hid (fun w h => (specTurnMessages_any _ ⟨x.n, false⟩ l b w h hn hb : Calls _ _ #[_, .slice A l.length c, _] w _))
  rw [hTU] at HT
  have HF := Lib.hid (fun v w h => (inDone_any v x (l.map (turnMs x.n b)) w h (inOk_turn hg g0) : Calls _ _ _ w _))
  have hml : (l.map (turnMs x.n b)).length = l.length := by simp
  clear hTU
  rw [show tiSays x l b = (tabl (endOf x (l.map (turnMs x.n b))).I l.length, true) from by simp [tiSays, hg, g0]]
  rw [hg] at HG
  rw [g0] at HC0
  unfold SrV at HT
  unfold IrV at HG HF ⊢
  clear hg g0
  go_enter Try.func19, Try.ntmps19
  go_wp2_with fail
  refine (HG.out _ ((hr.step hW (Nat.le_refl _)).more hW.size)).mono ?_; rintro e w1 ⟨rfl, hb⟩
  have T1 := hW.trans (hb.mono hW.size)
  have hB1 := hB.step hb
  have c0 := hB1.cell 0
  have c1 := hB1.cell 1
  have c2 := hB1.cell 2
  simp only [List.getElem?_toArray, List.getElem?_cons_zero, List.getElem?_cons_succ] at c0 c1 c2
  have HR1 := Lib.hid ((hr.step T1 (Nat.le_refl _)).more T1.size)
  have HT1 := Lib.hid T1
  have HB1 := Lib.hid hB1
  clear hW hB hb hB1 T1 hr
  go_wp2_with fail
  refine (HC0.out _).mono ?_; rintro e w' ⟨rfl, rfl⟩
  go_wp2_with fail
  refine (HT.out _ HR1.out).mono ?_; rintro e w2 ⟨u, rfl, ho, hb2⟩
  have HT2 := Lib.hid (HT1.out.trans (hb2.mono HT1.out.size))
  have hB2 := HB1.out.step hb2
  have d0 := hB2.cell 0
  have d1 := hB2.cell 1
  have d2 := hB2.cell 2
  simp only [List.getElem?_toArray, List.getElem?_cons_zero, List.getElem?_cons_succ] at d0 d1 d2
  have hrk : RMsS w2 w2.heap.size u (l.map (turnMs x.n b)) := ho.rk
  have HC := Lib.hid (HF.out u w2 hrk)
  clear c0 c1 c2 hB2 ho hb2
  obtain ⟨Au, cu, hu, _⟩ := hrk
  rw [hml] at hu
  subst hu
  go_wp2_with fail
  refine HC.out.mono ?_; rintro e w3 ⟨A3, c3, hAc, p, vs, rfl, ⟨hpA, hpc⟩, hp, hS⟩
  have HO := Lib.hid (hS.ins.oi (Nat.le_trans HT2.out.size hp.i0) (Nat.le_refl _))
  have HB := Lib.hid (HT2.out.trans (hS.bel.mono HT2.out.size))
  have c4 := hS.run.cell 6
  simp only [List.getElem?_toArray, List.getElem?_cons_zero, List.getElem?_cons_succ] at c4
  obtain ⟨a4, n4, c4', hv⟩ := hS.ins.slice
  rw [hv] at c4 HO
  rw [hml] at HO
  clear hS hp d0 d1 d2 hpA hpc hAc hv
  go_wp2_with fail
  go_ret2
  exact ⟨_, rfl, HO.out, HB.out⟩
set_option maxHeartbeats 4000000 in
theorem implTurnInserted_any (v : Value) (x : Ir) (l : List Ms) (b : Int) (w : World) (h : RMsS w w.heap.size v l) (hn : l.length ≤ 1048576) (hb : (Lit.int .i64 b).wf = true) :
    Calls Try.prog 20 #[IrV x, v, .int .i64 b] w (RetLB 3 w (tiSays x l b).1 (tiSays x l b).2) := by
  have H1 := Lib.hid fun w => implIsInsertRing_any x w
  have H2 := Lib.hid fun w => asSlotRing_any x w
  have hr := h
  obtain ⟨A, c, rfl, _, hlc, _⟩ := h
  have hW : Below w.heap.size w (w.alloc (.cells #[.int .i64 x.n, .int .i64 x.r, .bool x.h] 29)) := (Below.refl _ _).alloc (Nat.le_refl _) _
  have hB := BK.made w 29 #[.int .i64 x.n, .int .i64 x.r, .bool x.h]
  cases hi : isIr x
  · rw [show tiSays x l b = ([], false) from by simp [tiSays, inOk, hi]]
    rw [hi] at H1
    unfold IrV at H1 ⊢
    clear hi hB
    go_enter Try.func20, Try.ntmps20
    go_wp2_with fail
    refine (H1.out _).mono ?_; rintro e w1 ⟨rfl, hb⟩
    go_wp2_with fail
    go_ret2
    exact ⟨_, rfl, .inl ⟨rfl, none, 0, rfl, by simp, fun _ => rfl⟩, hW.trans (hb.mono hW.size)⟩
  have HT := Lib.hid (fun w h => (implTurnMessages_any _ ⟨x.n, false⟩ l b w h hn hb : Calls _ _ #[_, .slice A l.length c, _] w _))
  rw [turned_in hi] at HT
  rw [hi] at H1
  cases hok : (inOk x l && wi b 0 (x.n - 1))
  · rw [show tiSays x l b = ([], false) from by simp only [tiSays, hok]; rfl]
    rw [hok] at HT
    rw [show (if false = true then (l.map (turnMs x.n b), true) else ([], false)) = (([] : List Ms), false) from rfl] at HT
    unfold SrV at H2 HT
    unfold IrV at H1 H2 ⊢
    clear hi hok
    go_enter Try.func20, Try.ntmps20
    go_wp2_with fail
    refine (H1.out _).mono ?_; rintro e w1 ⟨rfl, hb1⟩
    have T1 := hW.trans (hb1.mono hW.size)
    have hB1 := hB.step hb1
    have c0 := hB1.cell 0
    have c1 := hB1.cell 1
    have c2 := hB1.cell 2
    simp only [List.getElem?_toArray, List.getElem?_cons_zero, List.getElem?_cons_succ] at c0 c1 c2
    have HB1 := Lib.hid hB1
    have HT1 := Lib.hid T1
    clear hB1 T1 hb1
    go_wp2_with fail
    refine (H2.out _).mono ?_; rintro e w2 ⟨rfl, hb2⟩
    have HT2 := Lib.hid (HT1.out.trans (hb2.mono HT1.out.size))
    have HB2 := Lib.hid (HB1.out.step hb2)
    have HR2 := Lib.hid ((hr.step HT2.out (Nat.le_refl _)).more HT2.out.size)
    have d0 := HB2.out.cell 0
    have d1 := HB2.out.cell 1
    have d2 := HB2.out.cell 2
    simp only [List.getElem?_toArray, List.getElem?_cons_zero, List.getElem?_cons_succ] at d0 d1 d2
    clear c0 c1 c2 hb2
    go_wp2_with fail
    refine (HT.out _ HR2.out).mono ?_; rintro e w3 ⟨u, rfl, ho, hb3⟩
    have HT3 := Lib.hid (HT2.out.trans (hb3.mono HT2.out.size))
    obtain ⟨Au, cu, hu, _⟩ := ho.rk
    subst hu
    clear ho hb3
    go_wp2_with fail
    go_ret2
    exact ⟨_, rfl, .inl ⟨rfl, none, 0, rfl, by simp, fun _ => rfl⟩, HT3.out⟩
  · rw [show tiSays x l b = (tabl (endOf x (l.map (turnMs x.n b))).I l.length, true) from by simp only [tiSays, hok]; rfl]
    rw [hok] at HT
    rw [show (if true = true then (l.map (turnMs x.n b), true) else ([], false)) = (l.map (turnMs x.n b), true) from rfl] at HT
    have hok2 : inOk x l = true ∧ wi b 0 (x.n - 1) = true := by simpa using hok
    have hml : (l.map (turnMs x.n b)).length = l.length := by simp
    have HF := Lib.hid (fun v w h => (implInsertedAt_any v x (l.map (turnMs x.n b)) w h (by rw [hml]; exact hn) : Calls _ _ _ w _))
    rw [insSays_yes (inOk_turn hok2.1 hok2.2), hml] at HF
    unfold SrV at H2 HT
    unfold IrV at H1 H2 HF ⊢
    clear hi hok hok2
    go_enter Try.func20, Try.ntmps20
    go_wp2_with fail
    refine (H1.out _).mono ?_; rintro e w1 ⟨rfl, hb1⟩
    have T1 := hW.trans (hb1.mono hW.size)
    have hB1 := hB.step hb1
    have c0 := hB1.cell 0
    have c1 := hB1.cell 1
    have c2 := hB1.cell 2
    simp only [List.getElem?_toArray, List.getElem?_cons_zero, List.getElem?_cons_succ] at c0 c1 c2
    have HB1 := Lib.hid hB1
    have HT1 := Lib.hid T1
    clear hB1 T1 hb1
    go_wp2_with fail
    refine (H2.out _).mono ?_; rintro e w2 ⟨rfl, hb2⟩
    have HT2 := Lib.hid (HT1.out.trans (hb2.mono HT1.out.size))
    have HB2 := Lib.hid (HB1.out.step hb2)
    have HR2 := Lib.hid ((hr.step HT2.out (Nat.le_refl _)).more HT2.out.size)
    have d0 := HB2.out.cell 0
    have d1 := HB2.out.cell 1
    have d2 := HB2.out.cell 2
    simp only [List.getElem?_toArray, List.getElem?_cons_zero, List.getElem?_cons_succ] at d0 d1 d2
    clear c0 c1 c2 hb2
    go_wp2_with fail
    refine (HT.out _ HR2.out).mono ?_; rintro e w3 ⟨u, rfl, ho, hb3⟩
    have HT3 := Lib.hid (HT2.out.trans (hb3.mono HT2.out.size))
    have hB3 := HB2.out.step hb3
    have e0 := hB3.cell 0
    have e1 := hB3.cell 1
    have e2 := hB3.cell 2
    simp only [List.getElem?_toArray, List.getElem?_cons_zero, List.getElem?_cons_succ] at e0 e1 e2
    have hrk : RMsS w3 w3.heap.size u (l.map (turnMs x.n b)) := ho.rk
    have HC := Lib.hid (HF.out u w3 hrk)
    obtain ⟨Au, cu, hu, _⟩ := hrk
    rw [hml] at hu
    subst hu
    clear ho hb3 hB3 d0 d1 d2
    go_wp2_with fail
    refine HC.out.mono ?_; rintro e w4 ⟨u4, rfl, ho4, hb4⟩
    have HB4 := Lib.hid (HT3.out.trans (hb4.mono HT3.out.size))
    have HO4 := Lib.hid (ho4.wide HT3.out.size (Nat.le_refl _))
    clear ho4 hb4
    go_wp2_with fail
    go_ret2
    exact ⟨_, rfl, HO4.out, HB4.out⟩
end Go.Proofs.Ytfphkgialmjfnaa
