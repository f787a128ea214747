/-
  The contracts of LinksAt and CellsUnderway, both sides.
-/
import Derived.Test.YtfphkgialmjfnaaThruA
import Derived.Test.YtfphkgialmjfnaaHeld
import Derived.Deep.QuietTactic
import Derived.BigQuiet
namespace Go.Proofs.Ytfphkgialmjfnaa
open Go.RowKit Go.Conc
set_option maxRecDepth 100000
set_option linter.unusedVariables false

theorem inTick0_any (t : Int) (w : World) : Calls Try.prog 45 #[.int .i64 t] w fun e w' => e = .returned (.bool (wi t 0 600)) ∧ w = w' := by
  go_enter Try.func45, Try.ntmps45
  go_wp2_with (go_at_call 40; refine (l1In_wi _ _ _ _).mono ?_; rintro e w' ⟨rfl, rfl⟩)
  go_ret
  exact ⟨rfl, rfl⟩
/-- What LinksAt says. -/
def lkSays (x : Ir) (l : List Ms) (b : Int) : List Int × Bool := if (inOk x l && wi b 0 600) = true then (tabl (fun s => (((iwOf x l).run (b.toNat + 1)).L s : Int)) x.n.toNat, true) else ([], false)
theorem lkSays_len (x : Ir) (l : List Ms) (b : Int) : (lkSays x l b).1.length ≤ 1048576 := by
  unfold lkSays
  split
  · next h =>
    simp only [Bool.and_eq_true] at h
    have := (isIr_in (inOk_in h.1).1).1
    simp only [tabl_len]
    omega
  · simp
set_option maxHeartbeats 4000000 in
theorem implLinksAt_any (v : Value) (x : Ir) (l : List Ms) (b : Int) (w : World) (h : RMsS w w.heap.size v l) (hn : l.length ≤ 1048576) (hb : (Lit.int .i64 b).wf = true) :
    Calls Try.prog 27 #[IrV x, v, .int .i64 b] w (RetLB 3 w (lkSays x l b).1 (lkSays x l b).2) := by
  have HG := Lib.hid (fun w h => (isInsertRingWith_any _ x l w h hn : Calls _ _ #[_, v] w _))
  have hr := h
  obtain ⟨A, c, rfl, _, hlc, _⟩ := h
  have hW : Below w.heap.size w (w.alloc (.cells #[.int .i64 x.n, .int .i64 x.r, .bool x.h] 29)) := (Below.refl _ _).alloc (Nat.le_refl _) _
  have hB := BK.made w 29 #[.int .i64 x.n, .int .i64 x.r, .bool x.h]
  cases hg : inOk x l
  · rw [show lkSays x l b = ([], false) from by simp [lkSays, hg]]
    rw [hg] at HG
    unfold IrV at HG ⊢
    clear hg hB
    go_enter Try.func27, Try.ntmps27
    go_wp2_with fail
    refine (HG.out _ ((hr.step hW (Nat.le_refl _)).more hW.size)).mono ?_; rintro e w1 ⟨rfl, hb⟩
    go_wp2_with fail
    go_ret2
    exact ⟨_, rfl, .inl ⟨rfl, none, 0, rfl, by simp, fun _ => rfl⟩, hW.trans (hb.mono hW.size)⟩
  have hin := (isIr_in (inOk_in hg).1).1
  have HC0 : Hid (∀ w, Calls Try.prog 47 #[.int .i64 b, .int .i64 0, .int .i64 (600)] w fun e w' => e = .returned (.bool (wi b 0 (600))) ∧ w = w') := fun w => isWithin_wi b 0 (600) w
  cases g0 : wi b 0 (600)
  · rw [show lkSays x l b = ([], false) from by simp [lkSays, g0]]
    rw [hg] at HG
    rw [g0] at HC0
    unfold IrV at HG ⊢
    clear hg g0
    go_enter Try.func27, Try.ntmps27
    go_wp2_with fail
    refine (HG.out _ ((hr.step hW (Nat.le_refl _)).more hW.size)).mono ?_; rintro e w1 ⟨rfl, hb⟩
    have T1 := hW.trans (hb.mono hW.size)
    have hB1 := hB.step hb
    have c0 := hB1.cell 0
    have c1 := hB1.cell 1
    have c2 := hB1.cell 2
    simp only [List.getElem?_toArray, List.getElem?_cons_zero, List.getElem?_cons_succ] at c0 c1 c2
    go_wp2_with fail
    refine (HC0.out _).mono ?_; rintro e w' ⟨rfl, rfl⟩
    go_wp2_with fail
    go_ret2
    exact ⟨_, rfl, .inl ⟨rfl, none, 0, rfl, by simp, fun _ => rfl⟩, T1⟩
  obtain ⟨k, rfl⟩ : ∃ k : Nat, b = (k : Int) := ⟨b.toNat, by simp [wi] at g0; omega⟩
  have hk : k ≤ 600 := by simp [wi] at g0; omega
  have hkI : (k : Int) ≤ 600 := by omega
  have HF := Lib.hid (fun w h => (walkThrough_any _ x l k w h hg (by omega) : Calls _ _ #[_, .slice A l.length c, _] w _))
  rw [show lkSays x l (k : Int) = (tabl (fun s => (((iwOf x l).run ((k : Int).toNat + 1)).L s : Int)) x.n.toNat, true) from by simp [lkSays, hg, g0]]
  rw [hg] at HG
  rw [g0] at HC0
  unfold IrV at HG HF ⊢
  clear hg g0
  go_enter Try.func27, Try.ntmps27
  go_wp2_with fail
  refine (HG.out _ ((hr.step hW (Nat.le_refl _)).more hW.size)).mono ?_; rintro e w1 ⟨rfl, hb⟩
  have T1 := hW.trans (hb.mono hW.size)
  have hB1 := hB.step hb
  have c0 := hB1.cell 0
  have c1 := hB1.cell 1
  have c2 := hB1.cell 2
  simp only [List.getElem?_toArray, List.getElem?_cons_zero, List.getElem?_cons_succ] at c0 c1 c2
  have HR1 := Lib.hid ((hr.step T1 (Nat.le_refl _)).more T1.size)
  have HT1 := Lib.hid T1
  have HB1 := Lib.hid hB1
  clear hW hB hb hB1 T1 hr
  go_wp2_with fail
  refine (HC0.out _).mono ?_; rintro e w' ⟨rfl, rfl⟩
  go_wp2_with fail
  refine (HF.out _ HR1.out).mono ?_; rintro e w2 ⟨A2, c2', hAc, p, rfl, ⟨hpA, hpc⟩, hp, hS⟩
  have HO := Lib.hid (hS.sent.oi (Nat.le_trans HT1.out.size hp.s0) (Nat.le_refl _))
  rw [tabl_len] at HO
  have HB := Lib.hid (HT1.out.trans (hS.bel.mono HT1.out.size))
  have c4 := hS.run.cell 7
  simp only [List.getElem?_toArray, List.getElem?_cons_zero, List.getElem?_cons_succ] at c4
  clear hS hp c0 c1 c2 hpA hpc hAc
  go_wp2_with fail
  go_ret2
  exact ⟨_, rfl, HO.out, HB.out⟩
set_option maxHeartbeats 4000000 in
theorem specLinksAt_any (v : Value) (x : Ir) (l : List Ms) (b : Int) (w : World) (h : RMsS w w.heap.size v l) (hn : l.length ≤ 1048576) (hb : (Lit.int .i64 b).wf = true) :
    Calls Try.prog 26 #[IrV x, v, .int .i64 b] w (RetLB 3 w (lkSays x l b).1 (lkSays x l b).2) := by
  have HG := Lib.hid (fun w h => (inAll_any _ x l w h hn : Calls _ _ #[_, v] w _))
  have hr := h
  obtain ⟨A, c, rfl, _, hlc, _⟩ := h
  have hW : Below w.heap.size w (w.alloc (.cells #[.int .i64 x.n, .int .i64 x.r, .bool x.h] 29)) := (Below.refl _ _).alloc (Nat.le_refl _) _
  have hB := BK.made w 29 #[.int .i64 x.n, .int .i64 x.r, .bool x.h]
  cases hg : inOk x l
  · rw [show lkSays x l b = ([], false) from by simp [lkSays, hg]]
    rw [hg] at HG
    unfold IrV at HG ⊢
    clear hg hB
    go_enter Try.func26, Try.ntmps26
    go_wp2_with fail
    refine (HG.out _ ((hr.step hW (Nat.le_refl _)).more hW.size)).mono ?_; rintro e w1 ⟨rfl, hb⟩
    go_wp2_with fail
    go_ret2
    exact ⟨_, rfl, .inl ⟨rfl, none, 0, rfl, by simp, fun _ => rfl⟩, hW.trans (hb.mono hW.size)⟩
  have hin := (isIr_in (inOk_in hg).1).1
  have HC0 : Hid (∀ w, Calls Try.prog 45 #[.int .i64 b] w fun e w' => e = .returned (.bool (wi b 0 600)) ∧ w = w') := fun w => inTick0_any b w
  cases g0 : wi b 0 600
  · rw [show lkSays x l b = ([], false) from by simp [lkSays, g0]]
    rw [hg] at HG
    rw [g0] at HC0
    unfold IrV at HG ⊢
    clear hg g0
    go_enter Try.func26, Try.ntmps26
    go_wp2_with fail
    refine (HG.out _ ((hr.step hW (Nat.le_refl _)).more hW.size)).mono ?_; rintro e w1 ⟨rfl, hb⟩
    have T1 := hW.trans (hb.mono hW.size)
    have hB1 := hB.step hb
    have c0 := hB1.cell 0
    have c1 := hB1.cell 1
    have c2 := hB1.cell 2
    simp only [List.getElem?_toArray, List.getElem?_cons_zero, List.getElem?_cons_succ] at c0 c1 c2
    go_wp2_with fail
    refine (HC0.out _).mono ?_; rintro e w' ⟨rfl, rfl⟩
    go_wp2_with fail
    go_ret2
    exact ⟨_, rfl, .inl ⟨rfl, none, 0, rfl, by simp, fun _ => rfl⟩, T1⟩
  obtain ⟨k, rfl⟩ : ∃ k : Nat, b = (k : Int) := ⟨b.toNat, by simp [wi] at g0; omega⟩
  have hk : k ≤ 600 := by simp [wi] at g0; omega
  have hkI : (k : Int) ≤ 600 := by omega
  have HF := Lib.hid (fun w h => (inEnd_any _ x l (k + 1) w h hg (by omega) : Calls _ _ #[_, .slice A l.length c, _] w _))
  rw [show ((k + 1 : Nat) : Int) = (k : Int) + 1 by omega] at HF
  rw [show lkSays x l (k : Int) = (tabl (fun s => (((iwOf x l).run ((k : Int).toNat + 1)).L s : Int)) x.n.toNat, true) from by simp [lkSays, hg, g0]]
  rw [hg] at HG
  rw [g0] at HC0
  unfold IrV at HG HF ⊢
  clear hg g0
  go_enter Try.func26, Try.ntmps26
  go_wp2_with fail
  refine (HG.out _ ((hr.step hW (Nat.le_refl _)).more hW.size)).mono ?_; rintro e w1 ⟨rfl, hb⟩
  have T1 := hW.trans (hb.mono hW.size)
  have hB1 := hB.step hb
  have c0 := hB1.cell 0
  have c1 := hB1.cell 1
  have c2 := hB1.cell 2
  simp only [List.getElem?_toArray, List.getElem?_cons_zero, List.getElem?_cons_succ] at c0 c1 c2
  have HR1 := Lib.hid ((hr.step T1 (Nat.le_refl _)).more T1.size)
  have HT1 := Lib.hid T1
  have HB1 := Lib.hid hB1
  clear hW hB hb hB1 T1 hr
  go_wp2_with fail
  refine (HC0.out _).mono ?_; rintro e w' ⟨rfl, rfl⟩
  go_wp2_with fail
  refine (HF.out _ HR1.out).mono ?_; rintro e w2 ⟨A2, c2', hAc, p, vs, rfl, ⟨hpA, hpc⟩, hp, hS⟩
  have HO := Lib.hid (hS.links.oi (Nat.le_trans HT1.out.size hp.l0) (Nat.le_refl _))
  rw [tabl_len] at HO
  have HB := Lib.hid (HT1.out.trans (hS.bel.mono HT1.out.size))
  have c4 := hS.run.cell 5
  simp only [List.getElem?_toArray, List.getElem?_cons_zero, List.getElem?_cons_succ] at c4
  clear hS hp c0 c1 c2 hpA hpc hAc
  go_wp2_with fail
  go_ret2
  exact ⟨_, rfl, HO.out, HB.out⟩
/-- What CellsUnderway says. -/
def unB (x : Ir) (l : List Ms) (k : Nat) (c : Nat) : Bool := decide ((endO x l).I c ≤ (k : Int) ∧ (k : Int) ≤ (endO x l).R c - 1)
def unSays (x : Ir) (l : List Ms) (b : Int) : Int × Bool := if (inOk x l && wi b 0 600) = true then ((cntU (unB x l b.toNat) l.length : Nat), true) else (0, false)
set_option maxHeartbeats 4000000 in
theorem implCellsUnderway_any (v : Value) (x : Ir) (l : List Ms) (b : Int) (w : World) (h : RMsS w w.heap.size v l) (hn : l.length ≤ 1048576) (hb : (Lit.int .i64 b).wf = true) :
    Calls Try.prog 31 #[IrV x, v, .int .i64 b] w (RetV w (.tuple #[.int .i64 (unSays x l b).1, .bool (unSays x l b).2])) := by
  have HG := Lib.hid (fun w h => (isInsertRingWith_any _ x l w h hn : Calls _ _ #[_, v] w _))
  have hr := h
  obtain ⟨A, c, rfl, _, hlc, _⟩ := h
  have hW : Below w.heap.size w (w.alloc (.cells #[.int .i64 x.n, .int .i64 x.r, .bool x.h] 29)) := (Below.refl _ _).alloc (Nat.le_refl _) _
  have hB := BK.made w 29 #[.int .i64 x.n, .int .i64 x.r, .bool x.h]
  cases hg : inOk x l
  · rw [show unSays x l b = (0, false) from by simp [unSays, hg]]
    rw [hg] at HG
    unfold IrV at HG ⊢
    clear hg hB
    go_enter Try.func31, Try.ntmps31
    go_wp2_with fail
    refine (HG.out _ ((hr.step hW (Nat.le_refl _)).more hW.size)).mono ?_; rintro e w1 ⟨rfl, hb⟩
    go_wp2_with fail
    go_ret2
    exact ⟨rfl, hW.trans (hb.mono hW.size)⟩
  have hin := (isIr_in (inOk_in hg).1).1
  have HC0 : Hid (∀ w, Calls Try.prog 47 #[.int .i64 b, .int .i64 0, .int .i64 (600)] w fun e w' => e = .returned (.bool (wi b 0 (600))) ∧ w = w') := fun w => isWithin_wi b 0 (600) w
  cases g0 : wi b 0 (600)
  · rw [show unSays x l b = (0, false) from by simp [unSays, g0]]
    rw [hg] at HG
    rw [g0] at HC0
    unfold IrV at HG ⊢
    clear hg g0
    go_enter Try.func31, Try.ntmps31
    go_wp2_with fail
    refine (HG.out _ ((hr.step hW (Nat.le_refl _)).more hW.size)).mono ?_; rintro e w1 ⟨rfl, hb⟩
    have T1 := hW.trans (hb.mono hW.size)
    have hB1 := hB.step hb
    have c0 := hB1.cell 0
    have c1 := hB1.cell 1
    have c2 := hB1.cell 2
    simp only [List.getElem?_toArray, List.getElem?_cons_zero, List.getElem?_cons_succ] at c0 c1 c2
    go_wp2_with fail
    refine (HC0.out _).mono ?_; rintro e w' ⟨rfl, rfl⟩
    go_wp2_with fail
    go_ret2
    exact ⟨rfl, T1⟩
  obtain ⟨k, rfl⟩ : ∃ k : Nat, b = (k : Int) := ⟨b.toNat, by simp [wi] at g0; omega⟩
  have hk : k ≤ 600 := by simp [wi] at g0; omega
  have hkI : (k : Int) ≤ 600 := by omega
  have HF := Lib.hid (fun w h => (walkOfAll_any _ x l w h hg : Calls _ _ #[_, .slice A l.length c] w _))
  have hl20 := (areMs_in (inOk_in hg).2).1
  have hl2 : (l.length : Int) ≤ 20 := by omega
  have HEI := Lib.hid (fun i => (show -1 ≤ (endO x l).I i ∧ (endO x l).I i ≤ 400 from by have h1 := (iwNeed hg).1; have h2 := Iw.I_in (x := iwOf x l) (iwOf x l).need i; unfold endO; omega))
  have HER := Lib.hid (fun i => (show -1 ≤ (endO x l).R i ∧ (endO x l).R i ≤ 400 from by have h1 := (iwNeed hg).1; have h2 := Iw.R_in (iwOk hg) (iwOf x l).need i; unfold endO; omega))
  rw [show unSays x l (k : Int) = (((cntU (unB x l (k : Int).toNat) l.length : Nat) : Int), true) from by simp [unSays, hg, g0]]
  rw [hg] at HG
  rw [g0] at HC0
  unfold IrV at HG HF ⊢
  clear hg g0
  go_enter Try.func31, Try.ntmps31
  go_wp2_with fail
  refine (HG.out _ ((hr.step hW (Nat.le_refl _)).more hW.size)).mono ?_; rintro e w1 ⟨rfl, hb⟩
  have T1 := hW.trans (hb.mono hW.size)
  have hB1 := hB.step hb
  have c0 := hB1.cell 0
  have c1 := hB1.cell 1
  have c2 := hB1.cell 2
  simp only [List.getElem?_toArray, List.getElem?_cons_zero, List.getElem?_cons_succ] at c0 c1 c2
  have HR1 := Lib.hid ((hr.step T1 (Nat.le_refl _)).more T1.size)
  have HT1 := Lib.hid T1
  have HB1 := Lib.hid hB1
  clear hW hB hb hB1 T1 hr
  go_wp2_with fail
  refine (HC0.out _).mono ?_; rintro e w' ⟨rfl, rfl⟩
  go_wp2_with fail
  refine (HF.out _ HR1.out).mono ?_; rintro e w2 ⟨A2, c2', hAc, p, rfl, ⟨hpA, hpc⟩, hp, hS⟩
  have HB := Lib.hid (HT1.out.trans (hS.bel.mono HT1.out.size))
  have c8 := hS.run.cell 8
  have c9 := hS.run.cell 9
  simp only [List.getElem?_toArray, List.getElem?_cons_zero, List.getElem?_cons_succ] at c8 c9
  have hgl := hS.run.1
  change GoS _ _ _ _ _ _ _ (endO x l) at hS
  obtain ⟨VA, VC, hV, hVA⟩ := hS.ins.form
  obtain ⟨WA, WC, hU, hWA⟩ := hS.read.form
  rw [tabl_len] at hV hVA hU hWA
  rw [hV] at c8
  rw [hU] at c9
  have HRC : Hid (∀ j, j < l.length → ∃ q, VA = some ⟨q, 0, none⟩ ∧ q < w2.heap.size ∧ w2.cell? ⟨q, j, none⟩ = some (.int .i64 ((endO x l).I j))) := by
    show ∀ _, _
    intro j hj
    obtain ⟨c3, h3, h4⟩ := hS.ins.at_ j (by rw [tabl_len]; exact hj)
    have h5 := h4.cell j (by rw [tabl_len]; exact hj)
    rw [tabl_at _ _ _ hj] at h5
    exact ⟨_, hVA (by omega), h4.lt, h5⟩
  have HRD : Hid (∀ j, j < l.length → ∃ q, WA = some ⟨q, 0, none⟩ ∧ q < w2.heap.size ∧ w2.cell? ⟨q, j, none⟩ = some (.int .i64 ((endO x l).R j))) := by
    show ∀ _, _
    intro j hj
    obtain ⟨c3, h3, h4⟩ := hS.read.at_ j (by rw [tabl_len]; exact hj)
    have h5 := h4.cell j (by rw [tabl_len]; exact hj)
    rw [tabl_at _ _ _ hj] at h5
    exact ⟨_, hWA (by omega), h4.lt, h5⟩
  have HCU : Hid (∀ j, cntU (unB x l (k : Int).toNat) (j + 1) = cntU (unB x l (k : Int).toNat) j + if wi (k : Int) ((endO x l).I j) ((endO x l).R j - 1) = true then 1 else 0) := fun j => rfl
  have HCL := Lib.hid (fun j => cntU_le (unB x l (k : Int).toNat) j)
  have HC0 : Hid (cntU (unB x l (k : Int).toNat) 0 = 0) := rfl
  generalize cntU (unB x l (k : Int).toNat) = M at *
  generalize (endO x l).I = FI at *
  generalize (endO x l).R = FR at *
  obtain ⟨gp, hgp⟩ : ∃ gp, gp = p.g := ⟨_, rfl⟩
  rw [← hgp] at c8 c9 hgl ⊢
  have HC8 := Lib.hid c8
  have HC9 := Lib.hid c9
  have HGL : Hid (gp < w2.heap.size) := hgl
  clear hS hp c0 c1 c2 hpA hpc hAc hV hVA hU hWA hgp c8 c9 hgl
  go_wp2_with fail
  go_loopg [25, 9] l.length (fun g sI sC wx => ∃ j : Nat, j + g = l.length ∧ sI = .int .i64 (j : Int) ∧ sC = .int .i64 ((M j : Nat) : Int) ∧ Below w2.heap.size w2 wx)
  case atStart => exact ⟨0, by omega, rfl, by rw [HC0.out]; rfl, Below.refl _ _⟩
  case round =>
    obtain ⟨j, hjg, rfl, rfl, hbw⟩ := hrel
    have HBW := Lib.hid hbw
    clear hbw
    cases gk with
    | zero =>
      have hje : j = l.length := by omega
      have hz : ¬ ((l.length : Int) < (l.length : Int)) := by omega
      rw [hje]
      clear hje hjg
      go_wp2_with fail
      go_ret2
      exact ⟨rfl, HB.out.trans (HBW.out.mono HB.out.size)⟩
    | succ g =>
      have hj : j < l.length := by omega
      have hjI : (j : Int) < (l.length : Int) := by omega
      obtain ⟨q, hq, hql, d0⟩ := HRC.out j hj
      obtain ⟨q2, hq2, hql2, d1⟩ := HRD.out j hj
      have hei := HEI.out j
      have her := HER.out j
      have HS := Lib.hid (HCU.out j)
      have hml := HCL.out j
      subst hq
      subst hq2
      obtain ⟨y, hy⟩ : ∃ y, y = FI j := ⟨_, rfl⟩
      obtain ⟨z, hz⟩ : ∃ z, z = FR j := ⟨_, rfl⟩
      rw [← hy] at d0 hei HS
      rw [← hz] at d1 her HS
      obtain ⟨m, hm⟩ : ∃ m, m = M j := ⟨_, rfl⟩
      rw [← hm] at HS hml ⊢
      have hmI : (m : Int) ≤ 20 := by omega
      have HI := Lib.hid fun W => isWithin_wi (k : Int) y (z - 1) W
      have ew : IntKind.i64.wrap (z - 1) = z - 1 := IntWalk.i64_in _ (by omega)
      have hws := HBW.out.size
      have e8 := (HBW.out.cell (p := ⟨gp, 8, none⟩) HGL.out).trans HC8.out
      have e9 := (HBW.out.cell (p := ⟨gp, 9, none⟩) HGL.out).trans HC9.out
      have ed0 := (HBW.out.cell (p := ⟨q, j, none⟩) hql).trans d0
      have ed1 := (HBW.out.cell (p := ⟨q2, j, none⟩) hql2).trans d1
      have hg9 := HGL.out
      have a0 := fun (s : HW wr) => HW.cellIs (p := ⟨gp, 8, none⟩) e8 (show gp < _ by omega) s
      have a1 := fun (s : HW wr) => HW.cellIs (p := ⟨gp, 9, none⟩) e9 (show gp < _ by omega) s
      have a2 := fun (s : HW wr) => HW.cellIs (p := ⟨q, j, none⟩) ed0 (show q < _ by omega) s
      have a3 := fun (s : HW wr) => HW.cellIs (p := ⟨q2, j, none⟩) ed1 (show q2 < _ by omega) s
      clear hy hz hm hml hws e8 e9 ed0 ed1 hg9 d0 d1
      cases hw : wi (k : Int) y (z - 1)
      · rw [hw] at HS HI
        have HS2 : Hid (M (j + 1) = m) := HS.out
        clear hw HS
        go_upto_region 8 with fail
        refine wp_region_held_lit (by kernel_rfl) (by kernel_rfl) ?_
        repeat (go_big_quiet_step ((first | (go_at_call 47; with_reducible exact held_same _ (HI.out _)))))
        refine wpQuiet_nil ?_
        intro _ hw'
        obtain ⟨s5, hw''⟩ := hw'
        subst hw''
        have HB5 := Lib.hid (HBW.out.trans (s5.bel.mono HBW.out.size))
        clear a0 a1 a2 a3
        go_wp2_with fail
        go_roundg g
        case measure => omega
        case rel => exact ⟨j + 1, by omega, by go_num, by rw [HS2.out], HB5.out⟩
      · rw [hw] at HS HI
        have HS2 : Hid (M (j + 1) = m + 1) := HS.out
        clear hw HS
        go_upto_region 8 with fail
        refine wp_region_held_lit (by kernel_rfl) (by kernel_rfl) ?_
        repeat (go_big_quiet_step ((first | (go_at_call 47; with_reducible exact held_same _ (HI.out _)))))
        refine wpQuiet_nil ?_
        intro _ hw'
        obtain ⟨s5, hw''⟩ := hw'
        subst hw''
        have HB5 := Lib.hid (HBW.out.trans (s5.bel.mono HBW.out.size))
        clear a0 a1 a2 a3
        go_wp2_with fail
        go_roundg g
        case measure => omega
        case rel => exact ⟨j + 1, by omega, by go_num, by rw [HS2.out]; rfl, HB5.out⟩
end Go.Proofs.Ytfphkgialmjfnaa
