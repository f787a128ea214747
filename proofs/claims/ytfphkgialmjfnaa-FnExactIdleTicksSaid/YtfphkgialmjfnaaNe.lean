/-
  The model's CellsUnderway, and the contracts of IdleTicks, both sides.
-/
import Derived.Test.YtfphkgialmjfnaaNd
namespace Go.Proofs.Ytfphkgialmjfnaa
open Go.RowKit Go.Conc
set_option maxRecDepth 100000
set_option linter.unusedVariables false

theorem un_is {x : Ir} {l : List Ms} (h : inOk x l = true) (k : Nat) : cntU (unB x l k) l.length = cntU (fun c => decide (0 ≤ ((iwOf x l).run (k + 1)).I c) && decide (((iwOf x l).run (k + 1)).R c < 0)) l.length :=
  cntU_congr fun c hc => by
    have h1 := under_iff h k hc
    unfold unB
    rw [Bool.eq_iff_iff]
    simp only [Bool.and_eq_true, decide_eq_true_eq]
    exact h1.symm
set_option maxHeartbeats 4000000 in
theorem specCellsUnderway_any (v : Value) (x : Ir) (l : List Ms) (b : Int) (w : World) (h : RMsS w w.heap.size v l) (hn : l.length ≤ 1048576) (hb : (Lit.int .i64 b).wf = true) :
    Calls Try.prog 30 #[IrV x, v, .int .i64 b] w (RetV w (.tuple #[.int .i64 (unSays x l b).1, .bool (unSays x l b).2])) := by
  have HG := Lib.hid (fun w h => (inAll_any _ x l w h hn : Calls _ _ #[_, v] w _))
  have hr := h
  obtain ⟨A, c, rfl, _, hlc, _⟩ := h
  have hW : Below w.heap.size w (w.alloc (.cells #[.int .i64 x.n, .int .i64 x.r, .bool x.h] 29)) := (Below.refl _ _).alloc (Nat.le_refl _) _
  have hB := BK.made w 29 #[.int .i64 x.n, .int .i64 x.r, .bool x.h]
  cases hg : inOk x l
  · rw [show unSays x l b = (0, false) from by simp [unSays, hg]]
    rw [hg] at HG
    unfold IrV at HG ⊢
    clear hg hB
    go_enter Try.func30, Try.ntmps30
    go_wp2_with fail
    refine (HG.out _ ((hr.step hW (Nat.le_refl _)).more hW.size)).mono ?_; rintro e w1 ⟨rfl, hb⟩
    go_wp2_with fail
    go_ret2
    exact ⟨rfl, hW.trans (hb.mono hW.size)⟩
  have hin := (isIr_in (inOk_in hg).1).1
  have HC0 : Hid (∀ w, Calls Try.prog 45 #[.int .i64 b] w fun e w' => e = .returned (.bool (wi b 0 600)) ∧ w = w') := fun w => inTick0_any b w
  cases g0 : wi b 0 600
  · rw [show unSays x l b = (0, false) from by simp [unSays, g0]]
    rw [hg] at HG
    rw [g0] at HC0
    unfold IrV at HG ⊢
    clear hg g0
    go_enter Try.func30, Try.ntmps30
    go_wp2_with fail
    refine (HG.out _ ((hr.step hW (Nat.le_refl _)).more hW.size)).mono ?_; rintro e w1 ⟨rfl, hb⟩
    have T1 := hW.trans (hb.mono hW.size)
    have hB1 := hB.step hb
    have c0 := hB1.cell 0
    have c1 := hB1.cell 1
    have c2 := hB1.cell 2
    simp only [List.getElem?_toArray, List.getElem?_cons_zero, List.getElem?_cons_succ] at c0 c1 c2
    go_wp2_with fail
    refine (HC0.out _).mono ?_; rintro e w' ⟨rfl, rfl⟩
    go_wp2_with fail
    go_ret2
    exact ⟨rfl, T1⟩
  obtain ⟨k, rfl⟩ : ∃ k : Nat, b = (k : Int) := ⟨b.toNat, by simp [wi] at g0; omega⟩
  have hk : k ≤ 600 := by simp [wi] at g0; omega
  have hkI : (k : Int) ≤ 600 := by omega
  have HF := Lib.hid (fun w h => (inEnd_any _ x l (k + 1) w h hg (by omega) : Calls _ _ #[_, .slice A l.length c, _] w _))
  rw [show ((k + 1 : Nat) : Int) = (k : Int) + 1 by omega] at HF
  have hl20 := (areMs_in (inOk_in hg).2).1
  have hl2 : (l.length : Int) ≤ 20 := by omega
  rw [show unSays x l (k : Int) = (((cntU (fun c => decide (0 ≤ ((iwOf x l).run (k + 1)).I c) && decide (((iwOf x l).run (k + 1)).R c < 0)) l.length : Nat) : Int), true) from by rw [← un_is hg k]; simp [unSays, hg, g0]]
  rw [hg] at HG
  rw [g0] at HC0
  unfold IrV at HG HF ⊢
  clear hg g0
  have HCU : Hid (∀ j, cntU (fun c => decide (0 ≤ ((iwOf x l).run (k + 1)).I c) && decide (((iwOf x l).run (k + 1)).R c < 0)) (j + 1) = cntU (fun c => decide (0 ≤ ((iwOf x l).run (k + 1)).I c) && decide (((iwOf x l).run (k + 1)).R c < 0)) j + if (decide (0 ≤ ((iwOf x l).run (k + 1)).I j) && decide (((iwOf x l).run (k + 1)).R j < 0)) = true then 1 else 0) := fun j => rfl
  have HCL := Lib.hid (fun j => cntU_le (fun c => decide (0 ≤ ((iwOf x l).run (k + 1)).I c) && decide (((iwOf x l).run (k + 1)).R c < 0)) j)
  have HCZ : Hid (cntU (fun c => decide (0 ≤ ((iwOf x l).run (k + 1)).I c) && decide (((iwOf x l).run (k + 1)).R c < 0)) 0 = 0) := rfl
  generalize cntU (fun c => decide (0 ≤ ((iwOf x l).run (k + 1)).I c) && decide (((iwOf x l).run (k + 1)).R c < 0)) = M at *
  go_enter Try.func30, Try.ntmps30
  go_wp2_with fail
  refine (HG.out _ ((hr.step hW (Nat.le_refl _)).more hW.size)).mono ?_; rintro e w1 ⟨rfl, hb⟩
  have T1 := hW.trans (hb.mono hW.size)
  have hB1 := hB.step hb
  have c0 := hB1.cell 0
  have c1 := hB1.cell 1
  have c2 := hB1.cell 2
  simp only [List.getElem?_toArray, List.getElem?_cons_zero, List.getElem?_cons_succ] at c0 c1 c2
  have HR1 := Lib.hid ((hr.step T1 (Nat.le_refl _)).more T1.size)
  have HT1 := Lib.hid T1
  have HB1 := Lib.hid hB1
  clear hW hB hb hB1 T1 hr
  go_wp2_with fail
  refine (HC0.out _).mono ?_; rintro e w' ⟨rfl, rfl⟩
  go_wp2_with fail
  refine (HF.out _ HR1.out).mono ?_; rintro e w2 ⟨A2, c2', hAc, p, vs, rfl, ⟨hpA, hpc⟩, hp, hS⟩
  have HB := Lib.hid (HT1.out.trans (hS.bel.mono HT1.out.size))
  have c6 := hS.run.cell 6
  have c7 := hS.run.cell 7
  simp only [List.getElem?_toArray, List.getElem?_cons_zero, List.getElem?_cons_succ] at c6 c7
  obtain ⟨VA, VC, hV, hVA⟩ := hS.ins.form
  obtain ⟨WA, WC, hU, hWA⟩ := hS.read.form
  rw [tabl_len] at hV hVA hU hWA
  rw [hV] at c6
  rw [hU] at c7
  have HRC : Hid (∀ j, j < l.length → ∃ q, VA = some ⟨q, 0, none⟩ ∧ w2.cell? ⟨q, j, none⟩ = some (.int .i64 (((iwOf x l).run (k + 1)).I j))) := by
    show ∀ _, _
    intro j hj
    obtain ⟨c3, h3, h4⟩ := hS.ins.at_ j (by rw [tabl_len]; exact hj)
    have h5 := h4.cell j (by rw [tabl_len]; exact hj)
    rw [tabl_at _ _ _ hj] at h5
    exact ⟨_, hVA (by omega), h5⟩
  have HRD : Hid (∀ j, j < l.length → ∃ q, WA = some ⟨q, 0, none⟩ ∧ w2.cell? ⟨q, j, none⟩ = some (.int .i64 (((iwOf x l).run (k + 1)).R j))) := by
    show ∀ _, _
    intro j hj
    obtain ⟨c3, h3, h4⟩ := hS.read.at_ j (by rw [tabl_len]; exact hj)
    have h5 := h4.cell j (by rw [tabl_len]; exact hj)
    rw [tabl_at _ _ _ hj] at h5
    exact ⟨_, hWA (by omega), h5⟩
  generalize ((iwOf x l).run (k + 1)).I = FI at *
  generalize ((iwOf x l).run (k + 1)).R = FR at *
  obtain ⟨gp, hgp⟩ : ∃ gp, gp = p.g := ⟨_, rfl⟩
  rw [← hgp] at c6 c7 ⊢
  clear hS hp c0 c1 c2 hpA hpc hAc hV hVA hU hWA hgp
  go_wp2_with fail
  go_loopg [31, 9] l.length (fun g sI sC wx => ∃ j : Nat, j + g = l.length ∧ sI = .int .i64 (j : Int) ∧ sC = .int .i64 ((M j : Nat) : Int) ∧ w2 = wx)
  case atStart => exact ⟨0, by omega, rfl, by rw [HCZ.out]; rfl, rfl⟩
  case round =>
    obtain ⟨j, hjg, rfl, rfl, rfl⟩ := hrel
    cases gk with
    | zero =>
      have hje : j = l.length := by omega
      have hz : ¬ ((l.length : Int) < (l.length : Int)) := by omega
      rw [hje]
      clear hje hjg
      go_wp2_with fail
      go_ret2
      exact ⟨rfl, HB.out⟩
    | succ g =>
      have hj : j < l.length := by omega
      have hjI : (j : Int) < (l.length : Int) := by omega
      obtain ⟨q, hq, d0⟩ := HRC.out j hj
      obtain ⟨q2, hq2, d1⟩ := HRD.out j hj
      have HS := Lib.hid (HCU.out j)
      have hml := HCL.out j
      subst hq
      subst hq2
      obtain ⟨y, hy⟩ : ∃ y, y = FI j := ⟨_, rfl⟩
      obtain ⟨z, hz⟩ : ∃ z, z = FR j := ⟨_, rfl⟩
      rw [← hy] at d0 HS
      rw [← hz] at d1 HS
      obtain ⟨m, hm⟩ : ∃ m, m = M j := ⟨_, rfl⟩
      rw [← hm] at HS hml ⊢
      have hmI : (m : Int) ≤ 20 := by omega
      clear hy hz hm hml
      by_cases hy0 : 0 ≤ y
      · by_cases hz0 : z < 0
        · have HS2 : Hid (M (j + 1) = m + 1) := by show _ = _; rw [HS.out]; simp [hy0, hz0]
          clear HS
          go_wp2_with fail
          go_roundg g
          case measure => omega
          case rel => exact ⟨j + 1, by omega, by go_num, by rw [HS2.out]; rfl, rfl⟩
        · have HS2 : Hid (M (j + 1) = m) := by show _ = _; rw [HS.out]; simp [hz0]
          clear HS
          go_wp2_with fail
          go_roundg g
          case measure => omega
          case rel => exact ⟨j + 1, by omega, by go_num, by rw [HS2.out], rfl⟩
      · have HS2 : Hid (M (j + 1) = m) := by show _ = _; rw [HS.out]; simp [hy0]
        clear HS
        go_wp2_with fail
        go_roundg g
        case measure => omega
        case rel => exact ⟨j + 1, by omega, by go_num, by rw [HS2.out], rfl⟩
/-- What IdleTicks says. -/
def idSays (x : Ir) (l : List Ms) (b d : Int) : Int × Bool := if (inOk x l && (wi b 0 (x.n - 1) && wi d 0 600)) = true then (((((iwOf x l).run d.toNat).D b.toNat : Nat) : Int), true) else (0, false)
set_option maxHeartbeats 4000000 in
theorem specIdleTicks_any (v : Value) (x : Ir) (l : List Ms) (b : Int) (d : Int) (w : World) (h : RMsS w w.heap.size v l) (hn : l.length ≤ 1048576) (hb : (Lit.int .i64 b).wf = true) (hd : (Lit.int .i64 d).wf = true) :
    Calls Try.prog 28 #[IrV x, v, .int .i64 b, .int .i64 d] w (RetV w (.tuple #[.int .i64 (idSays x l b d).1, .bool (idSays x l b d).2])) := by
  have HG := Lib.hid (fun w h => (inAll_any _ x l w h hn : Calls _ _ #[_, v] w _))
  have hr := h
  obtain ⟨A, c, rfl, _, hlc, _⟩ := h
  have hW : Below w.heap.size w (w.alloc (.cells #[.int .i64 x.n, .int .i64 x.r, .bool x.h] 29)) := (Below.refl _ _).alloc (Nat.le_refl _) _
  have hB := BK.made w 29 #[.int .i64 x.n, .int .i64 x.r, .bool x.h]
  cases hg : inOk x l
  · rw [show idSays x l b d = (0, false) from by simp [idSays, hg]]
    rw [hg] at HG
    unfold IrV at HG ⊢
    clear hg hB
    go_enter Try.func28, Try.ntmps28
    go_wp2_with fail
    refine (HG.out _ ((hr.step hW (Nat.le_refl _)).more hW.size)).mono ?_; rintro e w1 ⟨rfl, hb⟩
    go_wp2_with fail
    go_ret2
    exact ⟨rfl, hW.trans (hb.mono hW.size)⟩
  have hin := (isIr_in (inOk_in hg).1).1
  have HC0 : Hid (∀ w, Calls Try.prog 40 #[.int .i64 b, .int .i64 0, .int .i64 (x.n - 1)] w fun e w' => e = .returned (.bool (wi b 0 (x.n - 1))) ∧ w = w') := fun w => l1In_wi b 0 (x.n - 1) w
  have HC1 : Hid (∀ w, Calls Try.prog 45 #[.int .i64 d] w fun e w' => e = .returned (.bool (wi d 0 600)) ∧ w = w') := fun w => inTick0_any d w
  cases g0 : wi b 0 (x.n - 1)
  · rw [show idSays x l b d = (0, false) from by simp [idSays, g0]]
    rw [hg] at HG
    rw [g0] at HC0
    unfold IrV at HG ⊢
    clear hg g0
    go_enter Try.func28, Try.ntmps28
    go_wp2_with fail
    refine (HG.out _ ((hr.step hW (Nat.le_refl _)).more hW.size)).mono ?_; rintro e w1 ⟨rfl, hb⟩
    have T1 := hW.trans (hb.mono hW.size)
    have hB1 := hB.step hb
    have c0 := hB1.cell 0
    have c1 := hB1.cell 1
    have c2 := hB1.cell 2
    simp only [List.getElem?_toArray, List.getElem?_cons_zero, List.getElem?_cons_succ] at c0 c1 c2
    go_wp2_with fail
    refine (HC0.out _).mono ?_; rintro e w' ⟨rfl, rfl⟩
    go_wp2_with fail
    go_ret2
    exact ⟨rfl, T1⟩
  cases g1 : wi d 0 600
  · rw [show idSays x l b d = (0, false) from by simp [idSays, g1]]
    rw [hg] at HG
    rw [g0] at HC0
    rw [g1] at HC1
    unfold IrV at HG ⊢
    clear hg g0 g1
    go_enter Try.func28, Try.ntmps28
    go_wp2_with fail
    refine (HG.out _ ((hr.step hW (Nat.le_refl _)).more hW.size)).mono ?_; rintro e w1 ⟨rfl, hb⟩
    have T1 := hW.trans (hb.mono hW.size)
    have hB1 := hB.step hb
    have c0 := hB1.cell 0
    have c1 := hB1.cell 1
    have c2 := hB1.cell 2
    simp only [List.getElem?_toArray, List.getElem?_cons_zero, List.getElem?_cons_succ] at c0 c1 c2
    go_wp2_with fail
    refine (HC0.out _).mono ?_; rintro e w' ⟨rfl, rfl⟩
    go_wp2_with fail
    refine (HC1.out _).mono ?_; rintro e w' ⟨rfl, rfl⟩
    go_wp2_with fail
    go_ret2
    exact ⟨rfl, T1⟩
  obtain ⟨s, rfl⟩ : ∃ s : Nat, b = (s : Int) := ⟨b.toNat, by simp [wi] at g0; omega⟩
  have hs : s < x.n.toNat := by simp [wi] at g0; omega
  have hsI : (s : Int) < (x.n.toNat : Int) := by omega
  obtain ⟨k, rfl⟩ : ∃ k : Nat, d = (k : Int) := ⟨d.toNat, by simp [wi] at g1; omega⟩
  have hk : k ≤ 600 := by simp [wi] at g1; omega
  have hkI : (k : Int) ≤ 600 := by omega
  have HF := Lib.hid (fun w h => (inEnd_any _ x l k w h hg (by omega) : Calls _ _ #[_, .slice A l.length c, _] w _))
  rw [show idSays x l (s : Int) (k : Int) = (((((iwOf x l).run (k : Int).toNat).D (s : Int).toNat : Nat) : Int), true) from by simp [idSays, hg, g0, g1]]
  rw [hg] at HG
  rw [g0] at HC0
  rw [g1] at HC1
  unfold IrV at HG HF ⊢
  clear hg g0 g1
  go_enter Try.func28, Try.ntmps28
  go_wp2_with fail
  refine (HG.out _ ((hr.step hW (Nat.le_refl _)).more hW.size)).mono ?_; rintro e w1 ⟨rfl, hb⟩
  have T1 := hW.trans (hb.mono hW.size)
  have hB1 := hB.step hb
  have c0 := hB1.cell 0
  have c1 := hB1.cell 1
  have c2 := hB1.cell 2
  simp only [List.getElem?_toArray, List.getElem?_cons_zero, List.getElem?_cons_succ] at c0 c1 c2
  have HR1 := Lib.hid ((hr.step T1 (Nat.le_refl _)).more T1.size)
  have HT1 := Lib.hid T1
  have HB1 := Lib.hid hB1
  clear hW hB hb hB1 T1 hr
  go_wp2_with fail
  refine (HC0.out _).mono ?_; rintro e w' ⟨rfl, rfl⟩
  go_wp2_with fail
  refine (HC1.out _).mono ?_; rintro e w' ⟨rfl, rfl⟩
  go_wp2_with fail
  refine (HF.out _ HR1.out).mono ?_; rintro e w2 ⟨A2, c2', hAc, p, vs, rfl, ⟨hpA, hpc⟩, hp, hS⟩
  have HB := Lib.hid (HT1.out.trans (hS.bel.mono HT1.out.size))
  have c9 := hS.run.cell 9
  simp only [List.getElem?_toArray, List.getElem?_cons_zero, List.getElem?_cons_succ] at c9
  have d0 := hS.idle.cell s (by rw [tabl_len]; exact hs)
  rw [tabl_at _ _ _ hs] at d0
  have HE : Hid (((iwOf x l).run (k : Int).toNat).D (s : Int).toNat = ((iwOf x l).run k).D s) := rfl
  clear hS hp c0 c1 c2 hpA hpc hAc
  go_wp2_with fail
  go_ret2
  exact ⟨rfl, HB.out⟩
set_option maxHeartbeats 4000000 in
theorem implIdleTicks_any (v : Value) (x : Ir) (l : List Ms) (b : Int) (d : Int) (w : World) (h : RMsS w w.heap.size v l) (hn : l.length ≤ 1048576) (hb : (Lit.int .i64 b).wf = true) (hd : (Lit.int .i64 d).wf = true) :
    Calls Try.prog 29 #[IrV x, v, .int .i64 b, .int .i64 d] w (RetV w (.tuple #[.int .i64 (idSays x l b d).1, .bool (idSays x l b d).2])) := by
  have HG := Lib.hid (fun w h => (isInsertRingWith_any _ x l w h hn : Calls _ _ #[_, v] w _))
  have hr := h
  obtain ⟨A, c, rfl, _, hlc, _⟩ := h
  have hW : Below w.heap.size w (w.alloc (.cells #[.int .i64 x.n, .int .i64 x.r, .bool x.h] 29)) := (Below.refl _ _).alloc (Nat.le_refl _) _
  have hB := BK.made w 29 #[.int .i64 x.n, .int .i64 x.r, .bool x.h]
  cases hg : inOk x l
  · rw [show idSays x l b d = (0, false) from by simp [idSays, hg]]
    rw [hg] at HG
    unfold IrV at HG ⊢
    clear hg hB
    go_enter Try.func29, Try.ntmps29
    go_wp2_with fail
    refine (HG.out _ ((hr.step hW (Nat.le_refl _)).more hW.size)).mono ?_; rintro e w1 ⟨rfl, hb⟩
    go_wp2_with fail
    go_ret2
    exact ⟨rfl, hW.trans (hb.mono hW.size)⟩
  have hin := (isIr_in (inOk_in hg).1).1
  have HC0 : Hid (∀ w, Calls Try.prog 47 #[.int .i64 b, .int .i64 0, .int .i64 (x.n - 1)] w fun e w' => e = .returned (.bool (wi b 0 (x.n - 1))) ∧ w = w') := fun w => isWithin_wi b 0 (x.n - 1) w
  have HC1 : Hid (∀ w, Calls Try.prog 47 #[.int .i64 d, .int .i64 0, .int .i64 (600)] w fun e w' => e = .returned (.bool (wi d 0 (600))) ∧ w = w') := fun w => isWithin_wi d 0 (600) w
  cases g0 : wi b 0 (x.n - 1)
  · rw [show idSays x l b d = (0, false) from by simp [idSays, g0]]
    rw [hg] at HG
    rw [g0] at HC0
    unfold IrV at HG ⊢
    clear hg g0
    go_enter Try.func29, Try.ntmps29
    go_wp2_with fail
    refine (HG.out _ ((hr.step hW (Nat.le_refl _)).more hW.size)).mono ?_; rintro e w1 ⟨rfl, hb⟩
    have T1 := hW.trans (hb.mono hW.size)
    have hB1 := hB.step hb
    have c0 := hB1.cell 0
    have c1 := hB1.cell 1
    have c2 := hB1.cell 2
    simp only [List.getElem?_toArray, List.getElem?_cons_zero, List.getElem?_cons_succ] at c0 c1 c2
    go_wp2_with fail
    refine (HC0.out _).mono ?_; rintro e w' ⟨rfl, rfl⟩
    go_wp2_with fail
    go_ret2
    exact ⟨rfl, T1⟩
  cases g1 : wi d 0 (600)
  · rw [show idSays x l b d = (0, false) from by simp [idSays, g1]]
    rw [hg] at HG
    rw [g0] at HC0
    rw [g1] at HC1
    unfold IrV at HG ⊢
    clear hg g0 g1
    go_enter Try.func29, Try.ntmps29
    go_wp2_with fail
    refine (HG.out _ ((hr.step hW (Nat.le_refl _)).more hW.size)).mono ?_; rintro e w1 ⟨rfl, hb⟩
    have T1 := hW.trans (hb.mono hW.size)
    have hB1 := hB.step hb
    have c0 := hB1.cell 0
    have c1 := hB1.cell 1
    have c2 := hB1.cell 2
    simp only [List.getElem?_toArray, List.getElem?_cons_zero, List.getElem?_cons_succ] at c0 c1 c2
    go_wp2_with fail
    refine (HC0.out _).mono ?_; rintro e w' ⟨rfl, rfl⟩
    go_wp2_with fail
    refine (HC1.out _).mono ?_; rintro e w' ⟨rfl, rfl⟩
    go_wp2_with fail
    go_ret2
    exact ⟨rfl, T1⟩
  obtain ⟨s, rfl⟩ : ∃ s : Nat, b = (s : Int) := ⟨b.toNat, by simp [wi] at g0; omega⟩
  have hs : s < x.n.toNat := by simp [wi] at g0; omega
  have hsI : (s : Int) < (x.n.toNat : Int) := by omega
  obtain ⟨k, rfl⟩ : ∃ k : Nat, d = (k : Int) := ⟨d.toNat, by simp [wi] at g1; omega⟩
  have hk : k ≤ 600 := by simp [wi] at g1; omega
  have hkI : (k : Int) ≤ 600 := by omega
  have hl20 := (areMs_in (inOk_in hg).2).1
  have HF := Lib.hid (fun w => (begin_any x l A c w (inOk_in hg).1 hl20 : Calls _ _ #[_, .slice A l.length c] w _))
  have HGO := Lib.hid (fun (w0 : World) (p : GL) (t : Nat) (w : World) h1 h2 h3 => goOn_run (x := x) (l := l) (w0 := w0) (p := p) (t := t) (w := w) h1 h2 h3)
  have HTD : Hid (∀ t, ((iwOf x l).run (t + 1)).D s = ((iwOf x l).run t).D s + (if ((iwOf x l).run (t + 1)).L s = 0 then 1 else 0)) := fun t => Iw.tick_D s hs
  have HDL := Lib.hid fun t => Iw.D_le (x := iwOf x l) t s hs
  have HOK := Lib.hid hg
  rw [show idSays x l (s : Int) (k : Int) = (((((iwOf x l).run (k : Int).toNat).D (s : Int).toNat : Nat) : Int), true) from by simp [idSays, hg, g0, g1]]
  rw [hg] at HG
  rw [g0] at HC0
  rw [g1] at HC1
  unfold IrV at HG HF ⊢
  clear hg g0 g1
  go_enter Try.func29, Try.ntmps29
  go_wp2_with fail
  refine (HG.out _ ((hr.step hW (Nat.le_refl _)).more hW.size)).mono ?_; rintro e w1 ⟨rfl, hb⟩
  have T1 := hW.trans (hb.mono hW.size)
  have hB1 := hB.step hb
  have c0 := hB1.cell 0
  have c1 := hB1.cell 1
  have c2 := hB1.cell 2
  simp only [List.getElem?_toArray, List.getElem?_cons_zero, List.getElem?_cons_succ] at c0 c1 c2
  have HR1 := Lib.hid ((hr.step T1 (Nat.le_refl _)).more T1.size)
  have HT1 := Lib.hid T1
  have HB1 := Lib.hid hB1
  clear hW hB hb hB1 T1 hr
  go_wp2_with fail
  refine (HC0.out _).mono ?_; rintro e w' ⟨rfl, rfl⟩
  go_wp2_with fail
  refine (HC1.out _).mono ?_; rintro e w' ⟨rfl, rfl⟩
  go_wp2_with fail
  refine (HF.out _).mono ?_; rintro e w2 ⟨p, rfl, hA, hc, hp, hS⟩
  have HK : Hid (Kept x l w1 p) := ⟨hp, HOK.out, by rw [hA, hc]; exact HR1.out⟩
  have HS : Hid (GoS w1 w2 x l p 0 ((iwOf x l).vg 0) ((iwOf x l).run 0)) := hS
  obtain ⟨gp, hgp⟩ : ∃ gp, gp = p.g := ⟨_, rfl⟩
  rw [← hgp]
  have HGE := Lib.hid hgp
  have HE : Hid (((iwOf x l).run (k : Int).toNat).D (s : Int).toNat = ((iwOf x l).run k).D s) := rfl
  clear hA hc hp hS c0 c1 c2 hgp
  go_wp2_with fail
  go_loopg [33, 11] k (fun g sI sC wx => ∃ t : Nat, t + g = k ∧ sI = .int .i64 (t : Int) ∧ sC = .int .i64 ((((iwOf x l).run t).D s : Nat) : Int) ∧ GoS w1 wx x l p t ((iwOf x l).vg 0) ((iwOf x l).run t))
  case atStart => exact ⟨0, by omega, rfl, rfl, HS.out⟩
  case round =>
    clear HS
    obtain ⟨t, htg, rfl, rfl, hS⟩ := hrel
    have HS := Lib.hid hS
    clear hS
    cases gk with
    | zero =>
      have hte : t = k := by omega
      have hz : ¬ ((t : Int) < (k : Int)) := by omega
      have HBB := Lib.hid (HT1.out.trans (HS.out.bel.mono HT1.out.size))
      clear HS
      go_wp2_with fail
      go_ret2
      try rw [hte]
      exact ⟨rfl, HBB.out⟩
    | succ gg =>
      have hz : (t : Int) < (k : Int) := by omega
      have HGO1 := Lib.hid (HGO.out _ _ _ _ HK.out HS.out (by omega))
      rw [← HGE.out] at HGO1
      have HTD1 := Lib.hid (HTD.out t)
      have hdl := HDL.out t
      clear HS
      obtain ⟨m, hm⟩ : ∃ m, m = ((iwOf x l).run t).D s := ⟨_, rfl⟩
      rw [← hm] at HTD1 hdl ⊢
      have hmI : (m : Int) ≤ 600 := by omega
      clear hm hdl
      go_wp2_with fail
      refine HGO1.out.mono ?_; rintro e w6 ⟨rfl, hS2⟩
      have HS2 := Lib.hid hS2
      have c7 := hS2.run.cell 7
      simp only [List.getElem?_toArray, List.getElem?_cons_zero, List.getElem?_cons_succ] at c7
      rw [← HGE.out] at c7
      have d0 := hS2.sent.cell s (by rw [tabl_len]; exact hs)
      rw [tabl_at _ _ _ hs] at d0
      clear hS2
      obtain ⟨y, hy⟩ : ∃ y, y = ((iwOf x l).run (t + 1)).L s := ⟨_, rfl⟩
      rw [← hy] at d0 HTD1
      clear hy
      by_cases hy0 : y = 0
      · have HD2 : Hid (((iwOf x l).run (t + 1)).D s = m + 1) := by show _ = _; rw [HTD1.out, if_pos hy0]
        have hyb : ((y : Int) == 0) = true := by simp [hy0]
        have hy1 : (y : Int) = 0 := by omega
        clear HTD1
        go_wp2_with fail
        go_roundg gg
        case measure => omega
        case rel => exact ⟨t + 1, by omega, by go_num, by rw [HD2.out]; rfl, HS2.out⟩
      · have HD2 : Hid (((iwOf x l).run (t + 1)).D s = m) := by show _ = _; rw [HTD1.out, if_neg hy0]; rfl
        have hy1 : ¬ ((y : Int) = 0) := by omega
        have hyb : ((y : Int) == 0) = false := by simpa using hy1
        clear HTD1
        go_wp2_with fail
        go_roundg gg
        case measure => omega
        case rel => exact ⟨t + 1, by omega, by go_num, by rw [HD2.out], HS2.out⟩
end Go.Proofs.Ytfphkgialmjfnaa
