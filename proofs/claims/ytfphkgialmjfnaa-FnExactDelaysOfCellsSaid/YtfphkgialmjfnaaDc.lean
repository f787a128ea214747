/-
  The contracts of DelaysOfCells, both sides.
-/
import Derived.Test.YtfphkgialmjfnaaThruA
import Derived.Test.YtfphkgialmjfnaaTurnMs
import Derived.Test.YtfphkgialmjfnaaChanJ
import Derived.Deep.RegionHeldLaw
namespace Go.Proofs.Ytfphkgialmjfnaa
open Go.RowKit Go.Conc
set_option maxRecDepth 100000
set_option linter.unusedVariables false

theorem dcI_in {x : Ir} {l : List Ms} (h : inOk x l = true) (i : Nat) : -1 ≤ (endOf x l).I i ∧ (endOf x l).I i ≤ 400 := by
  have h1 := (iwNeed h).1
  have h2 := Iw.I_in (x := iwOf x l) (iwOf x l).need i
  unfold endOf
  omega
theorem dcR_in {x : Ir} {l : List Ms} (h : inOk x l = true) (i : Nat) : -1 ≤ (endOf x l).R i ∧ (endOf x l).R i ≤ 400 := by
  have h1 := (iwNeed h).1
  have h2 := Iw.R_in (iwOk h) (iwOf x l).need i
  unfold endOf
  omega
/-- What a cell waits. -/
def dcV (x : Ir) (l : List Ms) (i : Nat) : Int := (endOf x l).R i - (endOf x l).I i - hopsI x.n l[i]!
def dcSays (x : Ir) (l : List Ms) : List Int × Bool := if inOk x l then (tabl (dcV x l) l.length, true) else ([], false)
theorem dcSays_no {x : Ir} {l : List Ms} (h : inOk x l = false) : dcSays x l = ([], false) := by simp only [dcSays, h]; rfl
theorem dcSays_yes {x : Ir} {l : List Ms} (h : inOk x l = true) : dcSays x l = (tabl (dcV x l) l.length, true) := by simp only [dcSays, h, if_true]
theorem dcSays_len (x : Ir) (l : List Ms) : (dcSays x l).1.length ≤ 1048576 := by
  cases h : inOk x l
  · rw [dcSays_no h]; simp
  · rw [dcSays_yes h]
    show (tabl (dcV x l) l.length).length ≤ _
    rw [tabl_len]
    have := (areMs_in (inOk_in h).2).1
    omega
/-- The first j, then zeros. -/
def dcU (F : Nat → Int) (n j : Nat) : List Int := tabl (fun i => if i < j then F i else 0) n
theorem dcU_len (F : Nat → Int) (n j : Nat) : (dcU F n j).length = n := tabl_len _ _
theorem dcU_zero (F : Nat → Int) (n : Nat) : dcU F n 0 = List.replicate n 0 := by
  rw [← tabl_const]
  exact tabl_congr fun i _ => by simp
theorem dcU_all (F : Nat → Int) (n : Nat) : dcU F n n = tabl F n := tabl_congr fun i hi => by rw [if_pos hi]
theorem dcU_set (F : Nat → Int) (n j : Nat) : (dcU F n j).set j (F j) = dcU F n (j + 1) := by
  unfold dcU
  rw [tabl_set]
  refine tabl_congr fun i _ => ?_
  unfold up
  by_cases e : i = j
  · subst e; simp
  · have e2 : (i < j + 1) ↔ (i < j) := by omega
    simp [e, e2]
theorem tabl_snoc (F : Nat → Int) (n : Nat) : tabl F (n + 1) = tabl F n ++ [F n] := by
  unfold tabl
  rw [List.range_succ, List.map_append]
  rfl
set_option maxHeartbeats 4000000 in
theorem implDelaysOfCells_any (v : Value) (x : Ir) (l : List Ms) (w : World) (h : RMsS w w.heap.size v l) (hn : l.length ≤ 1048576) :
    Calls Try.prog 13 #[IrV x, v] w (RetLB 3 w (dcSays x l).1 (dcSays x l).2) := by
  have HG := Lib.hid (fun w h => (isInsertRingWith_any _ x l w h hn : Calls _ _ #[_, v] w _))
  have hr := h
  obtain ⟨A, c, rfl, _, hlc, _⟩ := h
  have hW : Below w.heap.size w (w.alloc (.cells #[.int .i64 x.n, .int .i64 x.r, .bool x.h] 29)) := (Below.refl _ _).alloc (Nat.le_refl _) _
  have hB := BK.made w 29 #[.int .i64 x.n, .int .i64 x.r, .bool x.h]
  cases hg : inOk x l
  · rw [dcSays_no hg]
    rw [hg] at HG
    unfold IrV at HG ⊢
    clear hg hB
    go_enter Try.func13, Try.ntmps13
    go_wp2_with fail
    refine (HG.out _ ((hr.step hW (Nat.le_refl _)).more hW.size)).mono ?_; rintro e w1 ⟨rfl, hb⟩
    go_wp2_with fail
    go_ret2
    exact ⟨_, rfl, .inl ⟨rfl, none, 0, rfl, by simp, fun _ => rfl⟩, hW.trans (hb.mono hW.size)⟩
  rw [dcSays_yes hg]
  have HF := Lib.hid (fun w h => (walkOfAll_any _ x l w h hg : Calls _ _ #[_, .slice A l.length c] w _))
  obtain ⟨hl20, hall, _⟩ := areMs_in (inOk_in hg).2
  have hl2 : (l.length : Int) ≤ 20 := by omega
  have hin := (isIr_in (inOk_in hg).1).1
  have HEI := Lib.hid (fun i => dcI_in hg i)
  have HER := Lib.hid (fun i => dcR_in hg i)
  have HMT := Lib.hid (fun i hi => msAtI hall i hi)
  have HAS := Lib.hid (fun w => asSlotRing_any x w)
  obtain ⟨i0, hi, hz0, hz1, hz2⟩ := info_parts int_info
  clear hall
  rw [hg] at HG
  clear hg
  unfold IrV at HG HF HAS ⊢
  go_enter Try.func13, Try.ntmps13
  go_wp2_with fail
  refine (HG.out _ ((hr.step hW (Nat.le_refl _)).more hW.size)).mono ?_; rintro e w1 ⟨rfl, hb⟩
  have T1 := hW.trans (hb.mono hW.size)
  have hB1 := hB.step hb
  have c0 := hB1.cell 0
  have c1 := hB1.cell 1
  have c2 := hB1.cell 2
  simp only [List.getElem?_toArray, List.getElem?_cons_zero, List.getElem?_cons_succ] at c0 c1 c2
  have HR1 := Lib.hid ((hr.step T1 (Nat.le_refl _)).more T1.size)
  have HT1 := Lib.hid T1
  have HB1 := Lib.hid hB1
  clear hW hB hb hB1 T1 hr
  go_wp2_with fail
  refine (HF.out _ HR1.out).mono ?_; rintro e w2 ⟨A2, c2', hAc, p, rfl, ⟨hpA, hpc⟩, hp, hS⟩
  have HB := Lib.hid (HT1.out.trans (hS.bel.mono HT1.out.size))
  have HB2 := Lib.hid hS.bel
  have HBK := Lib.hid (HB1.out.step hS.bel)
  have c8 := hS.run.cell 8
  have c9 := hS.run.cell 9
  simp only [List.getElem?_toArray, List.getElem?_cons_zero, List.getElem?_cons_succ] at c8 c9
  have hgl := hS.run.1
  change GoS _ _ _ _ _ _ _ (endOf x l) at hS
  obtain ⟨VA, VC, hV, hVA⟩ := hS.ins.form
  obtain ⟨WA, WC, hU, hWA⟩ := hS.read.form
  rw [tabl_len] at hV hVA hU hWA
  rw [hV] at c8
  rw [hU] at c9
  have HRC : Hid (∀ j, j < l.length → ∃ q, VA = some ⟨q, 0, none⟩ ∧ q < w2.heap.size ∧ w2.cell? ⟨q, j, none⟩ = some (.int .i64 ((endOf x l).I j))) := by
    show ∀ _, _
    intro j hj
    obtain ⟨c3, h3, h4⟩ := hS.ins.at_ j (by rw [tabl_len]; exact hj)
    have h5 := h4.cell j (by rw [tabl_len]; exact hj)
    rw [tabl_at _ _ _ hj] at h5
    exact ⟨_, hVA (by omega), h4.lt, h5⟩
  have HRD : Hid (∀ j, j < l.length → ∃ q, WA = some ⟨q, 0, none⟩ ∧ q < w2.heap.size ∧ w2.cell? ⟨q, j, none⟩ = some (.int .i64 ((endOf x l).R j))) := by
    show ∀ _, _
    intro j hj
    obtain ⟨c3, h3, h4⟩ := hS.read.at_ j (by rw [tabl_len]; exact hj)
    have h5 := h4.cell j (by rw [tabl_len]; exact hj)
    rw [tabl_at _ _ _ hj] at h5
    exact ⟨_, hWA (by omega), h4.lt, h5⟩
  obtain ⟨_, _, _, hc⟩ := (show RMsS w1 w1.heap.size (.slice A l.length c) l from HR1.out).parts
  have HC := Lib.hid hc
  have HSZ := Lib.hid HB.out.size
  have HVV : Hid (∀ j, dcV x l j = (endOf x l).R j - (endOf x l).I j - hopsI x.n l[j]!) := fun j => rfl
  generalize dcV x l = F at *
  generalize (endOf x l).I = FI at *
  generalize (endOf x l).R = FR at *
  obtain ⟨gp, hgp⟩ : ∃ gp, gp = p.g := ⟨_, rfl⟩
  rw [← hgp] at c8 c9 hgl ⊢
  have HC8 := Lib.hid c8
  have HC9 := Lib.hid c9
  have HGL : Hid (gp < w2.heap.size) := hgl
  obtain ⟨tb, htb⟩ : ∃ tb, tb = w2.heap.size := ⟨_, rfl⟩
  rw [← htb] at HGL HRC HRD HSZ
  have HTB := Lib.hid htb
  have hwt : w.heap.size < tb := by rw [htb]; exact HBK.out.1
  clear hS hp c0 c1 c2 hpA hpc hAc hV hVA hU hWA hgp c8 c9 hgl hc
  go_wp2_with (at_make; refine wpList_make_full _ rfl _ _ 26 rfl w2.heap.size 3 i0 _ 1 Try.underlying26 hi hz0 hz1 _ _ _ _ l.length rfl rfl rfl rfl (by rw [hz2]; omega) (by unfold maxLen; omega) (Nat.le_refl _) ?_; intro w3 hown hg3)
  rw [← htb] at hown ⊢
  have hrc0 : RC w3 tb l.length (dcU F l.length 0) := by
    rw [dcU_zero]
    exact RC.made hown
  have hb3 : Below tb w2 w3 := by
    rw [htb]
    exact (Below.refl _ _).grown hg3 (Nat.le_refl _) (by intro k hk; cases hk)
  have HR0 := Lib.hid hrc0
  have HB3 := Lib.hid hb3
  have HBK3 : Hid (BK w3 w.heap.size 29 #[.int .i64 x.n, .int .i64 x.r, .bool x.h]) := HBK.out.step (by rw [← HTB.out]; exact hb3)
  clear hown hg3 hrc0 hb3 htb
  go_wp2_with fail
  go_loopg [22] l.length (fun g sI wx => ∃ j : Nat, j + g = l.length ∧ sI = .int .i64 (j : Int) ∧ RC wx tb l.length (dcU F l.length j) ∧ BK wx w.heap.size 29 #[.int .i64 x.n, .int .i64 x.r, .bool x.h] ∧ Below tb w2 wx)
  case atStart => exact ⟨0, by omega, rfl, HR0.out, HBK3.out, HB3.out⟩
  case round =>
    clear HR0 HBK3 HB3
    obtain ⟨j, hjg, rfl, hrc, hbk, hbw⟩ := hrel
    have HBW := Lib.hid hbw
    have HTW := Lib.hid (HB.out.trans (hbw.mono HSZ.out))
    cases gk with
    | zero =>
      have hje : j = l.length := by omega
      have hz : ¬ ((l.length : Int) < (l.length : Int)) := by omega
      have HO : Hid (OI 3 wr w.heap.size wr.heap.size (.slice (some ⟨tb, 0, none⟩) l.length l.length) (tabl F l.length)) := by
        have h9 := hrc.oi (lo := w.heap.size) (hi := wr.heap.size) HSZ.out (Nat.le_refl _)
        rw [hje, dcU_all, tabl_len] at h9
        exact h9
      rw [hje]
      clear hje hjg hrc hbk hbw
      go_wp2_with fail
      go_ret2
      exact ⟨_, rfl, HO.out, HTW.out⟩
    | succ g =>
      have hj : j < l.length := by omega
      have hjI : (j : Int) < (l.length : Int) := by omega
      obtain ⟨q, hq, hql, d0⟩ := HRC.out j hj
      obtain ⟨q2, hq2, hql2, d1⟩ := HRD.out j hj
      subst hq
      subst hq2
      obtain ⟨b, off, hA, hbB, hmc⟩ := HC.out (by omega)
      subst hA
      obtain ⟨hd0, hd1, hd2⟩ := hmc j hj
      have hT1w := HB2.out.trans (HBW.out.mono (by rw [HTB.out]; exact HB2.out.size))
      have m0 := (hT1w.cell (p := ⟨b, off + j * 3, none⟩) hbB).trans hd0
      have m1 := (hT1w.cell (p := ⟨b, off + j * 3 + 1, none⟩) hbB).trans hd1
      have m2 := (hT1w.cell (p := ⟨b, off + j * 3 + 2, none⟩) hbB).trans hd2
      have hei := HEI.out j
      have her := HER.out j
      have hmt := HMT.out j hj
      have hhi := hopsI_in hin.1 hmt
      have HV1 := Lib.hid (HVV.out j)
      have HHO := Lib.hid (fun w => slHops_any ⟨x.n, false⟩ l[j]! w hin hmt)
      clear hmc hd0 hd1 hd2 hT1w
      generalize l[j]! = m at m0 m1 m2 hmt hhi HV1 HHO
      obtain ⟨mt, mf, mo⟩ := m
      obtain ⟨_, _, k1, k2, k3, k4, k5⟩ := hmt
      simp only at m0 m1 m2 k1 k2 k3 k4
      simp only [MsV, SrV] at HHO
      have hsw := hbw.size
      have htw := hrc.lt
      have hrb : w.heap.size < wr.heap.size := hbk.1
      have HRC5 := Lib.hid (hrc.alloc (.cells #[.int .i64 mt, .int .i64 mf, .int .i64 mo] 53))
      have HBK5 := Lib.hid (hbk.alloc (.cells #[.int .i64 mt, .int .i64 mf, .int .i64 mo] 53))
      have HM5 := Lib.hid (BK.made wr 53 #[.int .i64 mt, .int .i64 mf, .int .i64 mo])
      have HBE5 := Lib.hid (hbw.alloc (by omega) (.cells #[.int .i64 mt, .int .i64 mf, .int .i64 mo] 53))
      obtain ⟨ub, hub⟩ : ∃ ub, ub = wr.heap.size := ⟨_, rfl⟩
      obtain ⟨hp, hH⟩ : ∃ hp, hp = hopsI x.n ⟨mt, mf, mo⟩ := ⟨_, rfl⟩
      rw [← hH] at hhi HV1 HHO
      obtain ⟨y, hy⟩ : ∃ y, y = FI j := ⟨_, rfl⟩
      obtain ⟨z, hz⟩ : ∃ z, z = FR j := ⟨_, rfl⟩
      rw [← hy] at d0 hei HV1
      rw [← hz] at d1 her HV1
      have hhp : 1 ≤ hp ∧ hp ≤ 12 := by have h1 := hhi.1; have h2 := hhi.2.1; omega
      have ew1 : IntKind.i64.wrap (z - y) = z - y := IntWalk.i64_in _ (by omega)
      have ew2 : IntKind.i64.wrap (z - y - hp) = z - y - hp := IntWalk.i64_in _ (by omega)
      have HS1 := Lib.hid (dcU_set F l.length j)
      have hlen := dcU_len F l.length j
      clear hrc hbk hbw hH hy hz hhi k1 k2 k3 k4 k5
      go_upto_region 8 with fail
      generalize wr.alloc (.cells #[.int .i64 mt, .int .i64 mf, .int .i64 mo] 53) = w5 at *
      rw [← hub] at HM5 htw hrb ⊢
      clear m0 m1 m2 hub
      refine wp_region_row (by kernel_rfl) (by kernel_rfl) 27 23 (by kernel_rfl) (by decide) (by simp) (fun i => [.slice (some ⟨tb, 0, none⟩) l.length l.length, .int .i64 (j : Int), .pointer (some ⟨gp, 0, none⟩), .pointer (some ⟨gp, 0, none⟩), .pointer (some ⟨gp, 9, none⟩), .slice (some ⟨q2, 0, none⟩) l.length WC, .int .i64 (j : Int), .pointer (some ⟨q2, j, none⟩), .int .i64 z, .pointer (some ⟨gp, 0, none⟩), .pointer (some ⟨gp, 0, none⟩), .pointer (some ⟨gp, 8, none⟩), .slice (some ⟨q, 0, none⟩) l.length VC, .int .i64 (j : Int), .pointer (some ⟨q, j, none⟩), .int .i64 y, .int .i64 (z - y), .agg #[.int .i64 x.n, .int .i64 x.r, .bool x.h], .agg #[.int .i64 x.n, .bool false], .agg #[.int .i64 mt, .int .i64 mf, .int .i64 mo], .int .i64 hp, .int .i64 (z - y - hp), .pointer (some ⟨tb, j, none⟩)].getD i undef)
        (fun D w' => BK w' w.heap.size 29 #[.int .i64 x.n, .int .i64 x.r, .bool x.h] ∧ BK w' ub 53 #[.int .i64 mt, .int .i64 mf, .int .i64 mo] ∧ RC w' tb l.length (if D 23 then dcU F l.length (j + 1) else dcU F l.length j) ∧ Below tb w2 w') ?_ ?_ ?_
      · have hb := (Below.refl w5.heap.size w5).drew
        exact ⟨HBK5.out.step hb, HM5.out.step hb, (by rw [if_neg (by simp)]; exact HRC5.out.step hb), HBE5.out.drew⟩
      · intro D D' ev w' i hi' hd hpre hD' hev hec hef hW
        obtain ⟨hBK, hM, hRC, hbel⟩ := hW
        have e2 := hev 2
        have e6 := hev 6
        have e7 := hev 7
        have e8 := hev 8
        have e9 := hev 9
        simp at e2 e6 e7 e8 e9
        have hi11 : i < 24 := hi'
        match i, hi11 with
        | 0, _ =>
          exact .value w' (by simp [go_sem, execOp, e7]) (⟨hBK, hM, by simpa [hD'] using hRC, hbel⟩)
        | 1, _ =>
          exact .value w' (by simp [go_sem, execOp, e8]) (⟨hBK, hM, by simpa [hD'] using hRC, hbel⟩)
        | 2, _ =>
          exact .value w' (by simp [go_sem, execOp, e6]) (⟨hBK, hM, by simpa [hD'] using hRC, hbel⟩)
        | 3, _ =>
          have p2 : D 2 = true := hpre ⟨2, .data⟩ (by simp) rfl
          have f2 := hev 29
          simp [p2] at f2
          exact .value w' (by simp [go_sem, execOp, f2]) (⟨hBK, hM, by simpa [hD'] using hRC, hbel⟩)
        | 4, _ =>
          have p3 : D 3 = true := hpre ⟨3, .data⟩ (by simp) rfl
          have f3 := hev 30
          simp [p3] at f3
          exact .value w' (by simp [go_sem, execOp, f3]) (⟨hBK, hM, by simpa [hD'] using hRC, hbel⟩)
        | 5, _ =>
          have p4 : D 4 = true := hpre ⟨4, .data⟩ (by simp) rfl
          have f4 := hev 31
          simp [p4] at f4
          have cc := (hbel.cell (p := ⟨gp, 9, none⟩) HGL.out).trans HC9.out
          exact .value w' (by simp [go_sem, execOp, f4, cc]) (⟨hBK, hM, by simpa [hD'] using hRC, hbel⟩)
        | 6, _ =>
          exact .value w' (by simp [go_sem, execOp, e8]) (⟨hBK, hM, by simpa [hD'] using hRC, hbel⟩)
        | 7, _ =>
          have p5 : D 5 = true := hpre ⟨5, .data⟩ (by simp) rfl
          have p6 : D 6 = true := hpre ⟨6, .data⟩ (by simp) rfl
          have f5 := hev 32
          have f6 := hev 33
          simp [p5, p6] at f5 f6
          exact .value w' (by simp [go_sem, execOp, f5, f6, hj]) (⟨hBK, hM, by simpa [hD'] using hRC, hbel⟩)
        | 8, _ =>
          have p7 : D 7 = true := hpre ⟨7, .data⟩ (by simp) rfl
          have f7 := hev 34
          simp [p7] at f7
          have cc := (hbel.cell (p := ⟨q2, j, none⟩) hql2).trans d1
          exact .value w' (by simp [go_sem, execOp, f7, cc]) (⟨hBK, hM, by simpa [hD'] using hRC, hbel⟩)
        | 9, _ =>
          exact .value w' (by simp [go_sem, execOp, e6]) (⟨hBK, hM, by simpa [hD'] using hRC, hbel⟩)
        | 10, _ =>
          have p9 : D 9 = true := hpre ⟨9, .data⟩ (by simp) rfl
          have f9 := hev 36
          simp [p9] at f9
          exact .value w' (by simp [go_sem, execOp, f9]) (⟨hBK, hM, by simpa [hD'] using hRC, hbel⟩)
        | 11, _ =>
          have p10 : D 10 = true := hpre ⟨10, .data⟩ (by simp) rfl
          have f10 := hev 37
          simp [p10] at f10
          exact .value w' (by simp [go_sem, execOp, f10]) (⟨hBK, hM, by simpa [hD'] using hRC, hbel⟩)
        | 12, _ =>
          have p11 : D 11 = true := hpre ⟨11, .data⟩ (by simp) rfl
          have f11 := hev 38
          simp [p11] at f11
          have cc := (hbel.cell (p := ⟨gp, 8, none⟩) HGL.out).trans HC8.out
          exact .value w' (by simp [go_sem, execOp, f11, cc]) (⟨hBK, hM, by simpa [hD'] using hRC, hbel⟩)
        | 13, _ =>
          exact .value w' (by simp [go_sem, execOp, e8]) (⟨hBK, hM, by simpa [hD'] using hRC, hbel⟩)
        | 14, _ =>
          have p12 : D 12 = true := hpre ⟨12, .data⟩ (by simp) rfl
          have p13 : D 13 = true := hpre ⟨13, .data⟩ (by simp) rfl
          have f12 := hev 39
          have f13 := hev 40
          simp [p12, p13] at f12 f13
          exact .value w' (by simp [go_sem, execOp, f12, f13, hj]) (⟨hBK, hM, by simpa [hD'] using hRC, hbel⟩)
        | 15, _ =>
          have p14 : D 14 = true := hpre ⟨14, .data⟩ (by simp) rfl
          have f14 := hev 41
          simp [p14] at f14
          have cc := (hbel.cell (p := ⟨q, j, none⟩) hql).trans d0
          exact .value w' (by simp [go_sem, execOp, f14, cc]) (⟨hBK, hM, by simpa [hD'] using hRC, hbel⟩)
        | 16, _ =>
          have p8 : D 8 = true := hpre ⟨8, .data⟩ (by simp) rfl
          have p15 : D 15 = true := hpre ⟨15, .data⟩ (by simp) rfl
          have f8 := hev 35
          have f15 := hev 42
          simp [p8, p15] at f8 f15
          exact .value w' (by simp [go_sem, execOp, f8, f15, ew1]) (⟨hBK, hM, by simpa [hD'] using hRC, hbel⟩)
        | 17, _ =>
          have c0 := hBK.cell 0
          have c1 := hBK.cell 1
          have c2 := hBK.cell 2
          simp only [List.getElem?_toArray, List.getElem?_cons_zero, List.getElem?_cons_succ] at c0 c1 c2
          exact .value w' (by simp [go_sem, execOp, e2, c0, c1, c2]) (⟨hBK, hM, by simpa [hD'] using hRC, hbel⟩)
        | 18, _ =>
          have p17 : D 17 = true := hpre ⟨17, .data⟩ (by simp) rfl
          have f17 := hev 44
          simp [p17] at f17
          refine .call 37 #[.agg #[.int .i64 x.n, .int .i64 x.r, .bool x.h]] w' ((run_call_any (f := 37) (ρ := ev) (args := #[.tmp 44]) (ats := #[29]) rfl (hef _) Try.func37 (by kernel_rfl) rfl).trans (by simp [f17])) ((HAS.out w').mono ?_)
          rintro e w'' ⟨rfl, hb''⟩
          exact ⟨rfl, hBK.step hb'', hM.step hb'', by have := hRC.step hb''; simpa [hD'] using this, hbel.trans (hb''.mono (by have := hRC.lt; omega))⟩
        | 19, _ =>
          have c0 := hM.cell 0
          have c1 := hM.cell 1
          have c2 := hM.cell 2
          simp only [List.getElem?_toArray, List.getElem?_cons_zero, List.getElem?_cons_succ] at c0 c1 c2
          exact .value w' (by simp [go_sem, execOp, e9, c0, c1, c2]) (⟨hBK, hM, by simpa [hD'] using hRC, hbel⟩)
        | 20, _ =>
          have p18 : D 18 = true := hpre ⟨18, .data⟩ (by simp) rfl
          have p19 : D 19 = true := hpre ⟨19, .data⟩ (by simp) rfl
          have f18 := hev 45
          have f19 := hev 46
          simp [p18, p19] at f18 f19
          refine .call 38 #[.agg #[.int .i64 x.n, .bool false], .agg #[.int .i64 mt, .int .i64 mf, .int .i64 mo]] w' ((run_call_any (f := 38) (ρ := ev) (args := #[.tmp 45, .tmp 46]) (ats := #[64, 53]) rfl (hef _) Try.func38 (by kernel_rfl) rfl).trans (by simp [f18, f19])) ((HHO.out w').mono ?_)
          rintro e w'' ⟨rfl, hb''⟩
          exact ⟨rfl, hBK.step hb'', hM.step hb'', by have := hRC.step hb''; simpa [hD'] using this, hbel.trans (hb''.mono (by have := hRC.lt; omega))⟩
        | 21, _ =>
          have p16 : D 16 = true := hpre ⟨16, .data⟩ (by simp) rfl
          have p20 : D 20 = true := hpre ⟨20, .data⟩ (by simp) rfl
          have f16 := hev 43
          have f20 := hev 47
          simp [p16, p20] at f16 f20
          exact .value w' (by simp [go_sem, execOp, f16, f20, ew2]) (⟨hBK, hM, by simpa [hD'] using hRC, hbel⟩)
        | 22, _ =>
          have p0 : D 0 = true := hpre ⟨0, .data⟩ (by simp) rfl
          have p1 : D 1 = true := hpre ⟨1, .data⟩ (by simp) rfl
          have f0 := hev 27
          have f1 := hev 28
          simp [p0, p1] at f0 f1
          exact .value w' (by simp [go_sem, execOp, f0, f1, hj]) (⟨hBK, hM, by simpa [hD'] using hRC, hbel⟩)
        | 23, _ =>
          have p21 : D 21 = true := hpre ⟨21, .data⟩ (by simp) rfl
          have p22 : D 22 = true := hpre ⟨22, .data⟩ (by simp) rfl
          have f21 := hev 48
          have f22 := hev 49
          simp [p21, p22] at f21 f22
          have hd23 : D 23 = false := hd
          simp only [hd23, Bool.false_eq_true, if_false] at hRC
          have c0 := hRC.cell j (by rw [hlen]; exact hj)
          have c1 := hRC.free j
          have hw : Wr tb (tb + 1) w' (w'.setCell ⟨tb, j, none⟩ (.int .i64 (z - y - hp))) := (Wr.refl _ _ _).setCell (p := ⟨tb, j, none⟩) (Nat.le_refl _) (Nat.lt_succ_self _) _
          refine .skip (w'.setCell ⟨tb, j, none⟩ (.int .i64 (z - y - hp))) rfl (by simp [go_sem, execOp, f21, f22, c0, c1]) ⟨hBK.far hw (by omega), hM.far hw (by omega), ?_, hbel.setCell (Nat.le_refl _) _⟩
          have := hRC.set j (z - y - hp)
          rw [show (dcU F l.length j).set j (z - y - hp) = dcU F l.length (j + 1) from by rw [← HV1.out]; exact HS1.out] at this
          simpa [hD'] using this
        | i + 24, h => exact absurd h (by omega)
      · intro D w' hall ⟨hBK, hM, hRC, hbel⟩
        have h9 := hall 23 (by decide)
        simp only [h9, if_true] at hRC
        have HR6 := Lib.hid hRC
        have HK6 := Lib.hid hBK
        have HT6 := Lib.hid hbel
        clear hBK hM hRC hbel
        simp only [putAll, Act.put, List.getD_cons_zero, List.getD_cons_succ, Nat.reduceAdd, List.setIfInBounds_toArray, List.set_cons_succ, List.set_cons_zero, Exit.then, Exit.inBlock]
        refine ‹∀ (a : Act) (w : World), _ → _› _ _ ?_
        go_wp2_with fail
        go_roundg g
        case measure => omega
        case rel => exact ⟨j + 1, by omega, by go_num, HR6.out, HK6.out, HT6.out⟩
set_option maxHeartbeats 4000000 in
theorem specDelaysOfCells_any (v : Value) (x : Ir) (l : List Ms) (w : World) (h : RMsS w w.heap.size v l) (hn : l.length ≤ 1048576) :
    Calls Try.prog 10 #[IrV x, v] w (RetLB 3 w (dcSays x l).1 (dcSays x l).2) := by
  have HG := Lib.hid (fun w h => (inAll_any _ x l w h hn : Calls _ _ #[_, v] w _))
  have hr := h
  obtain ⟨A, c, rfl, _, hlc, _⟩ := h
  have hW : Below w.heap.size w (w.alloc (.cells #[.int .i64 x.n, .int .i64 x.r, .bool x.h] 29)) := (Below.refl _ _).alloc (Nat.le_refl _) _
  have hB := BK.made w 29 #[.int .i64 x.n, .int .i64 x.r, .bool x.h]
  cases hg : inOk x l
  · rw [dcSays_no hg]
    rw [hg] at HG
    unfold IrV at HG ⊢
    clear hg hB
    go_enter Try.func10, Try.ntmps10
    go_wp2_with fail
    refine (HG.out _ ((hr.step hW (Nat.le_refl _)).more hW.size)).mono ?_; rintro e w1 ⟨rfl, hb⟩
    go_wp2_with fail
    go_ret2
    exact ⟨_, rfl, .inl ⟨rfl, none, 0, rfl, by simp, fun _ => rfl⟩, hW.trans (hb.mono hW.size)⟩
  rw [dcSays_yes hg]
  have HF := Lib.hid (fun w h => (inDone_any _ x l w h hg : Calls _ _ #[_, .slice A l.length c] w _))
  obtain ⟨hl20, hall, _⟩ := areMs_in (inOk_in hg).2
  have hl2 : (l.length : Int) ≤ 20 := by omega
  have hin := (isIr_in (inOk_in hg).1).1
  have HEI := Lib.hid (fun i => dcI_in hg i)
  have HER := Lib.hid (fun i => dcR_in hg i)
  have HMT := Lib.hid (fun i hi => msAtI hall i hi)
  obtain ⟨i0, hi, hz0, hz1, hz2⟩ := info_parts int_info
  clear hall
  rw [hg] at HG
  clear hg
  unfold IrV at HG HF ⊢
  go_enter Try.func10, Try.ntmps10
  go_wp2_with fail
  refine (HG.out _ ((hr.step hW (Nat.le_refl _)).more hW.size)).mono ?_; rintro e w1 ⟨rfl, hb⟩
  have T1 := hW.trans (hb.mono hW.size)
  have hB1 := hB.step hb
  have c0 := hB1.cell 0
  have c1 := hB1.cell 1
  have c2 := hB1.cell 2
  simp only [List.getElem?_toArray, List.getElem?_cons_zero, List.getElem?_cons_succ] at c0 c1 c2
  have HR1 := Lib.hid ((hr.step T1 (Nat.le_refl _)).more T1.size)
  have HT1 := Lib.hid T1
  have HB1 := Lib.hid hB1
  clear hW hB hb hB1 T1 hr
  go_wp2_with fail
  refine (HF.out _ HR1.out).mono ?_; rintro e w2 ⟨A2, c2', hAc, p, vs, rfl, ⟨hpA, hpc⟩, hp, hS⟩
  have HB := Lib.hid (HT1.out.trans (hS.bel.mono HT1.out.size))
  have HB2 := Lib.hid hS.bel
  have HBK := Lib.hid (HB1.out.step hS.bel)
  have c8 := hS.run.cell 6
  have c9 := hS.run.cell 7
  simp only [List.getElem?_toArray, List.getElem?_cons_zero, List.getElem?_cons_succ] at c8 c9
  have hgl := hS.run.1
  change InS _ _ _ _ _ _ (endOf x l) at hS
  obtain ⟨VA, VC, hV, hVA⟩ := hS.ins.form
  obtain ⟨WA, WC, hU, hWA⟩ := hS.read.form
  rw [tabl_len] at hV hVA hU hWA
  rw [hV] at c8
  rw [hU] at c9
  have HRC : Hid (∀ j, j < l.length → ∃ q, VA = some ⟨q, 0, none⟩ ∧ q < w2.heap.size ∧ w2.cell? ⟨q, j, none⟩ = some (.int .i64 ((endOf x l).I j))) := by
    show ∀ _, _
    intro j hj
    obtain ⟨c3, h3, h4⟩ := hS.ins.at_ j (by rw [tabl_len]; exact hj)
    have h5 := h4.cell j (by rw [tabl_len]; exact hj)
    rw [tabl_at _ _ _ hj] at h5
    exact ⟨_, hVA (by omega), h4.lt, h5⟩
  have HRD : Hid (∀ j, j < l.length → ∃ q, WA = some ⟨q, 0, none⟩ ∧ q < w2.heap.size ∧ w2.cell? ⟨q, j, none⟩ = some (.int .i64 ((endOf x l).R j))) := by
    show ∀ _, _
    intro j hj
    obtain ⟨c3, h3, h4⟩ := hS.read.at_ j (by rw [tabl_len]; exact hj)
    have h5 := h4.cell j (by rw [tabl_len]; exact hj)
    rw [tabl_at _ _ _ hj] at h5
    exact ⟨_, hWA (by omega), h4.lt, h5⟩
  obtain ⟨_, _, _, hc⟩ := (show RMsS w1 w1.heap.size (.slice A l.length c) l from HR1.out).parts
  have HC := Lib.hid hc
  have HSZ := Lib.hid HB.out.size
  have HVV : Hid (∀ j, dcV x l j = (endOf x l).R j - (endOf x l).I j - hopsI x.n l[j]!) := fun j => rfl
  generalize dcV x l = F at *
  generalize (endOf x l).I = FI at *
  generalize (endOf x l).R = FR at *
  obtain ⟨gp, hgp⟩ : ∃ gp, gp = p.g := ⟨_, rfl⟩
  rw [← hgp] at c8 c9 hgl ⊢
  have HC8 := Lib.hid c8
  have HC9 := Lib.hid c9
  have HGL : Hid (gp < w2.heap.size) := hgl
  obtain ⟨tb, htb⟩ : ∃ tb, tb = w2.heap.size := ⟨_, rfl⟩
  rw [← htb] at HGL HRC HRD HSZ
  have HTB := Lib.hid htb
  have hwt : w.heap.size < tb := by rw [htb]; exact HBK.out.1
  clear hS hp c0 c1 c2 hpA hpc hAc hV hVA hU hWA hgp c8 c9 hgl hc htb
  go_wp2_with fail
  go_loopg [20, 7] l.length (fun g sI s7 wx => ∃ j : Nat, j + g = l.length ∧ sI = .int .i64 (j : Int) ∧ AccK 1 3 wx tb s7 j (tabl F j) ∧ BK wx w.heap.size 29 #[.int .i64 x.n, .int .i64 x.r, .bool x.h] ∧ Below tb w2 wx)
  case atStart => exact ⟨0, by omega, rfl, AccK.nil _ _ _ _, HBK.out, Below.refl _ _⟩
  case round =>
    obtain ⟨j, hjg, rfl, hacc, hbk, hbw⟩ := hrel
    have HBW := Lib.hid hbw
    have HTW := Lib.hid (HB.out.trans (hbw.mono HSZ.out))
    cases gk with
    | zero =>
      have hje : j = l.length := by omega
      have hz : ¬ ((l.length : Int) < (l.length : Int)) := by omega
      have HO : Hid (OI 3 wr w.heap.size wr.heap.size u7 (tabl F l.length)) := by
        have h9 : Acc 3 wr tb u7 (tabl F l.length) := by
          have h8 := hacc.2
          rw [hje] at h8
          unfold Acc
          rw [tabl_len]
          exact h8
        exact h9.oi.wide (lo' := w.heap.size) HSZ.out (Nat.le_refl _)
      rw [hje]
      clear hje hjg hacc hbk hbw
      go_wp2_with fail
      go_ret2
      exact ⟨_, rfl, HO.out, HTW.out⟩
    | succ g =>
      have hj : j < l.length := by omega
      have hjI : (j : Int) < (l.length : Int) := by omega
      obtain ⟨q, hq, hql, d0⟩ := HRC.out j hj
      obtain ⟨q2, hq2, hql2, d1⟩ := HRD.out j hj
      subst hq
      subst hq2
      obtain ⟨b, off, hA, hbB, hmc⟩ := HC.out (by omega)
      subst hA
      obtain ⟨hd0, hd1, hd2⟩ := hmc j hj
      have hT1w := HB2.out.trans (HBW.out.mono (by rw [HTB.out]; exact HB2.out.size))
      have m0 := (hT1w.cell (p := ⟨b, off + j * 3, none⟩) hbB).trans hd0
      have m1 := (hT1w.cell (p := ⟨b, off + j * 3 + 1, none⟩) hbB).trans hd1
      have m2 := (hT1w.cell (p := ⟨b, off + j * 3 + 2, none⟩) hbB).trans hd2
      have hei := HEI.out j
      have her := HER.out j
      have hmt := HMT.out j hj
      have hhi := hopsI_in hin.1 hmt
      have HV1 := Lib.hid (HVV.out j)
      clear hmc hd0 hd1 hd2 hT1w
      generalize l[j]! = m at m0 m1 m2 hmt hhi HV1
      obtain ⟨mt, mf, mo⟩ := m
      obtain ⟨_, _, k1, k2, k3, k4, k5⟩ := hmt
      simp only at m0 m1 m2 k1 k2 k3 k4
      obtain ⟨y, hy⟩ : ∃ y, y = FI j := ⟨_, rfl⟩
      obtain ⟨z, hz⟩ : ∃ z, z = FR j := ⟨_, rfl⟩
      rw [← hy] at d0 hei HV1
      rw [← hz] at d1 her HV1
      obtain ⟨n, hn9⟩ : ∃ n, n = x.n := ⟨_, rfl⟩
      have hsw := hbw.size
      have hrb : w.heap.size < wr.heap.size := hbk.1
      have hk0 : x.n ≠ 0 := by have := hin.1; omega
      have hin1 := hin.1
      have hin2 := hin.2
      unfold hopsI at hhi HV1
      simp only at hhi HV1
      have hh1 := hhi.1
      have hh2 := hhi.2.1
      have ea : IntKind.i64.wrap (mo - mf) = mo - mf := IntWalk.i64_in _ (by omega)
      have eb : IntKind.i64.wrap (mo - mf + x.n) = mo - mf + x.n := IntWalk.i64_in _ (by omega)
      have ec : IntKind.i64.wrap ((mo - mf + x.n).tmod x.n) = (mo - mf + x.n).tmod x.n := IntWalk.i64_in _ (by omega)
      have ew1 : IntKind.i64.wrap (z - y) = z - y := IntWalk.i64_in _ (by omega)
      have he : (mo - mf + x.n).tmod x.n = (mo - mf) % x.n := by
        rw [Int.tmod_eq_emod_of_nonneg (by omega)]
        simp
      rw [he] at HV1 hh1 hh2
      have ew2 : IntKind.i64.wrap (z - y - (mo - mf) % x.n) = z - y - (mo - mf) % x.n := IntWalk.i64_in _ (by omega)
      have HST : Hid (tabl F (j + 1) = tabl F j ++ [z - y - (mo - mf) % x.n]) := by
        show _ = _
        rw [tabl_snoc, HV1.out]
      clear he hy hz hn9
      have r1 : (wr.alloc (.cells #[.int .i64 mt, .int .i64 mf, .int .i64 mo] 53)).cell? ⟨wr.heap.size, 1, none⟩ = some (.int .i64 mf) := by simp
      have r2 : (wr.alloc (.cells #[.int .i64 mt, .int .i64 mf, .int .i64 mo] 53)).cell? ⟨wr.heap.size, 2, none⟩ = some (.int .i64 mo) := by simp
      have hB5 := hbk.alloc (.cells #[.int .i64 mt, .int .i64 mf, .int .i64 mo] 53)
      have q0 := hB5.cell 0
      simp only [List.getElem?_toArray, List.getElem?_cons_zero] at q0
      have hb5 := hbw.alloc (by rw [HTB.out]; exact (by have := HTB.out ▸ hsw; omega)) (.cells #[.int .i64 mt, .int .i64 mf, .int .i64 mo] 53)
      have g5 := (hb5.cell (p := ⟨gp, 7, none⟩) HGL.out).trans HC9.out
      have g4 := (hb5.cell (p := ⟨gp, 6, none⟩) HGL.out).trans HC8.out
      have x0 := (hb5.cell (p := ⟨q, j, none⟩) hql).trans d0
      have x1 := (hb5.cell (p := ⟨q2, j, none⟩) hql2).trans d1
      have hacc1 := hacc.step ((Below.refl _ _).alloc (Nat.le_refl wr.heap.size) (.cells #[.int .i64 mt, .int .i64 mf, .int .i64 mo] 53))
      obtain ⟨w3, hw3⟩ : ∃ w3, w3 = wr.alloc (.cells #[.int .i64 mt, .int .i64 mf, .int .i64 mo] 53) := ⟨_, rfl⟩
      rw [← hw3] at hacc1 hb5 g5 g4 x0 x1 hB5
      have HOWN := Lib.hid (fun (b' : Nat) (hb' : b' < tb) => (show some b' ≠ Value.ownBlock u7 from fun h9 => by have := (World.ownsRow.lt hacc.2) _ h9.symm; omega))
      have HN1 : Hid (some gp ≠ Value.ownBlock u7) := HOWN.out gp HGL.out
      have HN2 : Hid (some q ≠ Value.ownBlock u7) := HOWN.out q hql
      have HN3 : Hid (some q2 ≠ Value.ownBlock u7) := HOWN.out q2 hql2
      have HA3 := Lib.hid hacc1
      have HB3 := Lib.hid hb5
      have HK3 := Lib.hid hB5
      have HW3 := Lib.hid hw3
      have hs3 : tb ≤ w3.heap.size := by rw [HTB.out]; exact hb5.size
      clear hw3 hB5 hacc hacc1 hb5 hbw hbk hhi
      go_upto_region 9 with fail
      rw [← HW3.out]
      clear HW3 m0 m1 m2 r1 r2 q0
      go_region_held_law (fun w' => w'.cell? ⟨gp, 7, none⟩ = some (.slice (some ⟨q2, 0, none⟩) l.length WC) ∧ w'.cell? ⟨gp, 6, none⟩ = some (.slice (some ⟨q, 0, none⟩) l.length VC) ∧ w'.cell? ⟨q, j, none⟩ = some (.int .i64 y) ∧ w'.cell? ⟨q2, j, none⟩ = some (.int .i64 z)) (with_reducible first | exact ⟨g5, g4, x0, x1⟩ | trivial | go_keep)
        (first | ((refine step_pushK rfl (.tmp 36) (.tmp 54) 26 rfl 3 i0 Try.underlying26 hi _ 1 8 hz0 hz1 hz2 rfl (by decide) (by decide) w3.drew w2 tb _ j _ [z - y - (mo - mf) % x.n] _ rfl rfl rfl rfl HA3.out rfl (by omega) hs3 HB3.out.drew ?_); (intro v7 w7 hacc7 t7 h8; have g5 := h8 _ _ g5 HN1.out; have g4 := h8 _ _ g4 HN1.out; have x0 := h8 _ _ x0 HN2.out; have x1 := h8 _ _ x1 HN3.out)))
      · have HA7 : Hid (AccK 1 3 w7 tb v7 (j + 1) (tabl F (j + 1))) := by
          show AccK _ _ _ _ _ _ _
          rw [HST.out]
          exact hacc7
        have HB7 := Lib.hid t7
        have HK7 : Hid (BK w7 w.heap.size 29 #[.int .i64 x.n, .int .i64 x.r, .bool x.h]) := ⟨Nat.lt_of_lt_of_le HBK.out.1 (by have := t7.size; exact this), (t7.block _ hwt).trans HBK.out.2⟩
        clear hacc7 t7 h8 g5 g4 x0 x1
        go_wp2_with fail
        go_roundg g
        case measure => omega
        case rel => exact ⟨j + 1, by omega, by go_num, HA7.out, HK7.out, HB7.out⟩
end Go.Proofs.Ytfphkgialmjfnaa

