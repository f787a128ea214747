/-
  LongestInsertWait answers as its model at every argument, writes into no argument, and its answer owns its memory. No condition.
-/
import Derived.Test.YthgnflcdpmedlaaLast6
import Derived.Test.YthgnflcdpmedlaaHeld
import Derived.Deep.QuietTactic
import Derived.BigQuiet
import Derived.Test.YthgnflcdpmedlaaFMessage
import Derived.Test.YthgnflcdpmedlaaFrame
import Derived.Deep.RegionWith
import Derived.Deep.DeepCutAuto
import Derived.Lib.SmallJoins
import Derived.Deep.Slices
import Derived.Deep.Fields
import Derived.ChangeSame
namespace Go.Proofs.Ythgnflcdpmedlaa
open Go.RowKit Go.Conc
set_option maxRecDepth 100000
set_option linter.unusedVariables false

def waitOf (x : Ir) (l : List Ms) (i : Nat) : Int := (endOf x l).I i - l[i]!.t
def longSays (x : Ir) (l : List Ms) : Int × Bool := if inOk x l then (topTo (waitOf x l) l.length, true) else (0, false)
theorem longSays_no {x : Ir} {l : List Ms} (h : inOk x l = false) : longSays x l = (0, false) := by simp only [longSays, h]; rfl
theorem longSays_yes {x : Ir} {l : List Ms} (h : inOk x l = true) : longSays x l = (topTo (waitOf x l) l.length, true) := by simp only [longSays, h, if_true]
theorem endI_in {x : Ir} {l : List Ms} (h : inOk x l = true) (i : Nat) : -1 ≤ (endOf x l).I i ∧ (endOf x l).I i ≤ 400 := by
  have h1 := (iwNeed h).1
  have h2 := Iw.I_in (x := iwOf x l) (iwOf x l).need i
  unfold endOf
  omega
theorem endR_in {x : Ir} {l : List Ms} (h : inOk x l = true) (i : Nat) : -1 ≤ (endOf x l).R i ∧ (endOf x l).R i ≤ 400 := by
  have h1 := (iwNeed h).1
  have h2 := Iw.R_in (iwOk h) (iwOf x l).need i
  unfold endOf
  omega
set_option maxHeartbeats 2000000 in
theorem implLongestInsertWait_any (v : Value) (x : Ir) (l : List Ms) (w : World) (h : RMsS w w.heap.size v l) (hn : l.length ≤ 1048576) :
    Calls Try.prog 32 #[IrV x, v] w (RetV w (.tuple #[.int .i64 (longSays x l).1, .bool (longSays x l).2])) := by
  have HG := Lib.hid (fun w h => (isInsertRingWith_any _ x l w h hn : Calls _ _ #[_, v] w _))
  have hr := h
  obtain ⟨A, c, rfl, _, hlc, _⟩ := h
  have hW : Below w.heap.size w (w.alloc (.cells #[.int .i64 x.n, .int .i64 x.r, .bool x.h] 25)) := (Below.refl _ _).alloc (Nat.le_refl _) _
  have hB := BK.made w 25 #[.int .i64 x.n, .int .i64 x.r, .bool x.h]
  cases hg : inOk x l
  · rw [longSays_no hg]
    rw [hg] at HG
    unfold IrV at HG ⊢
    clear hg hB
    go_enter Try.func32, Try.ntmps32
    go_wp2_with fail
    refine (HG.out _ ((hr.step hW (Nat.le_refl _)).more hW.size)).mono ?_; rintro e w1 ⟨rfl, hb⟩
    go_wp2_with fail
    go_ret2
    exact ⟨rfl, hW.trans (hb.mono hW.size)⟩
  rw [longSays_yes hg]
  have HF := Lib.hid (fun w h => (walkOfAll_any _ x l w h hg : Calls _ _ #[_, .slice A l.length c] w _))
  obtain ⟨hl20, hall, _⟩ := areMs_in (inOk_in hg).2
  have hl2 : (l.length : Int) ≤ 20 := by omega
  have HEI := Lib.hid (fun i => endI_in hg i)
  have HMT := Lib.hid (fun i hi => msAtI hall i hi)
  clear hall
  rw [hg] at HG
  clear hg
  unfold IrV at HG HF ⊢
  go_enter Try.func32, Try.ntmps32
  go_wp2_with fail
  refine (HG.out _ ((hr.step hW (Nat.le_refl _)).more hW.size)).mono ?_; rintro e w1 ⟨rfl, hb⟩
  have T1 := hW.trans (hb.mono hW.size)
  have hB1 := hB.step hb
  have c0 := hB1.cell 0
  have c1 := hB1.cell 1
  have c2 := hB1.cell 2
  simp only [List.getElem?_toArray, List.getElem?_cons_zero, List.getElem?_cons_succ] at c0 c1 c2
  have HR1 := Lib.hid ((hr.step T1 (Nat.le_refl _)).more T1.size)
  have HT1 := Lib.hid T1
  clear hW hB hb hB1 T1 hr
  go_wp2_with fail
  refine (HF.out _ HR1.out).mono ?_; rintro e w2 ⟨A2, c2', hAc, p, rfl, ⟨hpA, hpc⟩, hp, hS⟩
  have HB := Lib.hid (HT1.out.trans (hS.bel.mono HT1.out.size))
  have HB2 := Lib.hid hS.bel
  have c4 := hS.run.cell 8
  simp only [List.getElem?_toArray, List.getElem?_cons_zero, List.getElem?_cons_succ] at c4
  change GoS _ _ _ _ _ _ _ (endOf x l) at hS
  obtain ⟨VA, VC, hV, hVA⟩ := hS.ins.form
  rw [tabl_len] at hV hVA
  rw [hV] at c4
  have HRC : Hid (∀ j, j < l.length → ∃ q, VA = some ⟨q, 0, none⟩ ∧ q < w2.heap.size ∧ w2.cell? ⟨q, j, none⟩ = some (.int .i64 ((endOf x l).I j))) := by
    show ∀ _, _
    intro j hj
    obtain ⟨c3, h3, h4⟩ := hS.ins.at_ j (by rw [tabl_len]; exact hj)
    have h5 := h4.cell j (by rw [tabl_len]; exact hj)
    rw [tabl_at _ _ _ hj] at h5
    exact ⟨_, hVA (by omega), h4.lt, h5⟩
  obtain ⟨_, _, _, hc⟩ := (show RMsS w1 w1.heap.size (.slice A l.length c) l from HR1.out).parts
  have HC := Lib.hid hc
  have HTS : Hid (∀ j, topTo (waitOf x l) (j + 1) = max (topTo (waitOf x l) j) ((endOf x l).I j - l[j]!.t)) := fun j => rfl
  have HT0 : Hid (topTo (waitOf x l) 0 = 0) := rfl
  generalize topTo (waitOf x l) = M at *
  generalize (endOf x l).I = R at *
  clear hS hp c0 c1 c2 hpA hpc hAc hV hVA hc
  go_wp2_with fail
  go_loopw [20, 6] (fun i m wr => ∃ j : Nat, j ≤ l.length ∧ i = .int .i64 j ∧ m = .int .i64 (M j) ∧ Below w2.heap.size w2 wr) (fun i _ _ => l.length - (intOf i).toNat)
  case atStart => exact ⟨0, Nat.zero_le _, rfl, by rw [HT0.out], Below.refl _ _⟩
  case round =>
    obtain ⟨j, hj, rfl, rfl, hbw⟩ := hrel
    by_cases hlt : j < l.length
    · have hjI : (j : Int) < (l.length : Int) := by omega
      obtain ⟨q, hq, hql, hcell⟩ := HRC.out j hlt
      rw [hq]
      have d0 := (hbw.cell (p := ⟨q, j, none⟩) hql).trans hcell
      have HS := Lib.hid (HTS.out j)
      obtain ⟨b, off, hA, hbB, hmc⟩ := HC.out (by omega)
      have hbw2 := HB2.out.trans (hbw.mono HB2.out.size)
      have m0 := (hbw2.cell (p := ⟨b, off + j * 3, none⟩) hbB).trans (hmc j hlt).1
      have hei := HEI.out j
      have hmt := HMT.out j hlt
      subst hA
      generalize M j = m at HS
      generalize R j = y at d0 HS hei
      generalize l[j]! = z at m0 HS hmt
      obtain ⟨zt, zf, zo⟩ := z
      obtain ⟨z1, z2, _⟩ := hmt
      simp only at m0 HS z1 z2
      have ew : IntKind.i64.wrap (y - zt) = y - zt := IntWalk.i64_in _ (by omega)
      have HBW := Lib.hid hbw
      clear hbw hbw2 hq hcell hmc
      go_wp2_with fail
      go_roundw
      case rel => exact ⟨j + 1, by omega, by go_num, by rw [HS.out], HBW.out⟩
      case measure => simp [intOf]; omega
    · obtain rfl : j = l.length := by omega
      have HBW := Lib.hid (HB.out.trans (hbw.mono HB.out.size))
      clear hbw
      go_wp2_with fail
      go_ret2
      exact ⟨rfl, HBW.out⟩
set_option maxHeartbeats 2000000 in
theorem specLongestInsertWait_any (v : Value) (x : Ir) (l : List Ms) (w : World) (h : RMsS w w.heap.size v l) (hn : l.length ≤ 1048576) :
    Calls Try.prog 31 #[IrV x, v] w (RetV w (.tuple #[.int .i64 (longSays x l).1, .bool (longSays x l).2])) := by
  have HG := Lib.hid (fun w h => (inAll_any _ x l w h hn : Calls _ _ #[_, v] w _))
  have hr := h
  obtain ⟨A, c, rfl, _, hlc, _⟩ := h
  have hW : Below w.heap.size w (w.alloc (.cells #[.int .i64 x.n, .int .i64 x.r, .bool x.h] 25)) := (Below.refl _ _).alloc (Nat.le_refl _) _
  have hB := BK.made w 25 #[.int .i64 x.n, .int .i64 x.r, .bool x.h]
  cases hg : inOk x l
  · rw [longSays_no hg]
    rw [hg] at HG
    unfold IrV at HG ⊢
    clear hg hB
    go_enter Try.func31, Try.ntmps31
    go_wp2_with fail
    refine (HG.out _ ((hr.step hW (Nat.le_refl _)).more hW.size)).mono ?_; rintro e w1 ⟨rfl, hb⟩
    go_wp2_with fail
    go_ret2
    exact ⟨rfl, hW.trans (hb.mono hW.size)⟩
  rw [longSays_yes hg]
  have HF := Lib.hid (fun w h => (inDone_any _ x l w h hg : Calls _ _ #[_, .slice A l.length c] w _))
  obtain ⟨hl20, hall, _⟩ := areMs_in (inOk_in hg).2
  have hl2 : (l.length : Int) ≤ 20 := by omega
  have HEI := Lib.hid (fun i => endI_in hg i)
  have HMT := Lib.hid (fun i hi => msAtI hall i hi)
  clear hall
  rw [hg] at HG
  clear hg
  unfold IrV at HG HF ⊢
  go_enter Try.func31, Try.ntmps31
  go_wp2_with fail
  refine (HG.out _ ((hr.step hW (Nat.le_refl _)).more hW.size)).mono ?_; rintro e w1 ⟨rfl, hb⟩
  have T1 := hW.trans (hb.mono hW.size)
  have hB1 := hB.step hb
  have c0 := hB1.cell 0
  have c1 := hB1.cell 1
  have c2 := hB1.cell 2
  simp only [List.getElem?_toArray, List.getElem?_cons_zero, List.getElem?_cons_succ] at c0 c1 c2
  have HR1 := Lib.hid ((hr.step T1 (Nat.le_refl _)).more T1.size)
  have HT1 := Lib.hid T1
  clear hW hB hb hB1 T1 hr
  go_wp2_with fail
  refine (HF.out _ HR1.out).mono ?_; rintro e w2 ⟨A2, c2', hAc, p, vs, rfl, ⟨hpA, hpc⟩, hp, hS⟩
  have HB := Lib.hid (HT1.out.trans (hS.bel.mono HT1.out.size))
  have HB2 := Lib.hid hS.bel
  have c4 := hS.run.cell 6
  simp only [List.getElem?_toArray, List.getElem?_cons_zero, List.getElem?_cons_succ] at c4
  have hgl := hS.run.1
  change InS _ _ _ _ _ _ (endOf x l) at hS
  obtain ⟨VA, VC, hV, hVA⟩ := hS.ins.form
  rw [tabl_len] at hV hVA
  rw [hV] at c4
  have HRC : Hid (∀ j, j < l.length → ∃ q, VA = some ⟨q, 0, none⟩ ∧ q < w2.heap.size ∧ w2.cell? ⟨q, j, none⟩ = some (.int .i64 ((endOf x l).I j))) := by
    show ∀ _, _
    intro j hj
    obtain ⟨c3, h3, h4⟩ := hS.ins.at_ j (by rw [tabl_len]; exact hj)
    have h5 := h4.cell j (by rw [tabl_len]; exact hj)
    rw [tabl_at _ _ _ hj] at h5
    exact ⟨_, hVA (by omega), h4.lt, h5⟩
  obtain ⟨_, _, _, hc⟩ := (show RMsS w1 w1.heap.size (.slice A l.length c) l from HR1.out).parts
  have HC := Lib.hid hc
  have HTS : Hid (∀ j, topTo (waitOf x l) (j + 1) = max (topTo (waitOf x l) j) ((endOf x l).I j - l[j]!.t)) := fun j => rfl
  have HT0 : Hid (topTo (waitOf x l) 0 = 0) := rfl
  generalize topTo (waitOf x l) = M at *
  generalize (endOf x l).I = R at *
  obtain ⟨g, hg'⟩ : ∃ g, g = p.g := ⟨_, rfl⟩
  rw [← hg'] at c4 hgl ⊢
  have HC4 := Lib.hid c4
  clear hS hp c0 c1 c2 hpA hpc hAc hV hVA hc hg' c4
  go_wp2_with fail
  go_loopw [19, 7] (fun i m wr => ∃ j : Nat, j ≤ l.length ∧ i = .int .i64 j ∧ m = .int .i64 (M j) ∧ Below w2.heap.size w2 wr) (fun i _ _ => l.length - (intOf i).toNat)
  case atStart => exact ⟨0, Nat.zero_le _, rfl, by rw [HT0.out], Below.refl _ _⟩
  case round =>
    obtain ⟨j, hj, rfl, rfl, hbw⟩ := hrel
    by_cases hlt : j < l.length
    · have hjI : (j : Int) < (l.length : Int) := by omega
      obtain ⟨q, hq, hql, hcell⟩ := HRC.out j hlt
      have d0 := (hbw.cell (p := ⟨q, j, none⟩) hql).trans hcell
      have k4 := (hbw.cell (p := ⟨g, 6, none⟩) hgl).trans HC4.out
      rw [hq] at k4
      have HS := Lib.hid (HTS.out j)
      obtain ⟨b, off, hA, hbB, hmc⟩ := HC.out (by omega)
      have hbw2 := HB2.out.trans (hbw.mono HB2.out.size)
      obtain ⟨e0, e1, e2⟩ := hmc j hlt
      have m0 := (hbw2.cell (p := ⟨b, off + j * 3, none⟩) hbB).trans e0
      have m1 := (hbw2.cell (p := ⟨b, off + j * 3 + 1, none⟩) hbB).trans e1
      have m2 := (hbw2.cell (p := ⟨b, off + j * 3 + 2, none⟩) hbB).trans e2
      have hei := HEI.out j
      have hmt := HMT.out j hlt
      rw [hA]
      clear e0 e1 e2
      generalize M j = m at HS
      generalize R j = y at d0 HS hei
      generalize l[j]! = z at m0 m1 m2 HS hmt
      obtain ⟨zt, zf, zo⟩ := z
      obtain ⟨z1, z2, _⟩ := hmt
      simp only at m0 m1 m2 HS z1 z2
      have ew : IntKind.i64.wrap (y - zt) = y - zt := IntWalk.i64_in _ (by omega)
      have hws := hbw.size
      have hz : (wr.alloc (.cells #[.int .i64 zt, .int .i64 zf, .int .i64 zo] 52)).heap.size = wr.heap.size + 1 := by simp
      have x0 := (BK.made wr 52 #[.int .i64 zt, .int .i64 zf, .int .i64 zo]).cell 0
      simp only [List.getElem?_toArray, List.getElem?_cons_zero] at x0
      have x4 := (World.cell?_alloc_lt wr (.cells #[.int .i64 zt, .int .i64 zf, .int .i64 zo] 52) _ (show g < wr.heap.size by omega)).trans k4
      have y0 := (World.cell?_alloc_lt wr (.cells #[.int .i64 zt, .int .i64 zf, .int .i64 zo] 52) _ (show q < wr.heap.size by omega)).trans d0
      have HBA := Lib.hid (hbw.alloc hbw.size (.cells #[.int .i64 zt, .int .i64 zf, .int .i64 zo] 52))
      obtain ⟨wm, hwm⟩ : ∃ wm, wm = wr.alloc (.cells #[.int .i64 zt, .int .i64 zf, .int .i64 zo] 52) := ⟨_, rfl⟩
      rw [← hwm] at hz x0 x4 y0 HBA
      have HWM := Lib.hid hwm
      obtain ⟨ub, hub⟩ : ∃ ub, ub = wr.heap.size := ⟨_, rfl⟩
      rw [← hub] at x0
      have a0 := fun (s : HW wm) => HW.cellIs (p := ⟨ub, 0, none⟩) x0 (by show ub < _; omega) s
      have a1 := fun (s : HW wm) => HW.cellIs (p := ⟨g, 6, none⟩) x4 (by show g < _; omega) s
      have a2 := fun (s : HW wm) => HW.cellIs (p := ⟨q, j, none⟩) y0 (by show q < _; omega) s
      have HUB := Lib.hid hub
      have HMO := Lib.hid (fun w => inMost_any m (y - zt) w)
      clear hbw hbw2 hq hcell hmc hwm hub hz x0 x4 y0 d0 k4 hA
      go_upto_region 8 with fail
      rw [← HWM.out, ← HUB.out]
      clear m0 m1 m2
      refine wp_region_held_lit (by kernel_rfl) (by kernel_rfl) ?_
      repeat (go_big_quiet_step ((first | (go_at_call 43; with_reducible exact held_same _ (HMO.out _)))))
      refine wpQuiet_nil ?_
      intro _ hw'
      obtain ⟨s5, hw''⟩ := hw'
      subst hw''
      have HB5 := Lib.hid (HBA.out.trans (s5.bel.mono HBA.out.size))
      go_wp2_with fail
      go_roundw
      case rel => exact ⟨j + 1, by omega, by go_num, by rw [HS.out], HB5.out⟩
      case measure => simp [intOf]; omega
    · obtain rfl : j = l.length := by omega
      have HBW := Lib.hid (HB.out.trans (hbw.mono HB.out.size))
      clear hbw
      go_wp2_with fail
      go_ret2
      exact ⟨rfl, HBW.out⟩
end Go.Proofs.Ythgnflcdpmedlaa

namespace Go.Proofs.Ythgnflcdpmedlaa.lawLongestInsertWait
open Go.RowKit Go.ChangeShapes Go.WideShapes Go.ChangeAt
set_option maxRecDepth 100000
set_option linter.unusedVariables false

set_option maxHeartbeats 4000000 in
theorem walk (z0 : Ir) (s1 : Value) (d1 : List Ms) (w : World) (h1 : RMsS w w.heap.size s1 d1) (hm1 : d1.length ≤ maxLen) :
    Calls Try.prog 9 #[IrV z0, s1] w (RetV w (.bool true)) := by
  obtain ⟨y0n, y0r, y0h⟩ := z0
  simp only [IrV]
  have hr1 := h1
  obtain ⟨a1, c1, rfl, _, _, _⟩ := h1
  have t0 : Below w.heap.size w w := Below.refl _ _
  rcases Nat.lt_or_ge 1048576 d1.length with hn1 | hn1
  · have hn' : (1048576 : Int) < d1.length := by omega
    go_enter Try.func9, Try.ntmps9
    have hb1 : Below w.heap.size w (w.alloc (.cells #[.int .i64 y0n, .int .i64 y0r, .bool y0h] 23)) := (Below.refl _ _).alloc (Nat.le_refl _) _
    have bb__0 := BK.made w 23 #[.int .i64 y0n, .int .i64 y0r, .bool y0h]
    have lb1 := bb__0.1
    have s1_ := hb1.size
    have t1 := t0.trans (hb1.mono (by omega))
    have f1 := hr1.step hb1 (by omega)
    clear hr1
    have j2 := bb__0.cell 0
    have j3 := bb__0.cell 1
    have j4 := bb__0.cell 2
    simp at j2 j3 j4
    go_wp2_with fail
    refine (szMessageS_any _ d1 _ _ (f1.more (by omega)) (by omega) (by omega) hm1).mono ?_; rintro e w2 ⟨rfl, hb2⟩
    rw [if_pos (by omega)]
    go_wp2_with fail
    go_ret
    exact ⟨rfl, t1.trans (hb2.mono (by omega))⟩
  have hq1 : (d1.length : Int) ≤ 1048576 := by omega
  obtain ⟨X, b, hX⟩ : ∃ X b, (X, b) = longSays ⟨y0n, y0r, y0h⟩ d1 := ⟨_, _, rfl⟩
  have HI : Hid (∀ v1 w, RMsS w w.heap.size v1 d1 → Calls Try.prog 32 #[.agg #[.int .i64 y0n, .int .i64 y0r, .bool y0h], v1] w (RetV w (.tuple #[.int .i64 X, .bool b]))) := by
    show ∀ v1 w, RMsS w w.heap.size v1 d1 → Calls Try.prog 32 #[.agg #[.int .i64 y0n, .int .i64 y0r, .bool y0h], v1] w (RetV w (.tuple #[.int .i64 X, .bool b]))
    intro v1 w q1
    have h5 := implLongestInsertWait_any v1 ⟨y0n, y0r, y0h⟩ d1 w q1 hn1
    rw [← hX] at h5
    exact h5
  have HS : Hid (∀ v1 w, RMsS w w.heap.size v1 d1 → Calls Try.prog 31 #[.agg #[.int .i64 y0n, .int .i64 y0r, .bool y0h], v1] w (RetV w (.tuple #[.int .i64 X, .bool b]))) := by
    show ∀ v1 w, RMsS w w.heap.size v1 d1 → Calls Try.prog 31 #[.agg #[.int .i64 y0n, .int .i64 y0r, .bool y0h], v1] w (RetV w (.tuple #[.int .i64 X, .bool b]))
    intro v1 w q1
    have h5 := specLongestInsertWait_any v1 ⟨y0n, y0r, y0h⟩ d1 w q1 hn1
    rw [← hX] at h5
    exact h5
  have HA0 : Hid (∀ w, Calls Try.prog 12 #[.agg #[.int .i64 y0n, .int .i64 y0r, .bool y0h]] w (RetV w (.agg #[.int .i64 y0n, .int .i64 y0r, .bool y0h]))) := by
    show ∀ w, Calls Try.prog 12 #[.agg #[.int .i64 y0n, .int .i64 y0r, .bool y0h]] w (RetV w (.agg #[.int .i64 y0n, .int .i64 y0r, .bool y0h]))
    intro w
    exact toInsertRing_any ⟨y0n, y0r, y0h⟩ w
  clear hX
  go_enter Try.func9, Try.ntmps9
  have hb1 : Below w.heap.size w (w.alloc (.cells #[.int .i64 y0n, .int .i64 y0r, .bool y0h] 23)) := (Below.refl _ _).alloc (Nat.le_refl _) _
  have bb__0 := BK.made w 23 #[.int .i64 y0n, .int .i64 y0r, .bool y0h]
  have lb1 := bb__0.1
  have s1_ := hb1.size
  have t1 := t0.trans (hb1.mono (by omega))
  have f1 := hr1.step hb1 (by omega)
  clear hr1
  have j2 := bb__0.cell 0
  have j3 := bb__0.cell 1
  have j4 := bb__0.cell 2
  simp at j2 j3 j4
  go_wp2_with fail
  refine (szMessageS_any _ d1 _ _ (f1.more (by omega)) (by omega) (by omega) hm1).mono ?_; rintro e w2 ⟨rfl, hb2⟩
  have s2_ := hb2.size
  have t2 := t1.trans (hb2.mono (by omega))
  clear j2 j3 j4
  have f5 := f1.step hb2 (by omega)
  clear f1
  have f6 := bb__0.step hb2
  clear bb__0
  rw [if_neg (by omega)]
  have j7 := f6.cell 0
  have j8 := f6.cell 1
  have j9 := f6.cell 2
  simp at j7 j8 j9
  go_wp2_with fail
  refine (HA0.out _).mono ?_; rintro e w3 ⟨rfl, hb3⟩
  have s3_ := hb3.size
  have t3 := t2.trans (hb3.mono (by omega))
  clear j7 j8 j9
  have f10 := f5.step hb3 (by omega)
  clear f5
  have f11 := f6.step hb3
  clear f6
  have j12 := f11.cell 0
  have j13 := f11.cell 1
  have j14 := f11.cell 2
  simp at j12 j13 j14
  go_wp2_with fail
  refine (toMessageS_any _ _ _ (f10.more (by omega)) hn1).mono ?_; rintro e w4 ⟨u_p1, rfl, o_p1, hb4⟩
  have s4_ := hb4.size
  have t4 := t3.trans (hb4.mono (by omega))
  clear j12 j13 j14
  have f15 := f10.step hb4 (by omega)
  clear f10
  have f16 := f11.step hb4
  clear f11
  have j17 := f16.cell 0
  have j18 := f16.cell 1
  have j19 := f16.cell 2
  simp at j17 j18 j19
  go_wp2_with fail
  refine (HS.out _ _ (o_p1.rk.more (by omega))).mono ?_; rintro e w5 ⟨rfl, hb5⟩
  have s5_ := hb5.size
  have t5 := t4.trans (hb5.mono (by omega))
  clear j17 j18 j19
  have f20 := f15.step hb5 (by omega)
  clear f15
  have f21 := f16.step hb5
  clear f16
  have f22 := o_p1.step hb5
  clear o_p1
  have j23 := f21.cell 0
  have j24 := f21.cell 1
  have j25 := f21.cell 2
  simp at j23 j24 j25
  go_wp2_with fail
  refine (toMessageS_any _ _ _ (f20.more (by omega)) hn1).mono ?_; rintro e w6 ⟨u_x1_, rfl, o_x1_, hb6⟩
  have s6_ := hb6.size
  have t6 := t5.trans (hb6.mono (by omega))
  clear j23 j24 j25
  have f26 := f20.step hb6 (by omega)
  clear f20
  have f27 := f21.step hb6
  clear f21
  have j28 := f27.cell 0
  have j29 := f27.cell 1
  have j30 := f27.cell 2
  simp at j28 j29 j30
  go_wp2_with fail
  refine (HA0.out _).mono ?_; rintro e w7 ⟨rfl, hb7⟩
  have s7_ := hb7.size
  have t7 := t6.trans (hb7.mono (by omega))
  clear j28 j29 j30
  have f31 := f26.step hb7 (by omega)
  clear f26
  have f32 := f27.step hb7
  clear f27
  have f33 := o_x1_.step hb7
  clear o_x1_
  have j34 := f32.cell 0
  have j35 := f32.cell 1
  have j36 := f32.cell 2
  simp at j34 j35 j36
  go_wp2_with fail
  refine (HI.out _ _ (f33.rk.more (by omega))).mono ?_; rintro e w8 ⟨rfl, hb8⟩
  have s8_ := hb8.size
  have t8 := t7.trans (hb8.mono (by omega))
  clear j34 j35 j36
  have f37 := f31.step hb8 (by omega)
  clear f31
  have f38 := f32.step hb8
  clear f32
  have f39 := f33.step hb8
  clear f33
  have j40 := f38.cell 0
  have j41 := f38.cell 1
  have j42 := f38.cell 2
  simp at j40 j41 j42
  go_wp2_with fail
  refine (toMessageS_any _ _ _ (f37.more (by omega)) hn1).mono ?_; rintro e w9 ⟨u_y, rfl, o_y, hb9⟩
  have s9_ := hb9.size
  have t9 := t8.trans (hb9.mono (by omega))
  clear j40 j41 j42
  have f43 := f37.step hb9 (by omega)
  clear f37
  have f44 := f38.step hb9
  clear f38
  have f45 := f39.step hb9
  clear f39
  have j46 := f44.cell 0
  have j47 := f44.cell 1
  have j48 := f44.cell 2
  simp at j46 j47 j48
  go_wp2_with fail
  refine (eqMessageS_same _ _ _ _ (f45.rk.more (by omega)) (o_y.rk.more (by omega)) hn1).mono ?_; rintro e w10 ⟨rfl, hb10⟩
  have s10_ := hb10.size
  have t10 := t9.trans (hb10.mono (by omega))
  clear j46 j47 j48
  have f49 := f43.step hb10 (by omega)
  clear f43
  have f50 := f44.step hb10
  clear f44
  have f51 := f45.step hb10
  clear f45
  have f52 := o_y.step hb10
  clear o_y
  have j53 := f50.cell 0
  have j54 := f50.cell 1
  have j55 := f50.cell 2
  simp at j53 j54 j55
  go_wp2_with fail
  go_ret
  exact ⟨rfl, t10⟩

set_option maxRecDepth 100000 in
theorem lifted (os : Os) (started : os.Started) (H : Type) (enc : TypeId × Value → H) :
    ReturnsInHanded {} Try.checked os 9 .any (Rows.fnExactLongestInsertWaitSpec.pre6 enc Try.prog Try.f9 Rows.fnExactLongestInsertWaitRow.domain false) (Rows.fnExactLongestInsertWaitSpec.post enc Try.prog Try.f9 false true false false) := by
  refine returnsInHanded_of_change (C := Try.checked) own started (by kernel_rfl) Try.func9
    (ChangeSpec.witness6 (enc := enc) (C := Try.checked) false ⟨#[], #[.agg #[.int .i64 0, .int .i64 0, .bool false], .slice none 0 0], []⟩ 8 (by kernel_rfl) (by kernel_rfl) (by kernel_rfl) (by kernel_rfl)) ?_
  intro W base args ds gs before hval0 hW hcnd _
  have hval : ∀ (j : Nat) t v, Try.f9.params[j]? = some t → args[j]? = some v → Value.okWide Try.prog W .any base t v := hval0
  have hW' := hW
  obtain ⟨p, q, hA0, hV, rfl, hfz, hnd⟩ := hW
  have hA : DataW.TrodAll enc Try.prog W 0 (fun _ => true) true Try.f9.params.toList args.toList ds p := hA0
  rw [Try.params9] at hA hval
  obtain ⟨v0, vs0, d0, ds0, p0, q0, hargs, rfl, rfl, h0, r0⟩ := trodAll_cons hA
  obtain ⟨v1, vs1, d1, ds1, p1, q1, rfl, rfl, rfl, h1, r1⟩ := trodAll_cons r0
  obtain ⟨rfl, rfl, rfl⟩ := trodAll_nil r1
  obtain rfl : args = #[v0, v1] := by cases args; simp_all
  obtain ⟨rfl, rfl⟩ := trodVars_none hV
  have k0 := h0
  have lt0 : ∀ x ∈ p0, x.block < W.heap.size := by obtain ⟨m, hm⟩ := k0; exact DataW.trod_lt m _ _ _ hm
  obtain ⟨e0_0, e0_1, e0_2, y0_0, y0_1, y0_2, m0, rfl, hd0, hp0, g0_0, g0_1, g0_2⟩ := Go.Joins.open_agg3 Try.underlying23 (by kernel_rfl) (by kernel_rfl) (hval 0 23 v0 rfl rfl) h0
  obtain ⟨x0_0, hx0_0, _, w0_0⟩ := DataW.trod_int Try.underlying3 g0_0
  obtain rfl : e0_0 = .int .i64 x0_0 := by simpa using hx0_0
  obtain ⟨x0_1, hx0_1, _, w0_1⟩ := DataW.trod_int Try.underlying3 g0_1
  obtain rfl : e0_1 = .int .i64 x0_1 := by simpa using hx0_1
  obtain ⟨x0_2, hx0_2, _⟩ := DataW.trod_bool Try.underlying4 g0_2
  obtain rfl : e0_2 = .bool x0_2 := by simpa using hx0_2
  have k1 := h1
  have lt1 : ∀ x ∈ p1, x.block < W.heap.size := by obtain ⟨m, hm⟩ := k1; exact DataW.trod_lt m _ _ _ hm
  obtain ⟨aa1, la1, ca1, rfl⟩ := okWide_slice Try.underlying28 (hval 1 28 v1 rfl rfl)
  obtain ⟨fu1, hfu1⟩ := h1
  obtain ⟨l1, n1, w1, _⟩ := open_MessageS hfu1
  clear hA0 hval0
  refine (walk ⟨x0_0, x0_1, x0_2⟩ _ l1 W n1 w1).mono fun e W' ⟨he, bel⟩ => ?_
  subst he
  exact ⟨_, rfl, _, _, _, [], _, [], hW', trodAll_mk1 (shut_bool Try.underlying4 _), (trodAll_cons_mk (Below.trod laidOut (by kernel_rfl) (of_decide_eq_true (by kernel_rfl)) k0 bel lt0) (trodAll_cons_mk (Below.trod laidOut (by kernel_rfl) (of_decide_eq_true (by kernel_rfl)) k1 bel lt1) trodAll_mk0)), rfl, bel.frame _, fun h => by cases h⟩

theorem closed : joinedFacts Try.pinned.checked.prog 9 Try.f9 Rows.fnExactLongestInsertWaitSpec Rows.fnExactLongestInsertWaitRow = true := by
  unfold joinedFacts
  repeat' (with_reducible refine and_t ?_ ?_)
  all_goals first
    | (with_reducible exact init_mayEnter)
    | (with_reducible refine init_lifted ?_; as_aux_lemma => kernel_rfl)
    | (with_reducible refine init_mk ?_; as_aux_lemma => kernel_rfl)
    | (as_aux_lemma => kernel_rfl)

theorem over : Rows.fnExactLongestInsertWaitRow.holds Try.pinned (OpenSpec.ofChange Rows.fnExactLongestInsertWaitSpec) :=
  OpenClaim.holds_of_wide 9 Try.f9 rfl rfl rfl rfl rfl rfl rfl ⟨rfl, rfl, rfl, rfl, rfl⟩ rfl rfl rfl rfl rfl (by kernel_rfl) Try.func9 closed
    (of_decide_eq_true (by kernel_rfl)) (by unfold Func.isWrapper; first | (rw [if_pos (by decide +kernel)]; kernel_rfl) | (rw [if_neg (by decide +kernel)]; exact ⟨rfl, rfl⟩))
    (fun os started H enc _ => lifted os started H enc)

/-- The given statement. -/
theorem proved : Rows.FnExactLongestInsertWaitSaid := over

end Go.Proofs.Ythgnflcdpmedlaa.lawLongestInsertWait
