/-
  The program's ticks of reading.
-/
import Derived.Test.YtehmhkbiofndaaaFilledX
import Derived.Test.YtehmhkbiofndaaaChanJ
namespace Go.Proofs.Ytehmhkbiofndaaa
open Go.RowKit Go.Maps
set_option maxRecDepth 100000
set_option linter.unusedVariables false

theorem hop_eq {x : Sr} {l : List Ms} (hin : 2 ≤ x.n ∧ x.n ≤ 12) (i : Nat) (hm : MsIn x.n l[i]!) : hopsI x.n l[i]! = ((swOf x l).hop i : Int) := by
  have e : (swOf x l).hop i = (l[i]!.o.toNat + x.n.toNat - l[i]!.f.toNat) % x.n.toNat := rfl
  obtain ⟨_, _, h1, h2, h3, h4, h5⟩ := hm
  have e1 : (((l[i]!.o.toNat + x.n.toNat - l[i]!.f.toNat) % x.n.toNat : Nat) : Int) = ((l[i]!.o.toNat + x.n.toNat - l[i]!.f.toNat : Nat) : Int) % ((x.n.toNat : Nat) : Int) := by push_cast; rfl
  have e2 : ((l[i]!.o.toNat + x.n.toNat - l[i]!.f.toNat : Nat) : Int) = l[i]!.o - l[i]!.f + x.n := by omega
  rw [e, hopsI, Int.tmod_eq_emod_of_nonneg (by omega), e1, e2, Int.toNat_of_nonneg (by omega)]
/-- The ticks of filling; of the first j messages, those of reading. -/
def rdU (x : Sr) (l : List Ms) (j : Nat) : List Int := (List.range l.length).map fun i => if i < j then (swOf x l).fin (lastT l) i + ((swOf x l).hop i : Int) else (swOf x l).fin (lastT l) i
theorem rdU_len (x : Sr) (l : List Ms) (j : Nat) : (rdU x l j).length = l.length := by simp [rdU]
theorem rdU_zero (x : Sr) (l : List Ms) : rdU x l 0 = finL x l := by simp [rdU, finL]
theorem rdU_at (x : Sr) (l : List Ms) (j : Nat) (hj : j < l.length) : (rdU x l j).getD j 0 = (swOf x l).fin (lastT l) j := by simp [rdU, hj]
theorem rdU_set (x : Sr) (l : List Ms) (j : Nat) (hj : j < l.length) : (rdU x l j).set j ((swOf x l).fin (lastT l) j + ((swOf x l).hop j : Int)) = rdU x l (j + 1) := by
  apply List.ext_getElem (by simp [rdU])
  intro i h1 h2
  have hi : i < l.length := by simpa [rdU] using h2
  rw [List.getElem_set]
  simp only [rdU, List.getElem_map, List.getElem_range]
  by_cases e : j = i
  · subst e; simp
  · have e2 : (i < j + 1) ↔ (i < j) := by omega
    simp only [e, if_false, e2]
def readL (x : Sr) (l : List Ms) : List Int := rdU x l l.length
theorem readL_len (x : Sr) (l : List Ms) : (readL x l).length = l.length := rdU_len x l _
set_option maxHeartbeats 4000000 in
theorem readAt_any (v : Value) (x : Sr) (l : List Ms) (w : World) (h : RMsS w w.heap.size v l) (hg : slOk x l = true) :
    Calls Try.prog 30 #[SrV x, v] w (RetL 3 w (readL x l)) := by
  have hin := isSr_in (slOk_in hg).1
  obtain ⟨hl20, hall, _⟩ := areMs_in (slOk_in hg).2
  have HF := Lib.hid (fun v w h => filledAt_any v x l w h hg)
  have HHO := Lib.hid (fun y w hy => slHops_any x y w hin hy)
  have HHE := Lib.hid (fun i hm => hop_eq (x := x) (l := l) hin i hm)
  have HFB : Hid (∀ i, i < l.length → 0 ≤ (swOf x l).fin (lastT l) i ∧ (swOf x l).fin (lastT l) i ≤ 1000) := by
    show ∀ _, _
    intro i hi
    obtain ⟨_, h1, h2⟩ := F_need hg i hi
    have h3 := (lastT_le (slOk_in hg).2 i hi).2
    have h4 : l.length * (x.n.toNat + 1) ≤ 20 * 13 := Nat.mul_le_mul hl20 (by omega)
    omega
  have HHB : Hid (∀ i, i < l.length → (swOf x l).hop i ≤ 12) := by
    show ∀ _, _
    intro i hi
    have h1 := (Sw.hop_in (swOk hin hall) (i := i) hi).2
    have e2 : (swOf x l).n = x.n.toNat := rfl
    omega
  have HALL := Lib.hid (fun i hi => msAt hall i hi)
  have HST := Lib.hid (fun j hj => rdU_set x l j hj)
  have HAT := Lib.hid (fun j hj => rdU_at x l j hj)
  have HLN := Lib.hid (fun j => rdU_len x l j)
  have HZ := Lib.hid (rdU_zero x l)
  rw [← HZ.out] at HF
  unfold readL
  have hr := h
  obtain ⟨A, c, rfl, _, hlc, _⟩ := h
  have hl2 : (l.length : Int) ≤ 20 := by omega
  generalize (swOf x l).fin (lastT l) = F at HFB HST HAT
  generalize (swOf x l).hop = H at HHB HST HHE
  generalize rdU x l = U at *
  clear hg HZ hall
  obtain ⟨k, hh⟩ := x
  simp only [SrV] at HF HHO HHE HALL ⊢
  have hW : Below w.heap.size w (w.alloc (.cells #[.int .i64 k, .bool hh] 25)) := (Below.refl _ _).alloc (Nat.le_refl _) _
  have hB := BK.made w 25 #[.int .i64 k, .bool hh]
  go_enter Try.func30, Try.ntmps30
  go_wp2_with fail
  refine (HF.out _ _ ((hr.step hW (Nat.le_refl _)).more hW.size)).mono ?_; rintro e w2 ⟨u, rfl, ho, hb2⟩
  have HT := Lib.hid (hW.trans (hb2.mono hW.size))
  have HB2 := Lib.hid (hB.step hb2)
  have HO := Lib.hid ho
  have hsz : (w.alloc (.cells #[.int .i64 k, .bool hh] 25)).heap.size = w.heap.size + 1 := by simp
  rw [hsz] at HO
  have HR := Lib.hid hr
  clear hW hB ho hb2 hr hsz
  go_wp2_with fail
  go_loopw [13] (fun i wr => ∃ j : Nat, j ≤ l.length ∧ i = .int .i64 j ∧ OI 3 wr (w.heap.size + 1) wr.heap.size u (U j) ∧ BK wr w.heap.size 25 #[.int .i64 k, .bool hh] ∧ Below w.heap.size w wr) (fun i _ => l.length - (intOf i).toNat)
  case atStart => exact ⟨0, Nat.zero_le _, rfl, HO.out, HB2.out, HT.out⟩
  case round =>
    clear HO HB2 HT
    obtain ⟨j, hj, rfl, hO, hBK, hbel⟩ := hrel
    by_cases hlt : j < l.length
    · have hjI : (j : Int) < (l.length : Int) := by omega
      rcases hO with ⟨hnil, _⟩ | ⟨tb, c2, hu, htb1, htb2, hrow⟩
      · have := congrArg List.length hnil
        rw [HLN.out] at this
        simp only [List.length_nil] at this
        omega
      rw [HLN.out] at hu hrow
      subst hu
      have hRC : RC wr tb c2 (U j) := RC.of hrow (HLN.out j)
      obtain ⟨_, _, _, hc⟩ := HR.out.parts
      obtain ⟨b, off, hA, hbB, hcell⟩ := hc (by omega)
      subst hA
      obtain ⟨hd0, hd1, hd2⟩ := hcell j hlt
      have hc0 := (hbel.cell (p := ⟨b, off + j * 3, none⟩) hbB).trans hd0
      have hc1 := (hbel.cell (p := ⟨b, off + j * 3 + 1, none⟩) hbB).trans hd1
      have hc2 := (hbel.cell (p := ⟨b, off + j * 3 + 2, none⟩) hbB).trans hd2
      clear hd0 hd1 hd2 hcell hc hrow
      have hm := HALL.out j hlt
      have HHE2 := Lib.hid (HHE.out j hm)
      have HHO2 := Lib.hid (fun w => HHO.out l[j]! w hm)
      rw [HHE2.out] at HHO2
      clear HHE2 hm
      generalize l[j]! = m at hc0 hc1 hc2 HHO2
      obtain ⟨mt, mf, mo⟩ := m
      simp only [MsV] at hc0 hc1 hc2 HHO2
      have hsw := hbel.size
      have HRC := Lib.hid (hRC.alloc (.cells #[.int .i64 mt, .int .i64 mf, .int .i64 mo] 35))
      have HBK := Lib.hid (hBK.alloc (.cells #[.int .i64 mt, .int .i64 mf, .int .i64 mo] 35))
      have HM4 := Lib.hid (BK.made wr 35 #[.int .i64 mt, .int .i64 mf, .int .i64 mo])
      have HBE := Lib.hid (hbel.alloc hbel.size (.cells #[.int .i64 mt, .int .i64 mf, .int .i64 mo] 35))
      have htw := hRC.lt
      have hrb : w.heap.size < wr.heap.size := hBK.1
      obtain ⟨ub, hub⟩ : ∃ ub, ub = wr.heap.size := ⟨_, rfl⟩
      obtain ⟨h, hH⟩ : ∃ h, h = H j := ⟨_, rfl⟩
      obtain ⟨f, hF⟩ : ∃ f, f = F j := ⟨_, rfl⟩
      have hhb := HHB.out j hlt
      have hfb := HFB.out j hlt
      have HS1 := Lib.hid (HST.out j hlt)
      have HA1 := Lib.hid (HAT.out j hlt)
      rw [← hH] at hhb HS1 HHO2
      rw [← hF] at hfb HS1 HA1
      have ew : IntKind.i64.wrap (f + (h : Int)) = f + (h : Int) := IntWalk.i64_in _ (by omega)
      clear hRC hBK hbel hH hF
      go_upto_region 5 with fail
      generalize wr.alloc (.cells #[.int .i64 mt, .int .i64 mf, .int .i64 mo] 35) = w5 at *
      rw [← hub] at HM4 htw hrb ⊢
      clear hc0 hc1 hc2 hub
      refine wp_region_row (by kernel_rfl) (by kernel_rfl) 18 9 (by kernel_rfl) (by decide) (by simp) (fun i => [.slice (some ⟨tb, 0, none⟩) l.length c2, .int .i64 (j : Int), .pointer (some ⟨tb, j, none⟩), .int .i64 f, .agg #[.int .i64 k, .bool hh], .agg #[.int .i64 mt, .int .i64 mf, .int .i64 mo], .int .i64 (h : Int), .int .i64 (f + (h : Int)), .pointer (some ⟨tb, j, none⟩)].getD i undef)
        (fun D w' => ((D 7 = true → D 3 = true) ∧ (D 9 = true → D 7 = true)) ∧ BK w' w.heap.size 25 #[.int .i64 k, .bool hh] ∧ BK w' ub 35 #[.int .i64 mt, .int .i64 mf, .int .i64 mo] ∧ RC w' tb c2 (if D 9 then U (j + 1) else U j) ∧ Below w.heap.size w w') ?_ ?_ ?_
      · have hb := (Below.refl w5.heap.size w5).drew
        exact ⟨⟨fun h => by simp at h, fun h => by simp at h⟩, HBK.out.step hb, HM4.out.step hb, HRC.out.step hb, HBE.out.drew⟩
      · intro D D' ev w' i hi' hd hpre hD' hev hec hef hW
        obtain ⟨hI, hBK, hM, hRC, hbel⟩ := hW
        have e2 := hev 2
        have e5 := hev 5
        have e6 := hev 6
        have e7 := hev 7
        simp at e2 e5 e6 e7
        have hi11 : i < 10 := hi'
        match i, hi11 with
        | 0, _ => exact .value w' (by simp [execOp, e5]) ⟨by simpa [hD'] using hI, hBK, hM, by simpa [hD'] using hRC, hbel⟩
        | 1, _ => exact .value w' (by simp [execOp, e6]) ⟨by simpa [hD'] using hI, hBK, hM, by simpa [hD'] using hRC, hbel⟩
        | 2, _ =>
          have p0 : D 0 = true := hpre ⟨0, .data⟩ (by simp) rfl
          have p1 : D 1 = true := hpre ⟨1, .data⟩ (by simp) rfl
          have f0 := hev 18
          have f1 := hev 19
          simp [p0, p1] at f0 f1
          exact .value w' (by simp [go_sem, execOp, f0, f1, hlt]) ⟨by simpa [hD'] using hI, hBK, hM, by simpa [hD'] using hRC, hbel⟩
        | 3, _ =>
          have p2 : D 2 = true := hpre ⟨2, .data⟩ (by simp) rfl
          have f2 := hev 20
          simp [p2] at f2
          have hd3 : D 3 = false := hd
          have hd9 : D 9 = false := by
            cases h9 : D 9
            · rfl
            · have := hI.1 (hI.2 h9)
              rw [hd3] at this
              cases this
          have hRC' := hRC
          simp only [hd9, Bool.false_eq_true, if_false] at hRC'
          have c0 := hRC'.cell j (by rw [HLN.out]; exact hlt)
          rw [HA1.out] at c0
          exact .value w' (by simp [go_sem, execOp, f2, c0]) ⟨⟨fun _ => by simp [hD'], by simpa [hD'] using hI.2⟩, hBK, hM, by simpa [hD'] using hRC, hbel⟩
        | 4, _ =>
          have c0 := hBK.cell 0
          have c1 := hBK.cell 1
          simp only [List.getElem?_toArray, List.getElem?_cons_zero, List.getElem?_cons_succ] at c0 c1
          exact .value w' (by simp [go_sem, execOp, e2, c0, c1]) ⟨by simpa [hD'] using hI, hBK, hM, by simpa [hD'] using hRC, hbel⟩
        | 5, _ =>
          have c0 := hM.cell 0
          have c1 := hM.cell 1
          have c2 := hM.cell 2
          simp only [List.getElem?_toArray, List.getElem?_cons_zero, List.getElem?_cons_succ] at c0 c1 c2
          exact .value w' (by simp [go_sem, execOp, e7, c0, c1, c2]) ⟨by simpa [hD'] using hI, hBK, hM, by simpa [hD'] using hRC, hbel⟩
        | 6, _ =>
          have p4 : D 4 = true := hpre ⟨4, .data⟩ (by simp) rfl
          have p5 : D 5 = true := hpre ⟨5, .data⟩ (by simp) rfl
          have f4 := hev 22
          have f5 := hev 23
          simp [p4, p5] at f4 f5
          refine .call 50 #[.agg #[.int .i64 k, .bool hh], .agg #[.int .i64 mt, .int .i64 mf, .int .i64 mo]] w' ((run_call_any (f := 50) (ρ := ev) (args := #[.tmp 22, .tmp 23]) (ats := #[25, 35]) rfl (hef _) Try.func50 (by kernel_rfl) rfl).trans (by simp [f4, f5])) ((HHO2.out w').mono ?_)
          rintro e w'' ⟨rfl, hb''⟩
          exact ⟨rfl, by simpa [hD'] using hI, hBK.step hb'', hM.step hb'', by have := hRC.step hb''; simpa [hD'] using this, hbel.trans (hb''.mono hbel.size)⟩
        | 7, _ =>
          have p3 : D 3 = true := hpre ⟨3, .data⟩ (by simp) rfl
          have p6 : D 6 = true := hpre ⟨6, .data⟩ (by simp) rfl
          have f3 := hev 21
          have f6 := hev 24
          simp [p3, p6] at f3 f6
          exact .value w' (by simp [go_sem, execOp, f3, f6, ew]) ⟨⟨fun _ => by simpa [hD'] using p3, fun _ => by simp [hD']⟩, hBK, hM, by simpa [hD'] using hRC, hbel⟩
        | 8, _ =>
          have p0 : D 0 = true := hpre ⟨0, .data⟩ (by simp) rfl
          have p1 : D 1 = true := hpre ⟨1, .data⟩ (by simp) rfl
          have f0 := hev 18
          have f1 := hev 19
          simp [p0, p1] at f0 f1
          exact .value w' (by simp [go_sem, execOp, f0, f1, hlt]) ⟨by simpa [hD'] using hI, hBK, hM, by simpa [hD'] using hRC, hbel⟩
        | 9, _ =>
          have p7 : D 7 = true := hpre ⟨7, .data⟩ (by simp) rfl
          have p8 : D 8 = true := hpre ⟨8, .data⟩ (by simp) rfl
          have f7 := hev 25
          have f8 := hev 26
          simp [p7, p8] at f7 f8
          have hd9 : D 9 = false := hd
          simp only [hd9, Bool.false_eq_true, if_false] at hRC
          have c0 := hRC.cell j (by rw [HLN.out]; exact hlt)
          have c1 := hRC.free j
          have hw : Wr tb (tb + 1) w' (w'.setCell ⟨tb, j, none⟩ (.int .i64 (f + (h : Int)))) := (Wr.refl _ _ _).setCell (p := ⟨tb, j, none⟩) (Nat.le_refl _) (Nat.lt_succ_self _) _
          refine .skip (w'.setCell ⟨tb, j, none⟩ (.int .i64 (f + (h : Int)))) rfl (by simp [go_sem, execOp, f7, f8, c0, c1]) ⟨⟨by simpa [hD'] using hI.1, fun _ => by simpa [hD'] using p7⟩, hBK.far hw (by omega), hM.far hw (by omega), ?_, hbel.setCell (by show w.heap.size ≤ tb; omega) _⟩
          have := hRC.set j (f + (h : Int))
          rw [HS1.out] at this
          simpa [hD'] using this
      · intro D w' hall ⟨_, hBK, hM, hRC, hbel⟩
        have h9 := hall 9 (by decide)
        simp only [h9, if_true] at hRC
        have HO6 := Lib.hid (hRC.oi (lo := w.heap.size + 1) (by omega) (Nat.le_refl _))
        rw [HLN.out] at HO6
        have HB6 := Lib.hid hBK
        have HT6 := Lib.hid hbel
        clear hBK hM hRC hbel
        simp only [putAll, Act.put, List.getD_cons_zero, List.getD_cons_succ, Nat.reduceAdd, List.setIfInBounds_toArray, List.set_cons_succ, List.set_cons_zero, Exit.then, Exit.inBlock]
        refine ‹∀ (a : Act) (w : World), _ → _› _ _ ?_
        go_wp2_with fail
        go_roundw
        case rel => exact ⟨j + 1, by omega, by go_num, HO6.out, HB6.out, HT6.out⟩
        case measure => simp [intOf]; omega
    · obtain rfl : j = l.length := by omega
      have HO := Lib.hid (hO.wide (lo' := w.heap.size) (by omega) (Nat.le_refl _))
      have HT := Lib.hid hbel
      clear hO hBK hbel
      go_wp2_with fail
      go_ret
      exact ⟨_, rfl, HO.out, HT.out⟩
end Go.Proofs.Ytehmhkbiofndaaa
