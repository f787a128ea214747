/-
  The program's slots behind a tick: the walk.
-/
import Derived.Test.YtnlcdgehgapblaaSlotsI
namespace Go.Proofs.Ytnlcdgehgapblaa
open Go.RowKit Go.Maps
set_option maxRecDepth 100000
set_option linter.unusedVariables false

set_option maxHeartbeats 8000000 in
theorem slotsBehind_any (v fv : Value) (x : Sr) (l : List Ms) (T : Nat) (w : World) (h : RMsS w w.heap.size v l) (hf : RI w w.heap.size fv (finL x l)) (hg : slOk x l = true) (hT : T ≤ 400) :
    Calls Try.prog 39 #[SrV x, v, fv, .int .i64 (T : Nat)] w (RetL 3 w (tab (fun k => ((swOf x l).S (T + 1) k : Int)) x.n.toNat)) := by
  have hin := isSr_in (slOk_in hg).1
  obtain ⟨hl20, hall, _⟩ := areMs_in (slOk_in hg).2
  have HTI : Hid (∀ i, i < l.length → ∀ w, Calls Try.prog 55 #[SrV x, MsV l[i]!] w (RetV w (.int .i64 ((swOf x l).dur i : Nat)))) := by
    show ∀ _, _
    intro i hi w
    have h1 := ticksInSlot_any x l[i]! w hin (msAt hall i hi)
    have h2 : ((swOf x l).dur i : Int) = if x.h then x.n else hopsI x.n l[i]! := by
      have e1 : (swOf x l).dur i = if x.h then x.n.toNat else (swOf x l).hop i := rfl
      rw [e1, hop_eq hin i (msAt hall i hi)]
      cases x.h
      · simp
      · simp only [if_true]; omega
    rw [h2]
    exact h1
  have HFB : Hid (∀ i, i < l.length → 0 ≤ (swOf x l).fin (lastT l) i ∧ (swOf x l).fin (lastT l) i ≤ 1000) := by
    show ∀ _, _
    intro i hi
    obtain ⟨_, h1, h2⟩ := F_need hg i hi
    have h3 := (lastT_le (slOk_in hg).2 i hi).2
    have h4 : l.length * (x.n.toNat + 1) ≤ 20 * 13 := Nat.mul_le_mul hl20 (by omega)
    omega
  have HSA : Hid (∀ i, i < l.length → ∀ w, Calls Try.prog 56 #[SrV x, .int .i64 l[i]!.f, .int .i64 ((swOf x l).fin (lastT l) i)] w (RetV w (.int .i64 (ownS x l i : Nat)))) := by
    show ∀ _, _
    intro i hi w
    obtain ⟨_, _, h1, h2, _⟩ := msAt hall i hi
    have hfi := HFB.out i hi
    have h3 := slotAt_any x l[i]!.f.toNat ((swOf x l).fin (lastT l) i).toNat w hin (by omega) (by omega)
    rw [Int.toNat_of_nonneg h1, Int.toNat_of_nonneg hfi.1] at h3
    exact h3
  have HDB : Hid (∀ i, i < l.length → (swOf x l).dur i ≤ 12) := by
    show ∀ _, _
    intro i hi
    have h1 := (Sw.dur_in (swOk hin hall) (i := i) hi).2.1
    have e2 : (swOf x l).n = x.n.toNat := rfl
    omega
  have HYES : Hid (∀ j, j < l.length → ((swOf x l).fin (lastT l) j ≤ (T : Int) ∧ (T : Int) ≤ (swOf x l).fin (lastT l) j + ((swOf x l).dur j : Int) - 1) → ownS x l j < x.n.toNat ∧ (upS x l T j).set (ownS x l j) ((j : Int) + 1) = upS x l T (j + 1)) := by
    show ∀ _, _
    exact fun j hj h => ⟨(S_yes hg T j hj h).1, upS_yes hg T j hj h⟩
  have HNO : Hid (∀ j, j < l.length → ¬ ((swOf x l).fin (lastT l) j ≤ (T : Int) ∧ (T : Int) ≤ (swOf x l).fin (lastT l) j + ((swOf x l).dur j : Int) - 1) → upS x l T j = upS x l T (j + 1)) := by
    show ∀ _, _
    exact fun j hj h => upS_no hg T j hj h
  have HLN := Lib.hid (fun j => upS_len x l T j)
  have HZ := Lib.hid (upS_zero x l T)
  rw [← upS_all hg T]
  have HALL := Lib.hid (fun i hi => msAt hall i hi)
  have HFL := Lib.hid (finL_len x l)
  have HFA := Lib.hid (fun i hi => finL_at x l i hi)
  have hr := h
  obtain ⟨A, c, rfl, _, hlc, _⟩ := h
  obtain ⟨fA, fc, hfv, _, hfcell⟩ := hf
  rw [HFL.out] at hfv hfcell
  subst hfv
  have HFC := Lib.hid hfcell
  have hl2 : (l.length : Int) ≤ 20 := by omega
  generalize upS x l T = U at *
  generalize ownS x l = K at HSA HYES
  generalize (swOf x l).fin (lastT l) = F at HFB HSA HYES HNO HFA
  generalize (swOf x l).dur = Du at HTI HDB HYES HNO
  generalize finL x l = FL at *
  clear hg hall hfcell
  obtain ⟨k, hh⟩ := x
  simp only [SrV] at HTI HSA hin HYES HLN HZ HALL ⊢
  obtain ⟨n, hN⟩ : ∃ n : Nat, n = k.toNat := ⟨_, rfl⟩
  have hk : k = (n : Int) := by omega
  subst hk
  simp only [Int.toNat_natCast] at HYES HLN HZ
  clear hN
  have hW : Below w.heap.size w (w.alloc (.cells #[.int .i64 (n : Int), .bool hh] 29)) := (Below.refl _ _).alloc (Nat.le_refl _) _
  have hB := BK.made w 29 #[.int .i64 (n : Int), .bool hh]
  have c0 : (w.alloc (.cells #[.int .i64 (n : Int), .bool hh] 29)).cell? ⟨w.heap.size, 0, none⟩ = some (.int .i64 (n : Int)) := by simp
  have hn12 : (n : Int) ≤ 12 ∧ 2 ≤ (n : Int) := by omega
  obtain ⟨i0, hi, hz0, hz1', hz2⟩ := info_parts int_info
  go_enter Try.func39, Try.ntmps39
  go_upto_region 1 with fail
  have hz1 : (w.alloc (.cells #[.int .i64 (n : Int), .bool hh] 29)).heap.size = w.heap.size + 1 := by simp
  generalize w.alloc (.cells #[.int .i64 (n : Int), .bool hh] 29) = w1 at *
  go_wp2_with (at_make; refine wpList_make_full _ rfl _ _ 26 rfl w1.heap.size 3 i0 _ 1 Try.underlying26 hi hz0 hz1' _ _ _ _ n rfl rfl rfl rfl (by rw [hz2]; omega) (by unfold maxLen; omega) (Nat.le_refl _) ?_; intro w2 hown hg2)
  have HR0 : Hid (RC w2 w1.heap.size n (U 0)) := by show RC _ _ _ _; rw [HZ.out]; exact RC.made hown
  have hb2 : Below w1.heap.size w1 w2 := (Below.refl _ _).grown hg2 (Nat.le_refl _) (by intro k hk; cases hk)
  have HB2 := Lib.hid (hB.step hb2)
  have HT2 := Lib.hid (hW.trans (hb2.mono hW.size))
  have HR := Lib.hid hr
  obtain ⟨tb, htb⟩ : ∃ tb, tb = w.heap.size + 1 := ⟨_, rfl⟩
  rw [hz1, ← htb] at HR0
  rw [← htb]
  have hwt : w.heap.size < tb := by omega
  clear hown hg2 c0 hB hW hb2 hr hz1 htb HZ
  go_wp2_with fail
  go_loopw [17] (fun i wr => ∃ j : Nat, j ≤ l.length ∧ i = .int .i64 j ∧ RC wr tb n (U j) ∧ BK wr w.heap.size 29 #[.int .i64 (n : Int), .bool hh] ∧ Below w.heap.size w wr) (fun i _ => l.length - (intOf i).toNat)
  case atStart => exact ⟨0, Nat.zero_le _, rfl, HR0.out, HB2.out, HT2.out⟩
  case round =>
    clear HR0 HB2 HT2
    obtain ⟨j, hj, rfl, hRC, hBK, hbel⟩ := hrel
    by_cases hlt : j < l.length
    · have hjI : (j : Int) < (l.length : Int) := by omega
      obtain ⟨fb, fo, hfA, hfb, hfcell⟩ := HFC.out (by omega)
      subst hfA
      have hfj := hfcell j hlt
      rw [HFA.out j hlt] at hfj
      have HFJ : Hid (∀ w', Below w.heap.size w w' → w'.cell? ⟨fb, fo + j, none⟩ = some (.int .i64 (F j))) := by
        show ∀ _, _
        exact fun w' hb => (hb.cell (p := ⟨fb, fo + j, none⟩) hfb).trans hfj
      obtain ⟨_, _, _, hc⟩ := HR.out.parts
      obtain ⟨b, off, hA, hbB, hcell⟩ := hc (by omega)
      subst hA
      obtain ⟨hd0, hd1, hd2⟩ := hcell j hlt
      have hc0 := (hbel.cell (p := ⟨b, off + j * 3, none⟩) hbB).trans hd0
      have hc1 := (hbel.cell (p := ⟨b, off + j * 3 + 1, none⟩) hbB).trans hd1
      have hc2 := (hbel.cell (p := ⟨b, off + j * 3 + 2, none⟩) hbB).trans hd2
      clear hd0 hd1 hd2 hcell hc hfj hfcell
      have HT3 := Lib.hid (HTI.out j hlt)
      have HS3 := Lib.hid (HSA.out j hlt)
      have hfbd := HFB.out j hlt
      have hdb := HDB.out j hlt
      have HY3 := Lib.hid (HYES.out j hlt)
      have HN3 := Lib.hid (HNO.out j hlt)
      generalize l[j]! = m at hc0 hc1 hc2 HT3 HS3
      obtain ⟨mt, mf, mo⟩ := m
      simp only [MsV] at hc0 hc1 hc2 HT3 HS3
      generalize F j = f at HFJ HS3 hfbd HY3 HN3
      generalize Du j = d at HT3 hdb HY3 HN3
      generalize K j = q at HS3 HY3
      have hsw := hbel.size
      have HRC := Lib.hid (hRC.alloc (.cells #[.int .i64 mt, .int .i64 mf, .int .i64 mo] 51))
      have HBK := Lib.hid (hBK.alloc (.cells #[.int .i64 mt, .int .i64 mf, .int .i64 mo] 51))
      have HM4 := Lib.hid (BK.made wr 51 #[.int .i64 mt, .int .i64 mf, .int .i64 mo])
      have HBE := Lib.hid (hbel.alloc hbel.size (.cells #[.int .i64 mt, .int .i64 mf, .int .i64 mo] 51))
      have htw := hRC.lt
      obtain ⟨ub, hub⟩ : ∃ ub, ub = wr.heap.size := ⟨_, rfl⟩
      have ew1 : IntKind.i64.wrap (f + (d : Int)) = f + (d : Int) := IntWalk.i64_in _ (by omega)
      have ew2 : IntKind.i64.wrap (f + (d : Int) - 1) = f + (d : Int) - 1 := IntWalk.i64_in _ (by omega)
      have ew3 : IntKind.i64.wrap ((j : Int) + 1) = (j : Int) + 1 := IntWalk.i64_in _ (by omega)
      obtain ⟨bb, hbb⟩ : ∃ bb, bb = wi (T : Int) f (f + (d : Int) - 1) := ⟨_, rfl⟩
      have HBB := Lib.hid hbb
      clear hRC hBK hbel hbb
      go_upto_region 5 with fail
      generalize wr.alloc (.cells #[.int .i64 mt, .int .i64 mf, .int .i64 mo] 51) = w5 at *
      rw [← hub] at HM4 htw ⊢
      clear hc0 hc1 hc2 hub
      refine wp_region_row (by kernel_rfl) (by kernel_rfl) 22 15 (by kernel_rfl) (by decide) (by simp) (fun i => [.int .i64 (T : Int), .slice (some ⟨fb, fo, none⟩) l.length fc, .int .i64 (j : Int), .pointer (some ⟨fb, fo + j, none⟩), .int .i64 f, .slice (some ⟨fb, fo, none⟩) l.length fc, .int .i64 (j : Int), .pointer (some ⟨fb, fo + j, none⟩), .int .i64 f, .agg #[.int .i64 (n : Int), .bool hh], .agg #[.int .i64 mt, .int .i64 mf, .int .i64 mo], .int .i64 (d : Int), .int .i64 (f + (d : Int)), .int .i64 (f + (d : Int) - 1), .bool bb].getD i undef)
        (fun _ w' => BK w' w.heap.size 29 #[.int .i64 (n : Int), .bool hh] ∧ BK w' ub 51 #[.int .i64 mt, .int .i64 mf, .int .i64 mo] ∧ RC w' tb n (U j) ∧ Below w.heap.size w w') ?_ ?_ ?_
      · have hb := (Below.refl w5.heap.size w5).drew
        exact ⟨HBK.out.step hb, HM4.out.step hb, HRC.out.step hb, HBE.out.drew⟩
      · intro D D' ev w' i hi' hd hpre hD' hev hec hef hW
        obtain ⟨hBK, hM, hRC, hbel⟩ := hW
        have e2 := hev 2
        have e3 := hev 3
        have e4 := hev 4
        have e10 := hev 10
        have e11 := hev 11
        simp at e2 e3 e4 e10 e11
        have hi11 : i < 15 := hi'
        match i, hi11 with
        | 0, _ =>
          exact .value w' (by simp [go_sem, execOp, e3]) ⟨hBK, hM, hRC, hbel⟩
        | 1, _ =>
          exact .value w' (by simp [go_sem, execOp, e2]) ⟨hBK, hM, hRC, hbel⟩
        | 2, _ =>
          exact .value w' (by simp [go_sem, execOp, e10]) ⟨hBK, hM, hRC, hbel⟩
        | 3, _ =>
          have p1 : D 1 = true := hpre ⟨1, .data⟩ (by simp) rfl
          have p2 : D 2 = true := hpre ⟨2, .data⟩ (by simp) rfl
          have f1 := hev 23
          have f2 := hev 24
          simp [p1, p2] at f1 f2
          exact .value w' (by simp [go_sem, execOp, f1, f2, hlt]) ⟨hBK, hM, hRC, hbel⟩
        | 4, _ =>
          have p3 : D 3 = true := hpre ⟨3, .data⟩ (by simp) rfl
          have f3 := hev 25
          simp [p3] at f3
          have cf := HFJ.out w' hbel
          exact .value w' (by simp [go_sem, execOp, f3, cf]) ⟨hBK, hM, hRC, hbel⟩
        | 5, _ =>
          exact .value w' (by simp [go_sem, execOp, e2]) ⟨hBK, hM, hRC, hbel⟩
        | 6, _ =>
          exact .value w' (by simp [go_sem, execOp, e10]) ⟨hBK, hM, hRC, hbel⟩
        | 7, _ =>
          have p5 : D 5 = true := hpre ⟨5, .data⟩ (by simp) rfl
          have p6 : D 6 = true := hpre ⟨6, .data⟩ (by simp) rfl
          have f5 := hev 27
          have f6 := hev 28
          simp [p5, p6] at f5 f6
          exact .value w' (by simp [go_sem, execOp, f5, f6, hlt]) ⟨hBK, hM, hRC, hbel⟩
        | 8, _ =>
          have p7 : D 7 = true := hpre ⟨7, .data⟩ (by simp) rfl
          have f7 := hev 29
          simp [p7] at f7
          have cf := HFJ.out w' hbel
          exact .value w' (by simp [go_sem, execOp, f7, cf]) ⟨hBK, hM, hRC, hbel⟩
        | 9, _ =>
          have c0 := hBK.cell 0
          have c1 := hBK.cell 1
          simp only [List.getElem?_toArray, List.getElem?_cons_zero, List.getElem?_cons_succ] at c0 c1
          exact .value w' (by simp [go_sem, execOp, e4, c0, c1]) ⟨hBK, hM, hRC, hbel⟩
        | 10, _ =>
          have c0 := hM.cell 0
          have c1 := hM.cell 1
          have c2 := hM.cell 2
          simp only [List.getElem?_toArray, List.getElem?_cons_zero, List.getElem?_cons_succ] at c0 c1 c2
          exact .value w' (by simp [go_sem, execOp, e11, c0, c1, c2]) ⟨hBK, hM, hRC, hbel⟩
        | 11, _ =>
          have p9 : D 9 = true := hpre ⟨9, .data⟩ (by simp) rfl
          have p10 : D 10 = true := hpre ⟨10, .data⟩ (by simp) rfl
          have f9 := hev 31
          have f10 := hev 32
          simp [p9, p10] at f9 f10
          refine .call 55 #[.agg #[.int .i64 (n : Int), .bool hh], .agg #[.int .i64 mt, .int .i64 mf, .int .i64 mo]] w' ((run_call_any (f := 55) (ρ := ev) (args := #[.tmp 31, .tmp 32]) (ats := #[29, 51]) rfl (hef _) Try.func55 (by kernel_rfl) rfl).trans (by simp [f9, f10])) ((HT3.out w').mono ?_)
          rintro e w'' ⟨rfl, hb''⟩
          exact ⟨rfl, hBK.step hb'', hM.step hb'', hRC.step hb'', hbel.trans (hb''.mono hbel.size)⟩
        | 12, _ =>
          have p8 : D 8 = true := hpre ⟨8, .data⟩ (by simp) rfl
          have p11 : D 11 = true := hpre ⟨11, .data⟩ (by simp) rfl
          have f8 := hev 30
          have f11 := hev 33
          simp [p8, p11] at f8 f11
          exact .value w' (by simp [go_sem, execOp, f8, f11, ew1]) ⟨hBK, hM, hRC, hbel⟩
        | 13, _ =>
          have p12 : D 12 = true := hpre ⟨12, .data⟩ (by simp) rfl
          have f12 := hev 34
          simp [p12] at f12
          exact .value w' (by simp [go_sem, execOp, f12, hec, ew2]) ⟨hBK, hM, hRC, hbel⟩
        | 14, _ =>
          have p0 : D 0 = true := hpre ⟨0, .data⟩ (by simp) rfl
          have p4 : D 4 = true := hpre ⟨4, .data⟩ (by simp) rfl
          have p13 : D 13 = true := hpre ⟨13, .data⟩ (by simp) rfl
          have f0 := hev 22
          have f4 := hev 26
          have f13 := hev 35
          simp [p0, p4, p13] at f0 f4 f13
          refine .call 38 #[.int .i64 (T : Int), .int .i64 f, .int .i64 (f + (d : Int) - 1)] w' ((run_call_any (f := 38) (ρ := ev) (args := #[.tmp 22, .tmp 26, .tmp 35]) (ats := #[3, 3, 3]) rfl (hef _) Try.func38 (by kernel_rfl) rfl).trans (by simp [f0, f4, f13])) ((isWithin_wi _ _ _ w').mono ?_)
          rintro e w'' ⟨he, hw''⟩
          subst hw''
          rw [← HBB.out] at he
          exact ⟨he, hBK, hM, hRC, hbel⟩
      · intro D w' hall ⟨hBK, hM, hRC, hbel⟩
        have HRC6 := Lib.hid hRC
        have HBK6 := Lib.hid hBK
        have HM6 := Lib.hid hM
        have HBE6 := Lib.hid hbel
        clear hBK hM hRC hbel HRC HBK HM4 HBE
        simp only [putAll, Act.put, List.getD_cons_zero, List.getD_cons_succ, Nat.reduceAdd, List.setIfInBounds_toArray, List.set_cons_succ, List.set_cons_zero, Exit.then]
        refine ‹∀ (a : Act) (w : World), _ → _› _ _ ?_
        cases bb
        · have HE : Hid (U j = U (j + 1)) := HN3.out (fun h => by
            have h1 : wi (T : Int) f (f + (d : Int) - 1) = true := by simp [wi]; omega
            have h2 := HBB.out
            rw [h1] at h2
            cases h2)
          go_wp2_with fail
          go_roundw
          case rel => exact ⟨j + 1, by omega, by go_num, by rw [← HE.out]; exact HRC6.out, HBK6.out, HBE6.out⟩
          case measure => simp [intOf]; omega
        · obtain ⟨hq, hset⟩ := HY3.out (by
            have h2 := HBB.out.symm
            simpa [wi] using h2)
          have HSET := Lib.hid hset
          have hqI : (q : Int) < (n : Int) := by omega
          clear hset
          go_upto_region 6 with fail
          refine wp_region_row (by kernel_rfl) (by kernel_rfl) 37 12 (by kernel_rfl) (by decide) (by simp) (fun i => [.slice (some ⟨tb, 0, none⟩) n n, .agg #[.int .i64 (n : Int), .bool hh], .pointer (some ⟨ub, 1, none⟩), .int .i64 mf, .slice (some ⟨fb, fo, none⟩) l.length fc, .int .i64 (j : Int), .pointer (some ⟨fb, fo + j, none⟩), .int .i64 f, .int .i64 (q : Int), .int .i64 (j : Int), .int .i64 ((j : Int) + 1), .pointer (some ⟨tb, q, none⟩)].getD i undef)
            (fun D w' => BK w' w.heap.size 29 #[.int .i64 (n : Int), .bool hh] ∧ BK w' ub 51 #[.int .i64 mt, .int .i64 mf, .int .i64 mo] ∧ RC w' tb n (if D 12 then U (j + 1) else U j) ∧ Below w.heap.size w w') ?_ ?_ ?_
          · have hb := (Below.refl w'.heap.size w').drew
            exact ⟨HBK6.out.step hb, HM6.out.step hb, HRC6.out.step hb, HBE6.out.drew⟩
          · intro D D' ev w' i hi' hd hpre hD' hev hec hef hW
            obtain ⟨hBK, hM, hRC, hbel⟩ := hW
            have e2 := hev 2
            have e4 := hev 4
            have e9 := hev 9
            have e10 := hev 10
            have e11 := hev 11
            simp at e2 e4 e9 e10 e11
            have hi11 : i < 13 := hi'
            match i, hi11 with
            | 0, _ =>
              exact .value w' (by simp [go_sem, execOp, e9]) ⟨hBK, hM, by simpa [hD'] using hRC, hbel⟩
            | 1, _ =>
              have c0 := hBK.cell 0
              have c1 := hBK.cell 1
              simp only [List.getElem?_toArray, List.getElem?_cons_zero, List.getElem?_cons_succ] at c0 c1
              exact .value w' (by simp [go_sem, execOp, e4, c0, c1]) ⟨hBK, hM, by simpa [hD'] using hRC, hbel⟩
            | 2, _ =>
              exact .value w' (by simp [go_sem, execOp, e11]) ⟨hBK, hM, by simpa [hD'] using hRC, hbel⟩
            | 3, _ =>
              have p2 : D 2 = true := hpre ⟨2, .data⟩ (by simp) rfl
              have f2 := hev 39
              simp [p2] at f2
              have c1 := hM.cell 1
              simp only [List.getElem?_toArray, List.getElem?_cons_zero, List.getElem?_cons_succ] at c1
              exact .value w' (by simp [go_sem, execOp, f2, c1]) ⟨hBK, hM, by simpa [hD'] using hRC, hbel⟩
            | 4, _ =>
              exact .value w' (by simp [go_sem, execOp, e2]) ⟨hBK, hM, by simpa [hD'] using hRC, hbel⟩
            | 5, _ =>
              exact .value w' (by simp [go_sem, execOp, e10]) ⟨hBK, hM, by simpa [hD'] using hRC, hbel⟩
            | 6, _ =>
              have p4 : D 4 = true := hpre ⟨4, .data⟩ (by simp) rfl
              have p5 : D 5 = true := hpre ⟨5, .data⟩ (by simp) rfl
              have f4 := hev 41
              have f5 := hev 42
              simp [p4, p5] at f4 f5
              exact .value w' (by simp [go_sem, execOp, f4, f5, hlt]) ⟨hBK, hM, by simpa [hD'] using hRC, hbel⟩
            | 7, _ =>
              have p6 : D 6 = true := hpre ⟨6, .data⟩ (by simp) rfl
              have f6 := hev 43
              simp [p6] at f6
              have cf := HFJ.out w' hbel
              exact .value w' (by simp [go_sem, execOp, f6, cf]) ⟨hBK, hM, by simpa [hD'] using hRC, hbel⟩
            | 8, _ =>
              have p1 : D 1 = true := hpre ⟨1, .data⟩ (by simp) rfl
              have p3 : D 3 = true := hpre ⟨3, .data⟩ (by simp) rfl
              have p7 : D 7 = true := hpre ⟨7, .data⟩ (by simp) rfl
              have f1 := hev 38
              have f3 := hev 40
              have f7 := hev 44
              simp [p1, p3, p7] at f1 f3 f7
              refine .call 56 #[.agg #[.int .i64 (n : Int), .bool hh], .int .i64 mf, .int .i64 f] w' ((run_call_any (f := 56) (ρ := ev) (args := #[.tmp 38, .tmp 40, .tmp 44]) (ats := #[29, 3, 3]) rfl (hef _) Try.func56 (by kernel_rfl) rfl).trans (by simp [f1, f3, f7])) ((HS3.out w').mono ?_)
              rintro e w'' ⟨rfl, hb''⟩
              exact ⟨rfl, hBK.step hb'', hM.step hb'', by have := hRC.step hb''; simpa [hD'] using this, hbel.trans (hb''.mono hbel.size)⟩
            | 9, _ =>
              exact .value w' (by simp [go_sem, execOp, e10]) ⟨hBK, hM, by simpa [hD'] using hRC, hbel⟩
            | 10, _ =>
              have p9 : D 9 = true := hpre ⟨9, .data⟩ (by simp) rfl
              have f9 := hev 46
              simp [p9] at f9
              exact .value w' (by simp [go_sem, execOp, f9, hec, ew3]) ⟨hBK, hM, by simpa [hD'] using hRC, hbel⟩
            | 11, _ =>
              have p0 : D 0 = true := hpre ⟨0, .data⟩ (by simp) rfl
              have p8 : D 8 = true := hpre ⟨8, .data⟩ (by simp) rfl
              have f0 := hev 37
              have f8 := hev 45
              simp [p0, p8] at f0 f8
              exact .value w' (by simp [go_sem, execOp, f0, f8, hq]) ⟨hBK, hM, by simpa [hD'] using hRC, hbel⟩
            | 12, _ =>
              have p10 : D 10 = true := hpre ⟨10, .data⟩ (by simp) rfl
              have p11 : D 11 = true := hpre ⟨11, .data⟩ (by simp) rfl
              have f10 := hev 47
              have f11 := hev 48
              simp [p10, p11] at f10 f11
              have hd12 : D 12 = false := hd
              simp only [hd12, Bool.false_eq_true, if_false] at hRC
              have c0 := hRC.cell q (by rw [HLN.out]; exact hq)
              have c1 := hRC.free q
              have hw : Wr tb (tb + 1) w' (w'.setCell ⟨tb, q, none⟩ (.int .i64 ((j : Int) + 1))) := (Wr.refl _ _ _).setCell (p := ⟨tb, q, none⟩) (Nat.le_refl _) (Nat.lt_succ_self _) _
              refine .skip (w'.setCell ⟨tb, q, none⟩ (.int .i64 ((j : Int) + 1))) rfl (by simp [go_sem, execOp, f10, f11, c0, c1]) ⟨hBK.far hw (by omega), hM.far hw (by omega), ?_, hbel.setCell (by show w.heap.size ≤ tb; omega) _⟩
              have := hRC.set q ((j : Int) + 1)
              rw [HSET.out] at this
              simpa [hD'] using this
          · intro D w' hall ⟨hBK, hM, hRC, hbel⟩
            have h12 := hall 12 (by decide)
            simp only [h12, if_true] at hRC
            have HRC7 := Lib.hid hRC
            have HBK7 := Lib.hid hBK
            have HBE7 := Lib.hid hbel
            clear hBK hM hRC hbel
            simp only [putAll, Act.put, List.getD_cons_zero, List.getD_cons_succ, Nat.reduceAdd, List.setIfInBounds_toArray, List.set_cons_succ, List.set_cons_zero, Exit.then, Exit.inBlock]
            refine ‹∀ (a : Act) (w : World), _ → _› _ _ ?_
            go_wp2_with fail
            go_roundw
            case rel => exact ⟨j + 1, by omega, by go_num, HRC7.out, HBK7.out, HBE7.out⟩
            case measure => simp [intOf]; omega
    · obtain rfl : j = l.length := by omega
      have HO := Lib.hid (hRC.oi (lo := w.heap.size) (by omega) (Nat.le_refl _))
      rw [HLN.out] at HO
      have HT := Lib.hid hbel
      clear hRC hBK hbel
      go_wp2_with fail
      go_ret
      exact ⟨_, rfl, HO.out, HT.out⟩
end Go.Proofs.Ytnlcdgehgapblaa
