/-
  The program's slots behind a tick. The program's slots behind a tick: the walk. The contracts of SlotsAt, both sides.
-/
import Derived.Test.YtehmhkbiofndaaaReadX
import Derived.Test.YtehmhkbiofndaaaIn
import Derived.Test.YtehmhkbiofndaaaChanJ
import Derived.Deep.RegionHeld3
namespace Go.Proofs.Ytehmhkbiofndaaa
section
open Go.RowKit Go.Maps
set_option maxRecDepth 100000
set_option linter.unusedVariables false

/-- Message i has its slot behind tick T. -/
def hasS (x : Sr) (l : List Ms) (T i : Nat) : Prop := (swOf x l).fin (lastT l) i ≤ (T : Int) ∧ (T : Int) ≤ (swOf x l).fin (lastT l) i + ((swOf x l).dur i : Int) - 1
def ownS (x : Sr) (l : List Ms) (i : Nat) : Nat := (swOf x l).kof ((swOf x l).fr i) ((swOf x l).fin (lastT l) i).toNat
theorem S_yes {x : Sr} {l : List Ms} (hg : slOk x l = true) (T i : Nat) (hi : i < l.length) (h : hasS x l T i) : ownS x l i < x.n.toNat ∧ (swOf x l).S (T + 1) (ownS x l i) = i + 1 := by
  have hin := isSr_in (slOk_in hg).1
  obtain ⟨hl20, hall, _⟩ := areMs_in (slOk_in hg).2
  have hok := swOk hin hall
  have hI := Sw.inv_run hok (T + 1)
  have h3 := Sw.F_of_fin hok (lastT l) (fun i hi => (lastT_le (slOk_in hg).2 i hi).1) (T + 1) i hi
  have h4 := (F_need hg i hi).2.1
  obtain ⟨ha, hb⟩ := h
  rw [if_pos (by omega)] at h3
  refine ⟨Sw.kof_lt hok _ _, hI.holds i _ hi (show (swOf x l).F (T + 1) i = _ by rw [h3, Int.toNat_of_nonneg h4]) (by omega)⟩
theorem S_only {x : Sr} {l : List Ms} (hg : slOk x l = true) (T i k : Nat) (hi : i < l.length) (hk : k < x.n.toNat) (h : (swOf x l).S (T + 1) k = i + 1) : hasS x l T i ∧ ownS x l i = k := by
  have hin := isSr_in (slOk_in hg).1
  obtain ⟨hl20, hall, _⟩ := areMs_in (slOk_in hg).2
  have hok := swOk hin hall
  have hI := Sw.inv_run hok (T + 1)
  have h3 := Sw.F_of_fin hok (lastT l) (fun i hi => (lastT_le (slOk_in hg).2 i hi).1) (T + 1) i hi
  have h4 := (F_need hg i hi).2.1
  obtain ⟨i2, f, e1, e2, e3, e4, e5, e6⟩ := hI.slot k hk (by show (swOf x l).S (T + 1) k ≠ 0; omega)
  have e7 : i2 = i := by have : (swOf x l).S (T + 1) k = i2 + 1 := e1; omega
  subst e7
  have e8 : (swOf x l).F (T + 1) i2 = (f : Int) := e3
  rw [h3] at e8
  have e9 : (swOf x l).fin (lastT l) i2 = (f : Int) := by
    split at e8
    · exact e8
    · omega
  unfold hasS ownS
  rw [e9]
  refine ⟨⟨by omega, by omega⟩, by simpa using e6⟩
theorem S_le {x : Sr} {l : List Ms} (hg : slOk x l = true) (T k : Nat) (hk : k < x.n.toNat) : (swOf x l).S (T + 1) k ≤ l.length := by
  have hin := isSr_in (slOk_in hg).1
  obtain ⟨hl20, hall, _⟩ := areMs_in (slOk_in hg).2
  have hok := swOk hin hall
  have hI := Sw.inv_run hok (T + 1)
  by_cases h0 : (swOf x l).S (T + 1) k = 0
  · omega
  · obtain ⟨i2, f, e1, e2, _⟩ := hI.slot k hk h0
    have e3 : (swOf x l).S (T + 1) k = i2 + 1 := e1
    have e4 : i2 < l.length := e2
    omega
/-- The slots of the first j messages. -/
def upS (x : Sr) (l : List Ms) (T j : Nat) : List Int := tab (fun k => ((if (swOf x l).S (T + 1) k ≤ j then (swOf x l).S (T + 1) k else 0 : Nat) : Int)) x.n.toNat
theorem upS_len (x : Sr) (l : List Ms) (T j : Nat) : (upS x l T j).length = x.n.toNat := tab_len _ _
theorem upS_zero (x : Sr) (l : List Ms) (T : Nat) : upS x l T 0 = List.replicate x.n.toNat 0 := by
  rw [← tab_const]
  exact tab_congr fun k hk => by split <;> omega
theorem upS_all {x : Sr} {l : List Ms} (hg : slOk x l = true) (T : Nat) : upS x l T l.length = tab (fun k => ((swOf x l).S (T + 1) k : Int)) x.n.toNat := tab_congr fun k hk => by rw [if_pos (S_le hg T k hk)]
theorem upS_yes {x : Sr} {l : List Ms} (hg : slOk x l = true) (T j : Nat) (hj : j < l.length) (h : hasS x l T j) : (upS x l T j).set (ownS x l j) ((j : Int) + 1) = upS x l T (j + 1) := by
  unfold upS
  rw [tab_set]
  refine tab_congr fun k hk => ?_
  obtain ⟨_, h2⟩ := S_yes hg T j hj h
  by_cases e : k = ownS x l j
  · rw [if_pos e, e, h2, if_pos (Nat.le_refl _)]; push_cast; rfl
  · rw [if_neg e]
    have h3 : (swOf x l).S (T + 1) k ≠ j + 1 := fun h4 => e (S_only hg T j k hj hk h4).2.symm
    by_cases h5 : (swOf x l).S (T + 1) k ≤ j
    · rw [if_pos h5, if_pos (by omega)]
    · rw [if_neg h5, if_neg (by omega)]
theorem upS_no {x : Sr} {l : List Ms} (hg : slOk x l = true) (T j : Nat) (hj : j < l.length) (h : ¬ hasS x l T j) : upS x l T j = upS x l T (j + 1) := by
  refine tab_congr fun k hk => ?_
  have h3 : (swOf x l).S (T + 1) k ≠ j + 1 := fun h4 => h (S_only hg T j k hj hk h4).1
  by_cases h5 : (swOf x l).S (T + 1) k ≤ j
  · rw [if_pos h5, if_pos (by omega)]
  · rw [if_neg h5, if_neg (by omega)]
set_option maxHeartbeats 1000000 in
theorem ticksInSlot_any (x : Sr) (y : Ms) (w : World) (hin : 2 ≤ x.n ∧ x.n ≤ 12) (hy : MsIn x.n y) : Calls Try.prog 42 #[SrV x, MsV y] w (RetV w (.int .i64 (if x.h then x.n else hopsI x.n y))) := by
  have HH := Lib.hid (fun w => slHops_any x y w hin hy)
  obtain ⟨k, hh⟩ := x
  obtain ⟨t, f, o⟩ := y
  simp only [SrV, MsV] at HH ⊢
  have hW : Below w.heap.size w ((w.alloc (.cells #[.int .i64 k, .bool hh] 25)).alloc (.cells #[.int .i64 t, .int .i64 f, .int .i64 o] 35)) := ((Below.refl _ _).alloc (Nat.le_refl _) _).alloc (by simp) _
  cases hh
  · simp only [Bool.false_eq_true, if_false]
    go_enter Try.func42, Try.ntmps42
    go_wp2_with fail
    refine (HH.out _).mono ?_; rintro e w2 ⟨rfl, hb2⟩
    go_wp2_with fail
    go_ret
    exact ⟨rfl, hW.trans (hb2.mono hW.size)⟩
  · simp only [if_true]
    go_enter Try.func42, Try.ntmps42
    go_wp2_with fail
    go_ret
    exact ⟨rfl, hW⟩
set_option maxHeartbeats 1000000 in
theorem slotAt_any (x : Sr) (s t : Nat) (w : World) (hin : 2 ≤ x.n ∧ x.n ≤ 12) (hs : s < x.n.toNat) (ht : t ≤ 1000) : Calls Try.prog 43 #[SrV x, .int .i64 (s : Nat), .int .i64 (t : Nat)] w (RetV w (.int .i64 (((s + x.n.toNat - t % x.n.toNat) % x.n.toNat : Nat) : Int))) := by
  obtain ⟨k, hh⟩ := x
  simp only [SrV] at hin hs ⊢
  obtain ⟨n, hN⟩ : ∃ n : Nat, n = k.toNat := ⟨_, rfl⟩
  have hk : k = (n : Int) := by omega
  subst hk
  simp only [Int.toNat_natCast] at hs ⊢
  clear hN
  obtain ⟨r, hr⟩ : ∃ r, r = t % n := ⟨_, rfl⟩
  have hrn : r < n := by rw [hr]; exact Nat.mod_lt _ (by omega)
  have m1 : (t : Int) % (n : Int) = (r : Int) := by rw [hr]; push_cast; rfl
  have m2 : (t : Int).tmod (n : Int) = (r : Int) := by rw [Int.tmod_eq_emod_of_nonneg (by omega)]; exact m1
  rw [← hr]
  clear hr
  have e0 : ((s + n - r : Nat) : Int) = (s : Int) - (r : Int) + (n : Int) := by omega
  obtain ⟨q, hq⟩ : ∃ q, q = (s + n - r) % n := ⟨_, rfl⟩
  have m3 : ((s : Int) - (r : Int) + (n : Int)) % (n : Int) = (q : Int) := by rw [hq, ← e0]; push_cast; rfl
  have m4 : ((s : Int) - (r : Int) + (n : Int)).tmod (n : Int) = (q : Int) := by rw [Int.tmod_eq_emod_of_nonneg (by omega)]; exact m3
  have m5 : ((s : Int) - (r : Int)) % (n : Int) = (q : Int) := by rw [← m3, Int.add_emod_right]
  rw [← hq]
  clear hq e0
  have w1 : IntKind.i64.wrap ((s : Int) - (r : Int)) = (s : Int) - (r : Int) := IntWalk.i64_in _ (by omega)
  have w2 : IntKind.i64.wrap ((s : Int) - (r : Int) + (n : Int)) = (s : Int) - (r : Int) + (n : Int) := IntWalk.i64_in _ (by omega)
  have hn0 : (n : Int) ≠ 0 := by omega
  have hW : Below w.heap.size w (w.alloc (.cells #[.int .i64 (n : Int), .bool hh] 25)) := (Below.refl _ _).alloc (Nat.le_refl _) _
  have c0 : (w.alloc (.cells #[.int .i64 (n : Int), .bool hh] 25)).cell? ⟨w.heap.size, 0, none⟩ = some (.int .i64 (n : Int)) := by simp
  go_enter Try.func43, Try.ntmps43
  go_upto_region 1 with fail
  go_quiet (fail)
  go_wp2_with fail
  go_ret
  exact ⟨rfl, below_drewN hW _⟩
end
section
open Go.RowKit Go.Maps
set_option maxRecDepth 100000
set_option linter.unusedVariables false

set_option maxHeartbeats 8000000 in
theorem slotsBehind_any (v fv : Value) (x : Sr) (l : List Ms) (T : Nat) (w : World) (h : RMsS w w.heap.size v l) (hf : RI w w.heap.size fv (finL x l)) (hg : slOk x l = true) (hT : T ≤ 400) :
    Calls Try.prog 25 #[SrV x, v, fv, .int .i64 (T : Nat)] w (RetL 3 w (tab (fun k => ((swOf x l).S (T + 1) k : Int)) x.n.toNat)) := by
  have hin := isSr_in (slOk_in hg).1
  obtain ⟨hl20, hall, _⟩ := areMs_in (slOk_in hg).2
  have HTI : Hid (∀ i, i < l.length → ∀ w, Calls Try.prog 42 #[SrV x, MsV l[i]!] w (RetV w (.int .i64 ((swOf x l).dur i : Nat)))) := by
    show ∀ _, _
    intro i hi w
    have h1 := ticksInSlot_any x l[i]! w hin (msAt hall i hi)
    have h2 : ((swOf x l).dur i : Int) = if x.h then x.n else hopsI x.n l[i]! := by
      have e1 : (swOf x l).dur i = if x.h then x.n.toNat else (swOf x l).hop i := rfl
      rw [e1, hop_eq hin i (msAt hall i hi)]
      cases x.h
      · simp
      · simp only [if_true]; omega
    rw [h2]
    exact h1
  have HFB : Hid (∀ i, i < l.length → 0 ≤ (swOf x l).fin (lastT l) i ∧ (swOf x l).fin (lastT l) i ≤ 1000) := by
    show ∀ _, _
    intro i hi
    obtain ⟨_, h1, h2⟩ := F_need hg i hi
    have h3 := (lastT_le (slOk_in hg).2 i hi).2
    have h4 : l.length * (x.n.toNat + 1) ≤ 20 * 13 := Nat.mul_le_mul hl20 (by omega)
    omega
  have HSA : Hid (∀ i, i < l.length → ∀ w, Calls Try.prog 43 #[SrV x, .int .i64 l[i]!.f, .int .i64 ((swOf x l).fin (lastT l) i)] w (RetV w (.int .i64 (ownS x l i : Nat)))) := by
    show ∀ _, _
    intro i hi w
    obtain ⟨_, _, h1, h2, _⟩ := msAt hall i hi
    have hfi := HFB.out i hi
    have h3 := slotAt_any x l[i]!.f.toNat ((swOf x l).fin (lastT l) i).toNat w hin (by omega) (by omega)
    rw [Int.toNat_of_nonneg h1, Int.toNat_of_nonneg hfi.1] at h3
    exact h3
  have HDB : Hid (∀ i, i < l.length → (swOf x l).dur i ≤ 12) := by
    show ∀ _, _
    intro i hi
    have h1 := (Sw.dur_in (swOk hin hall) (i := i) hi).2.1
    have e2 : (swOf x l).n = x.n.toNat := rfl
    omega
  have HYES : Hid (∀ j, j < l.length → ((swOf x l).fin (lastT l) j ≤ (T : Int) ∧ (T : Int) ≤ (swOf x l).fin (lastT l) j + ((swOf x l).dur j : Int) - 1) → ownS x l j < x.n.toNat ∧ (upS x l T j).set (ownS x l j) ((j : Int) + 1) = upS x l T (j + 1)) := by
    show ∀ _, _
    exact fun j hj h => ⟨(S_yes hg T j hj h).1, upS_yes hg T j hj h⟩
  have HNO : Hid (∀ j, j < l.length → ¬ ((swOf x l).fin (lastT l) j ≤ (T : Int) ∧ (T : Int) ≤ (swOf x l).fin (lastT l) j + ((swOf x l).dur j : Int) - 1) → upS x l T j = upS x l T (j + 1)) := by
    show ∀ _, _
    exact fun j hj h => upS_no hg T j hj h
  have HLN := Lib.hid (fun j => upS_len x l T j)
  have HZ := Lib.hid (upS_zero x l T)
  rw [← upS_all hg T]
  have HALL := Lib.hid (fun i hi => msAt hall i hi)
  have HFL := Lib.hid (finL_len x l)
  have HFA := Lib.hid (fun i hi => finL_at x l i hi)
  have hr := h
  obtain ⟨A, c, rfl, _, hlc, _⟩ := h
  obtain ⟨fA, fc, hfv, _, hfcell⟩ := hf
  rw [HFL.out] at hfv hfcell
  subst hfv
  have HFC := Lib.hid hfcell
  have hl2 : (l.length : Int) ≤ 20 := by omega
  generalize upS x l T = U at *
  generalize ownS x l = K at HSA HYES
  generalize (swOf x l).fin (lastT l) = F at HFB HSA HYES HNO HFA
  generalize (swOf x l).dur = Du at HTI HDB HYES HNO
  generalize finL x l = FL at *
  clear hg hall hfcell
  obtain ⟨k, hh⟩ := x
  simp only [SrV] at HTI HSA hin HYES HLN HZ HALL ⊢
  obtain ⟨n, hN⟩ : ∃ n : Nat, n = k.toNat := ⟨_, rfl⟩
  have hk : k = (n : Int) := by omega
  subst hk
  simp only [Int.toNat_natCast] at HYES HLN HZ
  clear hN
  have hW : Below w.heap.size w (w.alloc (.cells #[.int .i64 (n : Int), .bool hh] 25)) := (Below.refl _ _).alloc (Nat.le_refl _) _
  have hB := BK.made w 25 #[.int .i64 (n : Int), .bool hh]
  have c0 : (w.alloc (.cells #[.int .i64 (n : Int), .bool hh] 25)).cell? ⟨w.heap.size, 0, none⟩ = some (.int .i64 (n : Int)) := by simp
  have hn12 : (n : Int) ≤ 12 ∧ 2 ≤ (n : Int) := by omega
  obtain ⟨i0, hi, hz0, hz1', hz2⟩ := info_parts int_info
  go_enter Try.func25, Try.ntmps25
  go_upto_region 1 with fail
  have hz1 : (w.alloc (.cells #[.int .i64 (n : Int), .bool hh] 25)).heap.size = w.heap.size + 1 := by simp
  generalize w.alloc (.cells #[.int .i64 (n : Int), .bool hh] 25) = w1 at *
  go_wp2_with (at_make; refine wpList_make_full _ rfl _ _ 29 rfl w1.heap.size 3 i0 _ 1 Try.underlying29 hi hz0 hz1' _ _ _ _ n rfl rfl rfl rfl (by rw [hz2]; omega) (by unfold maxLen; omega) (Nat.le_refl _) ?_; intro w2 hown hg2)
  have HR0 : Hid (RC w2 w1.heap.size n (U 0)) := by show RC _ _ _ _; rw [HZ.out]; exact RC.made hown
  have hb2 : Below w1.heap.size w1 w2 := (Below.refl _ _).grown hg2 (Nat.le_refl _) (by intro k hk; cases hk)
  have HB2 := Lib.hid (hB.step hb2)
  have HT2 := Lib.hid (hW.trans (hb2.mono hW.size))
  have HR := Lib.hid hr
  obtain ⟨tb, htb⟩ : ∃ tb, tb = w.heap.size + 1 := ⟨_, rfl⟩
  rw [hz1, ← htb] at HR0
  rw [← htb]
  have hwt : w.heap.size < tb := by omega
  clear hown hg2 c0 hB hW hb2 hr hz1 htb HZ
  go_wp2_with fail
  go_loopw [17] (fun i wr => ∃ j : Nat, j ≤ l.length ∧ i = .int .i64 j ∧ RC wr tb n (U j) ∧ BK wr w.heap.size 25 #[.int .i64 (n : Int), .bool hh] ∧ Below w.heap.size w wr) (fun i _ => l.length - (intOf i).toNat)
  case atStart => exact ⟨0, Nat.zero_le _, rfl, HR0.out, HB2.out, HT2.out⟩
  case round =>
    clear HR0 HB2 HT2
    obtain ⟨j, hj, rfl, hRC, hBK, hbel⟩ := hrel
    by_cases hlt : j < l.length
    · have hjI : (j : Int) < (l.length : Int) := by omega
      obtain ⟨fb, fo, hfA, hfb, hfcell⟩ := HFC.out (by omega)
      subst hfA
      have hfj := hfcell j hlt
      rw [HFA.out j hlt] at hfj
      have HFJ : Hid (∀ w', Below w.heap.size w w' → w'.cell? ⟨fb, fo + j, none⟩ = some (.int .i64 (F j))) := by
        show ∀ _, _
        exact fun w' hb => (hb.cell (p := ⟨fb, fo + j, none⟩) hfb).trans hfj
      obtain ⟨_, _, _, hc⟩ := HR.out.parts
      obtain ⟨b, off, hA, hbB, hcell⟩ := hc (by omega)
      subst hA
      obtain ⟨hd0, hd1, hd2⟩ := hcell j hlt
      have hc0 := (hbel.cell (p := ⟨b, off + j * 3, none⟩) hbB).trans hd0
      have hc1 := (hbel.cell (p := ⟨b, off + j * 3 + 1, none⟩) hbB).trans hd1
      have hc2 := (hbel.cell (p := ⟨b, off + j * 3 + 2, none⟩) hbB).trans hd2
      clear hd0 hd1 hd2 hcell hc hfj hfcell
      have HT3 := Lib.hid (HTI.out j hlt)
      have HS3 := Lib.hid (HSA.out j hlt)
      have hfbd := HFB.out j hlt
      have hdb := HDB.out j hlt
      have HY3 := Lib.hid (HYES.out j hlt)
      have HN3 := Lib.hid (HNO.out j hlt)
      generalize l[j]! = m at hc0 hc1 hc2 HT3 HS3
      obtain ⟨mt, mf, mo⟩ := m
      simp only [MsV] at hc0 hc1 hc2 HT3 HS3
      generalize F j = f at HFJ HS3 hfbd HY3 HN3
      generalize Du j = d at HT3 hdb HY3 HN3
      generalize K j = q at HS3 HY3
      have hsw := hbel.size
      have HRC := Lib.hid (hRC.alloc (.cells #[.int .i64 mt, .int .i64 mf, .int .i64 mo] 35))
      have HBK := Lib.hid (hBK.alloc (.cells #[.int .i64 mt, .int .i64 mf, .int .i64 mo] 35))
      have HM4 := Lib.hid (BK.made wr 35 #[.int .i64 mt, .int .i64 mf, .int .i64 mo])
      have HBE := Lib.hid (hbel.alloc hbel.size (.cells #[.int .i64 mt, .int .i64 mf, .int .i64 mo] 35))
      have htw := hRC.lt
      obtain ⟨ub, hub⟩ : ∃ ub, ub = wr.heap.size := ⟨_, rfl⟩
      have ew1 : IntKind.i64.wrap (f + (d : Int)) = f + (d : Int) := IntWalk.i64_in _ (by omega)
      have ew2 : IntKind.i64.wrap (f + (d : Int) - 1) = f + (d : Int) - 1 := IntWalk.i64_in _ (by omega)
      have ew3 : IntKind.i64.wrap ((j : Int) + 1) = (j : Int) + 1 := IntWalk.i64_in _ (by omega)
      obtain ⟨bb, hbb⟩ : ∃ bb, bb = wi (T : Int) f (f + (d : Int) - 1) := ⟨_, rfl⟩
      have HBB := Lib.hid hbb
      clear hRC hBK hbel hbb
      go_upto_region 5 with fail
      generalize wr.alloc (.cells #[.int .i64 mt, .int .i64 mf, .int .i64 mo] 35) = w5 at *
      rw [← hub] at HM4 htw ⊢
      clear hc0 hc1 hc2 hub
      refine wp_region_row (by kernel_rfl) (by kernel_rfl) 22 15 (by kernel_rfl) (by decide) (by simp) (fun i => [.int .i64 (T : Int), .slice (some ⟨fb, fo, none⟩) l.length fc, .int .i64 (j : Int), .pointer (some ⟨fb, fo + j, none⟩), .int .i64 f, .slice (some ⟨fb, fo, none⟩) l.length fc, .int .i64 (j : Int), .pointer (some ⟨fb, fo + j, none⟩), .int .i64 f, .agg #[.int .i64 (n : Int), .bool hh], .agg #[.int .i64 mt, .int .i64 mf, .int .i64 mo], .int .i64 (d : Int), .int .i64 (f + (d : Int)), .int .i64 (f + (d : Int) - 1), .bool bb].getD i undef)
        (fun _ w' => BK w' w.heap.size 25 #[.int .i64 (n : Int), .bool hh] ∧ BK w' ub 35 #[.int .i64 mt, .int .i64 mf, .int .i64 mo] ∧ RC w' tb n (U j) ∧ Below w.heap.size w w') ?_ ?_ ?_
      · have hb := (Below.refl w5.heap.size w5).drew
        exact ⟨HBK.out.step hb, HM4.out.step hb, HRC.out.step hb, HBE.out.drew⟩
      · intro D D' ev w' i hi' hd hpre hD' hev hec hef hW
        obtain ⟨hBK, hM, hRC, hbel⟩ := hW
        have e2 := hev 2
        have e3 := hev 3
        have e4 := hev 4
        have e10 := hev 10
        have e11 := hev 11
        simp at e2 e3 e4 e10 e11
        have hi11 : i < 15 := hi'
        match i, hi11 with
        | 0, _ =>
          exact .value w' (by simp [go_sem, execOp, e3]) ⟨hBK, hM, hRC, hbel⟩
        | 1, _ =>
          exact .value w' (by simp [go_sem, execOp, e2]) ⟨hBK, hM, hRC, hbel⟩
        | 2, _ =>
          exact .value w' (by simp [go_sem, execOp, e10]) ⟨hBK, hM, hRC, hbel⟩
        | 3, _ =>
          have p1 : D 1 = true := hpre ⟨1, .data⟩ (by simp) rfl
          have p2 : D 2 = true := hpre ⟨2, .data⟩ (by simp) rfl
          have f1 := hev 23
          have f2 := hev 24
          simp [p1, p2] at f1 f2
          exact .value w' (by simp [go_sem, execOp, f1, f2, hlt]) ⟨hBK, hM, hRC, hbel⟩
        | 4, _ =>
          have p3 : D 3 = true := hpre ⟨3, .data⟩ (by simp) rfl
          have f3 := hev 25
          simp [p3] at f3
          have cf := HFJ.out w' hbel
          exact .value w' (by simp [go_sem, execOp, f3, cf]) ⟨hBK, hM, hRC, hbel⟩
        | 5, _ =>
          exact .value w' (by simp [go_sem, execOp, e2]) ⟨hBK, hM, hRC, hbel⟩
        | 6, _ =>
          exact .value w' (by simp [go_sem, execOp, e10]) ⟨hBK, hM, hRC, hbel⟩
        | 7, _ =>
          have p5 : D 5 = true := hpre ⟨5, .data⟩ (by simp) rfl
          have p6 : D 6 = true := hpre ⟨6, .data⟩ (by simp) rfl
          have f5 := hev 27
          have f6 := hev 28
          simp [p5, p6] at f5 f6
          exact .value w' (by simp [go_sem, execOp, f5, f6, hlt]) ⟨hBK, hM, hRC, hbel⟩
        | 8, _ =>
          have p7 : D 7 = true := hpre ⟨7, .data⟩ (by simp) rfl
          have f7 := hev 29
          simp [p7] at f7
          have cf := HFJ.out w' hbel
          exact .value w' (by simp [go_sem, execOp, f7, cf]) ⟨hBK, hM, hRC, hbel⟩
        | 9, _ =>
          have c0 := hBK.cell 0
          have c1 := hBK.cell 1
          simp only [List.getElem?_toArray, List.getElem?_cons_zero, List.getElem?_cons_succ] at c0 c1
          exact .value w' (by simp [go_sem, execOp, e4, c0, c1]) ⟨hBK, hM, hRC, hbel⟩
        | 10, _ =>
          have c0 := hM.cell 0
          have c1 := hM.cell 1
          have c2 := hM.cell 2
          simp only [List.getElem?_toArray, List.getElem?_cons_zero, List.getElem?_cons_succ] at c0 c1 c2
          exact .value w' (by simp [go_sem, execOp, e11, c0, c1, c2]) ⟨hBK, hM, hRC, hbel⟩
        | 11, _ =>
          have p9 : D 9 = true := hpre ⟨9, .data⟩ (by simp) rfl
          have p10 : D 10 = true := hpre ⟨10, .data⟩ (by simp) rfl
          have f9 := hev 31
          have f10 := hev 32
          simp [p9, p10] at f9 f10
          refine .call 42 #[.agg #[.int .i64 (n : Int), .bool hh], .agg #[.int .i64 mt, .int .i64 mf, .int .i64 mo]] w' ((run_call_any (f := 42) (ρ := ev) (args := #[.tmp 31, .tmp 32]) (ats := #[25, 35]) rfl (hef _) Try.func42 (by kernel_rfl) rfl).trans (by simp [f9, f10])) ((HT3.out w').mono ?_)
          rintro e w'' ⟨rfl, hb''⟩
          exact ⟨rfl, hBK.step hb'', hM.step hb'', hRC.step hb'', hbel.trans (hb''.mono hbel.size)⟩
        | 12, _ =>
          have p8 : D 8 = true := hpre ⟨8, .data⟩ (by simp) rfl
          have p11 : D 11 = true := hpre ⟨11, .data⟩ (by simp) rfl
          have f8 := hev 30
          have f11 := hev 33
          simp [p8, p11] at f8 f11
          exact .value w' (by simp [go_sem, execOp, f8, f11, ew1]) ⟨hBK, hM, hRC, hbel⟩
        | 13, _ =>
          have p12 : D 12 = true := hpre ⟨12, .data⟩ (by simp) rfl
          have f12 := hev 34
          simp [p12] at f12
          exact .value w' (by simp [go_sem, execOp, f12, hec, ew2]) ⟨hBK, hM, hRC, hbel⟩
        | 14, _ =>
          have p0 : D 0 = true := hpre ⟨0, .data⟩ (by simp) rfl
          have p4 : D 4 = true := hpre ⟨4, .data⟩ (by simp) rfl
          have p13 : D 13 = true := hpre ⟨13, .data⟩ (by simp) rfl
          have f0 := hev 22
          have f4 := hev 26
          have f13 := hev 35
          simp [p0, p4, p13] at f0 f4 f13
          refine .call 24 #[.int .i64 (T : Int), .int .i64 f, .int .i64 (f + (d : Int) - 1)] w' ((run_call_any (f := 24) (ρ := ev) (args := #[.tmp 22, .tmp 26, .tmp 35]) (ats := #[3, 3, 3]) rfl (hef _) Try.func24 (by kernel_rfl) rfl).trans (by simp [f0, f4, f13])) ((isWithin_wi _ _ _ w').mono ?_)
          rintro e w'' ⟨he, hw''⟩
          subst hw''
          rw [← HBB.out] at he
          exact ⟨he, hBK, hM, hRC, hbel⟩
      · intro D w' hall ⟨hBK, hM, hRC, hbel⟩
        have HRC6 := Lib.hid hRC
        have HBK6 := Lib.hid hBK
        have HM6 := Lib.hid hM
        have HBE6 := Lib.hid hbel
        clear hBK hM hRC hbel HRC HBK HM4 HBE
        simp only [putAll, Act.put, List.getD_cons_zero, List.getD_cons_succ, Nat.reduceAdd, List.setIfInBounds_toArray, List.set_cons_succ, List.set_cons_zero, Exit.then]
        refine ‹∀ (a : Act) (w : World), _ → _› _ _ ?_
        cases bb
        · have HE : Hid (U j = U (j + 1)) := HN3.out (fun h => by
            have h1 : wi (T : Int) f (f + (d : Int) - 1) = true := by simp [wi]; omega
            have h2 := HBB.out
            rw [h1] at h2
            cases h2)
          go_wp2_with fail
          go_roundw
          case rel => exact ⟨j + 1, by omega, by go_num, by rw [← HE.out]; exact HRC6.out, HBK6.out, HBE6.out⟩
          case measure => simp [intOf]; omega
        · obtain ⟨hq, hset⟩ := HY3.out (by
            have h2 := HBB.out.symm
            simpa [wi] using h2)
          have HSET := Lib.hid hset
          have hqI : (q : Int) < (n : Int) := by omega
          clear hset
          go_upto_region 6 with fail
          refine wp_region_row (by kernel_rfl) (by kernel_rfl) 37 12 (by kernel_rfl) (by decide) (by simp) (fun i => [.slice (some ⟨tb, 0, none⟩) n n, .agg #[.int .i64 (n : Int), .bool hh], .pointer (some ⟨ub, 1, none⟩), .int .i64 mf, .slice (some ⟨fb, fo, none⟩) l.length fc, .int .i64 (j : Int), .pointer (some ⟨fb, fo + j, none⟩), .int .i64 f, .int .i64 (q : Int), .int .i64 (j : Int), .int .i64 ((j : Int) + 1), .pointer (some ⟨tb, q, none⟩)].getD i undef)
            (fun D w' => BK w' w.heap.size 25 #[.int .i64 (n : Int), .bool hh] ∧ BK w' ub 35 #[.int .i64 mt, .int .i64 mf, .int .i64 mo] ∧ RC w' tb n (if D 12 then U (j + 1) else U j) ∧ Below w.heap.size w w') ?_ ?_ ?_
          · have hb := (Below.refl w'.heap.size w').drew
            exact ⟨HBK6.out.step hb, HM6.out.step hb, HRC6.out.step hb, HBE6.out.drew⟩
          · intro D D' ev w' i hi' hd hpre hD' hev hec hef hW
            obtain ⟨hBK, hM, hRC, hbel⟩ := hW
            have e2 := hev 2
            have e4 := hev 4
            have e9 := hev 9
            have e10 := hev 10
            have e11 := hev 11
            simp at e2 e4 e9 e10 e11
            have hi11 : i < 13 := hi'
            match i, hi11 with
            | 0, _ =>
              exact .value w' (by simp [go_sem, execOp, e9]) ⟨hBK, hM, by simpa [hD'] using hRC, hbel⟩
            | 1, _ =>
              have c0 := hBK.cell 0
              have c1 := hBK.cell 1
              simp only [List.getElem?_toArray, List.getElem?_cons_zero, List.getElem?_cons_succ] at c0 c1
              exact .value w' (by simp [go_sem, execOp, e4, c0, c1]) ⟨hBK, hM, by simpa [hD'] using hRC, hbel⟩
            | 2, _ =>
              exact .value w' (by simp [go_sem, execOp, e11]) ⟨hBK, hM, by simpa [hD'] using hRC, hbel⟩
            | 3, _ =>
              have p2 : D 2 = true := hpre ⟨2, .data⟩ (by simp) rfl
              have f2 := hev 39
              simp [p2] at f2
              have c1 := hM.cell 1
              simp only [List.getElem?_toArray, List.getElem?_cons_zero, List.getElem?_cons_succ] at c1
              exact .value w' (by simp [go_sem, execOp, f2, c1]) ⟨hBK, hM, by simpa [hD'] using hRC, hbel⟩
            | 4, _ =>
              exact .value w' (by simp [go_sem, execOp, e2]) ⟨hBK, hM, by simpa [hD'] using hRC, hbel⟩
            | 5, _ =>
              exact .value w' (by simp [go_sem, execOp, e10]) ⟨hBK, hM, by simpa [hD'] using hRC, hbel⟩
            | 6, _ =>
              have p4 : D 4 = true := hpre ⟨4, .data⟩ (by simp) rfl
              have p5 : D 5 = true := hpre ⟨5, .data⟩ (by simp) rfl
              have f4 := hev 41
              have f5 := hev 42
              simp [p4, p5] at f4 f5
              exact .value w' (by simp [go_sem, execOp, f4, f5, hlt]) ⟨hBK, hM, by simpa [hD'] using hRC, hbel⟩
            | 7, _ =>
              have p6 : D 6 = true := hpre ⟨6, .data⟩ (by simp) rfl
              have f6 := hev 43
              simp [p6] at f6
              have cf := HFJ.out w' hbel
              exact .value w' (by simp [go_sem, execOp, f6, cf]) ⟨hBK, hM, by simpa [hD'] using hRC, hbel⟩
            | 8, _ =>
              have p1 : D 1 = true := hpre ⟨1, .data⟩ (by simp) rfl
              have p3 : D 3 = true := hpre ⟨3, .data⟩ (by simp) rfl
              have p7 : D 7 = true := hpre ⟨7, .data⟩ (by simp) rfl
              have f1 := hev 38
              have f3 := hev 40
              have f7 := hev 44
              simp [p1, p3, p7] at f1 f3 f7
              refine .call 43 #[.agg #[.int .i64 (n : Int), .bool hh], .int .i64 mf, .int .i64 f] w' ((run_call_any (f := 43) (ρ := ev) (args := #[.tmp 38, .tmp 40, .tmp 44]) (ats := #[25, 3, 3]) rfl (hef _) Try.func43 (by kernel_rfl) rfl).trans (by simp [f1, f3, f7])) ((HS3.out w').mono ?_)
              rintro e w'' ⟨rfl, hb''⟩
              exact ⟨rfl, hBK.step hb'', hM.step hb'', by have := hRC.step hb''; simpa [hD'] using this, hbel.trans (hb''.mono hbel.size)⟩
            | 9, _ =>
              exact .value w' (by simp [go_sem, execOp, e10]) ⟨hBK, hM, by simpa [hD'] using hRC, hbel⟩
            | 10, _ =>
              have p9 : D 9 = true := hpre ⟨9, .data⟩ (by simp) rfl
              have f9 := hev 46
              simp [p9] at f9
              exact .value w' (by simp [go_sem, execOp, f9, hec, ew3]) ⟨hBK, hM, by simpa [hD'] using hRC, hbel⟩
            | 11, _ =>
              have p0 : D 0 = true := hpre ⟨0, .data⟩ (by simp) rfl
              have p8 : D 8 = true := hpre ⟨8, .data⟩ (by simp) rfl
              have f0 := hev 37
              have f8 := hev 45
              simp [p0, p8] at f0 f8
              exact .value w' (by simp [go_sem, execOp, f0, f8, hq]) ⟨hBK, hM, by simpa [hD'] using hRC, hbel⟩
            | 12, _ =>
              have p10 : D 10 = true := hpre ⟨10, .data⟩ (by simp) rfl
              have p11 : D 11 = true := hpre ⟨11, .data⟩ (by simp) rfl
              have f10 := hev 47
              have f11 := hev 48
              simp [p10, p11] at f10 f11
              have hd12 : D 12 = false := hd
              simp only [hd12, Bool.false_eq_true, if_false] at hRC
              have c0 := hRC.cell q (by rw [HLN.out]; exact hq)
              have c1 := hRC.free q
              have hw : Wr tb (tb + 1) w' (w'.setCell ⟨tb, q, none⟩ (.int .i64 ((j : Int) + 1))) := (Wr.refl _ _ _).setCell (p := ⟨tb, q, none⟩) (Nat.le_refl _) (Nat.lt_succ_self _) _
              refine .skip (w'.setCell ⟨tb, q, none⟩ (.int .i64 ((j : Int) + 1))) rfl (by simp [go_sem, execOp, f10, f11, c0, c1]) ⟨hBK.far hw (by omega), hM.far hw (by omega), ?_, hbel.setCell (by show w.heap.size ≤ tb; omega) _⟩
              have := hRC.set q ((j : Int) + 1)
              rw [HSET.out] at this
              simpa [hD'] using this
          · intro D w' hall ⟨hBK, hM, hRC, hbel⟩
            have h12 := hall 12 (by decide)
            simp only [h12, if_true] at hRC
            have HRC7 := Lib.hid hRC
            have HBK7 := Lib.hid hBK
            have HBE7 := Lib.hid hbel
            clear hBK hM hRC hbel
            simp only [putAll, Act.put, List.getD_cons_zero, List.getD_cons_succ, Nat.reduceAdd, List.setIfInBounds_toArray, List.set_cons_succ, List.set_cons_zero, Exit.then, Exit.inBlock]
            refine ‹∀ (a : Act) (w : World), _ → _› _ _ ?_
            go_wp2_with fail
            go_roundw
            case rel => exact ⟨j + 1, by omega, by go_num, HRC7.out, HBK7.out, HBE7.out⟩
            case measure => simp [intOf]; omega
    · obtain rfl : j = l.length := by omega
      have HO := Lib.hid (hRC.oi (lo := w.heap.size) (by omega) (Nat.le_refl _))
      rw [HLN.out] at HO
      have HT := Lib.hid hbel
      clear hRC hBK hbel
      go_wp2_with fail
      go_ret
      exact ⟨_, rfl, HO.out, HT.out⟩
end
section
open Go.RowKit Go.Maps
set_option maxRecDepth 100000
set_option linter.unusedVariables false

/-- The slots behind a tick. -/
def slotsL (x : Sr) (l : List Ms) (T : Nat) : List Int := tab (fun k => ((swOf x l).S (T + 1) k : Int)) x.n.toNat
/-- What SlotsAt says. -/
def slotsSays (x : Sr) (l : List Ms) (tick : Int) : List Int × Bool := if slOk x l && wi tick 0 400 then (slotsL x l tick.toNat, true) else ([], false)
theorem slotsSays_no {x : Sr} {l : List Ms} {tick : Int} (h : (slOk x l && wi tick 0 400) = false) : slotsSays x l tick = ([], false) := by simp only [slotsSays, h]; rfl
theorem slotsSays_yes {x : Sr} {l : List Ms} {tick : Int} (h : (slOk x l && wi tick 0 400) = true) : slotsSays x l tick = (slotsL x l tick.toNat, true) := by simp only [slotsSays, h, if_true]
theorem slotsSays_len (x : Sr) (l : List Ms) (tick : Int) : (slotsSays x l tick).1.length ≤ 1048576 := by
  cases h : (slOk x l && wi tick 0 400)
  · rw [slotsSays_no h]; simp
  · rw [slotsSays_yes h]
    have h2 := isSr_in (slOk_in (Bool.and_eq_true _ _ ▸ h).1).1
    show (slotsL x l tick.toNat).length ≤ _
    unfold slotsL
    rw [tab_len]
    omega
set_option maxHeartbeats 4000000 in
theorem implSlotsAt_any (v : Value) (x : Sr) (l : List Ms) (tick : Int) (w : World) (h : RMsS w w.heap.size v l) (hn : l.length ≤ 1048576) (hwt : (Lit.int .i64 tick).wf = true) :
    Calls Try.prog 6 #[SrV x, v, .int .i64 tick] w (RetLB 3 w (slotsSays x l tick).1 (slotsSays x l tick).2) := by
  have HG := Lib.hid (fun w h => (slRing_any _ x l w h hn : Calls _ _ #[_, v] w _))
  have hr := h
  obtain ⟨A, c, rfl, _, hlc, _⟩ := h
  cases hg : slOk x l
  · rw [slotsSays_no (by rw [hg, Bool.false_and])]
    rw [hg] at HG
    obtain ⟨k, hh⟩ := x
    simp only [SrV] at HG ⊢
    have hW : Below w.heap.size w (w.alloc (.cells #[.int .i64 k, .bool hh] 25)) := (Below.refl _ _).alloc (Nat.le_refl _) _
    clear hg
    go_enter Try.func6, Try.ntmps6
    go_wp2_with fail
    refine (HG.out _ ((hr.step hW (Nat.le_refl _)).more hW.size)).mono ?_; rintro e w1 ⟨rfl, hb1⟩
    go_wp2_with fail
    go_ret2
    exact ⟨_, rfl, .inl ⟨rfl, none, 0, rfl, by simp, fun _ => rfl⟩, hW.trans (hb1.mono hW.size)⟩
  cases h2 : wi tick 0 400
  · rw [slotsSays_no (by rw [h2, Bool.and_false])]
    rw [hg] at HG
    obtain ⟨k, hh⟩ := x
    simp only [SrV] at HG ⊢
    have hW : Below w.heap.size w (w.alloc (.cells #[.int .i64 k, .bool hh] 25)) := (Below.refl _ _).alloc (Nat.le_refl _) _
    clear hg
    go_enter Try.func6, Try.ntmps6
    go_wp2_with fail
    refine (HG.out _ ((hr.step hW (Nat.le_refl _)).more hW.size)).mono ?_; rintro e w1 ⟨rfl, hb1⟩
    go_wp2_with (go_at_call 24; refine (isWithin_wi _ _ _ _).mono ?_; rintro e w' ⟨rfl, rfl⟩)
    go_ret2
    exact ⟨_, rfl, .inl ⟨rfl, none, 0, rfl, by simp, fun _ => rfl⟩, hW.trans (hb1.mono hW.size)⟩
  rw [slotsSays_yes (by rw [hg, h2]; rfl)]
  have hin := isSr_in (slOk_in hg).1
  obtain ⟨hl20, hall, _⟩ := areMs_in (slOk_in hg).2
  have ht2 : 0 ≤ tick ∧ tick ≤ 400 := by simpa [wi] using h2
  obtain ⟨T, hT⟩ : ∃ T : Nat, tick = (T : Int) := ⟨tick.toNat, by omega⟩
  subst hT
  simp only [Int.toNat_natCast]
  have HF := Lib.hid (fun w h => (filledAt_any _ x l w h hg : Calls _ _ #[_, .slice A l.length c] w _))
  have HSB := Lib.hid (fun fv w h hf => (slotsBehind_any _ fv x l T w h hf hg (by omega) : Calls _ _ #[_, .slice A l.length c, fv, _] w _))
  have HFL := Lib.hid (finL_len x l)
  unfold slotsL
  generalize tab (fun k => ((swOf x l).S (T + 1) k : Int)) x.n.toNat = SL at *
  generalize finL x l = FL at *
  rw [hg] at HG
  clear hg hall
  obtain ⟨k, hh⟩ := x
  simp only [SrV] at HG HF HSB ⊢
  have hW : Below w.heap.size w (w.alloc (.cells #[.int .i64 k, .bool hh] 25)) := (Below.refl _ _).alloc (Nat.le_refl _) _
  have hB := BK.made w 25 #[.int .i64 k, .bool hh]
  go_enter Try.func6, Try.ntmps6
  go_wp2_with fail
  refine (HG.out _ ((hr.step hW (Nat.le_refl _)).more hW.size)).mono ?_; rintro e w1 ⟨rfl, hb⟩
  have T1 := hW.trans (hb.mono hW.size)
  have hB1 := hB.step hb
  have c0 := hB1.cell 0
  have c1 := hB1.cell 1
  simp at c0 c1
  have HR1 := Lib.hid ((hr.step T1 (Nat.le_refl _)).more T1.size)
  have HT1 := Lib.hid T1
  have hz : w.heap.size < w1.heap.size := hB1.1
  have HR : Hid (∀ w', Below w.heap.size w w' → RMsS w' w'.heap.size (.slice A l.length c) l) := by
    show ∀ _, _
    intro w' hb
    exact (hr.step hb (Nat.le_refl _)).more hb.size
  clear hW hB hb hB1 T1 hr
  go_upto_region 3 with (go_at_call 24; refine (isWithin_wi _ _ _ _).mono ?_; rintro e w' ⟨rfl, rfl⟩)
  have hWd : Below w.heap.size w w1.drew := HT1.out.drew
  have hszd : w1.heap.size ≤ w1.drew.heap.size := Nat.le_refl _
  go_region_held3 (fun w' => w'.cell? ⟨w.heap.size, 0, none⟩ = some (.int .i64 k) ∧ w'.cell? ⟨w.heap.size, 1, none⟩ = some (.bool hh)) (with_reducible first | exact ⟨c0, c1⟩ | (refine ⟨?_, ?_⟩ <;> assumption) | go_keep)
    (first
      | (go_at_call 26; (with_reducible refine (HF.out _ (HR.out _ hWd)).mono ?_); rintro e w2 ⟨u, rfl, ho, hb2⟩; have hb3 := hWd.trans (hb2.mono hWd.size); have hrf := ho.ri; obtain ⟨A3, c3, hu, _, _⟩ := ho.ri; rw [HFL.out] at hu; subst hu; have HRF := Lib.hid hrf; clear ho hrf; have d0 := (hb2.cell (p := ⟨w.heap.size, 0, none⟩) hz).trans c0; have d1 := (hb2.cell (p := ⟨w.heap.size, 1, none⟩) hz).trans c1)
      | (go_at_call 25; (with_reducible refine (HSB.out _ _ (HR.out _ hb3) HRF.out).mono ?_); rintro e w4 ⟨u4, rfl, ho4, hb4⟩; have HO4 := Lib.hid ho4; obtain ⟨A4, c4, hu4, _, _⟩ := ho4.ri; subst hu4; clear ho4; have hz2 := hb2.size; have hz3 : w.heap.size < w2.heap.size := Nat.lt_of_lt_of_le hz hz2; have f0 := (hb4.cell (p := ⟨w.heap.size, 0, none⟩) hz3).trans d0; have f1 := (hb4.cell (p := ⟨w.heap.size, 1, none⟩) hz3).trans d1))
  have HO := Lib.hid (HO4.out.wide hb3.size (Nat.le_refl _))
  have HBL := Lib.hid (hb3.trans (hb4.mono hb3.size))
  go_wp2_with fail
  go_ret2
  exact ⟨_, rfl, HO.out, HBL.out⟩
set_option maxHeartbeats 4000000 in
theorem specSlotsAt_any (v : Value) (x : Sr) (l : List Ms) (tick : Int) (w : World) (h : RMsS w w.heap.size v l) (hn : l.length ≤ 1048576) (hwt : (Lit.int .i64 tick).wf = true) :
    Calls Try.prog 7 #[SrV x, v, .int .i64 tick] w (RetLB 3 w (slotsSays x l tick).1 (slotsSays x l tick).2) := by
  have HG := Lib.hid (fun w h => (slAll_any _ x l w h hn : Calls _ _ #[_, v] w _))
  have hr := h
  obtain ⟨A, c, rfl, _, hlc, _⟩ := h
  cases hg : slOk x l
  · rw [slotsSays_no (by rw [hg, Bool.false_and])]
    rw [hg] at HG
    obtain ⟨k, hh⟩ := x
    simp only [SrV] at HG ⊢
    have hW : Below w.heap.size w (w.alloc (.cells #[.int .i64 k, .bool hh] 25)) := (Below.refl _ _).alloc (Nat.le_refl _) _
    clear hg
    go_enter Try.func7, Try.ntmps7
    go_wp2_with fail
    refine (HG.out _ ((hr.step hW (Nat.le_refl _)).more hW.size)).mono ?_; rintro e w1 ⟨rfl, hb1⟩
    go_wp2_with fail
    go_ret2
    exact ⟨_, rfl, .inl ⟨rfl, none, 0, rfl, by simp, fun _ => rfl⟩, hW.trans (hb1.mono hW.size)⟩
  cases h2 : wi tick 0 400
  · rw [slotsSays_no (by rw [h2, Bool.and_false])]
    rw [hg] at HG
    obtain ⟨k, hh⟩ := x
    simp only [SrV] at HG ⊢
    have hW : Below w.heap.size w (w.alloc (.cells #[.int .i64 k, .bool hh] 25)) := (Below.refl _ _).alloc (Nat.le_refl _) _
    clear hg
    go_enter Try.func7, Try.ntmps7
    go_wp2_with fail
    refine (HG.out _ ((hr.step hW (Nat.le_refl _)).more hW.size)).mono ?_; rintro e w1 ⟨rfl, hb1⟩
    go_wp2_with (go_at_call 28; refine (l1In_wi _ _ _ _).mono ?_; rintro e w' ⟨rfl, rfl⟩)
    go_ret2
    exact ⟨_, rfl, .inl ⟨rfl, none, 0, rfl, by simp, fun _ => rfl⟩, hW.trans (hb1.mono hW.size)⟩
  rw [slotsSays_yes (by rw [hg, h2]; rfl)]
  have hin := isSr_in (slOk_in hg).1
  obtain ⟨hl20, hall, _⟩ := areMs_in (slOk_in hg).2
  have ht2 : 0 ≤ tick ∧ tick ≤ 400 := by simpa [wi] using h2
  obtain ⟨T, hT⟩ : ∃ T : Nat, tick = (T : Int) := ⟨tick.toNat, by omega⟩
  subst hT
  simp only [Int.toNat_natCast]
  have HF := Lib.hid (fun w h => slEnd_any x l A c (T + 1) w hin hall hl20 hlc.1 h (by omega))
  unfold EndP at HF
  unfold slotsL
  generalize (swOf x l).S (T + 1) = Sx at HF ⊢
  generalize (swOf x l).F (T + 1) = Fx at HF
  generalize (swOf x l).Rd (T + 1) = Rx at HF
  have et : IntKind.i64.wrap ((T : Int) + 1) = ((T + 1 : Nat) : Int) := by rw [IntWalk.i64_in _ (by omega)]; push_cast; rfl
  rw [hg] at HG
  clear hg hall
  obtain ⟨k, hh⟩ := x
  simp only [SrV] at HG HF  ⊢
  have hW : Below w.heap.size w (w.alloc (.cells #[.int .i64 k, .bool hh] 25)) := (Below.refl _ _).alloc (Nat.le_refl _) _
  have hB := BK.made w 25 #[.int .i64 k, .bool hh]
  go_enter Try.func7, Try.ntmps7
  go_wp2_with fail
  refine (HG.out _ ((hr.step hW (Nat.le_refl _)).more hW.size)).mono ?_; rintro e w1 ⟨rfl, hb⟩
  have T1 := hW.trans (hb.mono hW.size)
  have hB1 := hB.step hb
  have c0 := hB1.cell 0
  have c1 := hB1.cell 1
  simp at c0 c1
  have HR1 := Lib.hid ((hr.step T1 (Nat.le_refl _)).more T1.size)
  have HT1 := Lib.hid T1
  have hz : w.heap.size < w1.heap.size := hB1.1
  have HR : Hid (∀ w', Below w.heap.size w w' → RMsS w' w'.heap.size (.slice A l.length c) l) := by
    show ∀ _, _
    intro w' hb
    exact (hr.step hb (Nat.le_refl _)).more hb.size
  clear hW hB hb hB1 T1 hr
  go_wp2_with (go_at_call 28; refine (l1In_wi _ _ _ _).mono ?_; rintro e w' ⟨rfl, rfl⟩)
  refine (HF.out _ HR1.out).mono ?_; rintro e w2 ⟨g, sb, fb, qb, vf, vr, rfl, hp, hS⟩
  have HBL := Lib.hid (HT1.out.trans (hS.bel.mono HT1.out.size))
  have c3 := hS.run.cell 3
  simp only [List.getElem?_toArray, List.getElem?_cons_zero, List.getElem?_cons_succ] at c3
  have ho := hS.slots.oi (lo := w.heap.size) (Nat.le_trans HT1.out.size hp.s0) (Nat.le_refl _)
  rw [tab_len] at ho
  have HO := Lib.hid ho
  clear hS hp ho c0 c1
  go_wp2_with fail
  go_ret2
  exact ⟨_, rfl, HO.out, HBL.out⟩
end
end Go.Proofs.Ytehmhkbiofndaaa
