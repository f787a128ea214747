/-
  The model's ring makes one tick.
-/
import Derived.Test.YtehmhkbiofndaaaRunS
namespace Go.Proofs.Ytehmhkbiofndaaa
open Go.RowKit Go.Maps
set_option maxRecDepth 100000
set_option linter.unusedVariables false

set_option maxHeartbeats 4000000 in
theorem slTick_any (x : Sr) (l : List Ms) (w0 : World) (A : Option Addr) (c g sb fb qb : Nat) (vf vr : Value) (t : Nat) (w : World) (hin : 2 ≤ x.n ∧ x.n ≤ 12) (hall : ∀ y ∈ l, MsIn x.n y) (hl20 : l.length ≤ 20)
    (hp : RP w0 g sb fb qb) (hS : RunS w0 w x l A c g sb fb qb vf vr ((swOf x l).S t) ((swOf x l).F t) ((swOf x l).Rd t)) (hr : RMsS w0 w0.heap.size (.slice A l.length c) l) (ht : t ≤ 1000) :
    Calls Try.prog 34 #[.pointer (some ⟨g, 0, none⟩), .int .i64 t] w fun e w' => e = .returned (.tuple #[]) ∧ RunS w0 w' x l A c g sb fb qb vf vr ((swOf x l).S (t + 1)) ((swOf x l).F (t + 1)) ((swOf x l).Rd (t + 1)) := by
  have hok := swOk hin hall
  obtain ⟨y, hy⟩ : ∃ y, y = swOf x l := ⟨_, rfl⟩
  have hyn : y.n = x.n.toNat := by rw [hy]; rfl
  have hyl : y.len = l.length := by rw [hy]; rfl
  have hyh : y.home = x.h := by rw [hy]; rfl
  have HFR : Hid (∀ i, i < l.length → y.fr i = l[i]!.f.toNat ∧ y.to_ i = l[i]!.o.toNat) := by show ∀ _, _; intro i hi; rw [hy]; exact ⟨rfl, rfl⟩
  have HNX : Hid (∀ (S : Nat → Nat) (F R : Nat → Int) (w : World), RunS w0 w x l A c g sb fb qb vf vr S F R → ∀ s, s ≤ 12 → Calls Try.prog 53 #[.pointer (some ⟨g, 0, none⟩), .int .i64 (s : Nat), .int .i64 t] w (RetV w (.int .i64 (nextI (y.next F s t))))) := by
    show ∀ _, _
    intro S F R w h s hs
    rw [hy]
    exact slNext_any x l w0 A c g sb fb qb vf vr S F R s t w hall hl20 h hr ht hs
  rw [← hy] at hok hS ⊢
  have HOK := Lib.hid hok
  have HALL := Lib.hid (fun i hi => msAt hall i hi)
  have HP := Lib.hid hp
  obtain ⟨_, _, _, hc⟩ := hr.parts
  have HC := Lib.hid hc
  clear hy hok hall hp hc hr
  obtain ⟨kk, hh⟩ := x
  simp only at hin hS hyn hyh HNX HALL ⊢
  obtain ⟨n, hN⟩ : ∃ n : Nat, n = kk.toNat := ⟨_, rfl⟩
  have hk : kk = (n : Int) := by omega
  subst hk
  have hn12 : (n : Int) ≤ 12 ∧ 2 ≤ (n : Int) := by omega
  simp only [Int.toNat_natCast] at hyn
  clear hN
  have HS := Lib.hid hS
  have c0 := hS.run.cell 0
  have c3 := hS.run.cell 3
  simp only [List.getElem?_toArray, List.getElem?_cons_zero, List.getElem?_cons_succ, Int.toNat_natCast] at c0 c3
  have HYN := Lib.hid hyn
  have HYL := Lib.hid hyl
  have HYH := Lib.hid hyh
  clear hS hyn hyl hyh
  go_enter Try.func34, Try.ntmps34
  go_wp2_with fail
  go_loopw [21] (fun i wr => ∃ k : Nat, k ≤ n ∧ i = .int .i64 k ∧ RunS w0 wr ⟨n, hh⟩ l A c g sb fb qb vf vr (y.Sk t k) (y.Fk t k) (y.Rk t k)) (fun i _ => n - (intOf i).toNat)
  case atStart => exact ⟨0, Nat.zero_le _, rfl, HS.out.congr (fun j _ => by rw [Sw.Sk_zero]) (fun j _ => by rw [Sw.Fk_zero]) (fun j hj => (Sw.Rk_zero HOK.out t j (by rw [HYL.out]; exact hj)).symm)⟩
  case round =>
    clear c0 c3 HS
    obtain ⟨k, hk, rfl, hS⟩ := hrel
    have hyn := HYN.out
    have hyl := HYL.out
    by_cases hlt : k < n
    · have hkI : (k : Int) < (n : Int) := by omega
      have HS := Lib.hid hS
      obtain ⟨st, hst⟩ : ∃ st, st = (k + t) % n := ⟨_, rfl⟩
      have hstn : st ≤ 12 := by have := Nat.mod_lt (k + t) (show 0 < n by omega); omega
      have hmod : ((k : Int) + (t : Int)) % (n : Int) = (st : Int) := by rw [hst]; push_cast; rfl
      have hmod2 : ((k : Int) + (t : Int)).tmod (n : Int) = (st : Int) := by rw [Int.tmod_eq_emod_of_nonneg (by omega)]; exact hmod
      have hn0 : (n : Int) ≠ 0 := by omega
      have eadd : IntKind.i64.wrap ((k : Int) + (t : Int)) = (k : Int) + (t : Int) := IntWalk.i64_in _ (by omega)
      have hNF : Hid (y.next (y.Fk t k) st t = y.next (y.F t) st t) := by
        show _ = _
        have := Sw.next_Fk HOK.out (t := t) (k := k) (by omega)
        rw [hyn, ← hst] at this
        exact this
      have HST := Lib.hid hst
      clear hst
      have c0 := hS.run.cell 0
      have c1 := hS.run.cell 1
      have c2 := hS.run.cell 2
      have c3 := hS.run.cell 3
      have c5 := hS.run.cell 5
      have d0 := hS.slots.cell k (by rw [tab_len]; exact hlt)
      have d1 := hS.slots.free k
      simp only [Int.toNat_natCast] at d0
      rw [tab_at _ _ _ hlt] at d0
      have hSk : y.Sk t k k = y.S t k := by unfold Sw.Sk; rw [if_neg (by omega)]
      rw [hSk] at d0
      have HSK : Hid (y.Sk t k k = y.S t k) := hSk
      simp only [List.getElem?_toArray, List.getElem?_cons_zero, List.getElem?_cons_succ, Int.toNat_natCast] at c0 c1 c2 c3 c5 d0
      clear hS hSk
      obtain ⟨cc, hcc⟩ : ∃ cc, cc = y.S t k := ⟨_, rfl⟩
      rw [← hcc] at d0
      have HCC := Lib.hid hcc
      clear hcc
      by_cases h0 : cc = 0
      · have HS1 := Lib.hid (HS.out.congr (S' := y.Sk t k) (F' := y.Fk t k) (R' := y.Rk t (k + 1)) (fun _ _ => rfl) (fun _ _ => rfl) (fun i hi => (Sw.Rk_other HOK.out (by omega) (by omega) (by have := HCC.out; omega)).symm))
        have H0 : Hid (y.S t k = 0) := by show _ = _; rw [← HCC.out]; exact h0
        subst h0
        clear HS
        go_wp2_with fail
        refine (HNX.out _ _ _ _ HS1.out st hstn).mono ?_; rintro e w7 ⟨rfl, hb7⟩
        have HS7 := Lib.hid (HS1.out.step hb7)
        clear HS1
        cases hN : y.next (y.Fk t k) st t with
        | none =>
          have hfl : y.fills (y.F t) ((k + t) % y.n) t (y.S t k) = none := by rw [hyn, ← HST.out]; unfold Sw.fills; rw [H0.out, if_pos rfl]; rw [← hNF.out]; exact hN
          have HS8 := Lib.hid (HS7.out.congr (S' := y.Sk t (k + 1)) (F' := y.Fk t (k + 1)) (R' := y.Rk t (k + 1)) (fun j hj => by rw [Sw.Sk_succ, Sw.S_new]; unfold Sw.newc; rw [hfl]; rw [H0.out]; by_cases e : j = k <;> simp [e, HSK.out, H0.out]) (fun j hj => (Sw.Fk_none HOK.out (by omega) hfl j (by omega)).symm) (fun _ _ => rfl))
          clear HS7 hfl
          simp only [nextI]
          go_wp2_with fail
          go_roundw
          case rel => exact ⟨k + 1, by omega, by go_num, HS8.out⟩
          case measure => simp [intOf]; omega
        | some i2 =>
          have hfl : y.fills (y.F t) ((k + t) % y.n) t (y.S t k) = some i2 := by rw [hyn, ← HST.out]; unfold Sw.fills; rw [H0.out, if_pos rfl]; rw [← hNF.out]; exact hN
          have hi2 := (Sw.next_some hN).1
          rw [hyl] at hi2
          have hi2I : (i2 : Int) < (l.length : Int) := by omega
          have c3 := HS7.out.run.cell 3
          have c4 := HS7.out.run.cell 4
          have d0 := HS7.out.slots.cell k (by rw [tab_len]; exact hlt)
          have d1 := HS7.out.slots.free k
          obtain ⟨cf, hvf, hrc⟩ := HS7.out.filled.at_ i2 (by rw [tab_len]; exact hi2)
          rw [tab_len] at hvf
          have hcast : ((i2 + 1 : Nat) : Int) = (i2 : Int) + 1 := by omega
          have HSS := HS7.out.setS HP.out k (i2 + 1)
          rw [hcast] at HSS
          have p4 := HSS.run.cell 4
          simp only [List.getElem?_toArray, List.getElem?_cons_zero, List.getElem?_cons_succ] at c3 c4 p4
          obtain ⟨cf2, hvf2, hrc2⟩ := HSS.filled.at_ i2 (by rw [tab_len]; exact hi2)
          have g0 := hrc2.cell i2 (by rw [tab_len]; exact hi2)
          have g1 := hrc2.free i2
          rw [hvf] at c4 p4
          have HSF := HSS.setF HP.out i2 (t : Int)
          have HS8 := Lib.hid (HSF.congr (S' := y.Sk t (k + 1)) (F' := y.Fk t (k + 1)) (R' := y.Rk t (k + 1)) (fun j hj => by rw [Sw.Sk_succ, Sw.S_new]; unfold Sw.newc; rw [hfl]; try (by_cases e : j = k <;> simp [e])) (fun j hj => (Sw.Fk_some HOK.out (by omega) hfl j (by omega)).symm) (fun _ _ => rfl))
          have ew : IntKind.i64.wrap ((i2 : Int) + 1) = (i2 : Int) + 1 := IntWalk.i64_in _ (by omega)
          have HS9 := HS8
          clear HS7 hfl hrc hrc2 HSS HSF HS8 hvf hvf2 hcast
          simp only [nextI]
          go_wp2_with fail
          go_roundw
          case rel => exact ⟨k + 1, by omega, by go_num, HS9.out⟩
          case measure => simp [intOf]; omega
      · obtain ⟨i, hi⟩ : ∃ i, cc = i + 1 := ⟨cc - 1, by omega⟩
        subst hi
        have hh1 := Sw.held HOK.out (t := t) (k := k) (i := i) (by omega) HCC.out.symm
        have hil : i < l.length := by have := hh1.lt; omega
        have hh2 : (y.to_ i = st ↔ y.Rk t k i = -1 ∧ y.to_ i = st) ∧ (y.fr i = st → 0 ≤ y.Rk t (k + 1) i) ∧ (y.to_ i = st → y.Rk t (k + 1) i = t) ∧ (y.to_ i ≠ st → y.Rk t (k + 1) i = y.Rk t k i) := by
          have a := hh1.read
          have b := hh1.home
          have c := hh1.set
          have d := hh1.keep
          rw [hyn, ← HST.out] at a b c d
          exact ⟨a, b, c, d⟩
        have HH1 := Lib.hid hh2
        have hfri := HFR.out i hil
        have hml := HALL.out i hil
        have hiI : (i : Int) < (l.length : Int) := by omega
        obtain ⟨b, off, hA, hbB, hcell⟩ := HC.out (by omega)
        obtain ⟨hd0, hd1, hd2⟩ := hcell i hil
        have hm0 := (HS.out.bel.cell (p := ⟨b, off + i * 3, none⟩) hbB).trans hd0
        have hm1 := (HS.out.bel.cell (p := ⟨b, off + i * 3 + 1, none⟩) hbB).trans hd1
        have hm2 := (HS.out.bel.cell (p := ⟨b, off + i * 3 + 2, none⟩) hbB).trans hd2
        clear hd0 hd1 hd2 hcell
        subst hA
        obtain ⟨cr, hvr, hrc⟩ := HS.out.read.at_ i (by rw [tab_len]; exact hil)
        rw [tab_len] at hvr
        generalize l[i]! = m at hm0 hm1 hm2 hml hfri
        obtain ⟨mt, mf, mo⟩ := m
        obtain ⟨_, _, m1, m2, m3, m4, m5⟩ := hml
        simp only at hm0 hm1 hm2 m1 m2 m3 m4 m5 hfri
        have HTO : Hid (mo = (st : Int) ↔ y.to_ i = st) := by show _ ↔ _; omega
        have HHO : Hid (mf = (st : Int) ↔ y.fr i = st) := by show _ ↔ _; omega
        have HNE : Hid (mf ≠ mo) := m5
        have HOTH : Hid (∀ j, j < l.length → j ≠ i → y.Rk t (k + 1) j = y.Rk t k j) := by
          show ∀ _, _
          intro j hj hne
          exact Sw.Rk_other HOK.out (by omega) (by omega) (by have := HCC.out; omega)
        have HFREE : Hid (y.frees st (i + 1) = if hh then decide (y.fr i = st) else decide (y.to_ i = st)) := by
          show _ = _
          unfold Sw.frees
          rw [HYH.out]
          simp
        have esub : IntKind.i64.wrap (((i + 1 : Nat) : Int) - 1) = (i : Int) := by rw [IntWalk.i64_in _ (by omega)]; omega
        have esub2 : (((i + 1 : Nat) : Int)) = (i : Int) + 1 := by omega
        rw [esub2] at esub d0
        clear m5 hh1 hh2
        have hS1 := HS.out.step ((Below.refl _ _).alloc (Nat.le_refl _) (.cells #[.int .i64 mt, .int .i64 mf, .int .i64 mo] 35))
        have hM := BK.made wr 35 #[.int .i64 mt, .int .i64 mf, .int .i64 mo]
        have hrc1 := hrc.alloc (.cells #[.int .i64 mt, .int .i64 mf, .int .i64 mo] 35)
        obtain ⟨ub, hub⟩ : ∃ ub, ub = wr.heap.size := ⟨_, rfl⟩
        have hubq : qb < ub := by have := hrc.lt; omega
        have hubs : sb < ub := by have := HS.out.slots.lt; omega
        clear hrc
        go_upto_region 9 with fail
        generalize wr.alloc (.cells #[.int .i64 mt, .int .i64 mf, .int .i64 mo] 35) = w2 at *
        rw [← hub] at hM ⊢
        clear c0 c1 c2 c3 c5 d0 d1 hm0 hm1 hm2 hub HS
        have HS2 := Lib.hid hS1
        have a0 := hM.cell 0
        have a1 := hM.cell 1
        have a2 := hM.cell 2
        have c1 := hS1.run.cell 1
        have c3 := hS1.run.cell 3
        have c5 := hS1.run.cell 5
        have d0 := hS1.slots.cell k (by rw [tab_len]; exact hlt)
        have d1 := hS1.slots.free k
        have r0 := hrc1.cell i (by rw [tab_len]; exact hil)
        have r1 := hrc1.free i
        simp only [Int.toNat_natCast] at d0
        rw [tab_at _ _ _ hlt] at d0
        rw [tab_at _ _ _ hil] at r0
        have hSk : y.Sk t k k = y.S t k := by unfold Sw.Sk; rw [if_neg (by omega)]
        rw [hSk, ← HCC.out] at d0
        rw [esub2] at d0
        subst hvr
        simp only [List.getElem?_toArray, List.getElem?_cons_zero, List.getElem?_cons_succ, Int.toNat_natCast] at a0 a1 a2 c1 c3 c5
        have HM := Lib.hid hM
        clear hSk hS1 hM hrc1
        obtain ⟨rr, hrr⟩ : ∃ rr, rr = y.Rk t k i := ⟨_, rfl⟩
        rw [← hrr] at r0
        have HRR := Lib.hid hrr
        clear hrr
        by_cases hto : mo = (st : Int)
        · have hto' := HTO.out.1 hto
          have hr1 : rr = -1 := by rw [HRR.out]; exact (HH1.out.1.1 hto').1
          subst hr1
          have hset := HH1.out.2.2.1 hto'
          have HSR := HS2.out.setR HP.out i (t : Int)
          have HS3 := Lib.hid (HSR.congr (S' := y.Sk t k) (F' := y.Fk t k) (R' := y.Rk t (k + 1)) (fun _ _ => rfl) (fun _ _ => rfl) (fun j hj => if e : j = i then by rw [if_pos e, e, hset] else by rw [if_neg e]; exact (HOTH.out j hj e).symm))
          have e1 := (World.cell?_setCell_far w2 ⟨qb, i, none⟩ ⟨ub, 1, none⟩ (.int .i64 (t : Int)) (by show qb ≠ ub; omega)).trans a1
          have e2 := (World.cell?_setCell_far w2 ⟨qb, i, none⟩ ⟨ub, 2, none⟩ (.int .i64 (t : Int)) (by show qb ≠ ub; omega)).trans a2
          have x1 := HSR.run.cell 1
          have x3 := HSR.run.cell 3
          have x5 := HSR.run.cell 5
          have y0 := HSR.slots.cell k (by rw [tab_len]; exact hlt)
          have y1 := HSR.slots.free k
          simp only [Int.toNat_natCast] at y0
          rw [tab_at _ _ _ hlt] at y0
          have hSk : y.Sk t k k = y.S t k := by unfold Sw.Sk; rw [if_neg (by omega)]
          rw [hSk, ← HCC.out, esub2] at y0
          simp only [List.getElem?_toArray, List.getElem?_cons_zero, List.getElem?_cons_succ, Int.toNat_natCast] at x1 x3 x5
          have hmf : ¬ mf = (st : Int) := fun e => HNE.out (e.trans hto.symm)
          have HTO' := Lib.hid hto'
          subst hto
          clear hSk HSR hset
          cases hh
          · have HFR1 : Hid (y.frees st (i + 1) = true) := by show _ = _; rw [HFREE.out]; simp [HTO'.out]
            have HZS := HS3.out.setS HP.out k 0
            have hz0 : ((0 : Nat) : Int) = 0 := rfl
            rw [hz0] at HZS
            have HS4 := Lib.hid HZS
            have z0 := HZS.slots.cell k (by rw [tab_len]; exact hlt)
            have z1 := HZS.run.cell 1
            have z3 := HZS.run.cell 3
            simp only [Int.toNat_natCast] at z0
            rw [tab_at _ _ _ hlt] at z0
            simp only [List.getElem?_toArray, List.getElem?_cons_zero, List.getElem?_cons_succ, Int.toNat_natCast, if_true] at z0 z1 z3
            rw [hz0] at z0
            clear HZS HS3 hz0
            go_upto_region 17 with fail
            generalize ((w2.setCell ⟨qb, i, none⟩ (.int .i64 (t : Int))).setCell ⟨sb, k, none⟩ (.int .i64 0)) = w4 at *
            clear a0 a1 a2 c1 c3 c5 d0 d1 r0 r1 e1 e2 x1 x3 x5 y0 y1 z0 z1 z3
            go_wp2_with fail
            refine (HNX.out _ _ _ _ HS4.out st hstn).mono ?_; rintro e w7 ⟨rfl, hb7⟩
            have HS7 := Lib.hid (HS4.out.step hb7)
            clear HS4
            cases hN : y.next (y.Fk t k) st t with
            | none =>
              have hfl : y.fills (y.F t) ((k + t) % y.n) t (y.S t k) = none := by rw [hyn, ← HST.out]; unfold Sw.fills; rw [← HCC.out, if_neg (by omega), HFR1.out, HYH.out]; simp only [Bool.not_false, Bool.and_true, if_true]; rw [← hNF.out]; exact hN
              have HS8 := Lib.hid (HS7.out.congr (S' := y.Sk t (k + 1)) (F' := y.Fk t (k + 1)) (R' := y.Rk t (k + 1)) (fun j hj => by rw [Sw.Sk_succ, Sw.S_new]; unfold Sw.newc; rw [hfl]; exact (if e : j = k then (by simp only [e, if_true, ← HCC.out]; rw [hyn, ← HST.out, HFR1.out]; simp) else (by simp [e]))) (fun j hj => (Sw.Fk_none HOK.out (by omega) hfl j (by omega)).symm) (fun _ _ => rfl))
              clear HS7 hfl
              simp only [nextI]
              go_wp2_with fail
              go_roundw
              case rel => exact ⟨k + 1, by omega, by go_num, HS8.out⟩
              case measure => simp [intOf]; omega
            | some i2 =>
              have hfl : y.fills (y.F t) ((k + t) % y.n) t (y.S t k) = some i2 := by rw [hyn, ← HST.out]; unfold Sw.fills; rw [← HCC.out, if_neg (by omega), HFR1.out, HYH.out]; simp only [Bool.not_false, Bool.and_true, if_true]; rw [← hNF.out]; exact hN
              have hi2 := (Sw.next_some hN).1
              rw [hyl] at hi2
              have hi2I : (i2 : Int) < (l.length : Int) := by omega
              have c3 := HS7.out.run.cell 3
              have c4 := HS7.out.run.cell 4
              have d0 := HS7.out.slots.cell k (by rw [tab_len]; exact hlt)
              have d1 := HS7.out.slots.free k
              obtain ⟨cf, hvf, hrc⟩ := HS7.out.filled.at_ i2 (by rw [tab_len]; exact hi2)
              rw [tab_len] at hvf
              have hcast : ((i2 + 1 : Nat) : Int) = (i2 : Int) + 1 := by omega
              have HSS := HS7.out.setS HP.out k (i2 + 1)
              rw [hcast] at HSS
              have p4 := HSS.run.cell 4
              simp only [List.getElem?_toArray, List.getElem?_cons_zero, List.getElem?_cons_succ] at c3 c4 p4
              obtain ⟨cf2, hvf2, hrc2⟩ := HSS.filled.at_ i2 (by rw [tab_len]; exact hi2)
              have g0 := hrc2.cell i2 (by rw [tab_len]; exact hi2)
              have g1 := hrc2.free i2
              rw [hvf] at c4 p4
              have HSF := HSS.setF HP.out i2 (t : Int)
              have HS8 := Lib.hid (HSF.congr (S' := y.Sk t (k + 1)) (F' := y.Fk t (k + 1)) (R' := y.Rk t (k + 1)) (fun j hj => by rw [Sw.Sk_succ, Sw.S_new]; unfold Sw.newc; rw [hfl]; try (by_cases e : j = k <;> simp [e])) (fun j hj => (Sw.Fk_some HOK.out (by omega) hfl j (by omega)).symm) (fun _ _ => rfl))
              have ew : IntKind.i64.wrap ((i2 : Int) + 1) = (i2 : Int) + 1 := IntWalk.i64_in _ (by omega)
              have HS9 := HS8
              clear HS7 hfl hrc hrc2 HSS HSF HS8 hvf hvf2 hcast
              simp only [nextI]
              go_wp2_with fail
              go_roundw
              case rel => exact ⟨k + 1, by omega, by go_num, HS9.out⟩
              case measure => simp [intOf]; omega
          · have HFR1 : Hid (y.frees st (i + 1) = false) := by show _ = _; rw [HFREE.out]; have h9 : ¬ y.fr i = st := fun e => hmf (HHO.out.2 e); simp [h9]
            have HNO : Hid (y.fills (y.F t) st t (y.S t k) = none) := by show _ = _; unfold Sw.fills; rw [← HCC.out, if_neg (by omega), HFR1.out]; rfl
            have HSX := HS3
            have HS5 := Lib.hid (HSX.out.congr (S' := y.Sk t (k + 1)) (F' := y.Fk t (k + 1)) (R' := y.Rk t (k + 1)) (fun j hj => by rw [Sw.Sk_succ, Sw.S_new, hyn, ← HST.out]; unfold Sw.newc; rw [HNO.out]; by_cases e : j = k <;> simp [e, HSK.out, ← HCC.out, HFR1.out]) (fun j hj => (Sw.Fk_none HOK.out (by omega) (by rw [hyn, ← HST.out]; exact HNO.out) j (by omega)).symm) (fun _ _ => rfl))
            go_wp2_with fail
            go_roundw
            case rel => exact ⟨k + 1, by omega, by go_num, HS5.out⟩
            case measure => simp [intOf]; omega

        · have hto' : ¬ y.to_ i = st := fun e => hto (HTO.out.2 e)
          have hkp := HH1.out.2.2.2 hto'
          have HS3 := Lib.hid (HS2.out.congr (S' := y.Sk t k) (F' := y.Fk t k) (R' := y.Rk t (k + 1)) (fun _ _ => rfl) (fun _ _ => rfl) (fun j hj => if e : j = i then by rw [e, hkp] else (HOTH.out j hj e).symm))
          cases hh
          · have HFR1 : Hid (y.frees st (i + 1) = false) := by show _ = _; rw [HFREE.out]; simp [hto']
            have HNO : Hid (y.fills (y.F t) st t (y.S t k) = none) := by show _ = _; unfold Sw.fills; rw [← HCC.out, if_neg (by omega), HFR1.out]; rfl
            have HSX := HS3
            clear hkp hto'
            have HS5 := Lib.hid (HSX.out.congr (S' := y.Sk t (k + 1)) (F' := y.Fk t (k + 1)) (R' := y.Rk t (k + 1)) (fun j hj => by rw [Sw.Sk_succ, Sw.S_new, hyn, ← HST.out]; unfold Sw.newc; rw [HNO.out]; by_cases e : j = k <;> simp [e, HSK.out, ← HCC.out, HFR1.out]) (fun j hj => (Sw.Fk_none HOK.out (by omega) (by rw [hyn, ← HST.out]; exact HNO.out) j (by omega)).symm) (fun _ _ => rfl))
            go_wp2_with fail
            go_roundw
            case rel => exact ⟨k + 1, by omega, by go_num, HS5.out⟩
            case measure => simp [intOf]; omega

          · by_cases hmf : mf = (st : Int)
            · have hfr := HHO.out.1 hmf
              have HFR1 : Hid (y.frees st (i + 1) = true) := by show _ = _; rw [HFREE.out]; simp [hfr]
              have hrr0 : 0 ≤ rr := by rw [HRR.out, ← hkp]; exact HH1.out.2.1 hfr
              have HNO : Hid (y.fills (y.F t) st t (y.S t k) = none) := by show _ = _; unfold Sw.fills; rw [← HCC.out, if_neg (by omega), HFR1.out, HYH.out]; rfl
              have HZS := HS3.out.setS HP.out k 0
              have hz0 : ((0 : Nat) : Int) = 0 := rfl
              rw [hz0] at HZS
              have HSX := Lib.hid HZS
              have z0 := HZS.slots.cell k (by rw [tab_len]; exact hlt)
              have z1 := HZS.run.cell 1
              have z3 := HZS.run.cell 3
              simp only [Int.toNat_natCast] at z0
              rw [tab_at _ _ _ hlt] at z0
              simp only [List.getElem?_toArray, List.getElem?_cons_zero, List.getElem?_cons_succ, Int.toNat_natCast, if_true] at z0 z1 z3
              rw [hz0] at z0
              subst hmf
              clear HZS HS3 hz0 hkp hto' hfr
              have HS5 := Lib.hid (HSX.out.congr (S' := y.Sk t (k + 1)) (F' := y.Fk t (k + 1)) (R' := y.Rk t (k + 1)) (fun j hj => by rw [Sw.Sk_succ, Sw.S_new, hyn, ← HST.out]; unfold Sw.newc; rw [HNO.out]; by_cases e : j = k <;> simp [e, ← HCC.out, HFR1.out]) (fun j hj => (Sw.Fk_none HOK.out (by omega) (by rw [hyn, ← HST.out]; exact HNO.out) j (by omega)).symm) (fun _ _ => rfl))
              go_wp2_with fail
              go_roundw
              case rel => exact ⟨k + 1, by omega, by go_num, HS5.out⟩
              case measure => simp [intOf]; omega

            · have h9 : ¬ y.fr i = st := fun e => hmf (HHO.out.2 e)
              have HFR1 : Hid (y.frees st (i + 1) = false) := by show _ = _; rw [HFREE.out]; simp [h9]
              have HNO : Hid (y.fills (y.F t) st t (y.S t k) = none) := by show _ = _; unfold Sw.fills; rw [← HCC.out, if_neg (by omega), HFR1.out]; rfl
              have HSX := HS3
              clear hkp hto' h9
              have HS5 := Lib.hid (HSX.out.congr (S' := y.Sk t (k + 1)) (F' := y.Fk t (k + 1)) (R' := y.Rk t (k + 1)) (fun j hj => by rw [Sw.Sk_succ, Sw.S_new, hyn, ← HST.out]; unfold Sw.newc; rw [HNO.out]; by_cases e : j = k <;> simp [e, HSK.out, ← HCC.out, HFR1.out]) (fun j hj => (Sw.Fk_none HOK.out (by omega) (by rw [hyn, ← HST.out]; exact HNO.out) j (by omega)).symm) (fun _ _ => rfl))
              go_wp2_with fail
              go_roundw
              case rel => exact ⟨k + 1, by omega, by go_num, HS5.out⟩
              case measure => simp [intOf]; omega

    · obtain rfl : k = n := by omega
      have HS2 := Lib.hid (hS.congr (S' := y.S (t + 1)) (F' := y.F (t + 1)) (R' := y.Rd (t + 1)) (fun j hj => by have := Sw.Sk_all (x := y) t j (by rw [hyn]; exact hj); rw [hyn] at this; exact this) (fun j hj => by have := Sw.Fk_all HOK.out t j; rw [hyn] at this; exact this) (fun j hj => by have := Sw.Rk_all HOK.out t j; rw [hyn] at this; exact this))
      clear hS
      go_wp2_with fail
      exact ⟨rfl, .tuple #[], by simp [results, Try.results34, go_sem], rfl, HS2.out⟩
end Go.Proofs.Ytehmhkbiofndaaa
