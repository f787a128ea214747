/-
  Chapter 8: the greatest of what a function gives of stretches, and the program's LeastDepth.
-/
import Derived.Test.YtlanpfcjcafapaaShH
namespace Go.Proofs.Ytlanpfcjcafapaa
open Go.RowKit
set_option maxRecDepth 100000
set_option linter.unusedVariables false

theorem take_st (L : List St) (i : Nat) (hi : i < L.length) : L.take (i + 1) = L.take i ++ [L[i]!] := take_at L i hi
/-- The closure of LeastDepth. -/
theorem needed_any (x : St) (r : Int) (pb : Nat) (W : World) (c : W.cell? ⟨pb, 0, none⟩ = some (.int .i64 r)) (z : pb < W.heap.size) (hr : 1 ≤ r ∧ r ≤ 100) (hx : StIn x) :
    Calls Try.prog 93 #[StV x, .pointer (some ⟨pb, 0, none⟩)] W (RetV W (.int .i64 (needS r x))) := by
  have HND := Lib.hid fun W => neededDepth_any x r W hr hx
  generalize needS r x = n at HND ⊢
  obtain ⟨f, l, s⟩ := x
  simp only [StV] at HND ⊢
  have hW : Below W.heap.size W (W.alloc (.cells #[.int .i64 f, .int .i64 l, .int .i64 s] 91)) := (Below.refl _ _).alloc (Nat.le_refl _) _
  have c2 : (W.alloc (.cells #[.int .i64 f, .int .i64 l, .int .i64 s] 91)).cell? ⟨pb, 0, none⟩ = some (.int .i64 r) := (hW.cell (p := ⟨pb, 0, none⟩) z).trans c
  have zne : pb ≠ W.heap.size := by omega
  go_enter Try.func93, Try.ntmps93
  go_wp2_with fail
  refine (HND.out _).mono ?_; rintro e w1 ⟨rfl, hb⟩
  go_wp2_with fail
  go_ret
  exact ⟨rfl, hW.trans (hb.mono hW.size)⟩
set_option maxHeartbeats 2000000 in
theorem greatestSt_any (v : Value) (L : List St) (f : St → Int) (pb : Nat) (w : World) (h : RStS w w.heap.size v L) (hn : L.length ≤ 1640) (hf : ∀ x ∈ L, -4000 ≤ f x ∧ f x ≤ 40000)
    (hp : ∀ x ∈ L, ∀ W, Below w.heap.size w W → Calls Try.prog 93 #[StV x, .pointer (some ⟨pb, 0, none⟩)] W (RetV W (.int .i64 (f x)))) :
    Calls Try.prog 94 #[.func (.func 93) #[] #[.pointer (some ⟨pb, 0, none⟩)], v] w (RetV w (.int .i64 (mxF f 0 L))) := by
  have h0 := h
  obtain ⟨A, c, rfl, hfl, hlc, _⟩ := h
  obtain ⟨_, _, _, hcells⟩ := h0.parts
  have HCE := Lib.hid hcells
  have HP := Lib.hid hp
  have HF := Lib.hid hf
  have hn' : (L.length : Int) ≤ 1640 := by omega
  clear h0 hcells hfl hp hf
  go_enter Try.func94, Try.ntmps94
  go_wp2_with fail
  go_loopg [10, 5] L.length (fun g s10 s5 wx => ∃ i : Nat, i + g = L.length ∧ s10 = .int .i64 i ∧ s5 = .int .i64 (mxF f 0 (L.take i)) ∧ Below w.heap.size w wx)
  case atStart => exact ⟨0, by omega, rfl, rfl, Below.refl _ _⟩
  case round =>
    obtain ⟨i, hig, rfl, rfl, hb⟩ := hrel
    have HB := Lib.hid hb
    clear hb
    cases gk with
    | zero =>
      have hie : i = L.length := by omega
      have hz : ¬ ((L.length : Int) < (L.length : Int)) := by omega
      rw [hie, List.take_length]
      clear hie hig
      go_wp2_with fail
      go_ret
      exact ⟨rfl, HB.out⟩
    | succ g =>
      have hi : i < L.length := by omega
      have hi' : (i : Int) < (L.length : Int) := by omega
      obtain ⟨b, off, rfl, hbB, hcell⟩ := HCE.out (by omega)
      obtain ⟨hd0, hd1, hd2⟩ := hcell i hi
      have e0 := (HB.out.cell (p := ⟨b, off + i * 3, none⟩) hbB).trans hd0
      have e1 := (HB.out.cell (p := ⟨b, off + i * 3 + 1, none⟩) hbB).trans hd1
      have e2 := (HB.out.cell (p := ⟨b, off + i * 3 + 2, none⟩) hbB).trans hd2
      have hmem : L[i]! ∈ L := by rw [getElem!_pos L i hi]; exact List.getElem_mem hi
      have HMX : Hid (mxF f 0 (L.take (i + 1)) = max (mxF f 0 (L.take i)) (f L[i]!)) := by show _ = _; rw [take_at L i hi, mxF_snoc]
      have hfx := HF.out _ hmem
      have hmb := mxF_in (f := f) (m := 0) (b := 40000) (L := L.take i) (by omega) (fun x hx => (HF.out x (List.mem_of_mem_take hx)).2)
      have HCL := Lib.hid (HP.out _ hmem)
      clear hcell hd0 hd1 hd2 hmem
      obtain ⟨y, hy⟩ : ∃ y, y = L[i]! := ⟨_, rfl⟩
      rw [← hy] at e0 e1 e2 HMX hfx HCL
      obtain ⟨n, hn9⟩ : ∃ n, n = f y := ⟨_, rfl⟩
      rw [← hn9] at HMX hfx HCL
      obtain ⟨m, hm9⟩ : ∃ m, m = mxF f 0 (L.take i) := ⟨_, rfl⟩
      rw [← hm9] at HMX hmb ⊢
      clear hy hn9 hm9
      obtain ⟨yf, yl, ys⟩ := y
      simp only [StV] at e0 e1 e2 HCL
      have HB3 : Hid (Below w.heap.size w (wr.alloc (.cells #[.int .i64 yf, .int .i64 yl, .int .i64 ys] 91))) := HB.out.alloc HB.out.size _
      by_cases hmn : m < n
      · rw [show max m n = n by omega] at HMX
        go_wp2_with fail
        refine (HCL.out _ HB3.out).mono ?_; rintro e w4 ⟨rfl, hb4⟩
        have HB4 := Lib.hid (HB3.out.trans (hb4.mono HB3.out.size))
        clear hb4
        go_wp2_with fail
        go_roundg g
        case measure => omega
        case rel => exact ⟨i + 1, by omega, by go_num, by rw [HMX.out], HB4.out⟩
      · rw [show max m n = m by omega] at HMX
        have hmn2 : n ≤ m := by omega
        go_wp2_with fail
        refine (HCL.out _ HB3.out).mono ?_; rintro e w4 ⟨rfl, hb4⟩
        have HB4 := Lib.hid (HB3.out.trans (hb4.mono HB3.out.size))
        clear hb4
        go_wp2_with fail
        go_roundg g
        case measure => omega
        case rel => exact ⟨i + 1, by omega, by go_num, by rw [HMX.out], HB4.out⟩
set_option maxHeartbeats 2000000 in
theorem implLeastDepth_any (v : Value) (r : Int) (l : List Int) (w : World) (h : RI w w.heap.size v l) (hn : l.length ≤ 1048576) (hx : (Lit.int .i64 r).wf = true) :
    Calls Try.prog 41 #[.int .i64 r, v] w (RetV w (.tuple #[.int .i64 (depSays r l).1, .bool (depSays r l).2])) := by
  have H1 := Lib.hid fun w => implRate_any r w
  have H2 : Hid (∀ w', Below w.heap.size w w' → Calls Try.prog 23 #[v] w' fun e w'' => e = .returned (.bool (trOk l)) ∧ w' = w'') := fun w' hb => implTraffic_any v l w' ((h.below hb).more hb.size) hn
  have hW : Below w.heap.size w (w.alloc (.cells #[.int .i64 r] 3)) := (Below.refl _ _).alloc (Nat.le_refl _) _
  cases g1 : wi r 1 100
  · rw [show depSays r l = (0, false) from by simp [depSays, g1]]
    rw [g1] at H1
    clear g1 h
    go_enter Try.func41, Try.ntmps41
    go_wp2_with fail
    refine (H1.out _).mono ?_; rintro e w' ⟨rfl, rfl⟩
    go_wp2_with fail
    go_ret2
    exact ⟨rfl, hW⟩
  cases hq : trOk l
  · rw [show depSays r l = (0, false) from by simp [depSays, hq]]
    rw [g1] at H1
    rw [hq] at H2
    clear g1 hq h
    go_enter Try.func41, Try.ntmps41
    go_wp2_with fail
    refine (H1.out _).mono ?_; rintro e w' ⟨rfl, rfl⟩
    go_wp2_with fail
    refine (H2.out _ hW).mono ?_; rintro e w' ⟨rfl, rfl⟩
    go_wp2_with fail
    go_ret2
    exact ⟨rfl, hW⟩
  have hrr : 1 ≤ r ∧ r ≤ 100 := by simpa [wi] using g1
  have H3 : Hid (∀ w', Below w.heap.size w w' → Calls Try.prog 91 #[v] w' (RetStS w' (stA l l.length))) := fun w' hb => trafficStretches_any v l w' ((h.below hb).more hb.size) hq
  have HLIN := Lib.hid (stA_in hq (Nat.le_refl l.length))
  have hll := stA_len (l := l) (trOk_len hq)
  have HDE := Lib.hid (depN_is r l)
  have hda := depA_in hrr hq
  rw [show depSays r l = (if depN r l ≤ 1000 then (depN r l, true) else (0, false)) from by simp [depSays, g1, hq]]
  rw [g1] at H1
  rw [hq] at H2
  obtain ⟨L, hL⟩ : ∃ L, L = stA l l.length := ⟨_, rfl⟩
  rw [← hL] at H3 HLIN hll HDE
  obtain ⟨D, hD⟩ : ∃ D, D = depN r l := ⟨_, rfl⟩
  rw [← hD] at hda HDE ⊢
  obtain ⟨R, hR⟩ : ∃ R, R = (if D ≤ 1000 then (D, true) else (0, false)) := ⟨_, rfl⟩
  rw [← hR]
  have HR := Lib.hid hR
  have HRR := Lib.hid hrr
  have HBK := Lib.hid (BK.made w 3 #[.int .i64 r])
  have HW := Lib.hid hW
  clear g1 hq h hL hD hR hx hW
  go_enter Try.func41, Try.ntmps41
  go_wp2_with fail
  refine (H1.out _).mono ?_; rintro e w' ⟨rfl, rfl⟩
  go_wp2_with fail
  refine (H2.out _ HW.out).mono ?_; rintro e w' ⟨rfl, rfl⟩
  go_wp2_with fail
  refine (H3.out _ HW.out).mono ?_; rintro e w2 ⟨u, rfl, ho, hb2⟩
  have HB2 : Hid (Below w.heap.size w w2) := HW.out.trans (hb2.mono HW.out.size)
  have HBK2 := Lib.hid (HBK.out.step hb2)
  have HG := Lib.hid (greatestSt_any u L (needS r) w.heap.size w2 (OK.rk ho) hll (fun x hx => needS_in HRR.out (HLIN.out x hx)) (fun x hx W hb => by
    have hk := HBK2.out.step hb
    have c := hk.cell 0
    simp at c
    exact needed_any x r w.heap.size W c hk.1 HRR.out (HLIN.out x hx)))
  obtain ⟨M, hM⟩ : ∃ M, M = mxF (needS r) 0 L := ⟨_, rfl⟩
  rw [← hM] at HG HDE
  clear hM ho hb2
  go_wp2_with fail
  refine HG.out.mono ?_; rintro e w3 ⟨rfl, hb3⟩
  have HB3 := Lib.hid (HB2.out.trans (hb3.mono HB2.out.size))
  clear hb3
  by_cases hM1 : 1 < M
  · have HDX : Hid (D = M) := by show _ = _; rw [HDE.out]; omega
    have HI := Lib.hid fun W => implDepth_any M W
    have hda2 := hda
    rw [HDX.out] at hda2 HR
    by_cases hD : M ≤ 1000
    · have HRE : Hid (R = (M, true)) := by show _ = _; rw [HR.out, if_pos hD]
      have hwi : wi M 1 1000 = true := by simp [wi]; omega
      rw [hwi] at HI
      clear hwi
      go_wp2_with fail
      refine (HI.out _).mono ?_; rintro e w' ⟨rfl, rfl⟩
      go_wp2_with fail
      go_ret2
      rw [HRE.out]
      exact ⟨rfl, HB3.out⟩
    · have HRE : Hid (R = (0, false)) := by show _ = _; rw [HR.out, if_neg hD]
      have hwi : wi M 1 1000 = false := by simp [wi]; omega
      rw [hwi] at HI
      clear hwi
      go_wp2_with fail
      refine (HI.out _).mono ?_; rintro e w' ⟨rfl, rfl⟩
      go_wp2_with fail
      go_ret2
      rw [HRE.out]
      exact ⟨rfl, HB3.out⟩
  · have HDX : Hid (D = 1) := by show _ = _; rw [HDE.out]; omega
    have hM2 : M ≤ 1 := by omega
    have HI := Lib.hid fun W => implDepth_any 1 W
    have hda2 := hda
    rw [HDX.out] at hda2 HR
    by_cases hD : (1 : Int) ≤ 1000
    · have HRE : Hid (R = (1, true)) := by show _ = _; rw [HR.out, if_pos hD]
      have hwi : wi 1 1 1000 = true := by simp [wi]
      rw [hwi] at HI
      clear hwi
      go_wp2_with fail
      refine (HI.out _).mono ?_; rintro e w' ⟨rfl, rfl⟩
      go_wp2_with fail
      go_ret2
      rw [HRE.out]
      exact ⟨rfl, HB3.out⟩
    · have HRE : Hid (R = (0, false)) := by show _ = _; rw [HR.out, if_neg hD]
      have hwi : wi 1 1 1000 = false := by exfalso; omega
      rw [hwi] at HI
      clear hwi
      go_wp2_with fail
      refine (HI.out _).mono ?_; rintro e w' ⟨rfl, rfl⟩
      go_wp2_with fail
      go_ret2
      rw [HRE.out]
      exact ⟨rfl, HB3.out⟩

end Go.Proofs.Ytlanpfcjcafapaa
