/-
  The contract of the model's TurnRing.
-/
import Derived.Test.YtifebadcfopfkaaTurn
namespace Go.Proofs.Ytifebadcfopfkaa
open Go.RowKit
set_option maxRecDepth 100000
set_option linter.unusedVariables false

set_option maxHeartbeats 2000000 in
theorem specTurnRing_any (v : Value) (x : Rg) (t : Int) (w : World) (h : RRg w w.heap.size v x) (hn : x.d.length ≤ 1048576) (hx : (Lit.int .i64 t).wf = true) :
    Calls Try.prog 37 #[v, .int .i64 t] w (RetRgB 3 w (turnRg x t).1 (turnRg x t).2) := by
  obtain ⟨sv, rfl, h⟩ := h
  obtain ⟨k, d⟩ := x
  have h3 := h
  obtain ⟨A, c, rfl, hlc, hc⟩ := h
  clear hc
  simp only [RgV] at hn h3 hlc ⊢
  have hB0 := (BK.made w 26 #[.int .i64 k, .slice A d.length c]).alloc (.cells #[.int .i64 0, .slice none 0 0] 26)
  have hC0 := BK.made (w.alloc (.cells #[.int .i64 k, .slice A d.length c] 26)) 26 #[.int .i64 0, .slice none 0 0]
  rw [World.size_alloc] at hC0
  have hW : Below w.heap.size w ((w.alloc (.cells #[.int .i64 k, .slice A d.length c] 26)).alloc (.cells #[.int .i64 0, .slice none 0 0] 26)) := ((Below.refl _ _).alloc (Nat.le_refl _) _).alloc (by simp) _
  have h4 := (h3.below hW).more hW.size
  cases hg : (isRg ⟨k, d⟩ && wi t 0 (k - 1))
  · rw [turnRg_no hg]
    go_enter Try.func37, Try.ntmps37
    go_wp2_with fail
    refine (riHas_any _ ⟨k, d⟩ t _ ⟨_, rfl, h4⟩ hn).mono ?_; rintro e w1 ⟨rfl, hb1⟩
    rw [hg]
    have T1 := hW.trans (hb1.mono hW.size)
    have C1 := hC0.step hb1
    have c0 := C1.cell 0
    have c1 := C1.cell 1
    have f0 := C1.free 0
    have f1 := C1.free 1
    simp at c0 c1
    clear hC0 hW h4 hb1 hB0
    go_wp2_with fail
    refine bodyPost_ret (v := .tuple #[RgV RgZero (.slice none 0 0), .bool false]) (by simp [results, Try.results37, go_sem, RgV, RgZero, c0, c1]) rfl ⟨_, rfl, oRgZero _ _ _ _, ?_⟩
    exact rg_zeroed (by omega) T1 _ _
  have hg2 : isRg ⟨k, d⟩ = true := (Bool.and_eq_true _ _ ▸ hg).1
  have hg3 : 0 ≤ t ∧ t < k := by
    have := (Bool.and_eq_true _ _ ▸ hg).2
    simp only [wi, decide_eq_true_eq] at this
    omega
  have hk := isRg_k hg2
  have hlen := isRg_len hg2
  have hss : SS d := (isRg_d hg2).ss
  simp only at hk hlen
  have hmem : ∀ y ∈ d, 0 ≤ y ∧ y < k := fun y hy => isRg_mem hg2 hy
  have HMEM := Lib.hid hmem
  have HNEW : Hid (∀ j, j < d.length → turnF k t (d.getD j 0) ∉ (d.take j).map (turnF k t)) := fun j hj => map_new hss _ (fun y hy z hz h => turnF_inj hg3 (hmem y hy) (hmem z hz) h) j hj
  clear hmem hss
  rw [turnRg_yes (x := ⟨k, d⟩) hg]
  simp only
  obtain ⟨D, hD⟩ : ∃ D, D = setL (d.map (turnF k t)) := ⟨_, rfl⟩
  rw [← hD]
  have HD := Lib.hid hD
  clear hD
  have hz : (d.length : Int) ≤ 12 := by omega
  go_enter Try.func37, Try.ntmps37
  go_wp2_with fail
  refine (riHas_any _ ⟨k, d⟩ t _ ⟨_, rfl, h4⟩ hn).mono ?_; rintro e w1 ⟨rfl, hb1⟩
  rw [hg]
  have T1 := hW.trans (hb1.mono hW.size)
  have B1 := hB0.step hb1
  have C1 := hC0.step hb1
  have R1 := (h4.step hb1 (Nat.le_refl _)).more hb1.size
  have q0 := B1.cell 0
  have q1 := B1.cell 1
  simp at q0 q1
  clear hC0 hW h4 hb1 hB0
  have hz1' := C1.1
  have hs1' := T1.size
  have n1 := World.new_ne w1 _ q1
  have r1 := (B1.alloc (.cells #[.int .i64 k, .slice none 0 0] 26)).cell 1
  simp at r1
  go_wp2_with fail
  go_loopw [20] (fun i wr => ∃ (j : Nat) (u : Value), j ≤ d.length ∧ i = .int .i64 j ∧ BK wr w1.heap.size 26 #[.int .i64 k, u] ∧ Acc 3 wr (w1.heap.size + 1) u (setL ((d.take j).map (turnF k t))) ∧ Below w1.heap.size w1 wr) (fun i _ => d.length - (intOf i).toNat)
  case atStart => exact ⟨0, _, Nat.zero_le _, rfl, BK.made w1 _ _, by simpa [setL] using Acc.nil _ _ _, (Below.refl _ _).alloc (Nat.le_refl _) _⟩
  case round =>
    obtain ⟨j, u, hj, rfl, hbk, hacc, hbw⟩ := hrel
    have hsz := hbw.size
    have hgl := hbk.1
    have b0 := hbk.cell 0
    have b1 := hbk.cell 1
    have g0 := hbk.free 0
    have g1 := hbk.free 1
    simp at b0 b1
    have B3 := B1.step hbw
    have i0 := B3.cell 0
    have i1 := B3.cell 1
    simp at i0 i1
    have hr := R1.below hbw
    obtain ⟨A9, c9, he9, hlc9, hc9⟩ := hr
    by_cases hlt : j < d.length
    · obtain ⟨bb, off, hA, hbB, hcell⟩ := hc9 (by omega)
      injection he9 with e1 e2 e3
      subst e1
      subst hA
      subst e3
      have hcx : wr.cell? ⟨bb, off + j, none⟩ = some (.int .i64 (d.getD j 0)) := hcell j hlt
      have hg : d.getD j 0 = d[j] := by simp [hlt]
      have hym : 0 ≤ d.getD j 0 ∧ d.getD j 0 < k := HMEM.out _ (by rw [hg]; exact List.getElem_mem hlt)
      have HT : Hid (setL ((d.take (j + 1)).map (turnF k t)) = putI (setL ((d.take j).map (turnF k t))) (turnF k t (d.getD j 0))) := by
        show _ = _
        rw [← setL_snoc (HNEW.out j hlt), List.take_succ_eq_append_getElem hlt, List.map_append, List.map_cons, List.map_nil, hg]
      have hno : hasI (setL ((d.take j).map (turnF k t))) (turnF k t (d.getD j 0)) = false := by
        rw [← Bool.not_eq_true, hasI_iff, mem_setL]
        exact HNEW.out j hlt
      have hss2 := setL_SS ((d.take j).map (turnF k t))
      have hol : (setL ((d.take j).map (turnF k t))).length ≤ 12 := by have := setL_len ((d.take j).map (turnF k t)); rw [List.length_map, List.length_take] at this; omega
      clear hcell hc9 hg
      generalize setL ((d.take j).map (turnF k t)) = acc at hacc HT hno hss2 hol
      generalize d.getD j 0 = y at hcx HT hno hym
      have v1 : (y + t).tmod k = turnF k t y := Int.tmod_eq_emod_of_nonneg (by omega)
      have v2 := turnF_in (t := t) (y := y) hk.1
      have v3 : IntKind.i64.wrap (turnF k t y) = turnF k t y := IntWalk.i64_in _ (by omega)
      have v4 : k ≠ 0 := by omega
      have v5 : IntKind.i64.wrap (y + t) = y + t := IntWalk.i64_in _ (by omega)
      have HV1 := Lib.hid v1
      generalize turnF k t y = z at v1 v2 v3 HT hno
      have hplen := putI_len acc z
      obtain ⟨P, hP⟩ : ∃ P, P = putI acc z := ⟨_, rfl⟩
      have hPl : P.length ≤ 13 := by rw [hP]; omega
      have hPl2 : 0 < P.length := by rw [hP]; omega
      have HPP := Lib.hid hP
      have HT2 : Hid (setL ((d.take (j + 1)).map (turnF k t)) = P) := by show _ = _; rw [HT.out, hP]
      have HCC : Hid (Calls Try.prog 97 #[u, .int .i64 z] wr.drew (RetL 3 wr.drew P)) := by
        show Calls _ _ _ _ _
        rw [hP]
        exact l1Put_new _ acc z _ (hacc.oi.ri.drewN 1) (by omega) hss2 hno
      have HBK := Lib.hid hbk
      have HB3 := Lib.hid B3
      clear hP hplen hbk B3 hacc hss2 hno hg3 hk hym HV1
      go_upto_region 7 with fail
      go_region_with (first | (go_at_call 97; (with_reducible refine HCC.out.mono ?_); rintro e w3 ⟨u2, rfl, ho, hb3⟩; have t3 := (Below.refl wr.heap.size wr).drew.trans hb3; have k3 := HBK.out.step t3; have y3 := HB3.out.step t3; have m0 := k3.cell 0; have m1 := k3.cell 1; have s0 := k3.free 0; have s1 := k3.free 1; have d0 := y3.cell 0; have d1 := y3.cell 1; simp at m0 m1 d0 d1; obtain ⟨A5, c5, rfl, _, _⟩ := ho.ri))
      all_goals
        have ho2 : OI 3 w3 wr.heap.size w3.heap.size (.slice A5 P.length c5) P := ho
        have hacc3 := (ho2.wide (lo' := w1.heap.size + 1) (by omega) (Nat.le_refl _)).acc hPl2
        have hput : BK (w3.setCell ⟨w1.heap.size, 1, none⟩ (.slice A5 P.length c5)) w1.heap.size 26 #[.int .i64 k, .slice A5 P.length c5] := k3.put 1 (.slice A5 P.length c5)
        have hwr := (Wr.refl w1.heap.size (w1.heap.size + 1) w3).setCell (p := ⟨w1.heap.size, 1, none⟩) (Nat.le_refl _) (Nat.lt_succ_self _) (.slice A5 P.length c5)
        have hac := hacc3.far hwr (Nat.le_refl _)
        have hbb := (hbw.trans (t3.mono hsz)).setCell (p := ⟨w1.heap.size, 1, none⟩) (Nat.le_refl _) (.slice A5 P.length c5)
        go_wp2_with fail
        go_roundw
        case rel => first | exact ⟨j + 1, _, by omega, by go_num, hput, by rw [HT2.out]; exact hac, hbb⟩ | exact ⟨j + 1, by omega, by omega, _, hput, by rw [HT2.out]; exact hac, hbb⟩
        case measure => simp [intOf]; omega
    · obtain rfl : j = d.length := by omega
      rw [List.take_length, ← HD.out] at hacc
      obtain ⟨A5, c5, rfl⟩ := acc_shape hacc
      have C3 := C1.step hbw
      have c0 := C3.cell 0
      have c1 := C3.cell 1
      have f0 := C3.free 0
      have f1 := C3.free 1
      simp at c0 c1
      have hoi := hacc.oi
      have hlow := T1.trans (hbw.mono T1.size)
      have hwr := ((Wr.refl (w.heap.size + 1) (w.heap.size + 2) wr).setCell (p := ⟨w.heap.size + 1, 0, none⟩) (Nat.le_refl _) (Nat.lt_succ_self _) (.int .i64 k)).setCell (p := ⟨w.heap.size + 1, 1, none⟩) (Nat.le_refl _) (Nat.lt_succ_self _) (.slice A5 D.length c5)
      clear hbk hacc hbw B1 C1 C3 B3
      go_wp2_with fail
      refine bodyPost_ret (v := .tuple #[RgV ⟨k, D⟩ (.slice A5 D.length c5), .bool true]) (by simp [results, Try.results37, go_sem, RgV, c0, c1]) rfl ⟨_, rfl, ⟨_, rfl, ?_⟩, ?_⟩
      · exact (hoi.far hwr (.inr (by omega))).wide (by omega) hwr.size
      · exact rg_zeroed (by omega) hlow _ _
end Go.Proofs.Ytifebadcfopfkaa
