/-
  The contracts of MirrorRing.
-/
import Derived.Test.YtifebadcfopfkaaMir
namespace Go.Proofs.Ytifebadcfopfkaa
open Go.RowKit
set_option maxRecDepth 100000
set_option linter.unusedVariables false

/-- What MirrorRing says. -/
def mirRg (x : Rg) : Rg × Bool := if isRg x = true then (⟨x.k, setL (x.d.map (mirF x.k))⟩, true) else (RgZero, false)
theorem mirRg_no {x : Rg} (h : isRg x = false) : mirRg x = (RgZero, false) := by unfold mirRg; rw [if_neg (by rw [h]; simp)]
theorem mirRg_yes {x : Rg} (h : isRg x = true) : mirRg x = (⟨x.k, setL (x.d.map (mirF x.k))⟩, true) := by unfold mirRg; rw [if_pos h]
theorem mirRg_len (x : Rg) : (mirRg x).1.d.length ≤ 1048576 := by
  unfold mirRg
  split
  · next h =>
    have := isRg_len h
    have := setL_len (x.d.map (mirF x.k))
    rw [List.length_map] at this
    show (setL _).length ≤ _
    omega
  · simp [RgZero]
theorem mirF_inj {k y z : Int} (hy : 0 ≤ y ∧ y < k) (hz : 0 ≤ z ∧ z < k) (h : mirF k y = mirF k z) : y = z := by
  unfold mirF at h
  rw [nx_eq hy.1 hy.2, nx_eq hz.1 hz.2] at h
  split at h <;> split at h <;> omega

set_option maxHeartbeats 2000000 in
theorem implMirrorRing_any (v : Value) (x : Rg) (w : World) (h : RRg w w.heap.size v x) (hn : x.d.length ≤ 1048576) :
    Calls Try.prog 33 #[v] w (RetRgB 3 w (mirRg x).1 (mirRg x).2) := by
  obtain ⟨sv, rfl, h⟩ := h
  obtain ⟨k, d⟩ := x
  have h3 := h
  obtain ⟨A, c, rfl, hlc, hc⟩ := h
  clear hc
  simp only [RgV] at hn h3 hlc ⊢
  have hB0 := (BK.made w 26 #[.int .i64 k, .slice A d.length c]).alloc (.cells #[.int .i64 0, .slice none 0 0] 26)
  have hC0 := BK.made (w.alloc (.cells #[.int .i64 k, .slice A d.length c] 26)) 26 #[.int .i64 0, .slice none 0 0]
  rw [World.size_alloc] at hC0
  have hW : Below w.heap.size w ((w.alloc (.cells #[.int .i64 k, .slice A d.length c] 26)).alloc (.cells #[.int .i64 0, .slice none 0 0] 26)) := ((Below.refl _ _).alloc (Nat.le_refl _) _).alloc (by simp) _
  have h4 := (h3.below hW).more hW.size
  have hmf : ∀ (fn : Fn) (first cap : Array Value) (w : World), (Instr.makeFunc fn first cap).run Try.prog w = .ok (.func fn first cap) w := fun _ _ _ _ => rfl
  cases hg : isRg ⟨k, d⟩
  · rw [mirRg_no hg]
    go_enter Try.func33, Try.ntmps33
    go_wp2_with fail
    refine (implIsRing_any _ ⟨k, d⟩ _ ⟨_, rfl, h4⟩ hn).mono ?_; rintro e w1 ⟨rfl, hb1⟩
    rw [hg]
    have T1 := hW.trans (hb1.mono hW.size)
    have C1 := hC0.step hb1
    have c0 := C1.cell 0
    have c1 := C1.cell 1
    have f0 := C1.free 0
    have f1 := C1.free 1
    simp at c0 c1
    clear hC0 hW h4 hb1 hB0
    go_wp2_with fail
    refine bodyPost_ret (v := .tuple #[RgV RgZero (.slice none 0 0), .bool false]) (by simp [results, Try.results33, go_sem, RgV, RgZero, c0, c1]) rfl ⟨_, rfl, oRgZero _ _ _ _, ?_⟩
    exact rg_zeroed (by omega) T1 _ _
  have hk := isRg_k hg
  have hlen := isRg_len hg
  simp only at hk hlen
  have hmem : ∀ y ∈ d, 0 ≤ y ∧ y < k := fun y hy => isRg_mem hg hy
  have HMEM := Lib.hid hmem
  clear hmem
  rw [mirRg_yes (x := ⟨k, d⟩) hg]
  simp only
  obtain ⟨D, hD⟩ : ∃ D, D = setL (d.map (mirF k)) := ⟨_, rfl⟩
  rw [← hD]
  have HD := Lib.hid hD
  clear hD
  go_enter Try.func33, Try.ntmps33
  go_wp2_with fail
  refine (implIsRing_any _ ⟨k, d⟩ _ ⟨_, rfl, h4⟩ hn).mono ?_; rintro e w1 ⟨rfl, hb1⟩
  rw [hg]
  have T1 := hW.trans (hb1.mono hW.size)
  have B1 := hB0.step hb1
  have C1 := hC0.step hb1
  have R1 := (h4.step hb1 (Nat.le_refl _)).more hb1.size
  have q0 := B1.cell 0
  have q1 := B1.cell 1
  simp at q0 q1
  clear hC0 hW h4 hb1 hB0
  have HC1 := Lib.hid C1
  have HT1 := Lib.hid T1
  have HRN : Hid (Calls Try.prog 91 #[.agg #[.int .i64 k, .slice A d.length c], .int .i64 k, .func (.func 92) #[] #[.pointer (some ⟨w.heap.size, 0, none⟩)]] w1 (RetRg 3 w1 ⟨k, D⟩)) := by
    show Calls _ _ _ _ _
    rw [HD.out]
    refine renumMirror_any _ ⟨k, d⟩ k w.heap.size (mirF k) w1 ⟨_, rfl, R1⟩ (by simp only; omega) fun wr y hb hy => ?_
    exact mirClosure_any y k d A c _ wr (B1.step hb) ((R1.step hb (Nat.le_refl _)).more hb.size) hk (HMEM.out y hy)
  clear B1 C1 T1 R1
  go_wp2_with fail
  refine HRN.out.mono ?_; rintro e w3 ⟨u, rfl, ⟨s, rfl, ho⟩, hb3⟩
  obtain ⟨A3, c3, rfl, _, _⟩ := ho.ri
  simp only [RgV]
  have z3 := HC1.out.step hb3
  have e0 := z3.cell 0
  have e1 := z3.cell 1
  have r0 := z3.free 0
  have r1 := z3.free 1
  simp at e0 e1
  have hz1 := HC1.out.1
  have hs1 := HT1.out.size
  have hs3 := hb3.size
  have hwr := ((Wr.refl (w.heap.size + 1) (w.heap.size + 2) w3).setCell (p := ⟨w.heap.size + 1, 0, none⟩) (Nat.le_refl _) (Nat.lt_succ_self _) (.int .i64 k)).setCell (p := ⟨w.heap.size + 1, 1, none⟩) (Nat.le_refl _) (Nat.lt_succ_self _) (.slice A3 D.length c3)
  have HO := Lib.hid ((ho.far hwr (.inr (by omega))).wide (lo' := w.heap.size) (by omega) hwr.size)
  have HR := Lib.hid (rg_zeroed (g := w.heap.size + 1) (by omega) (HT1.out.trans (hb3.mono hs1)) (.int .i64 k) (.slice A3 D.length c3))
  clear ho hwr hb3 z3
  go_wp2_with fail
  refine bodyPost_ret (v := .tuple #[RgV ⟨k, D⟩ (.slice A3 D.length c3), .bool true]) (by simp [results, Try.results33, go_sem, RgV, e0, e1]) rfl ⟨_, rfl, ⟨_, rfl, HO.out⟩, HR.out⟩

set_option maxHeartbeats 2000000 in
theorem specMirrorRing_any (v : Value) (x : Rg) (w : World) (h : RRg w w.heap.size v x) (hn : x.d.length ≤ 1048576) :
    Calls Try.prog 39 #[v] w (RetRgB 3 w (mirRg x).1 (mirRg x).2) := by
  obtain ⟨sv, rfl, h⟩ := h
  obtain ⟨k, d⟩ := x
  have h3 := h
  obtain ⟨A, c, rfl, hlc, hc⟩ := h
  clear hc
  simp only [RgV] at hn h3 hlc ⊢
  have hB0 := (BK.made w 26 #[.int .i64 k, .slice A d.length c]).alloc (.cells #[.int .i64 0, .slice none 0 0] 26)
  have hC0 := BK.made (w.alloc (.cells #[.int .i64 k, .slice A d.length c] 26)) 26 #[.int .i64 0, .slice none 0 0]
  rw [World.size_alloc] at hC0
  have hW : Below w.heap.size w ((w.alloc (.cells #[.int .i64 k, .slice A d.length c] 26)).alloc (.cells #[.int .i64 0, .slice none 0 0] 26)) := ((Below.refl _ _).alloc (Nat.le_refl _) _).alloc (by simp) _
  have h4 := (h3.below hW).more hW.size
  cases hg : isRg ⟨k, d⟩
  · rw [mirRg_no hg]
    go_enter Try.func39, Try.ntmps39
    go_wp2_with fail
    refine (riGood_any _ ⟨k, d⟩ _ ⟨_, rfl, h4⟩ hn).mono ?_; rintro e w1 ⟨rfl, hb1⟩
    rw [hg]
    have T1 := hW.trans (hb1.mono hW.size)
    have C1 := hC0.step hb1
    have c0 := C1.cell 0
    have c1 := C1.cell 1
    have f0 := C1.free 0
    have f1 := C1.free 1
    simp at c0 c1
    clear hC0 hW h4 hb1 hB0
    go_wp2_with fail
    refine bodyPost_ret (v := .tuple #[RgV RgZero (.slice none 0 0), .bool false]) (by simp [results, Try.results39, go_sem, RgV, RgZero, c0, c1]) rfl ⟨_, rfl, oRgZero _ _ _ _, ?_⟩
    exact rg_zeroed (by omega) T1 _ _
  have hg2 := hg
  have hk := isRg_k hg2
  have hlen := isRg_len hg2
  have hss : SS d := (isRg_d hg2).ss
  simp only at hk hlen
  have hmem : ∀ y ∈ d, 0 ≤ y ∧ y < k := fun y hy => isRg_mem hg2 hy
  have HMEM := Lib.hid hmem
  have HNEW : Hid (∀ j, j < d.length → mirF k (d.getD j 0) ∉ (d.take j).map (mirF k)) := fun j hj => map_new hss _ (fun y hy z hz h => mirF_inj (hmem y hy) (hmem z hz) h) j hj
  clear hmem hss
  rw [mirRg_yes (x := ⟨k, d⟩) hg]
  simp only
  obtain ⟨D, hD⟩ : ∃ D, D = setL (d.map (mirF k)) := ⟨_, rfl⟩
  rw [← hD]
  have HD := Lib.hid hD
  clear hD
  have hz : (d.length : Int) ≤ 12 := by omega
  go_enter Try.func39, Try.ntmps39
  go_wp2_with fail
  refine (riGood_any _ ⟨k, d⟩ _ ⟨_, rfl, h4⟩ hn).mono ?_; rintro e w1 ⟨rfl, hb1⟩
  rw [hg]
  have T1 := hW.trans (hb1.mono hW.size)
  have B1 := hB0.step hb1
  have C1 := hC0.step hb1
  have R1 := (h4.step hb1 (Nat.le_refl _)).more hb1.size
  have q0 := B1.cell 0
  have q1 := B1.cell 1
  simp at q0 q1
  clear hC0 hW h4 hb1 hB0
  have hz1' := C1.1
  have hs1' := T1.size
  have n1 := World.new_ne w1 _ q1
  have r1 := (B1.alloc (.cells #[.int .i64 k, .slice none 0 0] 26)).cell 1
  simp at r1
  go_wp2_with fail
  go_loopw [17] (fun i wr => ∃ (j : Nat) (u : Value), j ≤ d.length ∧ i = .int .i64 j ∧ BK wr w1.heap.size 26 #[.int .i64 k, u] ∧ Acc 3 wr (w1.heap.size + 1) u (setL ((d.take j).map (mirF k))) ∧ Below w1.heap.size w1 wr) (fun i _ => d.length - (intOf i).toNat)
  case atStart => exact ⟨0, _, Nat.zero_le _, rfl, BK.made w1 _ _, by simpa [setL] using Acc.nil _ _ _, (Below.refl _ _).alloc (Nat.le_refl _) _⟩
  case round =>
    obtain ⟨j, u, hj, rfl, hbk, hacc, hbw⟩ := hrel
    have hsz := hbw.size
    have hgl := hbk.1
    have b0 := hbk.cell 0
    have b1 := hbk.cell 1
    have g0 := hbk.free 0
    have g1 := hbk.free 1
    simp at b0 b1
    have B3 := B1.step hbw
    have i0 := B3.cell 0
    have i1 := B3.cell 1
    simp at i0 i1
    have hr := R1.below hbw
    obtain ⟨A9, c9, he9, hlc9, hc9⟩ := hr
    by_cases hlt : j < d.length
    · obtain ⟨bb, off, hA, hbB, hcell⟩ := hc9 (by omega)
      injection he9 with e1 e2 e3
      subst e1
      subst hA
      subst e3
      have hcx : wr.cell? ⟨bb, off + j, none⟩ = some (.int .i64 (d.getD j 0)) := hcell j hlt
      have hg : d.getD j 0 = d[j] := by simp [hlt]
      have hym : 0 ≤ d.getD j 0 ∧ d.getD j 0 < k := HMEM.out _ (by rw [hg]; exact List.getElem_mem hlt)
      have HT : Hid (setL ((d.take (j + 1)).map (mirF k)) = putI (setL ((d.take j).map (mirF k))) (mirF k (d.getD j 0))) := by
        show _ = _
        rw [← setL_snoc (HNEW.out j hlt), List.take_succ_eq_append_getElem hlt, List.map_append, List.map_cons, List.map_nil, hg]
      have hno : hasI (setL ((d.take j).map (mirF k))) (mirF k (d.getD j 0)) = false := by
        rw [← Bool.not_eq_true, hasI_iff, mem_setL]
        exact HNEW.out j hlt
      have hss2 := setL_SS ((d.take j).map (mirF k))
      have hol : (setL ((d.take j).map (mirF k))).length ≤ 12 := by have := setL_len ((d.take j).map (mirF k)); rw [List.length_map, List.length_take] at this; omega
      clear hcell hc9 hg
      generalize setL ((d.take j).map (mirF k)) = acc at hacc HT hno hss2 hol
      generalize d.getD j 0 = y at hcx HT hno hym
      have v2 := nx_in hym.1 hym.2
      have v4 : IntKind.i64.wrap (k - 1) = k - 1 := IntWalk.i64_in _ (by omega)
      have v5 : IntKind.i64.wrap (k - 1 - nx k y) = k - 1 - nx k y := IntWalk.i64_in _ (by omega)
      have HNX : Hid (Calls Try.prog 81 #[.agg #[.int .i64 k, .slice (some ⟨bb, off, none⟩) d.length c], .int .i64 y] wr.drew (RetV wr.drew (.int .i64 (nx k y)))) := riNext_any _ ⟨k, d⟩ y wr.drew ⟨_, rfl, ((R1.below hbw).more hbw.size).drewN 1⟩ hk hym
      rw [show mirF k y = k - 1 - nx k y from rfl] at HT hno
      generalize nx k y = z0 at v2 v5 HT hno HNX
      obtain ⟨z, hz0⟩ : ∃ z, k - 1 - z0 = z := ⟨_, rfl⟩
      rw [hz0] at HT hno v5
      have hplen := putI_len acc z
      obtain ⟨P, hP⟩ : ∃ P, P = putI acc z := ⟨_, rfl⟩
      have hPl : P.length ≤ 13 := by rw [hP]; omega
      have hPl2 : 0 < P.length := by rw [hP]; omega
      have HPP := Lib.hid hP
      have HT2 : Hid (setL ((d.take (j + 1)).map (mirF k)) = P) := by show _ = _; rw [HT.out, hP]
      have HCC : Hid (∀ w3, Below wr.heap.size wr w3 → Calls Try.prog 97 #[u, .int .i64 z] w3 (RetL 3 w3 P)) := by
        show ∀ w3, _
        intro w3 hb3
        rw [hP]
        exact l1Put_new _ acc z _ ((hacc.oi.ri.step hb3 (Nat.le_refl _)).more hb3.size) (by omega) hss2 hno
      have HBK := Lib.hid hbk
      have HB3 := Lib.hid B3
      clear hP hplen hbk B3 hacc hss2 hno hk hym hg2
      go_upto_region 7 with fail
      go_region_with (first
        | (go_at_call 81; (with_reducible refine HNX.out.mono ?_); rintro e w4 ⟨rfl, hb4⟩; have t4 := (Below.refl wr.heap.size wr).drew.trans hb4; have k4 := HBK.out.step t4; have y4 := HB3.out.step t4; have p0 := k4.cell 0; have p1 := k4.cell 1; have p2 := y4.cell 0; have p3 := y4.cell 1; simp at p0 p1 p2 p3)
        | (go_at_call 97; (with_reducible refine (HCC.out w4 t4).mono ?_); rintro e w3 ⟨u2, rfl, ho, hb3⟩; have t3 := t4.trans (hb3.mono t4.size); have k3 := HBK.out.step t3; have y3 := HB3.out.step t3; have m0 := k3.cell 0; have m1 := k3.cell 1; have s0 := k3.free 0; have s1 := k3.free 1; have d0 := y3.cell 0; have d1 := y3.cell 1; simp at m0 m1 d0 d1; obtain ⟨A5, c5, rfl, _, _⟩ := ho.ri))
      all_goals
        have ho2 : OI 3 w3 wr.heap.size w3.heap.size (.slice A5 P.length c5) P := ho.wide t4.size (Nat.le_refl _)
        have hacc3 := (ho2.wide (lo' := w1.heap.size + 1) (by omega) (Nat.le_refl _)).acc hPl2
        have hput : BK (w3.setCell ⟨w1.heap.size, 1, none⟩ (.slice A5 P.length c5)) w1.heap.size 26 #[.int .i64 k, .slice A5 P.length c5] := k3.put 1 (.slice A5 P.length c5)
        have hwr := (Wr.refl w1.heap.size (w1.heap.size + 1) w3).setCell (p := ⟨w1.heap.size, 1, none⟩) (Nat.le_refl _) (Nat.lt_succ_self _) (.slice A5 P.length c5)
        have hac := hacc3.far hwr (Nat.le_refl _)
        have hbb := (hbw.trans (t3.mono hsz)).setCell (p := ⟨w1.heap.size, 1, none⟩) (Nat.le_refl _) (.slice A5 P.length c5)
        go_wp2_with fail
        go_roundw
        case rel => first | exact ⟨j + 1, _, by omega, by go_num, hput, by rw [HT2.out]; exact hac, hbb⟩ | exact ⟨j + 1, by omega, by omega, _, hput, by rw [HT2.out]; exact hac, hbb⟩
        case measure => simp [intOf]; omega
    · obtain rfl : j = d.length := by omega
      rw [List.take_length, ← HD.out] at hacc
      obtain ⟨A5, c5, rfl⟩ := acc_shape hacc
      have C3 := C1.step hbw
      have c0 := C3.cell 0
      have c1 := C3.cell 1
      have f0 := C3.free 0
      have f1 := C3.free 1
      simp at c0 c1
      have hoi := hacc.oi
      have hlow := T1.trans (hbw.mono T1.size)
      have hwr := ((Wr.refl (w.heap.size + 1) (w.heap.size + 2) wr).setCell (p := ⟨w.heap.size + 1, 0, none⟩) (Nat.le_refl _) (Nat.lt_succ_self _) (.int .i64 k)).setCell (p := ⟨w.heap.size + 1, 1, none⟩) (Nat.le_refl _) (Nat.lt_succ_self _) (.slice A5 D.length c5)
      clear hbk hacc hbw B1 C1 C3 B3
      go_wp2_with fail
      refine bodyPost_ret (v := .tuple #[RgV ⟨k, D⟩ (.slice A5 D.length c5), .bool true]) (by simp [results, Try.results39, go_sem, RgV, c0, c1]) rfl ⟨_, rfl, ⟨_, rfl, ?_⟩, ?_⟩
      · exact (hoi.far hwr (.inr (by omega))).wide (by omega) hwr.size
      · exact rg_zeroed (by omega) hlow _ _
end Go.Proofs.Ytifebadcfopfkaa
