/-
  The contract of the model's LeaveOut.
-/
import Derived.Test.YtffmpkdkifecpaaLeave
namespace Go.Proofs.Ytffmpkdkifecpaa
open Go.RowKit
set_option maxRecDepth 100000
set_option linter.unusedVariables false

theorem eq_bool {a b : Int} (h : a = b) : (a == b) = true := by simp [h]
theorem ne_bool {a b : Int} (h : a ≠ b) : (a == b) = false := by simp [h]
theorem bne_bool {a b : Int} (h : a ≠ b) : (a != b) = true := by simp [h]
theorem bne_bool' {a b : Int} (h : a = b) : (a != b) = false := by simp [h]
theorem keepL_at {k : Int} {d : List Int} {s i : Int} (h : i = s) : keepL k d s i = false := by simp [keepL, h]
theorem keepL_bf {k : Int} {d : List Int} {s i : Int} (h : i ≠ s) (h2 : i = bf k s) : keepL k d s i = (hasI d s || hasI d (bf k s)) := by
  unfold keepL
  rw [if_pos h2, bne_bool h, Bool.true_and]
theorem keepL_in {k : Int} {d : List Int} {s i : Int} (h : i ≠ s) (h2 : i ≠ bf k s) : keepL k d s i = hasI d i := by
  unfold keepL
  rw [if_neg h2, bne_bool h, Bool.true_and]
theorem newL_gt {s i : Int} (h : s < i) : newL s i = i - 1 := if_pos h
theorem newL_le {s i : Int} (h : ¬ s < i) : newL s i = i := if_neg h

set_option maxHeartbeats 3000000 in
theorem specLeaveOut_any (v : Value) (x : Rg) (t : Int) (w : World) (h : RRg w w.heap.size v x) (hn : x.d.length ≤ 1048576) (hx : (Lit.int .i64 t).wf = true) :
    Calls Try.prog 8 #[v, .int .i64 t] w (RetRgB 3 w (leaveRg x t).1 (leaveRg x t).2) := by
  obtain ⟨sv, rfl, h⟩ := h
  obtain ⟨k, d⟩ := x
  have h3 := h
  obtain ⟨A, c, rfl, hlc, hc⟩ := h
  clear hc
  simp only [RgV] at hn h3 hlc ⊢
  have hB0 := (BK.made w 26 #[.int .i64 k, .slice A d.length c]).alloc (.cells #[.int .i64 0, .slice none 0 0] 26)
  have hC0 := BK.made (w.alloc (.cells #[.int .i64 k, .slice A d.length c] 26)) 26 #[.int .i64 0, .slice none 0 0]
  rw [World.size_alloc] at hC0
  have hW : Below w.heap.size w ((w.alloc (.cells #[.int .i64 k, .slice A d.length c] 26)).alloc (.cells #[.int .i64 0, .slice none 0 0] 26)) := ((Below.refl _ _).alloc (Nat.le_refl _) _).alloc (by simp) _
  have h4 := (h3.below hW).more hW.size
  cases hg : (isRg ⟨k, d⟩ && wi t 0 (k - 1))
  · rw [leaveRg_no (fun hk => by simp only at hk; rw [hg] at hk; exact absurd hk.1 (by simp))]
    go_enter Try.func8, Try.ntmps8
    go_wp2_with fail
    refine (riHas_any _ ⟨k, d⟩ t _ ⟨_, rfl, h4⟩ hn).mono ?_; rintro e w1 ⟨rfl, hb1⟩
    rw [hg]
    have T1 := hW.trans (hb1.mono hW.size)
    have C1 := hC0.step hb1
    have B1 := hB0.step hb1
    have q0 := B1.cell 0
    have c0 := C1.cell 0
    have c1 := C1.cell 1
    have f0 := C1.free 0
    have f1 := C1.free 1
    simp at c0 c1 q0
    clear hC0 hW h4 hb1 hB0
    go_wp2_with fail
    refine bodyPost_ret (v := .tuple #[RgV RgZero (.slice none 0 0), .bool false]) (by simp [results, Try.results8, go_sem, RgV, RgZero, c0, c1]) rfl ⟨_, rfl, oRgZero _ _ _ _, ?_⟩
    exact rg_zeroed (by omega) T1 _ _
  have hg2 : isRg ⟨k, d⟩ = true := (Bool.and_eq_true _ _ ▸ hg).1
  have hk := isRg_k hg2
  simp only at hk
  by_cases hk2 : k = 2
  · rw [leaveRg_no (fun hk => hk.2 hk2)]
    have hk3 : k < 3 := by omega
    have HK2 := Lib.hid hk2
    clear hk2
    go_enter Try.func8, Try.ntmps8
    go_wp2_with fail
    refine (riHas_any _ ⟨k, d⟩ t _ ⟨_, rfl, h4⟩ hn).mono ?_; rintro e w1 ⟨rfl, hb1⟩
    rw [hg]
    have T1 := hW.trans (hb1.mono hW.size)
    have C1 := hC0.step hb1
    have B1 := hB0.step hb1
    have q0 := B1.cell 0
    have c0 := C1.cell 0
    have c1 := C1.cell 1
    have f0 := C1.free 0
    have f1 := C1.free 1
    simp at c0 c1 q0
    clear hC0 hW h4 hb1 hB0
    go_wp2_with fail
    refine bodyPost_ret (v := .tuple #[RgV RgZero (.slice none 0 0), .bool false]) (by simp [results, Try.results8, go_sem, RgV, RgZero, c0, c1]) rfl ⟨_, rfl, oRgZero _ _ _ _, ?_⟩
    exact rg_zeroed (by omega) T1 _ _
  have hg3 : 0 ≤ t ∧ t < k := by
    have := (Bool.and_eq_true _ _ ▸ hg).2
    simp only [wi, decide_eq_true_eq] at this
    omega
  have hlen := isRg_len hg2
  simp only at hlen
  have hmem : ∀ y ∈ d, 0 ≤ y ∧ y < k := fun y hy => isRg_mem hg2 hy
  have HBF := Lib.hid (fun w h => riBefore_any (RgV ⟨k, d⟩ (.slice A d.length c)) ⟨k, d⟩ t w h hk hg3)
  rw [leaveRg_yes (x := ⟨k, d⟩) hg hk2]
  have hk3 : ¬ k < 3 := by omega
  clear hk2
  simp only
  obtain ⟨D, hD⟩ : ∃ D, D = setL (d.map (outF k t)) := ⟨_, rfl⟩
  rw [← hD]
  obtain ⟨K, hK⟩ : ∃ K : Nat, k = (K : Int) := ⟨k.toNat, by omega⟩
  rw [← leftL_all hK hk.1 hg3 hmem] at hD
  have HD := Lib.hid hD
  have HK := Lib.hid hK
  clear hD hmem hK
  have hbf := bf_in hg3.1 hg3.2
  have HKA := Lib.hid (fun (i : Int) (h : i = t) => (keepL_at h : keepL k d t i = false))
  have HKB := Lib.hid (fun (i : Int) (h : i ≠ t) (h2 : i = bf k t) => (keepL_bf h h2 : keepL k d t i = _))
  have HKC := Lib.hid (fun (i : Int) (h : i ≠ t) (h2 : i ≠ bf k t) => (keepL_in h h2 : keepL k d t i = _))
  simp only [RgV] at HBF
  generalize bf k t = z at hbf HBF HKB HKC
  have hkw : IntKind.i64.wrap (k - 1) = k - 1 := IntWalk.i64_in _ (by omega)
  obtain ⟨bv, hbv⟩ : ∃ bv, bv = (hasI d t || hasI d z) := ⟨_, rfl⟩
  rw [← hbv] at HKB
  have hd1 : (d.length : Int) ≤ 1048576 := by omega
  cases h1 : hasI d t
  all_goals
    rw [h1] at hbv
    first
      | (rw [Bool.true_or] at hbv)
      | (rw [Bool.false_or] at hbv)
    have HBV := Lib.hid hbv
    clear hbv
    go_enter Try.func8, Try.ntmps8
    go_wp2_with fail
    refine (riHas_any _ ⟨k, d⟩ t _ ⟨_, rfl, h4⟩ hn).mono ?_; rintro e w1 ⟨rfl, hb1⟩
    rw [hg]
    have T1 := hW.trans (hb1.mono hW.size)
    have B1 := hB0.step hb1
    have C1 := hC0.step hb1
    have R1 := (h4.step hb1 (Nat.le_refl _)).more hb1.size
    have q0 := B1.cell 0
    have q1 := B1.cell 1
    simp at q0 q1
    clear hb1
    go_wp2_with fail
    refine (HBF.out _ ⟨_, rfl, R1⟩).mono ?_; rintro e w2 ⟨rfl, hb2⟩
    have T2 := T1.trans (hb2.mono T1.size)
    have B2 := B1.step hb2
    have C2 := C1.step hb2
    have R2 := (R1.step hb2 (Nat.le_refl _)).more hb2.size
    have p0 := B2.cell 0
    have p1 := B2.cell 1
    simp at p0 p1
    clear B1 C1 R1 T1 q0 q1 hb2
    go_wp2_with (first
      | (go_at_call 29; (with_reducible refine (l1Has_any _ d t _ R2 hn).mono ?_); rintro e w' ⟨rfl, rfl⟩; rw [h1])
      | (go_at_call 29; (with_reducible refine (l1Has_any _ d z _ R2 hn).mono ?_); rintro e w' ⟨rfl, rfl⟩; rw [← HBV.out]))
    have hz2 := T2.size
    have hz3 := C2.1
    have HR2 := Lib.hid R2
    have HT2 := Lib.hid T2
    have HB2 := Lib.hid B2
    have HC2 := Lib.hid C2
    clear R2 T2 B2 C2 p0 p1
    go_loopw [9] (fun i wr => ∃ (j : Nat) (u : Value), j ≤ K ∧ i = .int .i64 j ∧ BK wr w2.heap.size 26 #[.int .i64 (k - 1), u] ∧ Acc 3 wr (w2.heap.size + 1) u (setL (leftL k d t j)) ∧ Below w2.heap.size w2 wr) (fun i _ => K - (intOf i).toNat)
    case atStart => exact ⟨0, _, Nat.zero_le _, rfl, BK.made w2 _ _, by simpa [leftL, setL] using Acc.nil _ _ _, (Below.refl _ _).alloc (Nat.le_refl _) _⟩
    case round =>
      obtain ⟨j, u, hj, rfl, hbk, hacc, hbw⟩ := hrel
      have hsz := hbw.size
      have hgl := hbk.1
      have b0 := hbk.cell 0
      have b1 := hbk.cell 1
      have g0 := hbk.free 0
      have g1 := hbk.free 1
      simp at b0 b1
      have B3 := HB2.out.step hbw
      have i0 := B3.cell 0
      have i1 := B3.cell 1
      simp at i0 i1
      have hr := (HR2.out.step hbw (Nat.le_refl _)).more hbw.size
      have hkK : (K : Int) ≤ k ∧ k ≤ (K : Int) := by have := HK.out; omega
      by_cases hlt : j < K
      · have hji : (j : Int) < k := by omega
        have hr9 := Lib.hid hr
        cases hd9 : hasI d (j : Int)
        · by_cases hjt : (j : Int) = t
          · have e1 := eq_bool hjt
            have HJT := Lib.hid hjt
            clear hjt
            have HT : Hid (setL (leftL k d t (j + 1)) = setL (leftL k d t j)) := by show _ = _; rw [leftL_no (HKA.out _ HJT.out)]
            clear hr B3 HKA HKB HKC
            go_wp2_with (go_at_call 29; (with_reducible refine (l1Has_any _ d j _ hr9.out hn).mono ?_); rintro e w' ⟨rfl, rfl⟩; rw [hd9])
            all_goals
              go_roundw
              case rel => exact ⟨j + 1, _, by omega, by go_num, hbk, by rw [HT.out]; exact hacc, hbw⟩
              case measure => simp [intOf]; omega
          · have e1 := ne_bool hjt
            by_cases hjz : (j : Int) = z
            · have e2 := eq_bool hjz
              have e3 := bne_bool' hjz
              have hkb := HKB.out _ hjt hjz
              clear hjt hjz
              cases bv
              · skip
                have HT : Hid (setL (leftL k d t (j + 1)) = setL (leftL k d t j)) := by show _ = _; rw [leftL_no (hkb)]
                clear hr B3 HKA HKB HKC
                go_wp2_with (go_at_call 29; (with_reducible refine (l1Has_any _ d j _ hr9.out hn).mono ?_); rintro e w' ⟨rfl, rfl⟩; rw [hd9])
                all_goals
                  go_roundw
                  case rel => exact ⟨j + 1, _, by omega, by go_num, hbk, by rw [HT.out]; exact hacc, hbw⟩
                  case measure => simp [intOf]; omega
              · skip
                have hkp : keepL k d t (j : Int) = true := by exact hkb
                have HT : Hid (setL (leftL k d t (j + 1)) = putI (setL (leftL k d t j)) (newL t j)) := by show _ = _; rw [leftL_yes hkp, setL_snoc (leftL_new hkp)]
                have hno : hasI (setL (leftL k d t j)) (newL t j) = false := by rw [← Bool.not_eq_true, hasI_iff, mem_setL]; exact leftL_new hkp
                have hss2 := setL_SS (leftL k d t j)
                have hol : (setL (leftL k d t j)).length ≤ 12 := by have := setL_len (leftL k d t j); have := leftL_len k d t j; omega
                generalize setL (leftL k d t j) = acc at hacc HT hno hss2 hol
                clear hkp HKA HKB HKC
                by_cases htj : t < (j : Int)
                all_goals
                  first
                    | rw [newL_gt htj] at HT hno
                    | rw [newL_le htj] at HT hno
                  have v3 : IntKind.i64.wrap ((j : Int) - 1) = (j : Int) - 1 := IntWalk.i64_in _ (by omega)
                  obtain ⟨y, hy⟩ : ∃ y : Int, y = (if t < (j : Int) then (j : Int) - 1 else (j : Int)) := ⟨_, rfl⟩
                  first
                    | (rw [if_pos htj] at hy; rw [← hy] at HT hno)
                    | (rw [if_neg htj] at hy; rw [← hy] at HT hno)
                  have hplen := putI_len acc y
                  obtain ⟨P, hP⟩ : ∃ P, P = putI acc y := ⟨_, rfl⟩
                  have hPl : P.length ≤ 13 := by rw [hP]; omega
                  have hPl2 : 0 < P.length := by rw [hP]; omega
                  rw [← hP] at HT
                  have HCC : Hid (Calls Try.prog 30 #[u, .int .i64 y] wr (RetL 3 wr P)) := by
                    show Calls _ _ _ _ _
                    rw [hP]
                    exact l1Put_new _ acc y _ hacc.oi.ri (by omega) hss2 hno
                  rw [hy] at HCC
                  have HBK := Lib.hid hbk
                  have HB3 := Lib.hid B3
                  clear hP hplen hbk B3 hacc hss2 hno hr hy
                  have htj2 := htj
                  go_wp2_with (go_at_call 29; (with_reducible refine (l1Has_any _ d j _ hr9.out hn).mono ?_); rintro e w' ⟨rfl, rfl⟩; rw [hd9])
                  refine HCC.out.mono ?_; rintro e w3 ⟨u2, rfl, ho, hb3⟩
                  have k3 := HBK.out.step hb3
                  have y3 := HB3.out.step hb3
                  have m0 := k3.cell 0
                  have m1 := k3.cell 1
                  have s0 := k3.free 0
                  have s1 := k3.free 1
                  simp at m0 m1
                  obtain ⟨A5, c5, rfl, _, _⟩ := ho.ri
                  have ho2 : OI 3 w3 wr.heap.size w3.heap.size (.slice A5 P.length c5) P := ho
                  have hacc3 := (ho2.wide (lo' := w2.heap.size + 1) (by omega) (Nat.le_refl _)).acc hPl2
                  have hput : BK (w3.setCell ⟨w2.heap.size, 1, none⟩ (.slice A5 P.length c5)) w2.heap.size 26 #[.int .i64 (k - 1), .slice A5 P.length c5] := k3.put 1 (.slice A5 P.length c5)
                  have hwr := (Wr.refl w2.heap.size (w2.heap.size + 1) w3).setCell (p := ⟨w2.heap.size, 1, none⟩) (Nat.le_refl _) (Nat.lt_succ_self _) (.slice A5 P.length c5)
                  have hac := hacc3.far hwr (Nat.le_refl _)
                  have hbb := (hbw.trans (hb3.mono hsz)).setCell (p := ⟨w2.heap.size, 1, none⟩) (Nat.le_refl _) (.slice A5 P.length c5)
                  clear ho ho2 k3 y3 hb3 hwr hacc3
                  go_wp2_with fail
                  go_roundw
                  case rel => exact ⟨j + 1, _, by omega, by go_num, hput, by rw [HT.out]; exact hac, hbb⟩
                  case measure => simp [intOf]; omega
            · have e2 := ne_bool hjz
              have e3 := bne_bool hjz
              have hkb := HKC.out _ hjt hjz
              clear hjt hjz
              rw [hd9] at hkb
              have HT : Hid (setL (leftL k d t (j + 1)) = setL (leftL k d t j)) := by show _ = _; rw [leftL_no (hkb)]
              clear hr B3 HKA HKB HKC
              go_wp2_with (go_at_call 29; (with_reducible refine (l1Has_any _ d j _ hr9.out hn).mono ?_); rintro e w' ⟨rfl, rfl⟩; rw [hd9])
              all_goals
                go_roundw
                case rel => exact ⟨j + 1, _, by omega, by go_num, hbk, by rw [HT.out]; exact hacc, hbw⟩
                case measure => simp [intOf]; omega
        · by_cases hjt : (j : Int) = t
          · have e1 := eq_bool hjt
            have HJT := Lib.hid hjt
            clear hjt
            have HT : Hid (setL (leftL k d t (j + 1)) = setL (leftL k d t j)) := by show _ = _; rw [leftL_no (HKA.out _ HJT.out)]
            clear hr B3 HKA HKB HKC
            go_wp2_with (go_at_call 29; (with_reducible refine (l1Has_any _ d j _ hr9.out hn).mono ?_); rintro e w' ⟨rfl, rfl⟩; rw [hd9])
            all_goals
              go_roundw
              case rel => exact ⟨j + 1, _, by omega, by go_num, hbk, by rw [HT.out]; exact hacc, hbw⟩
              case measure => simp [intOf]; omega
          · have e1 := ne_bool hjt
            by_cases hjz : (j : Int) = z
            · have e2 := eq_bool hjz
              have e3 := bne_bool' hjz
              have hkb := HKB.out _ hjt hjz
              clear hjt hjz
              cases bv
              · skip
                have HT : Hid (setL (leftL k d t (j + 1)) = setL (leftL k d t j)) := by show _ = _; rw [leftL_no (hkb)]
                clear hr B3 HKA HKB HKC
                go_wp2_with (go_at_call 29; (with_reducible refine (l1Has_any _ d j _ hr9.out hn).mono ?_); rintro e w' ⟨rfl, rfl⟩; rw [hd9])
                all_goals
                  go_roundw
                  case rel => exact ⟨j + 1, _, by omega, by go_num, hbk, by rw [HT.out]; exact hacc, hbw⟩
                  case measure => simp [intOf]; omega
              · skip
                have hkp : keepL k d t (j : Int) = true := by exact hkb
                have HT : Hid (setL (leftL k d t (j + 1)) = putI (setL (leftL k d t j)) (newL t j)) := by show _ = _; rw [leftL_yes hkp, setL_snoc (leftL_new hkp)]
                have hno : hasI (setL (leftL k d t j)) (newL t j) = false := by rw [← Bool.not_eq_true, hasI_iff, mem_setL]; exact leftL_new hkp
                have hss2 := setL_SS (leftL k d t j)
                have hol : (setL (leftL k d t j)).length ≤ 12 := by have := setL_len (leftL k d t j); have := leftL_len k d t j; omega
                generalize setL (leftL k d t j) = acc at hacc HT hno hss2 hol
                clear hkp HKA HKB HKC
                by_cases htj : t < (j : Int)
                all_goals
                  first
                    | rw [newL_gt htj] at HT hno
                    | rw [newL_le htj] at HT hno
                  have v3 : IntKind.i64.wrap ((j : Int) - 1) = (j : Int) - 1 := IntWalk.i64_in _ (by omega)
                  obtain ⟨y, hy⟩ : ∃ y : Int, y = (if t < (j : Int) then (j : Int) - 1 else (j : Int)) := ⟨_, rfl⟩
                  first
                    | (rw [if_pos htj] at hy; rw [← hy] at HT hno)
                    | (rw [if_neg htj] at hy; rw [← hy] at HT hno)
                  have hplen := putI_len acc y
                  obtain ⟨P, hP⟩ : ∃ P, P = putI acc y := ⟨_, rfl⟩
                  have hPl : P.length ≤ 13 := by rw [hP]; omega
                  have hPl2 : 0 < P.length := by rw [hP]; omega
                  rw [← hP] at HT
                  have HCC : Hid (Calls Try.prog 30 #[u, .int .i64 y] wr (RetL 3 wr P)) := by
                    show Calls _ _ _ _ _
                    rw [hP]
                    exact l1Put_new _ acc y _ hacc.oi.ri (by omega) hss2 hno
                  rw [hy] at HCC
                  have HBK := Lib.hid hbk
                  have HB3 := Lib.hid B3
                  clear hP hplen hbk B3 hacc hss2 hno hr hy
                  have htj2 := htj
                  go_wp2_with (go_at_call 29; (with_reducible refine (l1Has_any _ d j _ hr9.out hn).mono ?_); rintro e w' ⟨rfl, rfl⟩; rw [hd9])
                  refine HCC.out.mono ?_; rintro e w3 ⟨u2, rfl, ho, hb3⟩
                  have k3 := HBK.out.step hb3
                  have y3 := HB3.out.step hb3
                  have m0 := k3.cell 0
                  have m1 := k3.cell 1
                  have s0 := k3.free 0
                  have s1 := k3.free 1
                  simp at m0 m1
                  obtain ⟨A5, c5, rfl, _, _⟩ := ho.ri
                  have ho2 : OI 3 w3 wr.heap.size w3.heap.size (.slice A5 P.length c5) P := ho
                  have hacc3 := (ho2.wide (lo' := w2.heap.size + 1) (by omega) (Nat.le_refl _)).acc hPl2
                  have hput : BK (w3.setCell ⟨w2.heap.size, 1, none⟩ (.slice A5 P.length c5)) w2.heap.size 26 #[.int .i64 (k - 1), .slice A5 P.length c5] := k3.put 1 (.slice A5 P.length c5)
                  have hwr := (Wr.refl w2.heap.size (w2.heap.size + 1) w3).setCell (p := ⟨w2.heap.size, 1, none⟩) (Nat.le_refl _) (Nat.lt_succ_self _) (.slice A5 P.length c5)
                  have hac := hacc3.far hwr (Nat.le_refl _)
                  have hbb := (hbw.trans (hb3.mono hsz)).setCell (p := ⟨w2.heap.size, 1, none⟩) (Nat.le_refl _) (.slice A5 P.length c5)
                  clear ho ho2 k3 y3 hb3 hwr hacc3
                  go_wp2_with fail
                  go_roundw
                  case rel => exact ⟨j + 1, _, by omega, by go_num, hput, by rw [HT.out]; exact hac, hbb⟩
                  case measure => simp [intOf]; omega
            · have e2 := ne_bool hjz
              have e3 := bne_bool hjz
              have hkb := HKC.out _ hjt hjz
              clear hjt hjz
              rw [hd9] at hkb
              have hkp : keepL k d t (j : Int) = true := by exact hkb
              have HT : Hid (setL (leftL k d t (j + 1)) = putI (setL (leftL k d t j)) (newL t j)) := by show _ = _; rw [leftL_yes hkp, setL_snoc (leftL_new hkp)]
              have hno : hasI (setL (leftL k d t j)) (newL t j) = false := by rw [← Bool.not_eq_true, hasI_iff, mem_setL]; exact leftL_new hkp
              have hss2 := setL_SS (leftL k d t j)
              have hol : (setL (leftL k d t j)).length ≤ 12 := by have := setL_len (leftL k d t j); have := leftL_len k d t j; omega
              generalize setL (leftL k d t j) = acc at hacc HT hno hss2 hol
              clear hkp HKA HKB HKC
              by_cases htj : t < (j : Int)
              all_goals
                first
                  | rw [newL_gt htj] at HT hno
                  | rw [newL_le htj] at HT hno
                have v3 : IntKind.i64.wrap ((j : Int) - 1) = (j : Int) - 1 := IntWalk.i64_in _ (by omega)
                obtain ⟨y, hy⟩ : ∃ y : Int, y = (if t < (j : Int) then (j : Int) - 1 else (j : Int)) := ⟨_, rfl⟩
                first
                  | (rw [if_pos htj] at hy; rw [← hy] at HT hno)
                  | (rw [if_neg htj] at hy; rw [← hy] at HT hno)
                have hplen := putI_len acc y
                obtain ⟨P, hP⟩ : ∃ P, P = putI acc y := ⟨_, rfl⟩
                have hPl : P.length ≤ 13 := by rw [hP]; omega
                have hPl2 : 0 < P.length := by rw [hP]; omega
                rw [← hP] at HT
                have HCC : Hid (Calls Try.prog 30 #[u, .int .i64 y] wr (RetL 3 wr P)) := by
                  show Calls _ _ _ _ _
                  rw [hP]
                  exact l1Put_new _ acc y _ hacc.oi.ri (by omega) hss2 hno
                rw [hy] at HCC
                have HBK := Lib.hid hbk
                have HB3 := Lib.hid B3
                clear hP hplen hbk B3 hacc hss2 hno hr hy
                have htj2 := htj
                go_wp2_with (go_at_call 29; (with_reducible refine (l1Has_any _ d j _ hr9.out hn).mono ?_); rintro e w' ⟨rfl, rfl⟩; rw [hd9])
                refine HCC.out.mono ?_; rintro e w3 ⟨u2, rfl, ho, hb3⟩
                have k3 := HBK.out.step hb3
                have y3 := HB3.out.step hb3
                have m0 := k3.cell 0
                have m1 := k3.cell 1
                have s0 := k3.free 0
                have s1 := k3.free 1
                simp at m0 m1
                obtain ⟨A5, c5, rfl, _, _⟩ := ho.ri
                have ho2 : OI 3 w3 wr.heap.size w3.heap.size (.slice A5 P.length c5) P := ho
                have hacc3 := (ho2.wide (lo' := w2.heap.size + 1) (by omega) (Nat.le_refl _)).acc hPl2
                have hput : BK (w3.setCell ⟨w2.heap.size, 1, none⟩ (.slice A5 P.length c5)) w2.heap.size 26 #[.int .i64 (k - 1), .slice A5 P.length c5] := k3.put 1 (.slice A5 P.length c5)
                have hwr := (Wr.refl w2.heap.size (w2.heap.size + 1) w3).setCell (p := ⟨w2.heap.size, 1, none⟩) (Nat.le_refl _) (Nat.lt_succ_self _) (.slice A5 P.length c5)
                have hac := hacc3.far hwr (Nat.le_refl _)
                have hbb := (hbw.trans (hb3.mono hsz)).setCell (p := ⟨w2.heap.size, 1, none⟩) (Nat.le_refl _) (.slice A5 P.length c5)
                clear ho ho2 k3 y3 hb3 hwr hacc3
                go_wp2_with fail
                go_roundw
                case rel => exact ⟨j + 1, _, by omega, by go_num, hput, by rw [HT.out]; exact hac, hbb⟩
                case measure => simp [intOf]; omega
      · obtain rfl : j = K := by omega
        rw [← HD.out] at hacc
        obtain ⟨A5, c5, rfl⟩ := acc_shape hacc
        have C3 := HC2.out.step hbw
        have c0 := C3.cell 0
        have c1 := C3.cell 1
        have f0 := C3.free 0
        have f1 := C3.free 1
        simp at c0 c1
        have hoi := hacc.oi
        have hlow := HT2.out.trans (hbw.mono HT2.out.size)
        have hwr := ((Wr.refl (w.heap.size + 1) (w.heap.size + 2) wr).setCell (p := ⟨w.heap.size + 1, 0, none⟩) (Nat.le_refl _) (Nat.lt_succ_self _) (.int .i64 (k - 1))).setCell (p := ⟨w.heap.size + 1, 1, none⟩) (Nat.le_refl _) (Nat.lt_succ_self _) (.slice A5 D.length c5)
        have hji2 : ¬ (j : Int) < k := by omega
        have HO := Lib.hid ((hoi.far hwr (.inr (by omega))).wide (lo' := w.heap.size) (by omega) hwr.size)
        have HR := Lib.hid (rg_zeroed (g := w.heap.size + 1) (by omega) hlow (.int .i64 (k - 1)) (.slice A5 D.length c5))
        clear hbk hacc hbw C3 B3 hoi hlow hwr hkK hr
        go_wp2_with fail
        refine bodyPost_ret (v := .tuple #[RgV ⟨k - 1, D⟩ (.slice A5 D.length c5), .bool true]) (by simp [results, Try.results8, go_sem, RgV, c0, c1]) rfl ⟨_, rfl, ⟨_, rfl, HO.out⟩, HR.out⟩
end Go.Proofs.Ytffmpkdkifecpaa
