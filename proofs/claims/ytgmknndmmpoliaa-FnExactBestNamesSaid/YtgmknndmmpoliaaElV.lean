/-
  Chapter 7: the contracts of WorstNames and BestNames, both sides.
-/
import Derived.Test.YtgmknndmmpoliaaElU
import Derived.Test.YtgmknndmmpoliaaElT
namespace Go.Proofs.Ytgmknndmmpoliaa
open Go.RowKit
set_option maxRecDepth 100000
set_option linter.unusedVariables false

/-- A slice of rows that the call owns: its cells, and each row as it reads and as it is owned. -/
theorem OS.rdo {T E : TypeId} {w : World} {lo hi : Nat} {v : Value} {L : List (List Int)} (h : OS T E w lo hi v L) :
    ∃ (V : Nat → Value) (A : Option Addr) (c : Nat), v = .slice A L.length c ∧ (0 < L.length → ∃ b, A = some ⟨b, 0, none⟩ ∧ b < w.heap.size ∧ ∀ j, j < L.length → w.cell? ⟨b, j, none⟩ = some (V j)) ∧
      ∀ j, j < L.length → OI E w lo hi (V j) (L.getD j []) := by
  obtain ⟨rows, hL, hown, hhi, hr, hp⟩ := h
  have hn : rows.length = L.length := by rw [← hL, List.length_map]
  have hrow : ∀ j, j < L.length → OI E w lo hi ((rows.map (·.u)).getD j undef) (L.getD j []) := by
    intro j hj
    have hjr : j < rows.length := by omega
    have e1 : (rows.map (·.u)).getD j undef = rows[j].u := by simp [List.getD, hjr]
    have e2 : L.getD j [] = rows[j].l := by rw [← hL]; simp [List.getD, hjr]
    rw [e1, e2]
    have h1 := hr rows[j] (List.getElem_mem hjr)
    by_cases hl : rows[j].l = []
    · have h2 := h1.1
      rw [hl] at h2 ⊢
      exact h2.empty
    · have h3 := h1.2 hl
      exact h1.1.wide h3.1 (by omega)
  rcases hown.2 with ⟨rfl, hn0⟩ | ⟨g, c, cur, rfl, _⟩
  · exact ⟨fun j => (rows.map (·.u)).getD j undef, none, 0, by rw [hn0], fun h => by omega, hrow⟩
  · obtain ⟨_, hgs, h3, h4, _⟩ := row_parts hown
    refine ⟨fun j => (rows.map (·.u)).getD j undef, some ⟨g, 0, none⟩, c, rfl, fun _ => ⟨g, rfl, hgs, fun j hj => ?_⟩, hrow⟩
    have hjr : j < rows.length := by omega
    rw [World.ownsRow.cellAt hown j (by omega)]
    simp [List.getD, hjr]
theorem elPassedNil_any (w : World) : Calls Try.prog 66 #[.slice none 0 0] w (RetL 3 w []) := by
  go_enter Try.func66, Try.ntmps66
  go_wp2_with fail
  refine wp_loop_rounds 1 ?_
  rw [rounds_succ]
  go_wp2
  go_ret
  exact ⟨_, rfl, (Acc.nil _ _ _).oi, Below.refl _ _⟩
theorem elSumNil_any (v : Value) (w : World) (h : RI w w.heap.size v []) : Calls Try.prog 65 #[v] w (RetV w (.int .i64 0)) :=
  elSum_any v [] w h (by simp) (fun x hx => by simp at hx)
/-- The model's sum of the links of a row that has different names, or none. -/
theorem elPassSum (v : Value) (l : List Int) (w : World) (h : RI w w.heap.size v l) (hl : (l = [] ∧ v = .slice none 0 0) ∨ (2 ≤ l.length ∧ l.length ≤ 12 ∧ allNew l l.length = true)) :
    Calls Try.prog 66 #[v] w (RetL 3 w (passL l)) := by
  rcases hl with ⟨rfl, rfl⟩ | ⟨h1, h2, h3⟩
  · exact elPassedNil_any w
  · exact elPassed_any v l w h ⟨h1, h2⟩ h3
theorem passL_small (l : List Int) (hl : l.length ≤ 12) : (passL l).length ≤ 1000 ∧ ∀ x ∈ passL l, 0 ≤ x ∧ x ≤ 1000000 :=
  ⟨by unfold passL; rw [passT_length]; omega, fun x hx => by have := passL_in l x hx; omega⟩


set_option maxHeartbeats 4000000 in
theorem elFirst_true (n : Nat) (w : World) (hn : 2 ≤ n ∧ n ≤ 6) :
    Calls Try.prog 40 #[.int .i64 n, .bool true] w (RetL 3 w (bestN false (ordF n n []) (ordF n n []).length)) := by
  have HA := Lib.hid (elOrders_any n (by omega) n (.slice none 0 0) [] w (by simp) (RI.of_nil (by simp) (fun _ => rfl)) (by simp))
  obtain ⟨f1, f2, _, _, f5⟩ := ord_facts n hn
  have hR : ∀ j, j < (ordF n n []).length → 2 ≤ ((ordF n n []).getD j []).length ∧ ((ordF n n []).getD j []).length ≤ 12 ∧ allNew ((ordF n n []).getD j []) ((ordF n n []).getD j []).length = true := by
    intro j hj
    rw [f2 j (by omega), nmN_length]
    have := f5 j (by omega)
    rw [nmN_length] at this
    exact ⟨by omega, by omega, this⟩
  have hlen : (ordF n n []).length ≤ 46656 := Nat.le_trans (ordF_len n n []) (capN_small n n hn.2 hn.2)
  clear f1 f2 f5
  generalize ordF n n [] = R at HA hR hlen ⊢
  have HR := Lib.hid hR
  clear hR
  have hlen' : (R.length : Int) ≤ 46656 := by omega
  go_enter Try.func40, Try.ntmps40
  go_wp2_with fail
  refine HA.out.mono ?_; rintro e W1 ⟨u, rfl, hos, hb⟩
  obtain ⟨V, VA, vc, rfl, hcells, hrows⟩ := hos.rdo
  have HRO := Lib.hid hrows
  have HCE := Lib.hid hcells
  have HB := Lib.hid hb
  clear hcells hrows hos hb HA
  go_wp2_with fail
  go_loopw [5, 13] (fun u i wr => ∃ j : Nat, j ≤ R.length ∧ i = .int .i64 j ∧ Below W1.heap.size W1 wr ∧ Hid ((bestN false R j = [] ∧ u = .slice none 0 0 ∧ j = 0) ∨ ∃ k, k < R.length ∧ u = V k ∧ bestN false R j = R.getD k [])) (fun _ i _ => R.length - (intOf i).toNat)
  case atStart => exact ⟨0, Nat.zero_le _, rfl, Below.refl _ _, .inl ⟨rfl, rfl, rfl⟩⟩
  case round =>
    obtain ⟨j, hj, rfl, hbw, HREL⟩ := hrel
    rename World => W2
    have HBW := Lib.hid hbw
    by_cases hlt : j < R.length
    · have hlt' : (j : Int) < (R.length : Int) := by omega
      obtain ⟨bb, rfl, hbB, hcell⟩ := HCE.out (by omega)
      have hcx := (hbw.cell (p := ⟨bb, j, none⟩) hbB).trans (hcell j hlt)
      have hrj := ((HRO.out j hlt).ri.below hbw).more hbw.size
      have hRj := HR.out j hlt
      have HPJ := Lib.hid (elPassSum (V j) (R.getD j []) W2 hrj (.inr hRj))
      have HSJ := Lib.hid (passL_small (R.getD j []) hRj.2.1)
      clear hcell hbw
      rcases HREL with ⟨hb0, rfl, rfl⟩ | ⟨k, hk, rfl, hbk⟩
      · have HN : Hid (bestN false R 1 = R.getD 0 []) := bestN_yes (.inl (by rw [hb0]; rfl))
        clear hb0
        obtain ⟨sj, hsj⟩ : ∃ sj, sj = R.getD 0 [] := ⟨_, rfl⟩
        rw [← hsj] at hrj HPJ HSJ hRj
        obtain ⟨A5, c5, e5, _, _⟩ := hrj
        rw [e5] at hcx HPJ
        have HE5 := Lib.hid e5
        clear hsj e5 hRj
        generalize sj.length = l5 at *
        go_wp2_with fail
        refine HPJ.out.mono ?_; rintro e W3 ⟨u3, rfl, ho3, hb3⟩
        have HB3 := Lib.hid hb3
        have HS3 := Lib.hid (elSum_any u3 (passL sj) W3 ho3.ri HSJ.out.1 HSJ.out.2)
        obtain ⟨A9, c9, rfl, _, _⟩ := ho3.ri
        clear ho3 hb3
        generalize sumL (passL sj) = sa at HS3
        generalize (passL sj).length = l9 at *
        go_wp2_with fail
        refine HS3.out.mono ?_; rintro e W4 ⟨rfl, hb4⟩
        have HB4 := Lib.hid (HB3.out.trans (hb4.mono HB3.out.size))
        clear hb4
        go_wp2_with fail
        refine (elPassedNil_any W4).mono ?_; rintro e W5 ⟨u5, rfl, ho5, hb5⟩
        have HB5 := Lib.hid (HB4.out.trans (hb5.mono HB4.out.size))
        have HS5 := Lib.hid (elSumNil_any u5 W5 ho5.ri)
        obtain ⟨A8, c8, rfl, _, _⟩ := ho5.ri
        clear ho5 hb5
        go_wp2_with fail
        refine HS5.out.mono ?_; rintro e W6 ⟨rfl, hb6⟩
        have HB6 := Lib.hid (HBW.out.trans ((HB5.out.trans (hb6.mono HB5.out.size)).mono HBW.out.size))
        clear hb6
        go_wp2_with fail
        go_roundw
        case rel => exact ⟨1, by omega, by go_num, HB6.out, .inr ⟨0, hlt, HE5.out.symm, HN.out⟩⟩
        case measure => simp [intOf]; omega
      · have hrk := ((HRO.out k hk).ri.below HBW.out).more HBW.out.size
        have hRk := HR.out k hk
        have HPK : Hid (∀ W, Below W2.heap.size W2 W → Calls Try.prog 66 #[V k] W (RetL 3 W (passL (R.getD k [])))) := by
          show ∀ W, _
          intro W hW
          exact elPassSum (V k) (R.getD k []) W ((hrk.below hW).more hW.size) (.inr hRk)
        have HSK := Lib.hid (passL_small (R.getD k []) hRk.2.1)
        have HYES : Hid (betN false (sumL (passL (R.getD j []))) (sumL (passL (R.getD k []))) = true → bestN false R (j + 1) = R.getD j []) := fun h => bestN_yes (.inr (by rw [hbk]; exact h))
        have HNO : Hid (betN false (sumL (passL (R.getD j []))) (sumL (passL (R.getD k []))) = false → bestN false R (j + 1) = R.getD k []) := fun h => by rw [bestN_no (by rw [hbk]; omega) (by rw [hbk]; exact h), hbk]
        clear hbk
        obtain ⟨sj, hsj⟩ : ∃ sj, sj = R.getD j [] := ⟨_, rfl⟩
        obtain ⟨sk, hsk⟩ : ∃ sk, sk = R.getD k [] := ⟨_, rfl⟩
        have HSJE := Lib.hid hsj
        have HSKE := Lib.hid hsk
        rw [← hsj] at hrj HPJ HSJ hRj HYES HNO
        rw [← hsk] at hrk HPK HSK hRk HYES HNO
        obtain ⟨A5, c5, e5, _, _⟩ := hrj
        rw [e5] at hcx HPJ
        obtain ⟨A6, c6, e6, _, _⟩ := hrk
        rw [e6] at HPK
        have HE5 := Lib.hid e5
        have HE6 := Lib.hid e6
        have hk2 : 2 ≤ sk.length := hRk.1
        rw [e6]
        clear hsj hsk e5 e6 hRj hRk
        generalize sj.length = l5 at *
        generalize sk.length = l6 at *
        have hk3 : (2 : Int) ≤ (l6 : Int) := by omega
        have hk4 : ((l6 : Int) == 0) = false := by simp; omega
        have hk5 : ¬ l6 = 0 := by omega
        go_wp2_with fail
        refine HPJ.out.mono ?_; rintro e W3 ⟨u3, rfl, ho3, hb3⟩
        have HB3 := Lib.hid hb3
        have HS3 := Lib.hid (elSum_any u3 (passL sj) W3 ho3.ri HSJ.out.1 HSJ.out.2)
        obtain ⟨A9, c9, rfl, _, _⟩ := ho3.ri
        clear ho3 hb3
        generalize sumL (passL sj) = sa at HS3 HYES HNO
        generalize (passL sj).length = l9 at *
        go_wp2_with fail
        refine HS3.out.mono ?_; rintro e W4 ⟨rfl, hb4⟩
        have HB4 := Lib.hid (HB3.out.trans (hb4.mono HB3.out.size))
        have HPK4 := Lib.hid (HPK.out W4 HB4.out)
        clear hb4
        go_wp2_with fail
        refine HPK4.out.mono ?_; rintro e W5 ⟨u5, rfl, ho5, hb5⟩
        have HB5 := Lib.hid (HB4.out.trans (hb5.mono HB4.out.size))
        have HS5 := Lib.hid (elSum_any u5 (passL sk) W5 ho5.ri HSK.out.1 HSK.out.2)
        obtain ⟨A8, c8, rfl, _, _⟩ := ho5.ri
        clear ho5 hb5
        generalize sumL (passL sk) = sb at HS5 HYES HNO
        generalize (passL sk).length = l8 at *
        cases hbt : betN false sa sb
        · have HN := Lib.hid (HNO.out hbt)
          have hab : ¬ (sb < sa) := by simpa [betN] using hbt
          clear hbt HYES HNO
          go_wp2_with fail
          refine HS5.out.mono ?_; rintro e W6 ⟨rfl, hb6⟩
          have HB6 := Lib.hid (HBW.out.trans ((HB5.out.trans (hb6.mono HB5.out.size)).mono HBW.out.size))
          clear hb6
          go_wp2_with fail
          go_roundw
          case rel => exact ⟨j + 1, by omega, by go_num, HB6.out, .inr ⟨k, hk, HE6.out.symm, by rw [HN.out, HSKE.out]⟩⟩
          case measure => simp [intOf]; omega
        · have HN := Lib.hid (HYES.out hbt)
          have hab : sb < sa := by simpa [betN] using hbt
          clear hbt HYES HNO
          go_wp2_with fail
          refine HS5.out.mono ?_; rintro e W6 ⟨rfl, hb6⟩
          have HB6 := Lib.hid (HBW.out.trans ((HB5.out.trans (hb6.mono HB5.out.size)).mono HBW.out.size))
          clear hb6
          go_wp2_with fail
          go_roundw
          case rel => exact ⟨j + 1, by omega, by go_num, HB6.out, .inr ⟨j, hlt, HE5.out.symm, by rw [HN.out, HSJE.out]⟩⟩
          case measure => simp [intOf]; omega
    · obtain rfl : j = R.length := by omega
      rcases HREL with ⟨hb0, rfl, h0⟩ | ⟨k, hk, rfl, hbk⟩
      · have HB0 := Lib.hid hb0
        clear hb0 h0
        go_wp2_with fail
        go_ret
        exact ⟨_, rfl, by rw [HB0.out]; exact (Acc.nil _ _ _).oi.wide (Nat.le_refl _) (Nat.le_refl _), HB.out.trans (HBW.out.mono HB.out.size)⟩
      · have HBK := Lib.hid hbk
        have HOI := Lib.hid (((HRO.out k hk).step hbw).wide (Nat.le_refl _) hbw.size)
        clear hbk
        go_wp2_with fail
        go_ret
        exact ⟨_, rfl, by rw [HBK.out]; exact HOI.out, HB.out.trans (HBW.out.mono HB.out.size)⟩


set_option maxHeartbeats 4000000 in
theorem elFirst_false (n : Nat) (w : World) (hn : 2 ≤ n ∧ n ≤ 6) :
    Calls Try.prog 40 #[.int .i64 n, .bool false] w (RetL 3 w (bestN true (ordF n n []) (ordF n n []).length)) := by
  have HA := Lib.hid (elOrders_any n (by omega) n (.slice none 0 0) [] w (by simp) (RI.of_nil (by simp) (fun _ => rfl)) (by simp))
  obtain ⟨f1, f2, _, _, f5⟩ := ord_facts n hn
  have hR : ∀ j, j < (ordF n n []).length → 2 ≤ ((ordF n n []).getD j []).length ∧ ((ordF n n []).getD j []).length ≤ 12 ∧ allNew ((ordF n n []).getD j []) ((ordF n n []).getD j []).length = true := by
    intro j hj
    rw [f2 j (by omega), nmN_length]
    have := f5 j (by omega)
    rw [nmN_length] at this
    exact ⟨by omega, by omega, this⟩
  have hlen : (ordF n n []).length ≤ 46656 := Nat.le_trans (ordF_len n n []) (capN_small n n hn.2 hn.2)
  clear f1 f2 f5
  generalize ordF n n [] = R at HA hR hlen ⊢
  have HR := Lib.hid hR
  clear hR
  have hlen' : (R.length : Int) ≤ 46656 := by omega
  go_enter Try.func40, Try.ntmps40
  go_wp2_with fail
  refine HA.out.mono ?_; rintro e W1 ⟨u, rfl, hos, hb⟩
  obtain ⟨V, VA, vc, rfl, hcells, hrows⟩ := hos.rdo
  have HRO := Lib.hid hrows
  have HCE := Lib.hid hcells
  have HB := Lib.hid hb
  clear hcells hrows hos hb HA
  go_wp2_with fail
  go_loopw [5, 13] (fun u i wr => ∃ j : Nat, j ≤ R.length ∧ i = .int .i64 j ∧ Below W1.heap.size W1 wr ∧ Hid ((bestN true R j = [] ∧ u = .slice none 0 0 ∧ j = 0) ∨ ∃ k, k < R.length ∧ u = V k ∧ bestN true R j = R.getD k [])) (fun _ i _ => R.length - (intOf i).toNat)
  case atStart => exact ⟨0, Nat.zero_le _, rfl, Below.refl _ _, .inl ⟨rfl, rfl, rfl⟩⟩
  case round =>
    obtain ⟨j, hj, rfl, hbw, HREL⟩ := hrel
    rename World => W2
    have HBW := Lib.hid hbw
    by_cases hlt : j < R.length
    · have hlt' : (j : Int) < (R.length : Int) := by omega
      obtain ⟨bb, rfl, hbB, hcell⟩ := HCE.out (by omega)
      have hcx := (hbw.cell (p := ⟨bb, j, none⟩) hbB).trans (hcell j hlt)
      have hrj := ((HRO.out j hlt).ri.below hbw).more hbw.size
      have hRj := HR.out j hlt
      have HPJ := Lib.hid (elPassSum (V j) (R.getD j []) W2 hrj (.inr hRj))
      have HSJ := Lib.hid (passL_small (R.getD j []) hRj.2.1)
      clear hcell hbw
      rcases HREL with ⟨hb0, rfl, rfl⟩ | ⟨k, hk, rfl, hbk⟩
      · have HN : Hid (bestN true R 1 = R.getD 0 []) := bestN_yes (.inl (by rw [hb0]; rfl))
        clear hb0
        obtain ⟨sj, hsj⟩ : ∃ sj, sj = R.getD 0 [] := ⟨_, rfl⟩
        rw [← hsj] at hrj HPJ HSJ hRj
        obtain ⟨A5, c5, e5, _, _⟩ := hrj
        rw [e5] at hcx HPJ
        have HE5 := Lib.hid e5
        clear hsj e5 hRj
        generalize sj.length = l5 at *
        go_wp2_with fail
        refine HPJ.out.mono ?_; rintro e W3 ⟨u3, rfl, ho3, hb3⟩
        have HB3 := Lib.hid hb3
        have HS3 := Lib.hid (elSum_any u3 (passL sj) W3 ho3.ri HSJ.out.1 HSJ.out.2)
        obtain ⟨A9, c9, rfl, _, _⟩ := ho3.ri
        clear ho3 hb3
        generalize sumL (passL sj) = sa at HS3
        generalize (passL sj).length = l9 at *
        go_wp2_with fail
        refine HS3.out.mono ?_; rintro e W4 ⟨rfl, hb4⟩
        have HB4 := Lib.hid (HB3.out.trans (hb4.mono HB3.out.size))
        clear hb4
        go_wp2_with fail
        refine (elPassedNil_any W4).mono ?_; rintro e W5 ⟨u5, rfl, ho5, hb5⟩
        have HB5 := Lib.hid (HB4.out.trans (hb5.mono HB4.out.size))
        have HS5 := Lib.hid (elSumNil_any u5 W5 ho5.ri)
        obtain ⟨A8, c8, rfl, _, _⟩ := ho5.ri
        clear ho5 hb5
        go_wp2_with fail
        refine HS5.out.mono ?_; rintro e W6 ⟨rfl, hb6⟩
        have HB6 := Lib.hid (HBW.out.trans ((HB5.out.trans (hb6.mono HB5.out.size)).mono HBW.out.size))
        clear hb6
        go_wp2_with fail
        go_roundw
        case rel => exact ⟨1, by omega, by go_num, HB6.out, .inr ⟨0, hlt, HE5.out.symm, HN.out⟩⟩
        case measure => simp [intOf]; omega
      · have hrk := ((HRO.out k hk).ri.below HBW.out).more HBW.out.size
        have hRk := HR.out k hk
        have HPK : Hid (∀ W, Below W2.heap.size W2 W → Calls Try.prog 66 #[V k] W (RetL 3 W (passL (R.getD k [])))) := by
          show ∀ W, _
          intro W hW
          exact elPassSum (V k) (R.getD k []) W ((hrk.below hW).more hW.size) (.inr hRk)
        have HSK := Lib.hid (passL_small (R.getD k []) hRk.2.1)
        have HYES : Hid (betN true (sumL (passL (R.getD j []))) (sumL (passL (R.getD k []))) = true → bestN true R (j + 1) = R.getD j []) := fun h => bestN_yes (.inr (by rw [hbk]; exact h))
        have HNO : Hid (betN true (sumL (passL (R.getD j []))) (sumL (passL (R.getD k []))) = false → bestN true R (j + 1) = R.getD k []) := fun h => by rw [bestN_no (by rw [hbk]; omega) (by rw [hbk]; exact h), hbk]
        clear hbk
        obtain ⟨sj, hsj⟩ : ∃ sj, sj = R.getD j [] := ⟨_, rfl⟩
        obtain ⟨sk, hsk⟩ : ∃ sk, sk = R.getD k [] := ⟨_, rfl⟩
        have HSJE := Lib.hid hsj
        have HSKE := Lib.hid hsk
        rw [← hsj] at hrj HPJ HSJ hRj HYES HNO
        rw [← hsk] at hrk HPK HSK hRk HYES HNO
        obtain ⟨A5, c5, e5, _, _⟩ := hrj
        rw [e5] at hcx HPJ
        obtain ⟨A6, c6, e6, _, _⟩ := hrk
        rw [e6] at HPK
        have HE5 := Lib.hid e5
        have HE6 := Lib.hid e6
        have hk2 : 2 ≤ sk.length := hRk.1
        rw [e6]
        clear hsj hsk e5 e6 hRj hRk
        generalize sj.length = l5 at *
        generalize sk.length = l6 at *
        have hk3 : (2 : Int) ≤ (l6 : Int) := by omega
        have hk4 : ((l6 : Int) == 0) = false := by simp; omega
        have hk5 : ¬ l6 = 0 := by omega
        go_wp2_with fail
        refine HPJ.out.mono ?_; rintro e W3 ⟨u3, rfl, ho3, hb3⟩
        have HB3 := Lib.hid hb3
        have HS3 := Lib.hid (elSum_any u3 (passL sj) W3 ho3.ri HSJ.out.1 HSJ.out.2)
        obtain ⟨A9, c9, rfl, _, _⟩ := ho3.ri
        clear ho3 hb3
        generalize sumL (passL sj) = sa at HS3 HYES HNO
        generalize (passL sj).length = l9 at *
        go_wp2_with fail
        refine HS3.out.mono ?_; rintro e W4 ⟨rfl, hb4⟩
        have HB4 := Lib.hid (HB3.out.trans (hb4.mono HB3.out.size))
        have HPK4 := Lib.hid (HPK.out W4 HB4.out)
        clear hb4
        go_wp2_with fail
        refine HPK4.out.mono ?_; rintro e W5 ⟨u5, rfl, ho5, hb5⟩
        have HB5 := Lib.hid (HB4.out.trans (hb5.mono HB4.out.size))
        have HS5 := Lib.hid (elSum_any u5 (passL sk) W5 ho5.ri HSK.out.1 HSK.out.2)
        obtain ⟨A8, c8, rfl, _, _⟩ := ho5.ri
        clear ho5 hb5
        generalize sumL (passL sk) = sb at HS5 HYES HNO
        generalize (passL sk).length = l8 at *
        cases hbt : betN true sa sb
        · have HN := Lib.hid (HNO.out hbt)
          have hab : ¬ (sa < sb) := by simpa [betN] using hbt
          clear hbt HYES HNO
          go_wp2_with fail
          refine HS5.out.mono ?_; rintro e W6 ⟨rfl, hb6⟩
          have HB6 := Lib.hid (HBW.out.trans ((HB5.out.trans (hb6.mono HB5.out.size)).mono HBW.out.size))
          clear hb6
          go_wp2_with fail
          go_roundw
          case rel => exact ⟨j + 1, by omega, by go_num, HB6.out, .inr ⟨k, hk, HE6.out.symm, by rw [HN.out, HSKE.out]⟩⟩
          case measure => simp [intOf]; omega
        · have HN := Lib.hid (HYES.out hbt)
          have hab : sa < sb := by simpa [betN] using hbt
          clear hbt HYES HNO
          go_wp2_with fail
          refine HS5.out.mono ?_; rintro e W6 ⟨rfl, hb6⟩
          have HB6 := Lib.hid (HBW.out.trans ((HB5.out.trans (hb6.mono HB5.out.size)).mono HBW.out.size))
          clear hb6
          go_wp2_with fail
          go_roundw
          case rel => exact ⟨j + 1, by omega, by go_num, HB6.out, .inr ⟨j, hlt, HE5.out.symm, by rw [HN.out, HSJE.out]⟩⟩
          case measure => simp [intOf]; omega
    · obtain rfl : j = R.length := by omega
      rcases HREL with ⟨hb0, rfl, h0⟩ | ⟨k, hk, rfl, hbk⟩
      · have HB0 := Lib.hid hb0
        clear hb0 h0
        go_wp2_with fail
        go_ret
        exact ⟨_, rfl, by rw [HB0.out]; exact (Acc.nil _ _ _).oi.wide (Nat.le_refl _) (Nat.le_refl _), HB.out.trans (HBW.out.mono HB.out.size)⟩
      · have HBK := Lib.hid hbk
        have HOI := Lib.hid (((HRO.out k hk).step hbw).wide (Nat.le_refl _) hbw.size)
        clear hbk
        go_wp2_with fail
        go_ret
        exact ⟨_, rfl, by rw [HBK.out]; exact HOI.out, HB.out.trans (HBW.out.mono HB.out.size)⟩


theorem implWorstNames0 (n : Int) (w : World) (hx : (Lit.int .i64 n).wf = true) :
    Calls Try.prog 23 #[.int .i64 n] w (RetLB 3 w (ordRg false n).1 (ordRg false n).2) := by
  have HI := Lib.hid (isWithin_wi n 2 6 w)
  cases hg : wi n 2 6
  · rw [show ordRg false n = ([], false) from by simp [ordRg, hg]]
    rw [hg] at HI
    clear hg
    go_enter Try.func23, Try.ntmps23
    go_wp2_with fail
    refine HI.out.mono ?_; rintro e w' ⟨rfl, rfl⟩
    go_wp2_with fail
    go_ret2
    exact ⟨_, rfl, (Acc.nil _ _ _).oi, Below.refl _ _⟩
  rw [hg] at HI
  obtain ⟨N, rfl, hN⟩ : ∃ N : Nat, n = (N : Int) ∧ 2 ≤ N ∧ N ≤ 6 := by
    simp [wi] at hg
    exact ⟨n.toNat, by omega, by omega⟩
  obtain ⟨h1, h2, h3, h4, h5⟩ := ord_facts N hN
  have hst : bestN false (ordF N N []) (ordF N N []).length = (stN false N (kN N)).1 := by rw [h1]; exact best_is false N (by omega) _ (kN N) h2 (kN N) (Nat.le_refl _)
  have HC := Lib.hid (worstFirst_any N (kN N) w hN h3 h4)
  skip
  rw [show ordRg false (N : Int) = ((stN false N (kN N)).1, true) from by simp [ordRg, hg]]
  clear hg hx h1 h2 h3 h4 h5 hst
  generalize (stN false N (kN N)).1 = L at HC ⊢
  go_enter Try.func23, Try.ntmps23
  go_wp2_with fail
  refine HI.out.mono ?_; rintro e w' ⟨rfl, rfl⟩
  go_wp2_with fail
  refine HC.out.mono ?_; rintro e w1 ⟨u1, rfl, ho1, hb1⟩
  go_wp2_with fail
  go_ret2
  exact ⟨_, rfl, ho1, hb1⟩


theorem specWorstNames0 (n : Int) (w : World) (hx : (Lit.int .i64 n).wf = true) :
    Calls Try.prog 22 #[.int .i64 n] w (RetLB 3 w (ordRg false n).1 (ordRg false n).2) := by
  have HI := Lib.hid (l1In_wi n 2 6 w)
  cases hg : wi n 2 6
  · rw [show ordRg false n = ([], false) from by simp [ordRg, hg]]
    rw [hg] at HI
    clear hg
    go_enter Try.func22, Try.ntmps22
    go_wp2_with fail
    refine HI.out.mono ?_; rintro e w' ⟨rfl, rfl⟩
    go_wp2_with fail
    go_ret2
    exact ⟨_, rfl, (Acc.nil _ _ _).oi, Below.refl _ _⟩
  rw [hg] at HI
  obtain ⟨N, rfl, hN⟩ : ∃ N : Nat, n = (N : Int) ∧ 2 ≤ N ∧ N ≤ 6 := by
    simp [wi] at hg
    exact ⟨n.toNat, by omega, by omega⟩
  obtain ⟨h1, h2, h3, h4, h5⟩ := ord_facts N hN
  have hst : bestN false (ordF N N []) (ordF N N []).length = (stN false N (kN N)).1 := by rw [h1]; exact best_is false N (by omega) _ (kN N) h2 (kN N) (Nat.le_refl _)
  have HC := Lib.hid (elFirst_true N w hN)
  rw [hst] at HC
  rw [show ordRg false (N : Int) = ((stN false N (kN N)).1, true) from by simp [ordRg, hg]]
  clear hg hx h1 h2 h3 h4 h5 hst
  generalize (stN false N (kN N)).1 = L at HC ⊢
  go_enter Try.func22, Try.ntmps22
  go_wp2_with fail
  refine HI.out.mono ?_; rintro e w' ⟨rfl, rfl⟩
  go_wp2_with fail
  refine HC.out.mono ?_; rintro e w1 ⟨u1, rfl, ho1, hb1⟩
  go_wp2_with fail
  go_ret2
  exact ⟨_, rfl, ho1, hb1⟩


theorem implBestNames0 (n : Int) (w : World) (hx : (Lit.int .i64 n).wf = true) :
    Calls Try.prog 26 #[.int .i64 n] w (RetLB 3 w (ordRg true n).1 (ordRg true n).2) := by
  have HI := Lib.hid (isWithin_wi n 2 6 w)
  cases hg : wi n 2 6
  · rw [show ordRg true n = ([], false) from by simp [ordRg, hg]]
    rw [hg] at HI
    clear hg
    go_enter Try.func26, Try.ntmps26
    go_wp2_with fail
    refine HI.out.mono ?_; rintro e w' ⟨rfl, rfl⟩
    go_wp2_with fail
    go_ret2
    exact ⟨_, rfl, (Acc.nil _ _ _).oi, Below.refl _ _⟩
  rw [hg] at HI
  obtain ⟨N, rfl, hN⟩ : ∃ N : Nat, n = (N : Int) ∧ 2 ≤ N ∧ N ≤ 6 := by
    simp [wi] at hg
    exact ⟨n.toNat, by omega, by omega⟩
  obtain ⟨h1, h2, h3, h4, h5⟩ := ord_facts N hN
  have hst : bestN true (ordF N N []) (ordF N N []).length = (stN true N (kN N)).1 := by rw [h1]; exact best_is true N (by omega) _ (kN N) h2 (kN N) (Nat.le_refl _)
  have HC := Lib.hid (bestFirst_any N (kN N) w hN h3 h4)
  skip
  rw [show ordRg true (N : Int) = ((stN true N (kN N)).1, true) from by simp [ordRg, hg]]
  clear hg hx h1 h2 h3 h4 h5 hst
  generalize (stN true N (kN N)).1 = L at HC ⊢
  go_enter Try.func26, Try.ntmps26
  go_wp2_with fail
  refine HI.out.mono ?_; rintro e w' ⟨rfl, rfl⟩
  go_wp2_with fail
  refine HC.out.mono ?_; rintro e w1 ⟨u1, rfl, ho1, hb1⟩
  go_wp2_with fail
  go_ret2
  exact ⟨_, rfl, ho1, hb1⟩


theorem specBestNames0 (n : Int) (w : World) (hx : (Lit.int .i64 n).wf = true) :
    Calls Try.prog 25 #[.int .i64 n] w (RetLB 3 w (ordRg true n).1 (ordRg true n).2) := by
  have HI := Lib.hid (l1In_wi n 2 6 w)
  cases hg : wi n 2 6
  · rw [show ordRg true n = ([], false) from by simp [ordRg, hg]]
    rw [hg] at HI
    clear hg
    go_enter Try.func25, Try.ntmps25
    go_wp2_with fail
    refine HI.out.mono ?_; rintro e w' ⟨rfl, rfl⟩
    go_wp2_with fail
    go_ret2
    exact ⟨_, rfl, (Acc.nil _ _ _).oi, Below.refl _ _⟩
  rw [hg] at HI
  obtain ⟨N, rfl, hN⟩ : ∃ N : Nat, n = (N : Int) ∧ 2 ≤ N ∧ N ≤ 6 := by
    simp [wi] at hg
    exact ⟨n.toNat, by omega, by omega⟩
  obtain ⟨h1, h2, h3, h4, h5⟩ := ord_facts N hN
  have hst : bestN true (ordF N N []) (ordF N N []).length = (stN true N (kN N)).1 := by rw [h1]; exact best_is true N (by omega) _ (kN N) h2 (kN N) (Nat.le_refl _)
  have HC := Lib.hid (elFirst_false N w hN)
  rw [hst] at HC
  rw [show ordRg true (N : Int) = ((stN true N (kN N)).1, true) from by simp [ordRg, hg]]
  clear hg hx h1 h2 h3 h4 h5 hst
  generalize (stN true N (kN N)).1 = L at HC ⊢
  go_enter Try.func25, Try.ntmps25
  go_wp2_with fail
  refine HI.out.mono ?_; rintro e w' ⟨rfl, rfl⟩
  go_wp2_with fail
  refine HC.out.mono ?_; rintro e w1 ⟨u1, rfl, ho1, hb1⟩
  go_wp2_with fail
  go_ret2
  exact ⟨_, rfl, ho1, hb1⟩


def worstRg (n : Int) : List Int × Bool := ordRg false n
theorem worstRg_len (n : Int) : (worstRg n).1.length ≤ 1048576 := ordRg_len false n
theorem implWorstNames_any (n : Int) (w : World) (hx : (Lit.int .i64 n).wf = true) : Calls Try.prog 23 #[.int .i64 n] w (RetLB 3 w (worstRg n).1 (worstRg n).2) := implWorstNames0 n w hx
theorem specWorstNames_any (n : Int) (w : World) (hx : (Lit.int .i64 n).wf = true) : Calls Try.prog 22 #[.int .i64 n] w (RetLB 3 w (worstRg n).1 (worstRg n).2) := specWorstNames0 n w hx

def bestRg (n : Int) : List Int × Bool := ordRg true n
theorem bestRg_len (n : Int) : (bestRg n).1.length ≤ 1048576 := ordRg_len true n
theorem implBestNames_any (n : Int) (w : World) (hx : (Lit.int .i64 n).wf = true) : Calls Try.prog 26 #[.int .i64 n] w (RetLB 3 w (bestRg n).1 (bestRg n).2) := implBestNames0 n w hx
theorem specBestNames_any (n : Int) (w : World) (hx : (Lit.int .i64 n).wf = true) : Calls Try.prog 25 #[.int .i64 n] w (RetLB 3 w (bestRg n).1 (bestRg n).2) := specBestNames0 n w hx
end Go.Proofs.Ytgmknndmmpoliaa
