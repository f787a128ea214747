/-
  Chapter 7: the program's LongestRepair: all layers.
-/
import Derived.Test.YtgmknndmmpoliaaElAH
import Derived.Maps.OwnOps
namespace Go.Proofs.Ytgmknndmmpoliaa
open Go.RowKit Go.Maps
set_option maxRecDepth 100000
set_option linter.unusedVariables false

/-- The rows of a slice of slices, each in memory of its own. -/
theorem OS.rows {T E : TypeId} {w : World} {lo hi : Nat} {v : Value} {L : List (List Int)} (h : OS T E w lo hi v L) (hL : 0 < L.length) (hne : ∀ j, j < L.length → L.getD j [] ≠ []) :
    ∃ (V : Nat → Value) (b c : Nat), v = .slice (some ⟨b, 0, none⟩) L.length c ∧ lo ≤ b ∧ b < w.heap.size ∧ (∀ j, j < L.length → w.cell? ⟨b, j, none⟩ = some (V j)) ∧ ∀ j, j < L.length → OI E w lo hi (V j) (L.getD j []) := by
  obtain ⟨rows, hR, hown, hhi, hr, hp⟩ := h
  have hlr : rows.length = L.length := by rw [← hR]; simp
  rcases hown.2 with ⟨_, h0⟩ | ⟨g, c, cur, rfl, hg, hh, rest⟩
  · omega
  refine ⟨fun j => (rows.map (·.u)).getD j undef, g, c, rfl, hg, (Array.getElem?_eq_some_iff.1 hh).1, fun j hj => ?_, fun j hj => ?_⟩
  · rw [World.ownsRow.cellAt hown j (by omega)]
    have : j < rows.length := by omega
    simp [List.getD, this]
  · have hj2 : j < rows.length := by omega
    have e1 : (rows.map (·.u)).getD j undef = rows[j].u := by simp [List.getD, hj2]
    have e2 : L.getD j [] = rows[j].l := by rw [← hR]; simp [List.getD, hj2]
    have h1 := hr rows[j] (List.getElem_mem hj2)
    have h2 := hne j hj
    show OI E w lo hi ((rows.map (·.u)).getD j undef) _
    rw [e1, e2]
    rw [e2] at h2
    have h3 := h1.2 h2
    exact h1.1.wide h3.1 (by omega)
theorem cnt_some {A : Nat → Bool} {n i : Nat} (hi : i < n) (h : A i = true) : 0 < cntA A n := Nat.lt_of_le_of_lt (Nat.zero_le _) (cntA_lt hi h)
theorem cnt_zero {A : Nat → Bool} {n : Nat} (h : ∀ i, i < n → A i = false) : cntA A n = 0 := by
  rw [cntA_congr (A := A) (B := fun _ => false) h, cntA_none]
theorem mxN_ex {f : Nat → Nat} {p j : Nat} (h : p < mxN f j) : ∃ i, i < j ∧ p < f i := by
  induction j with
  | zero => cases h
  | succ j ih =>
    rw [mxN] at h
    split at h
    · exact ⟨j, by omega, h⟩
    · obtain ⟨i, h1, h2⟩ := ih h
      exact ⟨i, by omega, h2⟩
theorem mxN_lt {f : Nat → Nat} {M j : Nat} (hM : 0 < M) (h : ∀ i, i < j → f i < M) : mxN f j < M := by
  induction j with
  | zero => exact hM
  | succ j ih =>
    rw [mxN]
    have := h j (by omega)
    have := ih fun i hi => h i (by omega)
    split <;> omega
/-- Who leaves a layer. -/
theorem lv_is {N K : Nat} {f : Nat → Nat} (R : Rk N K f) {p i : Nat} (hi : i < K ^ N) (hp : p < f i) : lvN N K (fun j => decide (p < f j)) i = decide (f i ≤ p + 1) := by
  have h1 : oneB (stA N K i) = false := by
    cases h : oneB (stA N K i)
    · rfl
    · have := R.one i hi h
      omega
  unfold lvN
  by_cases h : f i ≤ p + 1
  · rw [anyP_no fun q hq => by have := R.ge i hi h1 q hq; simp; omega]
    simp [h]
  · obtain ⟨q, hq, hf⟩ := R.le i hi h1
    rw [anyP_yes hq (by simp; omega)]
    simp [h]
set_option maxHeartbeats 8000000 in
theorem longestRepair_any (N K m : Nat) (f : Nat → Nat) (w : World) (hN : 2 ≤ N ∧ N ≤ 4) (hK : N ≤ K ∧ K ≤ 5) (hm0 : m = K ^ N) (R0 : Rk N K f) :
    Calls Try.prog 50 #[.int .i64 N, .int .i64 K] w (RetV w (.int .i64 (mxN f m : Nat))) := by
  have hm1 : 0 < m := by rw [hm0]; exact Nat.pow_pos (by omega)
  have hm9 : m ≤ 1000 := by
    rw [hm0]
    exact Nat.le_trans (Nat.pow_le_pow_left hK.2 N) (Nat.le_trans (Nat.pow_le_pow_right (by omega) hN.2) (by decide))
  have hmi : (1 : Int) ≤ (m : Int) ∧ (m : Int) ≤ 1000 := by omega
  have R := Lib.hid R0
  have HMK := Lib.hid hm0
  have HEV := Lib.hid (everyStates_any N K (w.alloc (.map #[] 0)) (by omega) (by omega))
  have HMX : Hid (mxN f m < m) := mxN_lt hm1 fun i hi => (by have h9 := R.out.top i (by rw [← HMK.out]; exact hi); rw [← HMK.out] at h9; exact h9)
  have hmm := @run_makeMap Try.prog
  have hw0 : (w.alloc (.map #[] 0)).heap.size = w.heap.size + 1 := by simp
  have HOW0 := Lib.hid (World.ownsMap_made w Try.prog 3 slElem)
  have HB0 : Hid (Below w.heap.size w (w.alloc (.map #[] 0))) := (Below.refl _ _).alloc (Nat.le_refl _) _
  have HW0 := Lib.hid hw0
  clear hm0 R0 hw0
  go_enter Try.func50, Try.ntmps50
  go_wp2_with fail
  refine HEV.out.mono ?_; rintro e W2 ⟨u, rfl, hos, hb2⟩
  have hLL : (allN K N).length = m := by rw [allN_length, HMK.out]
  obtain ⟨V, b, c, rfl, hbl, hbs, hcell, hrows⟩ := hos.rows (by omega) (fun j hj => by
    have h9 := stA_len (n := N) (k := K) (i := j) (by rw [← HMK.out]; omega)
    unfold stA at h9
    intro e
    rw [e] at h9
    simp at h9
    omega)
  rw [hLL] at hcell hrows ⊢
  have HCE := Lib.hid hcell
  have HRO : Hid (∀ j, j < m → OI 3 W2 (w.heap.size + 1) W2.heap.size (V j) (stA N K j)) := by
    show ∀ j, _
    intro j hj
    have h9 := hrows j hj
    rw [HW0.out] at h9
    exact h9
  have HBL : Hid (w.heap.size + 1 ≤ b) := by rw [HW0.out] at hbl; exact hbl
  have HBS := Lib.hid hbs
  have HB2 : Hid (Below w.heap.size w W2) := HB0.out.trans (hb2.mono HB0.out.size)
  have HS2 : Hid (w.heap.size + 1 ≤ W2.heap.size) := by have h9 := hb2.size; rw [HW0.out] at h9; exact h9
  have HOW2 : Hid (W2.ownsMap Try.prog 3 slElem w.heap.size 0 (.map [])) := by
    obtain ⟨es, clock, e1, F1, e2, e3⟩ := HOW0.out
    exact ⟨es, clock, (hb2.block w.heap.size (by rw [HW0.out]; omega)).trans e1, F1, e2, e3⟩
  have HRD : Hid (∀ W, W2.grownBy W (some w.heap.size) → ∀ j, j < m → RI W W.heap.size (V j) (stA N K j)) := by
    show ∀ W, _
    intro W hg j hj
    exact ((HRO.out j hj).far (Wr.of_row hg (Nat.le_refl _) (Nat.lt_succ_self _)) (.inr (Nat.le_refl _))).ri.more hg.size
  clear hcell hrows hbl hbs hb2 hos hLL
  go_wp2_with fail
  go_loopg [16] m (fun g s16 wx => ∃ (j kb : Nat) (D : DataW Value), j + g = m ∧ kb ≤ j ∧ s16 = .int .i64 j ∧ wx.ownsMap Try.prog 3 slElem w.heap.size kb D ∧ Hid (MS D m (fun i => decide (i < j) && decide (0 < f i)) V) ∧ Hid (W2.grownBy wx (some w.heap.size)))
  case atStart => exact ⟨0, 0, _, by omega, Nat.le_refl _, rfl, HOW2.out, (MS.empty m V).congr (fun i hi => by simp) (fun _ _ _ => rfl), below_grown0 (Below.refl _ _) _⟩
  case round =>
    obtain ⟨j, kb, D, hjg, hkb, rfl, hown, HMS, HG⟩ := hrel
    rename World => W3
    have HOWN := Lib.hid hown
    clear hown
    cases gk with
    | zero =>
      have hjm : j = m := by omega
      rw [hjm] at HMS ⊢
      have hz : ¬ ((m : Int) < (m : Int)) := by omega
      have hkb3 : kb ≤ 3125 := by omega
      clear hjg hjm
      go_wp2_with fail
      go_loopg [8] (mxN f m) (fun g s8 wx => ∃ (p nn : Nat) (D : DataW Value), p + g = mxN f m ∧ s8 = .int .i64 p ∧ nn ≤ 3125 ∧ wx.ownsMap Try.prog 3 slElem w.heap.size nn D ∧ Hid (MS D m (fun i => decide (p < f i)) V) ∧ Hid (W2.grownBy wx (some w.heap.size)))
      case atStart => exact ⟨0, kb, D, by omega, rfl, by omega, HOWN.out, HMS.out.congr (fun i hi => by simp [hi]) (fun _ _ _ => rfl), HG.out⟩
      case round =>
        clear HMS HG HOWN hkb
        obtain ⟨p, nn, D, hpg, rfl, hnn, hown, HMS, HG⟩ := hrel
        rename World => W4
        have HOWN := Lib.hid hown
        have HSZ : Hid (Maps.size D = cntA (fun i => decide (p < f i)) m) := HMS.out.size
        have hpm : p < m := by have := HMX.out; omega
        have hcm : cntA (fun i => decide (p < f i)) m ≤ m := by rw [← alL_len]; exact alL_le _ _
        clear hown
        cases gk with
        | zero =>
          have hpe : p = mxN f m := by omega
          have h0 := Lib.hid (cnt_zero (A := fun i => decide (p < f i)) (n := m) fun i hi => by have := mxN_ge (f := f) hi; simp; omega)
          rw [hpe] at h0 HSZ
          rw [hpe]
          clear hpg hpe hcm hpm
          go_wp2_with (at_len; refine wpList_len_own _ rfl _ 62 rfl 3 22 Try.underlying62 slElem w.heap.size nn D rfl HOWN.out ?_; rw [HSZ.out, h0.out])
          go_ret
          exact ⟨rfl, HB2.out.grown HG.out HB2.out.size (fun k hk => by cases hk; exact Nat.le_refl _)⟩
        | succ g2 =>
          have hlt : p < mxN f m := by omega
          have hc0 : 0 < cntA (fun i => decide (p < f i)) m := by
            obtain ⟨i, h1, h2⟩ := mxN_ex hlt
            exact cnt_some h1 (by simpa using h2)
          have HNT := Lib.hid (numbersThatLeave_any w.heap.size nn N K m D (fun i => decide (p < f i)) V W4 hN (by omega) HMK.out hm9 hnn HOWN.out HMS.out (HRD.out W4 HG.out))
          obtain ⟨C, hC⟩ : ∃ C, C = cntA (fun i => decide (p < f i)) m := ⟨_, rfl⟩
          rw [← hC] at HSZ hcm hc0
          clear hC
          have hcm' : (C : Int) ≤ 1000 := by omega
          have hc0' : (0 : Int) < (C : Int) := by omega
          have hp9 : (p : Int) ≤ 1000 := by omega
          go_wp2_with (at_len; refine wpList_len_own _ rfl _ 62 rfl 3 22 Try.underlying62 slElem w.heap.size nn D rfl HOWN.out ?_; rw [HSZ.out])
          refine HNT.out.mono ?_; rintro e W5 ⟨u5, nums, rfl, ho5, hn5, hin5, hall5, hb5⟩
          have HG5 : Hid (W2.grownBy W5 (some w.heap.size)) := gb_trans HG.out (below_grown0 hb5 none) (fun k hk _ => by cases hk)
          have HOWN5 : Hid (W5.ownsMap Try.prog 3 slElem w.heap.size nn D) := by
            have h9 := HOWN.out.lt
            obtain ⟨es, clock, e1, F1, e2, e3⟩ := HOWN.out
            exact ⟨es, clock, (hb5.block _ h9).trans e1, F1, e2, e3⟩
          have HO5 : Hid (∀ W, W5.grownBy W (some w.heap.size) → RI W W.heap.size u5 nums) := by
            show ∀ W, _
            intro W hg
            exact (ho5.far (Wr.of_row hg (Nat.le_refl _) (Nat.lt_succ_self _)) (.inr HOWN.out.lt)).ri.more hg.size
          have HIN := Lib.hid hin5
          have HALL := Lib.hid hall5
          have hn5' : (nums.length : Int) ≤ 3125 := by omega
          obtain ⟨A5, c5, rfl, _, _⟩ := ho5.ri
          clear ho5 hin5 hall5 hb5
          go_wp2_with fail
          go_loopg [35] nums.length (fun g s35 wx => ∃ (j : Nat) (D : DataW Value), j + g = nums.length ∧ s35 = .int .i64 j ∧ wx.ownsMap Try.prog 3 slElem w.heap.size nn D ∧ Hid (MS D m (fun i => decide (p < f i) && !decide ((i : Int) ∈ nums.take j)) V) ∧ Hid (W5.grownBy wx (some w.heap.size)))
          case atStart => exact ⟨0, D, by omega, rfl, HOWN5.out, HMS.out.congr (fun i hi => by simp) (fun _ _ _ => rfl), below_grown0 (Below.refl _ _) _⟩
          case round =>
            clear HMS HOWN HG HSZ HOWN5
            obtain ⟨j, D, hjg, rfl, hown, HMS, HG⟩ := hrel
            rename World => W6
            have HOWN := Lib.hid hown
            clear hown
            cases gk with
            | zero =>
              have hjm : j = nums.length := by omega
              rw [hjm, List.take_length] at HMS
              rw [hjm]
              have hz : ¬ ((nums.length : Int) < (nums.length : Int)) := by omega
              clear hjg hjm
              go_wp2_with fail
              go_roundg g2
              case measure => omega
              case rel => exact ⟨p + 1, nn, D, by omega, by go_num, hnn, HOWN.out, HMS.out.congr (fun i hi => by
                have hiK : i < K ^ N := by rw [← HMK.out]; exact hi
                by_cases h1 : p < f i
                · have h2 := lv_is R.out hiK h1
                  by_cases h3 : f i ≤ p + 1
                  · have h4 := HALL.out i hi (by simpa using h1) (by rw [h2]; simpa using h3)
                    simp [h1, h4]
                    omega
                  · have h4 : ¬ ((i : Int) ∈ nums) := fun h5 => by
                      obtain ⟨i', h6, h7, _, h8⟩ := HIN.out _ h5
                      have h9 : i = i' := by omega
                      rw [← h9, h2] at h8
                      simp at h8
                      omega
                    simp [h1, h4]
                    omega
                · simp [h1]
                  omega) (fun _ _ _ => rfl), gb_trans HG5.out HG.out (fun k hk _ => hk)⟩
            | succ g3 =>
              have hj : j < nums.length := by omega
              have hj' : (j : Int) < (nums.length : Int) := by omega
              have hri := HO5.out W6 HG.out
              obtain ⟨A6, c6, e6, _, hc6⟩ := hri
              obtain ⟨b6, off6, rfl, hb6, hcell6⟩ := hc6 (by omega)
              have e7 : A5 = some ⟨b6, off6, none⟩ := by injection e6
              clear e6
              subst e7
              have hcx := hcell6 j hj
              obtain ⟨i9, hi9, hx9, hA9, _⟩ := HIN.out (nums.getD j 0) (by simp [List.getD, hj])
              have HX9 := Lib.hid hx9
              rw [hx9] at hcx
              have hkey : keyOf Try.prog 3 (.int .i64 (i9 : Int)) = some (stKey i9) := keyOf_int_mk Try.underlying3 (stKey_wf (by omega))
              have HKEY := Lib.hid hkey
              have HI9 : Hid (i9 < m) := hi9
              clear hkey hcell6 hc6 hx9 hb6
              go_wp2_with (at_delete; refine wpList_delete_own _ rfl _ _ 62 3 rfl 22 (int_keyed Try.underlying3) Try.underlying62 slElem w.heap.size nn D rfl HOWN.out _ _ rfl HKEY.out ?_; intro w7 hown7 hturn7)
              have HOWN7 := Lib.hid hown7
              have HT7 := Lib.hid hturn7.grown
              clear hown7 hturn7
              try go_wp2_with fail
              go_roundg g3
              case measure => omega
              case rel => exact ⟨j + 1, _, by omega, by go_num, HOWN7.out, (HMS.out.del HI9.out (by omega)).congr (fun i hi => by
                rw [List.take_succ_eq_append_getElem hj]
                have e1 : nums[j] = (i9 : Int) := by rw [← HX9.out]; simp [List.getD, hj]
                rw [e1]
                unfold updB
                by_cases e : i = i9
                · rw [if_pos e, e]
                  simp
                · rw [if_neg e]
                  have e2 : ¬ ((i : Int) = (i9 : Int)) := by omega
                  simp [e2]) (fun _ _ _ => rfl), gb_trans HG.out HT7.out (fun k hk _ => hk)⟩
    | succ g =>
      have hj : j < m := by omega
      have hj' : (j : Int) < (m : Int) := by omega
      have hjK : j < K ^ N := by rw [← HMK.out]; exact hj
      have hcx : W3.cell? ⟨b, j, none⟩ = some (V j) := (World.cell?_of_block (HG.out.block b HBS.out (by have := HBL.out; intro e; injection e with e; omega))).trans (HCE.out j hj)
      have hri := HRD.out W3 HG.out j hj
      have hsl := stA_len hjK
      have HONE := Lib.hid (implOne_any (V j) (stA N K j) W3 hri (by omega))
      have HK0 : Hid (keyOf Try.prog 3 (.int .i64 (j : Int)) = some (stKey j)) := keyOf_int_mk Try.underlying3 (stKey_wf (by omega))
      have HF0 : Hid (oneB (stA N K j) = !decide (0 < f j)) := by
        show _ = _
        cases h1 : oneB (stA N K j)
        · obtain ⟨q, _, h2⟩ := R.out.le j hjK h1
          simp; omega
        · have := R.out.one j hjK h1
          simp; omega
      have HJ : Hid (j < m) := hj
      obtain ⟨A5, c5, e5, _, _⟩ := hri
      rw [hsl] at e5
      have HVJ := Lib.hid e5
      rw [e5] at hcx HONE
      clear e5 hjK hsl
      cases h1 : oneB (stA N K j)
      · rw [h1] at HONE HF0
        clear h1
        go_wp2_with fail
        refine HONE.out.mono ?_; rintro e W4 ⟨rfl, hb4⟩
        have HG4 : Hid (W2.grownBy W4 (some w.heap.size)) := gb_trans HG.out (below_grown0 hb4 none) (fun k hk _ => by cases hk)
        have HOWN4 : Hid (W4.ownsMap Try.prog 3 slElem w.heap.size kb D) := by
          have h9 := HOWN.out.lt
          obtain ⟨es, clock, e1, F1, e2, e3⟩ := HOWN.out
          exact ⟨es, clock, (hb4.block _ h9).trans e1, F1, e2, e3⟩
        clear hb4
        go_wp2_with (at_mapUpdate; refine wpList_mapUpdate_own _ rfl _ _ _ 62 rfl 3 22 (int_keyed Try.underlying3) Try.underlying62 slElem w.heap.size kb _ rfl HOWN4.out (by unfold maxLen; omega) _ _ _ rfl rfl HK0.out _ [] rfl ?_; intro w5 hown5 hgrow5)
        have HOWN5 := Lib.hid hown5
        have HGR5 := Lib.hid hgrow5
        clear hown5 hgrow5
        try go_wp2_with fail
        go_roundg g
        case measure => omega
        case rel => exact ⟨j + 1, kb + 1, _, by omega, by omega, by go_num, HOWN5.out, (HMS.out.put HJ.out (by omega) _).congr (fun i hi => by
          unfold updB
          by_cases e : i = j
          · subst e
            have h9 := HF0.out
            rw [if_pos rfl]
            simp at h9
            simp; omega
          · rw [if_neg e]
            show (decide (i < j) && decide (0 < f i)) = (decide (i < j + 1) && decide (0 < f i))
            have e3 : (i < j) ↔ (i < j + 1) := ⟨fun h => by omega, fun h => by omega⟩
            rw [decide_eq_decide.2 e3]) (fun i hi hb => by
          unfold updVal
          by_cases e : i = j
          · rw [if_pos e, e, HVJ.out]
          · rw [if_neg e]), gb_trans HG4.out HGR5.out (fun k hk _ => hk)⟩
      · rw [h1] at HONE HF0
        clear h1
        go_wp2_with fail
        refine HONE.out.mono ?_; rintro e W4 ⟨rfl, hb4⟩
        have HG4 : Hid (W2.grownBy W4 (some w.heap.size)) := gb_trans HG.out (below_grown0 hb4 none) (fun k hk _ => by cases hk)
        have HOWN4 : Hid (W4.ownsMap Try.prog 3 slElem w.heap.size kb D) := by
          have h9 := HOWN.out.lt
          obtain ⟨es, clock, e1, F1, e2, e3⟩ := HOWN.out
          exact ⟨es, clock, (hb4.block _ h9).trans e1, F1, e2, e3⟩
        clear hb4
        go_wp2_with fail
        go_roundg g
        case measure => omega
        case rel => exact ⟨j + 1, kb, D, by omega, by omega, by go_num, HOWN4.out, HMS.out.congr (fun i hi => by
          by_cases e : i = j
          · subst e
            have h9 := HF0.out
            simp at h9
            simp; omega
          · have e3 : (i < j) ↔ (i < j + 1) := ⟨fun h => by omega, fun h => by omega⟩
            rw [decide_eq_decide.2 e3]) (fun _ _ _ => rfl), HG4.out⟩
set_option maxHeartbeats 4000000 in
theorem implLongestRepair_any (n k : Int) (w : World) (hx : (Lit.int .i64 n).wf = true) (hy : (Lit.int .i64 k).wf = true) :
    Calls Try.prog 28 #[.int .i64 n, .int .i64 k] w (RetV w (.tuple #[.int .i64 (longRg n k).1, .bool (longRg n k).2])) := by
  have HI := Lib.hid (isWithin_wi n 2 4 w)
  have HK := Lib.hid (isWithin_wi k n 5 w)
  cases hg : wi n 2 4
  · rw [show longRg n k = (0, false) from by simp [longRg, hg]]
    rw [hg] at HI
    clear hg
    go_enter Try.func28, Try.ntmps28
    go_wp2_with fail
    refine HI.out.mono ?_; rintro e w' ⟨rfl, rfl⟩
    go_wp2_with fail
    go_ret2
    exact ⟨rfl, Below.refl _ _⟩
  rw [hg] at HI
  cases hg2 : wi k n 5
  · rw [show longRg n k = (0, false) from by simp [longRg, hg2]]
    rw [hg2] at HK
    clear hg hg2
    go_enter Try.func28, Try.ntmps28
    go_wp2_with fail
    refine HI.out.mono ?_; rintro e w' ⟨rfl, rfl⟩
    go_wp2_with fail
    refine HK.out.mono ?_; rintro e w' ⟨rfl, rfl⟩
    go_wp2_with fail
    go_ret2
    exact ⟨rfl, Below.refl _ _⟩
  rw [hg2] at HK
  obtain ⟨N, rfl, hN⟩ : ∃ N : Nat, n = (N : Int) ∧ 2 ≤ N ∧ N ≤ 4 := by
    simp [wi] at hg
    exact ⟨n.toNat, by omega, by omega⟩
  obtain ⟨K, rfl, hK⟩ : ∃ K : Nat, k = (K : Int) ∧ N ≤ K ∧ K ≤ 5 := by
    simp [wi] at hg2
    exact ⟨k.toNat, by omega, by omega⟩
  rw [show longRg (N : Int) (K : Int) = (((mxN (fun i => (rkL N K).getD i 0) (K ^ N) : Nat) : Int), true) from by simp [longRg, hg, hg2]]
  have HL := Lib.hid (longestRepair_any N K _ _ w hN hK rfl (rk_is hN hK))
  generalize mxN (fun i => (rkL N K).getD i 0) (K ^ N) = X at HL ⊢
  clear hg hg2 hx hy
  go_enter Try.func28, Try.ntmps28
  go_wp2_with fail
  refine HI.out.mono ?_; rintro e w' ⟨rfl, rfl⟩
  go_wp2_with fail
  refine HK.out.mono ?_; rintro e w' ⟨rfl, rfl⟩
  go_wp2_with fail
  refine HL.out.mono ?_; rintro e w1 ⟨rfl, hb⟩
  have HB := Lib.hid hb
  clear hb
  go_wp2_with fail
  go_ret2
  exact ⟨rfl, HB.out⟩
end Go.Proofs.Ytgmknndmmpoliaa
