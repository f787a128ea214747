/-
  Waits, weights and overtaken jobs: the contracts, both sides.
-/
import Derived.Test.YtdlmacoblmnajaaSchedI
import Derived.Test.YtdlmacoblmnajaaSchedS
namespace Go.Proofs.Ytdlmacoblmnajaa
open Go.RowKit
set_option maxRecDepth 100000
set_option linter.unusedVariables false

theorem schd_t {js : List Jb} {ss : List Int} (h : schd js ss = true) : givenB js ss = true ∧ schedB js ss = true := by simpa [schd] using h
theorem mulW_in {a b A B : Int} (ha : 0 ≤ a) (hA : a ≤ A) (hb : 0 ≤ b) (hB : b ≤ B) : 0 ≤ a * b ∧ a * b ≤ A * B :=
  ⟨Int.mul_nonneg ha hb, Int.le_trans (Int.mul_le_mul_of_nonneg_right hA hb) (Int.mul_le_mul_of_nonneg_left hB (by omega))⟩
/-- The waits so far. -/
def partWait (js : List Jb) (ss : List Int) (n k : Nat) : List Int := waitL js ss k ++ List.replicate (n - k) 0
theorem waitL_len (js : List Jb) (ss : List Int) (k : Nat) : (waitL js ss k).length = k := by simp [waitL]
theorem waitL_succ (js : List Jb) (ss : List Int) (k : Nat) : waitL js ss (k + 1) = waitL js ss k ++ [ss.getD k 0 - js[k]!.t] := by simp [waitL, List.range_succ]
theorem partWait_len (js : List Jb) (ss : List Int) (n k : Nat) (h : k ≤ n) : (partWait js ss n k).length = n := by simp [partWait, waitL_len]; omega
theorem partWait_succ (js : List Jb) (ss : List Int) (n k : Nat) (h : k < n) : (ics (partWait js ss n k)).set k (.int .i64 (ss.getD k 0 - js[k]!.t)) = ics (partWait js ss n (k + 1)) := by
  unfold partWait ics
  rw [← List.map_set]
  congr 1
  have e : n - k = (n - (k + 1)) + 1 := by omega
  rw [e, List.replicate_succ, List.set_append_right k _ (by rw [waitL_len]; omega), waitL_len, Nat.sub_self, List.set_cons_zero, waitL_succ, List.append_assoc]
  rfl
theorem weighL_bd {js : List Jb} {ss : List Int} (h : schd js ss = true) (k : Nat) (hk : k ≤ ss.length) : 0 ≤ weighL js ss k ∧ weighL js ss k ≤ k * 100000 := by
  obtain ⟨hg, hb⟩ := schd_t h
  obtain ⟨h1, h2, h3, h4⟩ := givenB_in hg
  induction k with
  | zero => simp [weighL]
  | succ k ih =>
    have a := ih (by omega)
    have b := (schedB_t.1 hb k (by omega)).1
    have c := h3 k (by omega)
    have d := h4 k (by omega)
    have e := mulW_in (a := ss.getD k 0 - js[k]!.t) (b := js[k]!.l) (A := 5000) (B := 20) (by omega) (by omega) (by omega) (by omega)
    have f : weighL js ss (k + 1) = weighL js ss k + (ss.getD k 0 - js[k]!.t) * js[k]!.l := rfl
    rw [f]
    push_cast
    omega
theorem overL_bd (js : List Jb) (ss : List Int) (i : Nat) : 0 ≤ overL js ss i ∧ overL js ss i ≤ i * (ss.length : Int) := by
  induction i with
  | zero => simp [overL]
  | succ i ih =>
    have a := overRow_bd js ss i ss.length
    have e : overL js ss (i + 1) = overL js ss i + overRow js ss i ss.length := rfl
    rw [e]
    push_cast
    rw [Int.add_mul, Int.one_mul]
    omega

set_option maxHeartbeats 2000000 in
theorem implWaitsOf_any (v u : Value) (js : List Jb) (ss : List Int) (w : World) (h : RJbS w w.heap.size v js) (h' : RI w w.heap.size u ss) (hn : js.length ≤ 1048576) (hn2 : ss.length ≤ 1048576) :
    Calls Try.prog 12 #[v, u] w (RetLB 3 w (waitsOf js ss).1 (waitsOf js ss).2) := by
  have HA := Lib.hid (implScheduled_any v u js ss w h h' hn hn2)
  cases hg : schd js ss
  · have HF : waitsOf js ss = ([], false) := by simp [waitsOf, hg]
    rw [HF]
    rw [hg] at HA
    clear hg HF
    go_enter Try.func12, Try.ntmps12
    go_wp2_with fail
    refine HA.out.mono ?_; rintro e w1 ⟨rfl, T⟩
    go_wp2_with fail
    go_ret2
    exact ⟨_, rfl, .inl ⟨rfl, none, 0, rfl, by simp, fun _ => rfl⟩, T⟩
  have hgs := schd_t hg
  rw [hg] at HA
  have HF : waitsOf js ss = (waitL js ss ss.length, true) := by simp [waitsOf, hg]
  rw [HF]
  obtain ⟨hjl, hn3, hsb, hjb⟩ := givenB_in hgs.1
  have hst := fun i hi => (schedB_t.1 hgs.2 i hi).1
  have h0 := h
  obtain ⟨A, c, rfl, _⟩ := h
  obtain ⟨_, _, _, hc⟩ := h0.parts
  obtain ⟨A', c', rfl, hlc', hc'⟩ := h'
  have HBD := Lib.hid (fun k hk => weighL_bd hg k hk)
  obtain ⟨n, hN⟩ : ∃ n, ss.length = n := ⟨_, rfl⟩
  rw [hjl] at hc HA ⊢
  rw [hN] at hc hc' HA hlc' hn3 hsb hjb hst HBD ⊢
  have HN := Lib.hid hN
  have hn' : (n : Int) ≤ 20 := by omega
  have HSB := Lib.hid hsb
  have HJB := Lib.hid hjb
  have HST := Lib.hid hst
  have HC := Lib.hid hc
  have HC' := Lib.hid hc'
  clear HF hg hgs hjl hsb hjb hst hc hc' hN h0 hn2 hn
  go_enter Try.func12, Try.ntmps12
  go_wp2_with fail
  refine HA.out.mono ?_; rintro e w1 ⟨rfl, T1⟩
  have T := T1
  have hT := T.size
  have HT := Lib.hid T
  clear T T1
  obtain ⟨i0, hi, hz0, hz1, hz2⟩ := info_parts int_info
  go_wp2_with (at_make; refine wpList_make_full _ rfl _ _ 25 rfl w1.heap.size 3 i0 _ 1 Try.underlying25 hi hz0 hz1 _ _ _ _ n rfl rfl rfl rfl (by rw [hz2]; omega) (by unfold maxLen; omega) (Nat.le_refl _) ?_; intro w2 hown hg2)
  have hown1 : w2.ownsRow w1.heap.size 3 1 (.slice (some ⟨w1.heap.size, 0, none⟩) n n) n (ics (partWait js ss n 0)) := by
    have h1 : (Value.int IntKind.i64 0).cells = #[Value.int IntKind.i64 0] := rfl
    rw [Nat.mul_one, h1, toList_madeCells_one] at hown
    simpa [partWait, waitL, ics] using hown
  have hb1 : Below w1.heap.size w1 w2 := (Below.refl _ _).grown hg2 (Nat.le_refl _) (by intro k hk; cases hk)
  clear hown hg2
  go_loopw [18] (fun i wr => ∃ k : Nat, k ≤ n ∧ i = .int .i64 k ∧ wr.ownsRow w1.heap.size 3 1 (.slice (some ⟨w1.heap.size, 0, none⟩) n n) n (ics (partWait js ss n k)) ∧ Below w1.heap.size w1 wr)
    (fun i _ => n - (intOf i).toNat)
  case atStart => exact ⟨0, Nat.zero_le _, rfl, hown1, hb1⟩
  case round =>
    obtain ⟨k, hk, rfl, hown, hbw⟩ := hrel
    have HTW := Lib.hid (HT.out.trans (hbw.mono hT))
    have hsw := hbw.size
    by_cases hlt : k < n
    · have hlt' : (k : Int) < (n : Int) := by omega
      obtain ⟨b2, off2, hA2, hb2, hcell2⟩ := HC'.out (by omega)
      obtain ⟨b4, off4, hA4, hb4, hcell4⟩ := HC.out (by omega)
      subst hA2; subst hA4
      have hc1 := (HTW.out.cell (p := ⟨b2, off2 + k, none⟩) hb2).trans (hcell2 k hlt)
      obtain ⟨hd1, hd2, hd3⟩ := hcell4 k hlt
      have hc2 := (HTW.out.cell (p := ⟨b4, off4 + k * 3, none⟩) hb4).trans hd1
      have hc3 := (HTW.out.cell (p := ⟨b4, off4 + k * 3 + 1, none⟩) hb4).trans hd2
      have hc4 := (HTW.out.cell (p := ⟨b4, off4 + k * 3 + 2, none⟩) hb4).trans hd3
      have s1 := HSB.out k hlt
      have j1 := HJB.out k hlt
      have t1 := HST.out k hlt
      clear hd1 hd2 hd3
      obtain ⟨hlg, hgs, _⟩ := row_parts hown
      have hown2 : (wr.alloc (.cells #[.int .i64 js[k]!.t, .int .i64 js[k]!.c, .int .i64 js[k]!.l] 36)).ownsRow w1.heap.size 3 1 (.slice (some ⟨w1.heap.size, 0, none⟩) n n) n (ics (partWait js ss n k)) := World.ownsRow.alloc hown _
      have hcy : ∃ u, (wr.alloc (.cells #[.int .i64 js[k]!.t, .int .i64 js[k]!.c, .int .i64 js[k]!.l] 36)).cell? ⟨w1.heap.size, k, none⟩ = some u := by
        rw [World.ownsRow.cellAt hown2 k (by omega)]
        exact ⟨_, List.getElem?_eq_getElem (by rw [ics_length, partWait_len _ _ _ _ hk]; omega)⟩
      obtain ⟨u, hcu⟩ := hcy
      have hfz := World.ownsRow.frozenAt hown2 k
      have hst := World.ownsRow.stored hown k (.int .i64 (ss.getD k 0 - js[k]!.t))
      rw [partWait_succ js ss n k hlt] at hst
      have HS1 := Lib.hid (World.ownsRow.alloc hst.1 (.cells #[.int .i64 js[k]!.t, .int .i64 js[k]!.c, .int .i64 js[k]!.l] 36))
      have HBN := Lib.hid ((hbw.setCell (p := ⟨w1.heap.size, k, none⟩) (Nat.le_refl _) (.int .i64 (ss.getD k 0 - js[k]!.t))).alloc (by simpa [World.setCell] using hsw) (.cells #[.int .i64 js[k]!.t, .int .i64 js[k]!.c, .int .i64 js[k]!.l] 36))
      have hc1a := hc1
      generalize ss.getD k 0 = sx at hc1 s1 t1 HS1 HBN
      generalize js[k]! = y at hc2 hc3 hc4 j1 t1 hcu hfz HS1 HBN
      obtain ⟨yt, yc, yl⟩ := y
      simp only at hc2 hc3 hc4 j1 t1 hcu hfz HS1 HBN
      clear hst hown hown2 hbw hc1a
      have hq1 : (wr.alloc (.cells #[.int .i64 yt, .int .i64 yc, .int .i64 yl] 36)).cell? ⟨b2, off2 + k, none⟩ = some (.int .i64 sx) := (World.cell?_alloc_lt wr _ _ (show b2 < wr.heap.size by omega)).trans hc1
      have hgne : wr.heap.size ≠ w1.heap.size := by omega
      go_wp2_with fail
      go_region
      all_goals
        go_wp2_with fail
        go_roundw
        case rel => exact ⟨k + 1, by omega, by go_num, HS1.out, HBN.out.drew⟩
        case measure => simp [intOf]; omega
    · obtain rfl : k = n := by omega
      have e9 : partWait js ss k k = waitL js ss k := by simp [partWait]
      rw [e9] at hown
      have HOI : Hid (OI 3 wr w1.heap.size wr.heap.size (.slice (some ⟨w1.heap.size, 0, none⟩) k k) (waitL js ss k)) := by
        have h9 := hown
        have e8 := waitL_len js ss k
        exact OI.of_row (by rw [e8]; exact h9)
      clear hown hbw
      go_wp2_with fail
      go_ret2
      exact ⟨_, rfl, HOI.out.wide hT (Nat.le_refl _), HTW.out⟩
set_option maxHeartbeats 2000000 in
theorem specWaitsOf_any (v u : Value) (js : List Jb) (ss : List Int) (w : World) (h : RJbS w w.heap.size v js) (h' : RI w w.heap.size u ss) (hn : js.length ≤ 1048576) (hn2 : ss.length ≤ 1048576) :
    Calls Try.prog 13 #[v, u] w (RetLB 3 w (waitsOf js ss).1 (waitsOf js ss).2) := by
  have HA := Lib.hid (prGiven_any v u js ss w h h' hn hn2)
  cases hg1 : givenB js ss
  · have HF : waitsOf js ss = ([], false) := by simp [waitsOf, schd, hg1]
    rw [HF]
    rw [hg1] at HA
    clear hg1 HF
    go_enter Try.func13, Try.ntmps13
    go_wp2_with fail
    refine HA.out.mono ?_; rintro e w1 ⟨rfl, T⟩
    go_wp2_with fail
    go_ret2
    exact ⟨_, rfl, .inl ⟨rfl, none, 0, rfl, by simp, fun _ => rfl⟩, T⟩
  have HP := Lib.hid (fun (w' : World) (hb : Below w.heap.size w w') => prSchedule_any v u js ss w' ((h.step hb (Nat.le_refl _)).more hb.size) ((h'.step hb (Nat.le_refl _)).more hb.size) hg1)
  rw [hg1] at HA
  cases hg2 : schedB js ss
  · have HF : waitsOf js ss = ([], false) := by simp [waitsOf, schd, hg2]
    rw [HF]
    rw [hg2] at HP
    clear hg1 hg2 HF
    go_enter Try.func13, Try.ntmps13
    go_wp2_with fail
    refine HA.out.mono ?_; rintro e w1 ⟨rfl, T1⟩
    go_wp2_with fail
    refine (HP.out _ T1).mono ?_; rintro e w2 ⟨rfl, T2⟩
    have T := T1.trans (T2.mono T1.size)
    go_wp2_with fail
    go_ret2
    exact ⟨_, rfl, .inl ⟨rfl, none, 0, rfl, by simp, fun _ => rfl⟩, T⟩
  have hg : schd js ss = true := by simp [schd, hg1, hg2]
  have hgs := schd_t hg
  rw [hg2] at HP
  clear hg1 hg2
  have HF : waitsOf js ss = (waitL js ss ss.length, true) := by simp [waitsOf, hg]
  rw [HF]
  obtain ⟨hjl, hn3, hsb, hjb⟩ := givenB_in hgs.1
  have hst := fun i hi => (schedB_t.1 hgs.2 i hi).1
  have h0 := h
  obtain ⟨A, c, rfl, _⟩ := h
  obtain ⟨_, _, _, hc⟩ := h0.parts
  obtain ⟨A', c', rfl, hlc', hc'⟩ := h'
  have HBD := Lib.hid (fun k hk => weighL_bd hg k hk)
  obtain ⟨n, hN⟩ : ∃ n, ss.length = n := ⟨_, rfl⟩
  rw [hjl] at hc HA HP ⊢
  rw [hN] at hc hc' HA hlc' hn3 hsb hjb hst HBD HP ⊢
  have HN := Lib.hid hN
  have hn' : (n : Int) ≤ 20 := by omega
  have HSB := Lib.hid hsb
  have HJB := Lib.hid hjb
  have HST := Lib.hid hst
  have HC := Lib.hid hc
  have HC' := Lib.hid hc'
  clear HF hg hgs hjl hsb hjb hst hc hc' hN h0 hn2 hn
  go_enter Try.func13, Try.ntmps13
  go_wp2_with fail
  refine HA.out.mono ?_; rintro e w1 ⟨rfl, T1⟩
  go_wp2_with fail
  refine (HP.out _ T1).mono ?_; rintro e w2 ⟨rfl, T2⟩
  have T := T1.trans (T2.mono T1.size)
  have hT := T.size
  have HT := Lib.hid T
  clear T T1 T2
  obtain ⟨i0, hi, hz0, hz1, hz2⟩ := info_parts int_info
  go_wp2_with fail
  go_loopw [6, 21] (fun u i wr => ∃ k : Nat, k ≤ n ∧ i = .int .i64 k ∧ Acc 3 wr w2.heap.size u (waitL js ss k) ∧ Below w2.heap.size w2 wr)
    (fun _ i _ => n - (intOf i).toNat)
  case atStart => exact ⟨0, Nat.zero_le _, rfl, Acc.nil _ _ _, Below.refl _ _⟩
  case round =>
    obtain ⟨k, hk, rfl, hacc, hbw⟩ := hrel
    have HTW := Lib.hid (HT.out.trans (hbw.mono hT))
    have hsw := hbw.size
    by_cases hlt : k < n
    · have hlt' : (k : Int) < (n : Int) := by omega
      obtain ⟨b2, off2, hA2, hb2, hcell2⟩ := HC'.out (by omega)
      obtain ⟨b4, off4, hA4, hb4, hcell4⟩ := HC.out (by omega)
      subst hA2; subst hA4
      have hc1 := (HTW.out.cell (p := ⟨b2, off2 + k, none⟩) hb2).trans (hcell2 k hlt)
      obtain ⟨hd1, hd2, hd3⟩ := hcell4 k hlt
      have hc2 := (HTW.out.cell (p := ⟨b4, off4 + k * 3, none⟩) hb4).trans hd1
      have hc3 := (HTW.out.cell (p := ⟨b4, off4 + k * 3 + 1, none⟩) hb4).trans hd2
      have hc4 := (HTW.out.cell (p := ⟨b4, off4 + k * 3 + 2, none⟩) hb4).trans hd3
      have s1 := HSB.out k hlt
      have j1 := HJB.out k hlt
      have t1 := HST.out k hlt
      clear hd1 hd2 hd3
      have HWS := Lib.hid (waitL_succ js ss k)
      have hdl : (waitL js ss k).length < 1000000000 := by rw [waitL_len]; omega
      generalize ss.getD k 0 = sx at hc1 s1 t1 HWS
      generalize js[k]! = y at hc2 hc3 hc4 j1 t1 HWS
      obtain ⟨yt, yc, yl⟩ := y
      simp only at hc2 hc3 hc4 j1 t1 HWS
      go_wp2_with (at_builtin; refine wpList_push rfl _ _ _ rfl 3 i0 Try.underlying25 hi hz0 hz1 hz2 _ w2 w2.heap.size _ (waitL js ss k) _ rfl rfl hacc rfl hdl hsw hbw ?_; intro v3 w3 hacc3 hb3)
      rw [← HWS.out] at hacc3
      go_roundw
      case rel => first | exact ⟨k + 1, by omega, by go_num, hacc3, hb3⟩ | exact ⟨k + 1, by omega, by omega, hacc3, hb3⟩
      case measure => simp [intOf]; omega
    · obtain rfl : k = n := by omega
      have HOI := Lib.hid hacc.oi
      clear hacc hbw
      go_wp2_with fail
      go_ret2
      exact ⟨_, rfl, HOI.out.wide hT (Nat.le_refl _), HTW.out⟩
set_option maxHeartbeats 2000000 in
theorem implWeightedWait_any (v u : Value) (js : List Jb) (ss : List Int) (w : World) (h : RJbS w w.heap.size v js) (h' : RI w w.heap.size u ss) (hn : js.length ≤ 1048576) (hn2 : ss.length ≤ 1048576) :
    Calls Try.prog 14 #[v, u] w (RetV w (.tuple #[.int .i64 (weighted js ss).1, .bool (weighted js ss).2])) := by
  have HA := Lib.hid (implScheduled_any v u js ss w h h' hn hn2)
  cases hg : schd js ss
  · have HF : weighted js ss = (0, false) := by simp [weighted, hg]
    rw [HF]
    rw [hg] at HA
    clear hg HF
    go_enter Try.func14, Try.ntmps14
    go_wp2_with fail
    refine HA.out.mono ?_; rintro e w1 ⟨rfl, T⟩
    go_wp2_with fail
    go_ret2
    exact ⟨rfl, T⟩
  have hgs := schd_t hg
  rw [hg] at HA
  have HF : weighted js ss = (weighL js ss ss.length, true) := by simp [weighted, hg]
  rw [HF]
  obtain ⟨hjl, hn3, hsb, hjb⟩ := givenB_in hgs.1
  have hst := fun i hi => (schedB_t.1 hgs.2 i hi).1
  have h0 := h
  obtain ⟨A, c, rfl, _⟩ := h
  obtain ⟨_, _, _, hc⟩ := h0.parts
  obtain ⟨A', c', rfl, hlc', hc'⟩ := h'
  have HBD := Lib.hid (fun k hk => weighL_bd hg k hk)
  obtain ⟨n, hN⟩ : ∃ n, ss.length = n := ⟨_, rfl⟩
  rw [hjl] at hc HA ⊢
  rw [hN] at hc hc' HA hlc' hn3 hsb hjb hst HBD ⊢
  have HN := Lib.hid hN
  have hn' : (n : Int) ≤ 20 := by omega
  have HSB := Lib.hid hsb
  have HJB := Lib.hid hjb
  have HST := Lib.hid hst
  have HC := Lib.hid hc
  have HC' := Lib.hid hc'
  clear HF hg hgs hjl hsb hjb hst hc hc' hN h0 hn2 hn
  go_enter Try.func14, Try.ntmps14
  go_wp2_with fail
  refine HA.out.mono ?_; rintro e w1 ⟨rfl, T1⟩
  have T := T1
  have hT := T.size
  have HT := Lib.hid T
  clear T T1
  go_wp2_with fail
  go_loopw [6, 15] (fun u i wr => ∃ k : Nat, k ≤ n ∧ i = .int .i64 k ∧ u = .int .i64 (weighL js ss k) ∧ Below w1.heap.size w1 wr) (fun _ i _ => n - (intOf i).toNat)
  case atStart => exact ⟨0, Nat.zero_le _, rfl, rfl, Below.refl _ _⟩
  case round =>
    obtain ⟨k, hk, rfl, rfl, hbw⟩ := hrel
    have HTW := Lib.hid (HT.out.trans (hbw.mono hT))
    have hsw := hbw.size
    have hbd := HBD.out k hk
    by_cases hlt : k < n
    · have hlt' : (k : Int) < (n : Int) := by omega
      obtain ⟨b2, off2, hA2, hb2, hcell2⟩ := HC'.out (by omega)
      obtain ⟨b4, off4, hA4, hb4, hcell4⟩ := HC.out (by omega)
      subst hA2; subst hA4
      have hc1 := (HTW.out.cell (p := ⟨b2, off2 + k, none⟩) hb2).trans (hcell2 k hlt)
      obtain ⟨hd1, hd2, hd3⟩ := hcell4 k hlt
      have hc2 := (HTW.out.cell (p := ⟨b4, off4 + k * 3, none⟩) hb4).trans hd1
      have hc3 := (HTW.out.cell (p := ⟨b4, off4 + k * 3 + 1, none⟩) hb4).trans hd2
      have hc4 := (HTW.out.cell (p := ⟨b4, off4 + k * 3 + 2, none⟩) hb4).trans hd3
      have s1 := HSB.out k hlt
      have j1 := HJB.out k hlt
      have t1 := HST.out k hlt
      clear hd1 hd2 hd3
      have HWS : Hid (weighL js ss (k + 1) = weighL js ss k + (ss.getD k 0 - js[k]!.t) * js[k]!.l) := rfl
      generalize weighL js ss k = S at hbd HWS ⊢
      generalize ss.getD k 0 = sx at hc1 s1 t1 HWS
      generalize js[k]! = y at hc2 hc3 hc4 j1 t1 HWS
      obtain ⟨yt, yc, yl⟩ := y
      simp only at hc2 hc3 hc4 j1 t1 HWS
      have hm := mulW_in (a := sx - yt) (b := yl) (A := 5000) (B := 20) (by omega) (by omega) (by omega) (by omega)
      have e0 : IntKind.i64.wrap ((sx - yt) * yl) = (sx - yt) * yl := IntWalk.i64_in _ (by omega)
      obtain ⟨V, hV⟩ : ∃ V, (sx - yt) * yl = V := ⟨_, rfl⟩
      rw [hV] at e0 hm HWS
      have e1 : IntKind.i64.wrap (S + V) = S + V := IntWalk.i64_in _ (by omega)
      have e2 : IntKind.i64.wrap (sx - yt) = sx - yt := IntWalk.i64_in _ (by omega)
      have HVV := Lib.hid hV
      clear hV
      have hq1 : (wr.alloc (.cells #[.int .i64 yt, .int .i64 yc, .int .i64 yl] 36)).cell? ⟨b2, off2 + k, none⟩ = some (.int .i64 sx) := (World.cell?_alloc_lt wr _ _ (show b2 < wr.heap.size by omega)).trans hc1
      have HBN := Lib.hid (hbw.alloc hsw (.cells #[.int .i64 yt, .int .i64 yc, .int .i64 yl] 36))
      clear hbw
      go_wp2_with fail
      go_quiet (fail)
      go_wp2_with fail
      go_roundw
      case rel => exact ⟨k + 1, by omega, by go_num, by rw [HWS.out]; congr 1; rw [HVV.out]; unfold wrap64; omega, below_drewN HBN.out _⟩
      case measure => simp [intOf]; omega
    · obtain rfl : k = n := by omega
      clear hbw
      go_wp2_with fail
      go_ret2
      exact ⟨rfl, HTW.out⟩
set_option maxHeartbeats 2000000 in
theorem specWeightedWait_any (v u : Value) (js : List Jb) (ss : List Int) (w : World) (h : RJbS w w.heap.size v js) (h' : RI w w.heap.size u ss) (hn : js.length ≤ 1048576) (hn2 : ss.length ≤ 1048576) :
    Calls Try.prog 15 #[v, u] w (RetV w (.tuple #[.int .i64 (weighted js ss).1, .bool (weighted js ss).2])) := by
  have HA := Lib.hid (prGiven_any v u js ss w h h' hn hn2)
  cases hg1 : givenB js ss
  · have HF : weighted js ss = (0, false) := by simp [weighted, schd, hg1]
    rw [HF]
    rw [hg1] at HA
    clear hg1 HF
    go_enter Try.func15, Try.ntmps15
    go_wp2_with fail
    refine HA.out.mono ?_; rintro e w1 ⟨rfl, T⟩
    go_wp2_with fail
    go_ret2
    exact ⟨rfl, T⟩
  have HP := Lib.hid (fun (w' : World) (hb : Below w.heap.size w w') => prSchedule_any v u js ss w' ((h.step hb (Nat.le_refl _)).more hb.size) ((h'.step hb (Nat.le_refl _)).more hb.size) hg1)
  rw [hg1] at HA
  cases hg2 : schedB js ss
  · have HF : weighted js ss = (0, false) := by simp [weighted, schd, hg2]
    rw [HF]
    rw [hg2] at HP
    clear hg1 hg2 HF
    go_enter Try.func15, Try.ntmps15
    go_wp2_with fail
    refine HA.out.mono ?_; rintro e w1 ⟨rfl, T1⟩
    go_wp2_with fail
    refine (HP.out _ T1).mono ?_; rintro e w2 ⟨rfl, T2⟩
    have T := T1.trans (T2.mono T1.size)
    go_wp2_with fail
    go_ret2
    exact ⟨rfl, T⟩
  have hg : schd js ss = true := by simp [schd, hg1, hg2]
  have hgs := schd_t hg
  rw [hg2] at HP
  clear hg1 hg2
  have HF : weighted js ss = (weighL js ss ss.length, true) := by simp [weighted, hg]
  rw [HF]
  obtain ⟨hjl, hn3, hsb, hjb⟩ := givenB_in hgs.1
  have hst := fun i hi => (schedB_t.1 hgs.2 i hi).1
  have h0 := h
  obtain ⟨A, c, rfl, _⟩ := h
  obtain ⟨_, _, _, hc⟩ := h0.parts
  obtain ⟨A', c', rfl, hlc', hc'⟩ := h'
  have HBD := Lib.hid (fun k hk => weighL_bd hg k hk)
  obtain ⟨n, hN⟩ : ∃ n, ss.length = n := ⟨_, rfl⟩
  rw [hjl] at hc HA HP ⊢
  rw [hN] at hc hc' HA hlc' hn3 hsb hjb hst HBD HP ⊢
  have HN := Lib.hid hN
  have hn' : (n : Int) ≤ 20 := by omega
  have HSB := Lib.hid hsb
  have HJB := Lib.hid hjb
  have HST := Lib.hid hst
  have HC := Lib.hid hc
  have HC' := Lib.hid hc'
  clear HF hg hgs hjl hsb hjb hst hc hc' hN h0 hn2 hn
  go_enter Try.func15, Try.ntmps15
  go_wp2_with fail
  refine HA.out.mono ?_; rintro e w1 ⟨rfl, T1⟩
  go_wp2_with fail
  refine (HP.out _ T1).mono ?_; rintro e w2 ⟨rfl, T2⟩
  have T := T1.trans (T2.mono T1.size)
  have hT := T.size
  have HT := Lib.hid T
  clear T T1 T2
  go_wp2_with fail
  go_loopw [6, 21] (fun u i wr => ∃ k : Nat, k ≤ n ∧ i = .int .i64 k ∧ u = .int .i64 (weighL js ss k) ∧ Below w2.heap.size w2 wr) (fun _ i _ => n - (intOf i).toNat)
  case atStart => exact ⟨0, Nat.zero_le _, rfl, rfl, Below.refl _ _⟩
  case round =>
    obtain ⟨k, hk, rfl, rfl, hbw⟩ := hrel
    have HTW := Lib.hid (HT.out.trans (hbw.mono hT))
    have hsw := hbw.size
    have hbd := HBD.out k hk
    by_cases hlt : k < n
    · have hlt' : (k : Int) < (n : Int) := by omega
      obtain ⟨b2, off2, hA2, hb2, hcell2⟩ := HC'.out (by omega)
      obtain ⟨b4, off4, hA4, hb4, hcell4⟩ := HC.out (by omega)
      subst hA2; subst hA4
      have hc1 := (HTW.out.cell (p := ⟨b2, off2 + k, none⟩) hb2).trans (hcell2 k hlt)
      obtain ⟨hd1, hd2, hd3⟩ := hcell4 k hlt
      have hc2 := (HTW.out.cell (p := ⟨b4, off4 + k * 3, none⟩) hb4).trans hd1
      have hc3 := (HTW.out.cell (p := ⟨b4, off4 + k * 3 + 1, none⟩) hb4).trans hd2
      have hc4 := (HTW.out.cell (p := ⟨b4, off4 + k * 3 + 2, none⟩) hb4).trans hd3
      have s1 := HSB.out k hlt
      have j1 := HJB.out k hlt
      have t1 := HST.out k hlt
      clear hd1 hd2 hd3
      have HWS : Hid (weighL js ss (k + 1) = weighL js ss k + (ss.getD k 0 - js[k]!.t) * js[k]!.l) := rfl
      generalize weighL js ss k = S at hbd HWS ⊢
      generalize ss.getD k 0 = sx at hc1 s1 t1 HWS
      generalize js[k]! = y at hc2 hc3 hc4 j1 t1 HWS
      obtain ⟨yt, yc, yl⟩ := y
      simp only at hc2 hc3 hc4 j1 t1 HWS
      have hm := mulW_in (a := sx - yt) (b := yl) (A := 5000) (B := 20) (by omega) (by omega) (by omega) (by omega)
      have e0 : IntKind.i64.wrap ((sx - yt) * yl) = (sx - yt) * yl := IntWalk.i64_in _ (by omega)
      obtain ⟨V, hV⟩ : ∃ V, (sx - yt) * yl = V := ⟨_, rfl⟩
      rw [hV] at e0 hm HWS
      have e1 : IntKind.i64.wrap (S + V) = S + V := IntWalk.i64_in _ (by omega)
      have e2 : IntKind.i64.wrap (sx - yt) = sx - yt := IntWalk.i64_in _ (by omega)
      have HVV := Lib.hid hV
      clear hV
      have HBN := Lib.hid (hbw)
      clear hbw
      go_wp2_with fail
      go_quiet (fail)
      go_wp2_with fail
      go_roundw
      case rel => exact ⟨k + 1, by omega, by go_num, by rw [HWS.out]; congr 1; rw [HVV.out]; unfold wrap64; omega, below_drewN HBN.out _⟩
      case measure => simp [intOf]; omega
    · obtain rfl : k = n := by omega
      clear hbw
      go_wp2_with fail
      go_ret2
      exact ⟨rfl, HTW.out⟩
end Go.Proofs.Ytdlmacoblmnajaa
