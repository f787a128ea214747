/-
  Token rings: the contracts of FullCalls.
-/
import Derived.Test.YtfkjiagagidmmaaTokA
import Derived.Test.YtfkjiagagidmmaaSCall
import Derived.Test.YtfkjiagagidmmaaMathRing
namespace Go.Proofs.Ytfkjiagagidmmaa
open Go.RowKit
set_option maxRecDepth 100000
set_option linter.unusedVariables false

theorem fullCalls_no {x : Tr} {n : Int} (h : (isTr x && (wi n 0 10 && decide (x.k * n ≤ 20))) = false) : fullCalls x n = ([], false) := by simp only [fullCalls, h]; rfl
theorem fullCalls_yes {x : Tr} {n : Int} (h : (isTr x && (wi n 0 10 && decide (x.k * n ≤ 20))) = true) : fullCalls x n = (clBlocks x.k n.toNat x.k.toNat, true) := by simp only [fullCalls, h, if_true]
theorem clBlocks_succ (k : Int) (n s : Nat) : clBlocks k n (s + 1) = clBlocks k n s ++ clBlock k n s := by simp [clBlocks, List.range_succ]
theorem clBlocks_len (k : Int) (n s : Nat) : (clBlocks k n s).length = s * n := by
  induction s with
  | zero => simp [clBlocks]
  | succ s ih => rw [clBlocks_succ, List.length_append, ih]; simp [clBlock, Nat.succ_mul]
theorem fullCalls_len (x : Tr) (n : Int) : (fullCalls x n).1.length ≤ 1048576 := by
  cases h : (isTr x && (wi n 0 10 && decide (x.k * n ≤ 20)))
  · rw [fullCalls_no h]; simp
  · rw [fullCalls_yes h]
    simp only [Bool.and_eq_true, wi, decide_eq_true_eq] at h
    have h1 := (isTr_in h.1).1
    simp only
    rw [clBlocks_len]
    have h2 : x.k.toNat * n.toNat ≤ 12 * 10 := Nat.mul_le_mul (by omega) (by omega)
    omega
/-- What a call gathers: a list of calls. -/
def AccCl (w : World) (lo : Nat) (v : Value) (l : List Cl) : Prop := AccK 3 51 w lo v l.length (flatCl l)
theorem AccCl.nil (w : World) (lo : Nat) : AccCl w lo (.slice none 0 0) [] := AccK.nil _ _ _ _
theorem flatCl_snoc (l : List Cl) (x : Cl) : flatCl (l ++ [x]) = flatCl l ++ [x.t, x.f, x.o] := by simp [flatCl]
theorem AccK.step {k : Nat} {E : TypeId} {w w' : World} {lo : Nat} {v : Value} {n : Nat} {l : List Int} (h : AccK k E w lo v n l) (hb : Below w.heap.size w w') : AccK k E w' lo v n l := by
  refine ⟨h.1, ?_⟩
  rcases h.2.2 with ⟨rfl, hn⟩ | ⟨g, c, cur, rfl, hg, hh, _⟩
  · exact ⟨h.2.1, .inl ⟨rfl, hn⟩⟩
  · exact rowk_far h.2 (Wr.of_below hb w.heap.size w.heap.size) (.inl (Array.getElem?_eq_some_iff.1 hh).1)
theorem trBehind_any (x : Tr) (s : Int) (w : World) (hk : 2 ≤ x.k ∧ x.k ≤ 12) (hs : 0 ≤ s ∧ s < x.k) : Calls Try.prog 42 #[TrV x, .int .i64 s] w (RetV w (.int .i64 ((s + 1) % x.k))) := by
  obtain ⟨k, h, q⟩ := x
  simp only [TrV] at hk hs ⊢
  have hW : Below w.heap.size w (w.alloc (.cells #[.int .i64 k, .int .i64 h, .int .i64 q] 25)) := (Below.refl _ _).alloc (Nat.le_refl _) _
  have e1 : (s + 1).tmod k = (s + 1) % k := Int.tmod_eq_emod_of_nonneg (by omega)
  have e2 := nx_in hs.1 hs.2
  unfold nx at e2
  have e3 : IntKind.i64.wrap ((s + 1) % k) = (s + 1) % k := IntWalk.i64_in _ (by omega)
  have e4 : k ≠ 0 := by omega
  generalize (s + 1) % k = t at e1 e2 e3 ⊢
  go_enter Try.func42, Try.ntmps42
  go_wp2
  go_ret
  exact ⟨rfl, hW⟩

set_option maxHeartbeats 2000000 in
theorem implFullCalls_any (x : Tr) (n : Int) (w : World) (hx : (Lit.int .i64 n).wf = true) : Calls Try.prog 30 #[TrV x, .int .i64 n] w (RetClSB w (fullCalls x n).1 (fullCalls x n).2) := by
  have HG := Lib.hid (fun w => implIsTokenRing_any x w)
  obtain ⟨i0, hi, hz0, hz1, hz2⟩ := info_parts call_info
  cases hg : isTr x
  · skip
    rw [fullCalls_no (by simp [hg])]
    rw [hg] at HG
    obtain ⟨k, h, q⟩ := x
    simp only [TrV] at HG ⊢
    have hW : Below w.heap.size w (w.alloc (.cells #[.int .i64 k, .int .i64 h, .int .i64 q] 25)) := (Below.refl _ _).alloc (Nat.le_refl _) _
    clear hg
    go_enter Try.func30, Try.ntmps30
    go_wp2_with fail
    refine (HG.out _).mono ?_; rintro e w1 ⟨rfl, hb⟩
    go_wp2_with fail
    go_ret2
    exact ⟨_, rfl, OK.nil _ _ _ _ _, hW.trans (hb.mono hW.size)⟩
  have hin := isTr_in hg
  cases hwa : wi n 0 10
  · skip
    rw [fullCalls_no (by simp [hwa])]
    rw [hg] at HG
    obtain ⟨k, h, q⟩ := x
    simp only [TrV] at HG ⊢
    have hW : Below w.heap.size w (w.alloc (.cells #[.int .i64 k, .int .i64 h, .int .i64 q] 25)) := (Below.refl _ _).alloc (Nat.le_refl _) _
    clear hg
    go_enter Try.func30, Try.ntmps30
    go_wp2_with fail
    refine (HG.out _).mono ?_; rintro e w1 ⟨rfl, hb⟩
    go_wp2_with (go_at_call 34; refine (isWithin_wi _ _ _ _).mono ?_; rintro e w' ⟨rfl, rfl⟩)
    go_ret2
    exact ⟨_, rfl, OK.nil _ _ _ _ _, hW.trans (hb.mono hW.size)⟩
  by_cases hx2 : ¬ x.k * n ≤ 20
  · skip
    rw [fullCalls_no (by simp [hx2])]
    rw [hg] at HG
    obtain ⟨k, h, q⟩ := x
    simp only [TrV] at HG hx2 hin ⊢
    have hW : Below w.heap.size w (w.alloc (.cells #[.int .i64 k, .int .i64 h, .int .i64 q] 25)) := (Below.refl _ _).alloc (Nat.le_refl _) _
    have hB := BK.made w 25 #[.int .i64 k, .int .i64 h, .int .i64 q]
    have hn2 : 0 ≤ n ∧ n ≤ 10 := by simpa [wi] using hwa
    have hm := mul_in (a := k) (b := n) (A := 12) (B := 10) (by omega) (by omega) (by omega) (by omega)
    have hx3 : 20 < k * n := by omega
    obtain ⟨P, hP⟩ : ∃ P, k * n = P := ⟨_, rfl⟩
    rw [hP] at hm hx3
    have e1 : IntKind.i64.wrap (n * k) = P := by rw [Int.mul_comm]; rw [hP]; exact IntWalk.i64_in _ (by omega)
    have HP := Lib.hid hP
    clear hP hx2
    clear hg
    go_enter Try.func30, Try.ntmps30
    go_wp2_with fail
    refine (HG.out _).mono ?_; rintro e w1 ⟨rfl, hb⟩
    have c0 := (hB.step hb).cell 0
    simp at c0
    go_wp2_with (go_at_call 34; refine (isWithin_wi _ _ _ _).mono ?_; rintro e w' ⟨rfl, rfl⟩)
    go_ret2
    exact ⟨_, rfl, OK.nil _ _ _ _ _, hW.trans (hb.mono hW.size)⟩
  have hx2 : x.k * n ≤ 20 := by omega
  rw [fullCalls_yes (by simp [hg, hwa, hx2])]
  have HB := Lib.hid (fun s w hs => trBehind_any x s w hin.1 hs)
  rw [hg] at HG
  obtain ⟨k, h, q⟩ := x
  simp only [TrV] at HG hin hx2 HB ⊢
  have hn2 : 0 ≤ n ∧ n ≤ 10 := by simpa [wi] using hwa
  clear hg
  have hm := mul_in (a := k) (b := n) (A := 12) (B := 10) (by omega) (by omega) (by omega) (by omega)
  obtain ⟨K, rfl⟩ : ∃ K : Nat, k = (K : Int) := ⟨k.toNat, by omega⟩
  obtain ⟨N, rfl⟩ : ∃ N : Nat, n = (N : Int) := ⟨n.toNat, by omega⟩
  rw [Int.toNat_natCast, Int.toNat_natCast]
  obtain ⟨P, hP⟩ : ∃ P : Nat, (K : Int) * (N : Int) = (P : Int) := ⟨K * N, by simp⟩
  have e1 : IntKind.i64.wrap ((N : Int) * (K : Int)) = (P : Int) := by rw [Int.mul_comm]; rw [hP]; exact IntWalk.i64_in _ (by omega)
  rw [hP] at hx2 hm
  have hKN : K * N ≤ 20 := by have h9 : ((K * N : Nat) : Int) ≤ 20 := by rw [Int.natCast_mul, hP]; exact hx2
                              omega
  have hln := clBlocks_len K N
  have hmn : ∀ s, s ≤ K → s * N ≤ 20 := fun s hs => by have := Nat.mul_le_mul_right N hs; omega
  have hms : ∀ s, s < K → s * N + N ≤ 20 := fun s hs => by have := hmn (s + 1) (by omega); rw [Nat.succ_mul] at this; exact this
  have HPP := Lib.hid hP
  clear hP hKN
  have HLN := Lib.hid hln
  have HMN := Lib.hid hmn
  have HMS := Lib.hid hms
  clear hln hmn hms
  have hW : Below w.heap.size w (w.alloc (.cells #[.int .i64 K, .int .i64 h, .int .i64 q] 25)) := (Below.refl _ _).alloc (Nat.le_refl _) _
  have hB := BK.made w 25 #[.int .i64 K, .int .i64 h, .int .i64 q]
  go_enter Try.func30, Try.ntmps30
  go_wp2_with fail
  refine (HG.out _).mono ?_; rintro e w1 ⟨rfl, hb⟩
  have hB1 := hB.step hb
  have T1 := hW.trans (hb.mono hW.size)
  have c0 := hB1.cell 0
  have c1 := hB1.cell 1
  simp at c0 c1
  have hz := T1.size
  have hz3 := hB1.1
  clear hW hB hb
  go_wp2_with (first
    | (go_at_call 34; refine (isWithin_wi _ _ _ _).mono ?_; rintro e w' ⟨rfl, rfl⟩)
    | (at_make; refine wpList_make_own _ rfl _ _ 32 rfl w1.heap.size 51 i0 _ 3 Try.underlying32 hi hz0 hz1 _ _ _ P rfl rfl (by omega) (by rw [hz2]; omega) (by unfold maxLen; omega) (Nat.le_refl _) ?_; intro w2 hown hg2; have d0 := (hB1.step ((Below.refl _ _).grown hg2 (Nat.le_refl _) (by intro k hk; cases hk))).cell 0; simp at d0))
  have hb1 : Below w1.heap.size w1 w2 := (Below.refl _ _).grown hg2 (Nat.le_refl _) (by intro k hk; cases hk)
  have ha1 : AccCl w2 w1.heap.size (.slice (some ⟨w1.heap.size, 0, none⟩) 0 P) (clBlocks K N 0) := ⟨rfl, hown⟩
  clear hown hg2
  clear c0 c1
  go_loopw [6, 30] (fun u i wr => ∃ j : Nat, j ≤ K ∧ i = .int .i64 j ∧ AccCl wr w1.heap.size u (clBlocks K N j) ∧ Below w1.heap.size w1 wr) (fun _ i _ => K - (intOf i).toNat)
  case atStart => exact ⟨0, Nat.zero_le _, rfl, ha1, hb1⟩
  case round =>
    obtain ⟨j, hj, rfl, hacc, hbw⟩ := hrel
    have hB2 := hB1.step (hbw.mono (by omega))
    have c0 := hB2.cell 0
    have c1 := hB2.cell 1
    simp at c0 c1
    by_cases hlt : j < K
    · have hji : (j : Int) < (K : Int) := by omega
      have HT : Hid (clBlocks K N (j + 1) = clBlocks K N j ++ List.replicate N ⟨0, j, (j + 1) % K⟩) := clBlocks_succ _ _ _
      have hlen : (clBlocks K N j).length + N ≤ 20 := by rw [HLN.out]; exact HMS.out j hlt
      generalize clBlocks K N j = done at hacc HT hlen
      obtain ⟨wo, rfl⟩ : ∃ wo : World, wo = wr := ⟨_, rfl⟩
      clear hB2
      go_wp2_with fail
      clear c0 c1
      go_loopw [6, 34] (fun u i wr => ∃ m : Nat, m ≤ N ∧ i = .int .i64 m ∧ AccCl wr w1.heap.size u (done ++ List.replicate m ⟨0, j, (j + 1) % K⟩) ∧ Below w1.heap.size w1 wr) (fun _ i _ => N - (intOf i).toNat)
      case atStart => exact ⟨0, Nat.zero_le _, rfl, by simpa using hacc, hbw⟩
      case round =>
        obtain ⟨m, hm9, rfl, hacc, hbw⟩ := hrel
        have hB2 := hB1.step hbw
        have c0 := hB2.cell 0
        have c1 := hB2.cell 1
        have c2 := hB2.cell 2
        simp at c0 c1 c2
        have hsz := hbw.size
        by_cases hmt : m < N
        · have hmi : (m : Int) < (N : Int) := by omega
          have HA : Hid (done ++ List.replicate (m + 1) (⟨0, j, (j + 1) % K⟩ : Cl) = (done ++ List.replicate m ⟨0, j, (j + 1) % K⟩) ++ [⟨0, j, (j + 1) % K⟩]) := by show done ++ _ = _; rw [List.replicate_succ', List.append_assoc]
          have hdl : (done ++ List.replicate m (⟨0, j, (j + 1) % K⟩ : Cl)).length ≤ 20 := by rw [List.length_append, List.length_replicate]; omega
          generalize done ++ List.replicate m (⟨0, j, (j + 1) % K⟩ : Cl) = acc at hacc HA hdl
          go_wp2_with fail
          refine (HB.out j _ ⟨by omega, hji⟩).mono ?_; rintro e w4 ⟨rfl, hb4⟩
          have hacc2 := AccK.step hacc hb4
          have hbw2 := hbw.trans (hb4.mono (by omega))
          have hsz2 := hb4.size
          clear hacc hB2
          go_wp2_with (at_builtin; refine wpList_pushK rfl _ _ _ rfl 51 i0 Try.underlying32 hi _ 3 24 hz0 hz1 hz2 rfl (by omega) (by omega) _ w1 w1.heap.size _ acc.length (flatCl acc) [0, j, ((j : Int) + 1) % K] _ rfl rfl rfl rfl hacc2 rfl (by omega) (by omega) hbw2 ?_; intro v3 w3 hacc3 hb3)
          have hacc4 : AccCl w3 w1.heap.size v3 (acc ++ [⟨0, j, (j + 1) % K⟩]) := by
            unfold AccCl
            rw [List.length_append, flatCl_snoc]
            exact hacc3
          rw [← HA.out] at hacc4
          clear hacc3
          go_roundw
          case rel => first | exact ⟨m + 1, by omega, by go_num, hacc4, hb3⟩ | exact ⟨m + 1, by omega, by omega, hacc4, hb3⟩
          case measure => simp [intOf]; omega
        · obtain rfl : m = N := by omega
          have hacc9 := hacc
          rw [← HT.out] at hacc9
          clear hacc hB2
          go_wp2_with fail
          go_roundw
          case rel => first | exact ⟨j + 1, by omega, by go_num, hacc9, hbw⟩ | exact ⟨j + 1, by omega, by omega, hacc9, hbw⟩
          case measure => simp [intOf]; omega
    · obtain rfl : j = K := by omega
      have HOI := Lib.hid (AccK.ok hacc)
      clear hacc
      have hz2' := hbw.size
      clear hB2
      go_wp2_with fail
      go_ret2
      exact ⟨_, rfl, HOI.out.wide hz (Nat.le_refl _), T1.trans (hbw.mono hz)⟩

set_option maxHeartbeats 2000000 in
theorem specFullCalls_any (x : Tr) (n : Int) (w : World) (hx : (Lit.int .i64 n).wf = true) : Calls Try.prog 29 #[TrV x, .int .i64 n] w (RetClSB w (fullCalls x n).1 (fullCalls x n).2) := by
  have HG := Lib.hid (fun w => tkGood_any x w)
  obtain ⟨i0, hi, hz0, hz1, hz2⟩ := info_parts call_info
  cases hg : isTr x
  · skip
    rw [fullCalls_no (by simp [hg])]
    rw [hg] at HG
    obtain ⟨k, h, q⟩ := x
    simp only [TrV] at HG ⊢
    have hW : Below w.heap.size w (w.alloc (.cells #[.int .i64 k, .int .i64 h, .int .i64 q] 25)) := (Below.refl _ _).alloc (Nat.le_refl _) _
    clear hg
    go_enter Try.func29, Try.ntmps29
    go_wp2_with fail
    refine (HG.out _).mono ?_; rintro e w1 ⟨rfl, hb⟩
    go_wp2_with fail
    go_ret2
    exact ⟨_, rfl, OK.nil _ _ _ _ _, hW.trans (hb.mono hW.size)⟩
  have hin := isTr_in hg
  cases hwa : wi n 0 10
  · skip
    rw [fullCalls_no (by simp [hwa])]
    rw [hg] at HG
    obtain ⟨k, h, q⟩ := x
    simp only [TrV] at HG ⊢
    have hW : Below w.heap.size w (w.alloc (.cells #[.int .i64 k, .int .i64 h, .int .i64 q] 25)) := (Below.refl _ _).alloc (Nat.le_refl _) _
    clear hg
    go_enter Try.func29, Try.ntmps29
    go_wp2_with fail
    refine (HG.out _).mono ?_; rintro e w1 ⟨rfl, hb⟩
    go_wp2_with (go_at_call 41; refine (l1In_wi _ _ _ _).mono ?_; rintro e w' ⟨rfl, rfl⟩)
    go_ret2
    exact ⟨_, rfl, OK.nil _ _ _ _ _, hW.trans (hb.mono hW.size)⟩
  by_cases hx2 : ¬ x.k * n ≤ 20
  · skip
    rw [fullCalls_no (by simp [hx2])]
    rw [hg] at HG
    obtain ⟨k, h, q⟩ := x
    simp only [TrV] at HG hx2 hin ⊢
    have hW : Below w.heap.size w (w.alloc (.cells #[.int .i64 k, .int .i64 h, .int .i64 q] 25)) := (Below.refl _ _).alloc (Nat.le_refl _) _
    have hB := BK.made w 25 #[.int .i64 k, .int .i64 h, .int .i64 q]
    have hn2 : 0 ≤ n ∧ n ≤ 10 := by simpa [wi] using hwa
    have hm := mul_in (a := k) (b := n) (A := 12) (B := 10) (by omega) (by omega) (by omega) (by omega)
    have hx3 : 20 < k * n := by omega
    obtain ⟨P, hP⟩ : ∃ P, k * n = P := ⟨_, rfl⟩
    rw [hP] at hm hx3
    have e1 : IntKind.i64.wrap (k * n) = P := by rw [hP]; exact IntWalk.i64_in _ (by omega)
    have HP := Lib.hid hP
    clear hP hx2
    clear hg
    go_enter Try.func29, Try.ntmps29
    go_wp2_with fail
    refine (HG.out _).mono ?_; rintro e w1 ⟨rfl, hb⟩
    have c0 := (hB.step hb).cell 0
    simp at c0
    go_wp2_with (go_at_call 41; refine (l1In_wi _ _ _ _).mono ?_; rintro e w' ⟨rfl, rfl⟩)
    go_ret2
    exact ⟨_, rfl, OK.nil _ _ _ _ _, hW.trans (hb.mono hW.size)⟩
  have hx2 : x.k * n ≤ 20 := by omega
  rw [fullCalls_yes (by simp [hg, hwa, hx2])]
  have HB := Lib.hid (fun s w hs => trBehind_any x s w hin.1 hs)
  rw [hg] at HG
  obtain ⟨k, h, q⟩ := x
  simp only [TrV] at HG hin hx2 HB ⊢
  have hn2 : 0 ≤ n ∧ n ≤ 10 := by simpa [wi] using hwa
  clear hg
  have hm := mul_in (a := k) (b := n) (A := 12) (B := 10) (by omega) (by omega) (by omega) (by omega)
  obtain ⟨K, rfl⟩ : ∃ K : Nat, k = (K : Int) := ⟨k.toNat, by omega⟩
  obtain ⟨N, rfl⟩ : ∃ N : Nat, n = (N : Int) := ⟨n.toNat, by omega⟩
  rw [Int.toNat_natCast, Int.toNat_natCast]
  obtain ⟨P, hP⟩ : ∃ P : Nat, (K : Int) * (N : Int) = (P : Int) := ⟨K * N, by simp⟩
  have e1 : IntKind.i64.wrap ((K : Int) * (N : Int)) = (P : Int) := by rw [hP]; exact IntWalk.i64_in _ (by omega)
  rw [hP] at hx2 hm
  have hKN : K * N ≤ 20 := by have h9 : ((K * N : Nat) : Int) ≤ 20 := by rw [Int.natCast_mul, hP]; exact hx2
                              omega
  have hln := clBlocks_len K N
  have hmn : ∀ s, s ≤ K → s * N ≤ 20 := fun s hs => by have := Nat.mul_le_mul_right N hs; omega
  have hms : ∀ s, s < K → s * N + N ≤ 20 := fun s hs => by have := hmn (s + 1) (by omega); rw [Nat.succ_mul] at this; exact this
  have HPP := Lib.hid hP
  clear hP hKN
  have HLN := Lib.hid hln
  have HMN := Lib.hid hmn
  have HMS := Lib.hid hms
  clear hln hmn hms
  have hW : Below w.heap.size w (w.alloc (.cells #[.int .i64 K, .int .i64 h, .int .i64 q] 25)) := (Below.refl _ _).alloc (Nat.le_refl _) _
  have hB := BK.made w 25 #[.int .i64 K, .int .i64 h, .int .i64 q]
  go_enter Try.func29, Try.ntmps29
  go_wp2_with fail
  refine (HG.out _).mono ?_; rintro e w1 ⟨rfl, hb⟩
  have hB1 := hB.step hb
  have T1 := hW.trans (hb.mono hW.size)
  have c0 := hB1.cell 0
  have c1 := hB1.cell 1
  simp at c0 c1
  have hz := T1.size
  have hz3 := hB1.1
  clear hW hB hb
  go_wp2_with (go_at_call 41; refine (l1In_wi _ _ _ _).mono ?_; rintro e w' ⟨rfl, rfl⟩)
  have hb1 : Below w1.heap.size w1 w1 := Below.refl _ _
  have ha1 : AccCl w1 w1.heap.size (.slice none 0 0) (clBlocks K N 0) := AccCl.nil _ _
  clear c0 c1
  go_loopw [6, 7] (fun u i wr => ∃ j : Nat, j ≤ K ∧ i = .int .i64 j ∧ AccCl wr w1.heap.size u (clBlocks K N j) ∧ Below w1.heap.size w1 wr) (fun _ i _ => K - (intOf i).toNat)
  case atStart => exact ⟨0, Nat.zero_le _, rfl, ha1, hb1⟩
  case round =>
    obtain ⟨j, hj, rfl, hacc, hbw⟩ := hrel
    have hB2 := hB1.step (hbw.mono (by omega))
    have c0 := hB2.cell 0
    have c1 := hB2.cell 1
    simp at c0 c1
    by_cases hlt : j < K
    · have hji : (j : Int) < (K : Int) := by omega
      have HT : Hid (clBlocks K N (j + 1) = clBlocks K N j ++ List.replicate N ⟨0, j, (j + 1) % K⟩) := clBlocks_succ _ _ _
      have hlen : (clBlocks K N j).length + N ≤ 20 := by rw [HLN.out]; exact HMS.out j hlt
      generalize clBlocks K N j = done at hacc HT hlen
      obtain ⟨wo, rfl⟩ : ∃ wo : World, wo = wr := ⟨_, rfl⟩
      clear hB2
      go_wp2_with fail
      clear c0 c1
      go_loopw [6, 8] (fun u i wr => ∃ m : Nat, m ≤ N ∧ i = .int .i64 m ∧ AccCl wr w1.heap.size u (done ++ List.replicate m ⟨0, j, (j + 1) % K⟩) ∧ Below w1.heap.size w1 wr) (fun _ i _ => N - (intOf i).toNat)
      case atStart => exact ⟨0, Nat.zero_le _, rfl, by simpa using hacc, hbw⟩
      case round =>
        obtain ⟨m, hm9, rfl, hacc, hbw⟩ := hrel
        have hB2 := hB1.step hbw
        have c0 := hB2.cell 0
        have c1 := hB2.cell 1
        have c2 := hB2.cell 2
        simp at c0 c1 c2
        have hsz := hbw.size
        by_cases hmt : m < N
        · have hmi : (m : Int) < (N : Int) := by omega
          have HA : Hid (done ++ List.replicate (m + 1) (⟨0, j, (j + 1) % K⟩ : Cl) = (done ++ List.replicate m ⟨0, j, (j + 1) % K⟩) ++ [⟨0, j, (j + 1) % K⟩]) := by show done ++ _ = _; rw [List.replicate_succ', List.append_assoc]
          have hdl : (done ++ List.replicate m (⟨0, j, (j + 1) % K⟩ : Cl)).length ≤ 20 := by rw [List.length_append, List.length_replicate]; omega
          generalize done ++ List.replicate m (⟨0, j, (j + 1) % K⟩ : Cl) = acc at hacc HA hdl
          have v1 : ((j : Int) + 1).tmod K = ((j : Int) + 1) % K := Int.tmod_eq_emod_of_nonneg (by omega)
          have v2 : 0 ≤ ((j : Int) + 1) % K ∧ ((j : Int) + 1) % K < K := nx_in (by omega) hji
          have v3 : IntKind.i64.wrap (((j : Int) + 1) % K) = ((j : Int) + 1) % K := IntWalk.i64_in _ (by omega)
          have v4 : (K : Int) ≠ 0 := by omega
          have hacc2 := hacc
          have hbw2 := hbw
          clear hacc hB2
          go_wp2_with (at_builtin; refine wpList_pushK rfl _ _ _ rfl 51 i0 Try.underlying32 hi _ 3 24 hz0 hz1 hz2 rfl (by omega) (by omega) _ w1 w1.heap.size _ acc.length (flatCl acc) [0, j, ((j : Int) + 1) % K] _ rfl rfl rfl rfl hacc2 rfl (by omega) (by omega) hbw2 ?_; intro v3 w3 hacc3 hb3)
          have hacc4 : AccCl w3 w1.heap.size v3 (acc ++ [⟨0, j, (j + 1) % K⟩]) := by
            unfold AccCl
            rw [List.length_append, flatCl_snoc]
            exact hacc3
          rw [← HA.out] at hacc4
          clear hacc3
          go_roundw
          case rel => first | exact ⟨m + 1, by omega, by go_num, hacc4, hb3⟩ | exact ⟨m + 1, by omega, by omega, hacc4, hb3⟩
          case measure => simp [intOf]; omega
        · obtain rfl : m = N := by omega
          have hacc9 := hacc
          rw [← HT.out] at hacc9
          clear hacc hB2
          go_wp2_with fail
          go_roundw
          case rel => first | exact ⟨j + 1, by omega, by go_num, hacc9, hbw⟩ | exact ⟨j + 1, by omega, by omega, hacc9, hbw⟩
          case measure => simp [intOf]; omega
    · obtain rfl : j = K := by omega
      have HOI := Lib.hid (AccK.ok hacc)
      clear hacc
      have hz2' := hbw.size
      clear hB2
      go_wp2_with fail
      go_ret2
      exact ⟨_, rfl, HOI.out.wide hz (Nat.le_refl _), T1.trans (hbw.mono hz)⟩

end Go.Proofs.Ytfkjiagagidmmaa
