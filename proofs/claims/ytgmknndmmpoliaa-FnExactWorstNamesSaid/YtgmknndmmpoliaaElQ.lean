/-
  Chapter 7: the program's first order with the most, or the fewest, messages.
-/
import Derived.Test.YtgmknndmmpoliaaElP
import Derived.Test.YtgmknndmmpoliaaElC
import Derived.Test.YtgmknndmmpoliaaClone
namespace Go.Proofs.Ytgmknndmmpoliaa
open Go.RowKit
set_option maxRecDepth 100000
set_option linter.unusedVariables false

/-- The names 0, 1, .. -/
def idL (n : Nat) : List Int := (List.range n).map fun i : Nat => (i : Int)
def idP (n k : Nat) : List Int := idL k ++ List.replicate (n - k) 0
theorem idL_length (n : Nat) : (idL n).length = n := by simp [idL]
theorem idP_length (n k : Nat) (hk : k ≤ n) : (idP n k).length = n := by simp [idP, idL_length]; omega
theorem idP_zero (n : Nat) : idP n 0 = List.replicate n 0 := by simp [idP, idL]
theorem idP_all (n : Nat) : idP n n = idL n := by simp [idP]
theorem idP_set (n k : Nat) (hk : k < n) : (idP n k).set k (k : Int) = idP n (k + 1) := by
  have e : n - k = (n - (k + 1)) + 1 := by omega
  have e2 : idL (k + 1) = idL k ++ [(k : Int)] := by simp [idL, List.range_succ]
  unfold idP
  rw [e, List.replicate_succ, List.set_append_right k _ (by rw [idL_length]; exact Nat.le_refl _), idL_length, Nat.sub_self, List.set_cons_zero, e2]
  simp
/-- The orders, one behind the other; the first best one among the first. -/
def nmN (n : Nat) : Nat → List Int
  | 0 => idL n
  | i + 1 => (nextL (nmN n i)).1
def betN (lt : Bool) (a b : Int) : Bool := if lt then decide (a < b) else decide (b < a)
def stN (lt : Bool) (n : Nat) : Nat → List Int × Int
  | 0 => (idL n, sumL (passL (idL n)))
  | i + 1 => if betN lt (sumL (passL (nmN n (i + 1)))) (stN lt n i).2 = true then (nmN n (i + 1), sumL (passL (nmN n (i + 1)))) else stN lt n i
theorem nmN_length (n i : Nat) : (nmN n i).length = n := by
  induction i with
  | zero => exact idL_length n
  | succ i ih => rw [nmN, nextL_length, ih]
theorem stN_yes {lt : Bool} {n i : Nat} (h : betN lt (sumL (passL (nmN n (i + 1)))) (stN lt n i).2 = true) : stN lt n (i + 1) = (nmN n (i + 1), sumL (passL (nmN n (i + 1)))) := by rw [stN, if_pos h]
theorem stN_no {lt : Bool} {n i : Nat} (h : betN lt (sumL (passL (nmN n (i + 1)))) (stN lt n i).2 = false) : stN lt n (i + 1) = stN lt n i := by rw [stN, if_neg (by rw [h]; simp)]


theorem worstC_any (a b : Int) (w : World) : Calls Try.prog 43 #[.int .i64 a, .int .i64 b] w fun e w' => e = .returned (.bool (betN false a b)) ∧ w = w' := by
  go_enter Try.func43, Try.ntmps43
  go_wp2
  go_ret
  exact ⟨by first | exact rfl | simp [betN], rfl⟩
set_option maxHeartbeats 4000000 in
theorem worstFirst_any (n K : Nat) (w : World) (hn : 2 ≤ n ∧ n ≤ 6) (hT : ∀ i, i < K → (nextL (nmN n i)).2 = true) (hF : (nextL (nmN n K)).2 = false) :
    Calls Try.prog 42 #[.int .i64 n, .func (.func 43) #[] #[]] w (RetL 3 w (stN false n K).1) := by
  obtain ⟨i0, hi, hz0, hz1, hz2⟩ := info_parts int_info
  have hn' : (2 : Int) ≤ (n : Int) ∧ (n : Int) ≤ 6 := by omega
  have HT := Lib.hid hT
  have HF := Lib.hid hF
  clear hT hF
  go_enter Try.func42, Try.ntmps42
  go_wp2_with (at_make; refine wpList_make_full _ rfl _ _ 22 rfl w.heap.size 3 i0 _ 1 Try.underlying22 hi hz0 hz1 _ _ _ _ n rfl rfl rfl rfl (by rw [hz2]; omega) (by unfold maxLen; omega) (Nat.le_refl _) ?_; intro w1 hown hg)
  have hown1 : OI 3 w1 w.heap.size w1.heap.size (.slice (some ⟨w.heap.size, 0, none⟩) n n) (idP n 0) := by
    have e : ics (idP n 0) = List.replicate n (.int .i64 0) := by rw [idP_zero]; simp [ics]
    have h1 : (Value.int IntKind.i64 0).cells = #[Value.int IntKind.i64 0] := rfl
    have h2 := hown
    rw [Nat.mul_one, h1, toList_madeCells_one, ← e] at h2
    exact OI.of_row (l := idP n 0) (by rw [idP_length n 0 (Nat.zero_le _)]; exact h2)
  have hb1 : Below w.heap.size w w1 := (Below.refl _ _).grown hg (Nat.le_refl _) (by intro k hk; cases hk)
  clear hown hg
  go_loopw [14] (fun i wr => ∃ k : Nat, k ≤ n ∧ i = .int .i64 k ∧ OI 3 wr w.heap.size wr.heap.size (.slice (some ⟨w.heap.size, 0, none⟩) n n) (idP n k) ∧ Below w.heap.size w wr)
    (fun i _ => n - (intOf i).toNat)
  case atStart => exact ⟨0, Nat.zero_le _, rfl, hown1, hb1⟩
  case round =>
    obtain ⟨k, hk, rfl, hown, hb⟩ := hrel
    clear hown1 hb1
    by_cases hlt : k < n
    · have HS := Lib.hid (idP_set n k hlt)
      obtain ⟨b, c2, hv, hb0, hbh, hbs, hcl, hfz, hput⟩ := elPut_at hown k (by rw [idP_length n k hk]; exact hlt)
      injection hv with hv1 hv2 hv3
      injection hv1 with hv1
      injection hv1 with hv1
      subst hv1
      clear hv2 hv3
      have hst := hput (k : Int)
      rw [HS.out] at hst
      have hsz : ∀ x, (wr.setCell ⟨w.heap.size, k, none⟩ x).heap.size = wr.heap.size := fun x => by simp [World.setCell]
      have HST : Hid (OI 3 (wr.setCell ⟨w.heap.size, k, none⟩ (.int .i64 (k : Int))) w.heap.size (wr.setCell ⟨w.heap.size, k, none⟩ (.int .i64 (k : Int))).heap.size (.slice (some ⟨w.heap.size, 0, none⟩) n n) (idP n (k + 1))) := by
        show OI _ _ _ _ _ _
        rw [hsz]
        simpa [idP_length n k hk] using hst
      have HB3 := Lib.hid (hb.setCell (p := ⟨w.heap.size, k, none⟩) (Nat.le_refl _) (.int .i64 (k : Int)))
      generalize (idP n k).getD k 0 = x at hcl
      clear hst hput hb hown hsz
      go_wp2_with fail
      go_roundw
      case rel => exact ⟨k + 1, by omega, by go_num, HST.out, HB3.out⟩
      case measure => simp [intOf]; omega
    · obtain rfl : k = n := by omega
      rw [idP_all] at hown
      rename World => W1
      have HO := Lib.hid hown
      have HB := Lib.hid hb
      have HIL := Lib.hid (idL_length k)
      have HC := Lib.hid (clone_any _ (idL k) W1 (hown.ri) (by rw [idL_length]; omega))
      clear hown hb
      go_wp2_with fail
      refine HC.out.mono ?_; rintro e W2 ⟨u2, rfl, ho2, hb2⟩
      have HO2 := Lib.hid ho2
      have HN2 := Lib.hid (HO.out.step hb2)
      have HB2 := Lib.hid (HB.out.trans (hb2.mono HB.out.size))
      have HSZ := Lib.hid hb2.size
      have HM := Lib.hid (simpleMsgs_any _ (idL k) W2 (HN2.out.ri.more hb2.size) (by rw [idL_length]; omega))
      clear ho2 hb2
      go_wp2_with fail
      refine HM.out.mono ?_; rintro e W3 ⟨rfl, hb3⟩
      have HO3 := Lib.hid (HO2.out.step hb3)
      have HN3 := Lib.hid (HN2.out.step hb3)
      have HB3 := Lib.hid (HB2.out.trans (hb3.mono HB2.out.size))
      have HSZ3 := Lib.hid hb3.size
      clear hb3
      have HWS := Lib.hid HB.out.size
      go_wp2_with fail
      go_loopg [7, 8] (K + 1) (fun gg s7 s8 wx => ∃ i : Nat, i + gg = K + 1 ∧ i ≤ K ∧ s8 = .int .i64 (stN false k i).2 ∧ OI 3 wx W1.heap.size wx.heap.size s7 (stN false k i).1 ∧ OI 3 wx w.heap.size W1.heap.size (.slice (some ⟨w.heap.size, 0, none⟩) k k) (nmN k i) ∧ Below w.heap.size w wx ∧ W1.heap.size ≤ wx.heap.size)
      case atStart => exact ⟨0, by omega, Nat.zero_le _, rfl, HO3.out.wide (Nat.le_refl _) HSZ3.out, HN3.out, HB3.out, Nat.le_trans HSZ.out HSZ3.out⟩
      case round =>
        obtain ⟨i, hig, hiK, rfl, hof, hon, hbx, hsx⟩ := hrel
        rename World => W4
        have hln := nmN_length k i
        have HPN := Lib.hid (putNext_any _ _ _ (nmN k i) W4 hon (by rw [hln]; omega))
        have HOF := Lib.hid hof
        have HBX := Lib.hid hbx
        have HSX := Lib.hid hsx
        clear hof hon hbx hsx hln
        cases gk with
        | zero => exfalso; omega
        | succ gg =>
          by_cases hlt2 : i < K
          · have HR := HPN.out
            rw [HT.out i hlt2] at HR
            have HPN2 := Lib.hid HR
            clear HPN HR
            go_wp2_with fail
            refine HPN2.out.mono ?_; rintro e W5 ⟨rfl, hn5, hw5⟩
            have HN5 := Lib.hid hn5
            have HOF5 := Lib.hid (HOF.out.far hw5 (.inr (Nat.le_refl _)))
            have HB5 := Lib.hid (HBX.out.trans (hw5.below (Nat.le_refl _) HBX.out.size))
            have HS5 : Hid (W1.heap.size ≤ W5.heap.size) := Nat.le_trans HSX.out hw5.size
            have HS45 := Lib.hid hw5.size
            have HNL := Lib.hid (nmN_length k (i + 1))
            have HM5 := Lib.hid (simpleMsgs_any _ (nmN k (i + 1)) W5 (hn5.ri.more HS5.out) (by rw [nmN_length]; omega))
            clear hn5 hw5
            go_wp2_with fail
            refine HM5.out.mono ?_; rintro e W6 ⟨rfl, hb6⟩
            have HN6 := Lib.hid (HN5.out.step hb6)
            have HOF6 := Lib.hid (HOF5.out.step hb6)
            have HB6 := Lib.hid (HB5.out.trans (hb6.mono HB5.out.size))
            have HS6 : Hid (W1.heap.size ≤ W6.heap.size) := Nat.le_trans HS5.out hb6.size
            have HS46 : Hid (W4.heap.size ≤ W6.heap.size) := Nat.le_trans HS45.out hb6.size
            clear hb6
            have HYES : Hid (betN false (sumL (passL (nmN k (i + 1)))) (stN false k i).2 = true → stN false k (i + 1) = (nmN k (i + 1), sumL (passL (nmN k (i + 1))))) := fun h => stN_yes h
            have HNO : Hid (betN false (sumL (passL (nmN k (i + 1)))) (stN false k i).2 = false → stN false k (i + 1) = stN false k i) := fun h => stN_no h
            obtain ⟨m, hm⟩ : ∃ m, m = sumL (passL (nmN k (i + 1))) := ⟨_, rfl⟩
            rw [← hm] at HYES HNO ⊢
            clear hm
            obtain ⟨bs, hbs⟩ : ∃ bs, bs = (stN false k i).2 := ⟨_, rfl⟩
            rw [← hbs] at HYES HNO ⊢
            have HBS := Lib.hid hbs
            clear hbs
            have HCC := Lib.hid (worstC_any m bs W6)
            cases hbt : betN false m bs
            · have HE := Lib.hid (HNO.out hbt)
              rw [hbt] at HCC
              clear hbt HYES HNO
              go_wp2_with fail
              refine HCC.out.mono ?_; rintro e w' ⟨rfl, rfl⟩
              go_wp2_with fail
              go_roundg gg
              case measure => omega
              case rel => exact ⟨i + 1, by omega, by omega, by rw [HE.out, HBS.out], by rw [HE.out]; exact HOF6.out.wide (Nat.le_refl _) HS46.out, HN6.out, HB6.out, HS6.out⟩
            · have HE := Lib.hid (HYES.out hbt)
              rw [hbt] at HCC
              have HC6 := Lib.hid (clone_any _ (nmN k (i + 1)) W6 (HN6.out.ri.more HS6.out) (by rw [nmN_length]; omega))
              clear hbt HYES HNO
              go_wp2_with fail
              refine HCC.out.mono ?_; rintro e w' ⟨rfl, rfl⟩
              go_wp2_with fail
              refine HC6.out.mono ?_; rintro e W7 ⟨u7, rfl, ho7, hb7⟩
              have HO7 := Lib.hid (ho7.wide HS6.out (Nat.le_refl _))
              have HN7 := Lib.hid (HN6.out.step hb7)
              have HB7 := Lib.hid (HB6.out.trans (hb7.mono HB6.out.size))
              have HS7 : Hid (W1.heap.size ≤ W7.heap.size) := Nat.le_trans HS6.out hb7.size
              clear ho7 hb7
              go_wp2_with fail
              go_roundg gg
              case measure => omega
              case rel => exact ⟨i + 1, by omega, by omega, by rw [HE.out], by rw [HE.out]; exact HO7.out, HN7.out, HB7.out, HS7.out⟩
          · obtain rfl : i = K := by omega
            have HR := HPN.out
            rw [HF.out] at HR
            have HPN2 := Lib.hid HR
            clear HPN HR
            go_wp2_with fail
            refine HPN2.out.mono ?_; rintro e W5 ⟨rfl, hn5, hw5⟩
            have HOF5 := Lib.hid ((HOF.out.far hw5 (.inr (Nat.le_refl _))).wide HWS.out hw5.size)
            have HB5 := Lib.hid (HBX.out.trans (hw5.below (Nat.le_refl _) HBX.out.size))
            clear hn5 hw5
            go_wp2_with fail
            go_ret
            exact ⟨_, rfl, HOF5.out, HB5.out⟩


theorem bestC_any (a b : Int) (w : World) : Calls Try.prog 44 #[.int .i64 a, .int .i64 b] w fun e w' => e = .returned (.bool (betN true a b)) ∧ w = w' := by
  go_enter Try.func44, Try.ntmps44
  go_wp2
  go_ret
  exact ⟨by first | exact rfl | simp [betN], rfl⟩
set_option maxHeartbeats 4000000 in
theorem bestFirst_any (n K : Nat) (w : World) (hn : 2 ≤ n ∧ n ≤ 6) (hT : ∀ i, i < K → (nextL (nmN n i)).2 = true) (hF : (nextL (nmN n K)).2 = false) :
    Calls Try.prog 42 #[.int .i64 n, .func (.func 44) #[] #[]] w (RetL 3 w (stN true n K).1) := by
  obtain ⟨i0, hi, hz0, hz1, hz2⟩ := info_parts int_info
  have hn' : (2 : Int) ≤ (n : Int) ∧ (n : Int) ≤ 6 := by omega
  have HT := Lib.hid hT
  have HF := Lib.hid hF
  clear hT hF
  go_enter Try.func42, Try.ntmps42
  go_wp2_with (at_make; refine wpList_make_full _ rfl _ _ 22 rfl w.heap.size 3 i0 _ 1 Try.underlying22 hi hz0 hz1 _ _ _ _ n rfl rfl rfl rfl (by rw [hz2]; omega) (by unfold maxLen; omega) (Nat.le_refl _) ?_; intro w1 hown hg)
  have hown1 : OI 3 w1 w.heap.size w1.heap.size (.slice (some ⟨w.heap.size, 0, none⟩) n n) (idP n 0) := by
    have e : ics (idP n 0) = List.replicate n (.int .i64 0) := by rw [idP_zero]; simp [ics]
    have h1 : (Value.int IntKind.i64 0).cells = #[Value.int IntKind.i64 0] := rfl
    have h2 := hown
    rw [Nat.mul_one, h1, toList_madeCells_one, ← e] at h2
    exact OI.of_row (l := idP n 0) (by rw [idP_length n 0 (Nat.zero_le _)]; exact h2)
  have hb1 : Below w.heap.size w w1 := (Below.refl _ _).grown hg (Nat.le_refl _) (by intro k hk; cases hk)
  clear hown hg
  go_loopw [14] (fun i wr => ∃ k : Nat, k ≤ n ∧ i = .int .i64 k ∧ OI 3 wr w.heap.size wr.heap.size (.slice (some ⟨w.heap.size, 0, none⟩) n n) (idP n k) ∧ Below w.heap.size w wr)
    (fun i _ => n - (intOf i).toNat)
  case atStart => exact ⟨0, Nat.zero_le _, rfl, hown1, hb1⟩
  case round =>
    obtain ⟨k, hk, rfl, hown, hb⟩ := hrel
    clear hown1 hb1
    by_cases hlt : k < n
    · have HS := Lib.hid (idP_set n k hlt)
      obtain ⟨b, c2, hv, hb0, hbh, hbs, hcl, hfz, hput⟩ := elPut_at hown k (by rw [idP_length n k hk]; exact hlt)
      injection hv with hv1 hv2 hv3
      injection hv1 with hv1
      injection hv1 with hv1
      subst hv1
      clear hv2 hv3
      have hst := hput (k : Int)
      rw [HS.out] at hst
      have hsz : ∀ x, (wr.setCell ⟨w.heap.size, k, none⟩ x).heap.size = wr.heap.size := fun x => by simp [World.setCell]
      have HST : Hid (OI 3 (wr.setCell ⟨w.heap.size, k, none⟩ (.int .i64 (k : Int))) w.heap.size (wr.setCell ⟨w.heap.size, k, none⟩ (.int .i64 (k : Int))).heap.size (.slice (some ⟨w.heap.size, 0, none⟩) n n) (idP n (k + 1))) := by
        show OI _ _ _ _ _ _
        rw [hsz]
        simpa [idP_length n k hk] using hst
      have HB3 := Lib.hid (hb.setCell (p := ⟨w.heap.size, k, none⟩) (Nat.le_refl _) (.int .i64 (k : Int)))
      generalize (idP n k).getD k 0 = x at hcl
      clear hst hput hb hown hsz
      go_wp2_with fail
      go_roundw
      case rel => exact ⟨k + 1, by omega, by go_num, HST.out, HB3.out⟩
      case measure => simp [intOf]; omega
    · obtain rfl : k = n := by omega
      rw [idP_all] at hown
      rename World => W1
      have HO := Lib.hid hown
      have HB := Lib.hid hb
      have HIL := Lib.hid (idL_length k)
      have HC := Lib.hid (clone_any _ (idL k) W1 (hown.ri) (by rw [idL_length]; omega))
      clear hown hb
      go_wp2_with fail
      refine HC.out.mono ?_; rintro e W2 ⟨u2, rfl, ho2, hb2⟩
      have HO2 := Lib.hid ho2
      have HN2 := Lib.hid (HO.out.step hb2)
      have HB2 := Lib.hid (HB.out.trans (hb2.mono HB.out.size))
      have HSZ := Lib.hid hb2.size
      have HM := Lib.hid (simpleMsgs_any _ (idL k) W2 (HN2.out.ri.more hb2.size) (by rw [idL_length]; omega))
      clear ho2 hb2
      go_wp2_with fail
      refine HM.out.mono ?_; rintro e W3 ⟨rfl, hb3⟩
      have HO3 := Lib.hid (HO2.out.step hb3)
      have HN3 := Lib.hid (HN2.out.step hb3)
      have HB3 := Lib.hid (HB2.out.trans (hb3.mono HB2.out.size))
      have HSZ3 := Lib.hid hb3.size
      clear hb3
      have HWS := Lib.hid HB.out.size
      go_wp2_with fail
      go_loopg [7, 8] (K + 1) (fun gg s7 s8 wx => ∃ i : Nat, i + gg = K + 1 ∧ i ≤ K ∧ s8 = .int .i64 (stN true k i).2 ∧ OI 3 wx W1.heap.size wx.heap.size s7 (stN true k i).1 ∧ OI 3 wx w.heap.size W1.heap.size (.slice (some ⟨w.heap.size, 0, none⟩) k k) (nmN k i) ∧ Below w.heap.size w wx ∧ W1.heap.size ≤ wx.heap.size)
      case atStart => exact ⟨0, by omega, Nat.zero_le _, rfl, HO3.out.wide (Nat.le_refl _) HSZ3.out, HN3.out, HB3.out, Nat.le_trans HSZ.out HSZ3.out⟩
      case round =>
        obtain ⟨i, hig, hiK, rfl, hof, hon, hbx, hsx⟩ := hrel
        rename World => W4
        have hln := nmN_length k i
        have HPN := Lib.hid (putNext_any _ _ _ (nmN k i) W4 hon (by rw [hln]; omega))
        have HOF := Lib.hid hof
        have HBX := Lib.hid hbx
        have HSX := Lib.hid hsx
        clear hof hon hbx hsx hln
        cases gk with
        | zero => exfalso; omega
        | succ gg =>
          by_cases hlt2 : i < K
          · have HR := HPN.out
            rw [HT.out i hlt2] at HR
            have HPN2 := Lib.hid HR
            clear HPN HR
            go_wp2_with fail
            refine HPN2.out.mono ?_; rintro e W5 ⟨rfl, hn5, hw5⟩
            have HN5 := Lib.hid hn5
            have HOF5 := Lib.hid (HOF.out.far hw5 (.inr (Nat.le_refl _)))
            have HB5 := Lib.hid (HBX.out.trans (hw5.below (Nat.le_refl _) HBX.out.size))
            have HS5 : Hid (W1.heap.size ≤ W5.heap.size) := Nat.le_trans HSX.out hw5.size
            have HS45 := Lib.hid hw5.size
            have HNL := Lib.hid (nmN_length k (i + 1))
            have HM5 := Lib.hid (simpleMsgs_any _ (nmN k (i + 1)) W5 (hn5.ri.more HS5.out) (by rw [nmN_length]; omega))
            clear hn5 hw5
            go_wp2_with fail
            refine HM5.out.mono ?_; rintro e W6 ⟨rfl, hb6⟩
            have HN6 := Lib.hid (HN5.out.step hb6)
            have HOF6 := Lib.hid (HOF5.out.step hb6)
            have HB6 := Lib.hid (HB5.out.trans (hb6.mono HB5.out.size))
            have HS6 : Hid (W1.heap.size ≤ W6.heap.size) := Nat.le_trans HS5.out hb6.size
            have HS46 : Hid (W4.heap.size ≤ W6.heap.size) := Nat.le_trans HS45.out hb6.size
            clear hb6
            have HYES : Hid (betN true (sumL (passL (nmN k (i + 1)))) (stN true k i).2 = true → stN true k (i + 1) = (nmN k (i + 1), sumL (passL (nmN k (i + 1))))) := fun h => stN_yes h
            have HNO : Hid (betN true (sumL (passL (nmN k (i + 1)))) (stN true k i).2 = false → stN true k (i + 1) = stN true k i) := fun h => stN_no h
            obtain ⟨m, hm⟩ : ∃ m, m = sumL (passL (nmN k (i + 1))) := ⟨_, rfl⟩
            rw [← hm] at HYES HNO ⊢
            clear hm
            obtain ⟨bs, hbs⟩ : ∃ bs, bs = (stN true k i).2 := ⟨_, rfl⟩
            rw [← hbs] at HYES HNO ⊢
            have HBS := Lib.hid hbs
            clear hbs
            have HCC := Lib.hid (bestC_any m bs W6)
            cases hbt : betN true m bs
            · have HE := Lib.hid (HNO.out hbt)
              rw [hbt] at HCC
              clear hbt HYES HNO
              go_wp2_with fail
              refine HCC.out.mono ?_; rintro e w' ⟨rfl, rfl⟩
              go_wp2_with fail
              go_roundg gg
              case measure => omega
              case rel => exact ⟨i + 1, by omega, by omega, by rw [HE.out, HBS.out], by rw [HE.out]; exact HOF6.out.wide (Nat.le_refl _) HS46.out, HN6.out, HB6.out, HS6.out⟩
            · have HE := Lib.hid (HYES.out hbt)
              rw [hbt] at HCC
              have HC6 := Lib.hid (clone_any _ (nmN k (i + 1)) W6 (HN6.out.ri.more HS6.out) (by rw [nmN_length]; omega))
              clear hbt HYES HNO
              go_wp2_with fail
              refine HCC.out.mono ?_; rintro e w' ⟨rfl, rfl⟩
              go_wp2_with fail
              refine HC6.out.mono ?_; rintro e W7 ⟨u7, rfl, ho7, hb7⟩
              have HO7 := Lib.hid (ho7.wide HS6.out (Nat.le_refl _))
              have HN7 := Lib.hid (HN6.out.step hb7)
              have HB7 := Lib.hid (HB6.out.trans (hb7.mono HB6.out.size))
              have HS7 : Hid (W1.heap.size ≤ W7.heap.size) := Nat.le_trans HS6.out hb7.size
              clear ho7 hb7
              go_wp2_with fail
              go_roundg gg
              case measure => omega
              case rel => exact ⟨i + 1, by omega, by omega, by rw [HE.out], by rw [HE.out]; exact HO7.out, HN7.out, HB7.out, HS7.out⟩
          · obtain rfl : i = K := by omega
            have HR := HPN.out
            rw [HF.out] at HR
            have HPN2 := Lib.hid HR
            clear HPN HR
            go_wp2_with fail
            refine HPN2.out.mono ?_; rintro e W5 ⟨rfl, hn5, hw5⟩
            have HOF5 := Lib.hid ((HOF.out.far hw5 (.inr (Nat.le_refl _))).wide HWS.out hw5.size)
            have HB5 := Lib.hid (HBX.out.trans (hw5.below (Nat.le_refl _) HBX.out.size))
            clear hn5 hw5
            go_wp2_with fail
            go_ret
            exact ⟨_, rfl, HOF5.out, HB5.out⟩

end Go.Proofs.Ytgmknndmmpoliaa
