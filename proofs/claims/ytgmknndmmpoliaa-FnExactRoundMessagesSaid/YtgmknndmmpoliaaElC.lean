/-
  Chapter 7: the lists of links and their sums: the contracts of WinnerOf, PassedOn, SimpleMessages, both sides.
-/
import Derived.Test.YtgmknndmmpoliaaElB
namespace Go.Proofs.Ytgmknndmmpoliaa
open Go.RowKit
set_option maxRecDepth 100000
set_option linter.unusedVariables false

/-- The list of links so far. -/
def passP (l : List Int) (k : Nat) : List Int := passT l k ++ List.replicate (l.length - k) 0
theorem passP_zero (l : List Int) : passP l 0 = List.replicate l.length 0 := by simp [passP, passT]
theorem passP_all (l : List Int) : passP l l.length = passL l := by simp [passP, passL]
theorem passP_length (l : List Int) (k : Nat) (hk : k ≤ l.length) : (passP l k).length = l.length := by simp [passP, passT_length]; omega
theorem passP_set (l : List Int) (k : Nat) (hk : k < l.length) : (passP l k).set k (passI l k) = passP l (k + 1) := by
  have e : l.length - k = (l.length - (k + 1)) + 1 := by omega
  unfold passP
  rw [e, List.replicate_succ, List.set_append_right k _ (by rw [passT_length]; exact Nat.le_refl _), passT_length, Nat.sub_self, List.set_cons_zero, passT_succ]
  simp
theorem passedOn_any (v : Value) (l : List Int) (w : World) (h : RI w w.heap.size v l) (hn : 2 ≤ l.length ∧ l.length ≤ 12) :
    Calls Try.prog 79 #[v] w (RetL 3 w (passL l)) := by
  have h0 := h
  obtain ⟨A, c, rfl, hlc, hc⟩ := h
  clear hc
  obtain ⟨i0, hi, hz0, hz1, hz2⟩ := info_parts int_info
  go_enter Try.func79, Try.ntmps79
  go_wp2_with (at_make; refine wpList_make_full _ rfl _ _ 22 rfl w.heap.size 3 i0 _ 1 Try.underlying22 hi hz0 hz1 _ _ _ _ l.length rfl rfl rfl rfl (by rw [hz2]; omega) (by unfold maxLen; omega) (Nat.le_refl _) ?_; intro w1 hown hg)
  have hown1 : OI 3 w1 w.heap.size w1.heap.size (.slice (some ⟨w.heap.size, 0, none⟩) l.length l.length) (passP l 0) := by
    have e : ics (passP l 0) = List.replicate l.length (.int .i64 0) := by rw [passP_zero]; simp [ics]
    have h1 : (Value.int IntKind.i64 0).cells = #[Value.int IntKind.i64 0] := rfl
    have h2 := hown
    rw [Nat.mul_one, h1, toList_madeCells_one, ← e] at h2
    have h3 := OI.of_row (l := passP l 0) (by rw [passP_length l 0 (Nat.zero_le _)]; exact h2)
    exact h3
  have hb1 : Below w.heap.size w w1 := (Below.refl _ _).grown hg (Nat.le_refl _) (by intro k hk; cases hk)
  have hn' : (2 : Int) ≤ (l.length : Int) ∧ (l.length : Int) ≤ 12 := by omega
  clear hown hg
  go_loopw [10] (fun i wr => ∃ k : Nat, k ≤ l.length ∧ i = .int .i64 k ∧ OI 3 wr w.heap.size wr.heap.size (.slice (some ⟨w.heap.size, 0, none⟩) l.length l.length) (passP l k) ∧ Below w.heap.size w wr)
    (fun i _ => l.length - (intOf i).toNat)
  case atStart => exact ⟨0, Nat.zero_le _, rfl, hown1, hb1⟩
  case round =>
    obtain ⟨k, hk, rfl, hown, hb⟩ := hrel
    by_cases hlt : k < l.length
    · have HC := Lib.hid (linksbehind_any _ l k l.length wr ((h0.below hb).more hb.size) hn hlt hn.2)
      have HO := Lib.hid hown
      have HB := Lib.hid hb
      have HS := Lib.hid (passP_set l k hlt)
      have HL := Lib.hid (passP_length l k hk)
      clear hown hb hown1 hb1
      go_wp2_with fail
      refine HC.out.mono ?_; rintro e w2 ⟨rfl, hb2⟩
      have ho2 := (HO.out.step hb2).wide (Nat.le_refl _) hb2.size
      obtain ⟨b, c2, hv, hb0, hbh, hbs, hcl, hfz, hput⟩ := elPut_at ho2 k (by rw [HL.out]; exact hlt)
      injection hv with hv1 hv2 hv3
      injection hv1 with hv1
      injection hv1 with hv1
      subst hv1
      clear hv2 hv3
      have hst := hput (passI l k)
      rw [HS.out] at hst
      have HST := Lib.hid hst
      have HI : Hid (passI l k = ((stopN (gD l k 1) 0 l.length : Nat) : Int)) := rfl
      have HB3 := Lib.hid ((HB.out.trans (hb2.mono HB.out.size)).setCell (p := ⟨w.heap.size, k, none⟩) (Nat.le_refl _) (.int .i64 (passI l k)))
      generalize (passP l k).getD k 0 = x at hcl
      clear hst hput hb2 ho2
      rw [← HI.out]
      generalize ansN (gD l k 1) 0 l.length = an
      go_wp2_with fail
      go_roundw
      case rel => exact ⟨k + 1, by omega, by go_num, by first | exact HST.out | (simpa [World.setCell] using HST.out), HB3.out⟩
      case measure => simp [intOf]; omega
    · obtain rfl : k = l.length := by omega
      rw [passP_all] at hown
      go_wp2
      go_ret
      exact ⟨_, rfl, hown, hb⟩
/-- The inner loop of the model stands at k. -/
theorem passI_at {l : List Int} {i k : Nat} (h : stopN (gD l i 1) (k - 1) (l.length - (k - 1)) = stopN (gD l i 1) 0 l.length) (h1 : 1 ≤ k) (hk : k ≤ l.length) (hi : i < l.length) (he : k = l.length ∨ gD l i 1 k = true) : passI l i = (k : Int) := by
  unfold passI
  rw [← h]
  obtain ⟨m, rfl⟩ : ∃ m, k = m + 1 := ⟨k - 1, by omega⟩
  have e : l.length - (m + 1 - 1) = (l.length - (m + 1)) + 1 := by omega
  rw [e, Nat.add_sub_cancel, stopN]
  rcases he with he | he
  · by_cases hg : gD l i 1 (m + 1) = true
    · rw [if_pos hg]
    · rw [if_neg hg, he, Nat.sub_self, stopN]
  · rw [if_pos he]
theorem passI_on {l : List Int} {i k : Nat} (h : stopN (gD l i 1) (k - 1) (l.length - (k - 1)) = stopN (gD l i 1) 0 l.length) (h1 : 1 ≤ k) (hk : k < l.length) (hg : gD l i 1 k = false) : stopN (gD l i 1) (k + 1 - 1) (l.length - (k + 1 - 1)) = stopN (gD l i 1) 0 l.length := by
  rw [← h]
  obtain ⟨m, rfl⟩ : ∃ m, k = m + 1 := ⟨k - 1, by omega⟩
  have e : l.length - (m + 1 - 1) = (l.length - (m + 1)) + 1 := by omega
  have hn : ¬ (gD l i 1 (m + 1) = true) := by rw [hg]; simp
  rw [e, Nat.add_sub_cancel, Nat.add_sub_cancel]
  show _ = (if gD l i 1 (m + 1) = true then m + 1 else stopN (gD l i 1) (m + 1) (l.length - (m + 1)))
  rw [if_neg hn]
set_option maxHeartbeats 2000000 in
theorem elPassed_any (v : Value) (l : List Int) (w : World) (h : RI w w.heap.size v l) (hn : 2 ≤ l.length ∧ l.length ≤ 12) (hd : allNew l l.length = true) :
    Calls Try.prog 66 #[v] w (RetL 3 w (passL l)) := by
  obtain ⟨A, c, rfl, hlc, hc⟩ := h
  obtain ⟨b, off, rfl, hbB, hcell⟩ := hc (by omega)
  have HC := Lib.hid hcell
  have HD := Lib.hid hd
  clear hc hcell hd
  obtain ⟨i0, hi, hz0, hz1, hz2⟩ := info_parts int_info
  have hn' : (2 : Int) ≤ (l.length : Int) ∧ (l.length : Int) ≤ 12 := by omega
  go_enter Try.func66, Try.ntmps66
  go_wp2_with fail
  go_loopg [4, 12] l.length (fun g s4 s12 wx => ∃ i : Nat, i + g = l.length ∧ s12 = .int .i64 i ∧ Acc 3 wx w.heap.size s4 (passT l i) ∧ Below w.heap.size w wx)
  case atStart => exact ⟨0, by omega, rfl, by simpa [passT] using Acc.nil _ _ _, Below.refl _ _⟩
  case round =>
    obtain ⟨i, hig, rfl, hacc, hb⟩ := hrel
    cases gk with
    | zero =>
      obtain rfl : i = l.length := by omega
      have hz : ¬ ((l.length : Int) < (l.length : Int)) := by omega
      go_wp2_with fail
      go_ret
      exact ⟨_, rfl, hacc.oi, hb⟩
    | succ g =>
      have hil : i < l.length := by omega
      have hil' : (i : Int) < (l.length : Int) := by omega
      have hcx : wr.cell? ⟨b, off + i, none⟩ = some (.int .i64 (l.getD i 0)) := (hb.cell (p := ⟨b, off + i, none⟩) hbB).trans (HC.out i hil)
      have HA := Lib.hid hacc
      have HB := Lib.hid hb
      clear hacc hb
      obtain ⟨x, hx⟩ : ∃ x, x = l.getD i 0 := ⟨_, rfl⟩
      rw [← hx] at hcx
      have HX := Lib.hid hx
      clear hx
      go_wp2_with fail
      go_loopg [7] l.length (fun g2 s7 wy => ∃ k : Nat, 1 ≤ k ∧ k ≤ l.length ∧ k + g2 = l.length + 1 ∧ s7 = .int .i64 k ∧ Hid (stopN (gD l i 1) (k - 1) (l.length - (k - 1)) = stopN (gD l i 1) 0 l.length) ∧ wr = wy)
      case atStart => exact ⟨1, Nat.le_refl _, by omega, by omega, rfl, rfl, rfl⟩
      case round =>
        obtain ⟨k, hk1, hkn, hkg, rfl, HK, rfl⟩ := hrel
        cases gk with
        | zero => exfalso; omega
        | succ g2 =>
          have finish : ∀ (hT : passI l i = (k : Int)), Hid (passT l (i + 1) = passT l i ++ [(k : Int)]) := fun hT => by
            show _ = _
            rw [passT_succ, hT]
          by_cases hlt : k < l.length
          · have hp := posD_lt l.length 1 i k (by omega)
            have hcy : wr.cell? ⟨b, off + posD l.length 1 i k, none⟩ = some (.int .i64 (l.getD (posD l.length 1 i k) 0)) := (HB.out.cell (p := ⟨b, off + posD l.length 1 i k, none⟩) hbB).trans (HC.out _ hp)
            have hne : l.getD i 0 ≠ l.getD (posD l.length 1 i k) 0 := allNew_ne HD.out (Nat.le_refl _) hil hp (posD_ne l.length i k hil (by omega) hlt).symm
            have e1 : ((i : Int) + (k : Int)).tmod (l.length : Int) = ((posD l.length 1 i k : Nat) : Int) := by
              rw [Int.tmod_eq_emod_of_nonneg (by omega)]
              unfold posD
              rw [Nat.mul_one, Int.natCast_emod]
              congr 1
            have e2 : ((i : Int) + (k : Int)) % (l.length : Int) = ((posD l.length 1 i k : Nat) : Int) := by rw [← e1, Int.tmod_eq_emod_of_nonneg (by omega)]
            rw [← HX.out] at hne
            have hlt' : (k : Int) < (l.length : Int) := by omega
            have hnz : (l.length : Int) ≠ 0 := by omega
            rcases Int.lt_or_le x (l.getD (posD l.length 1 i k) 0) with hxy | hxy
            · have HT := finish (passI_at HK.out hk1 hkn hil (.inr (by unfold gD; rw [← HX.out]; simpa using hxy)))
              have hyx : ¬ (l.getD (posD l.length 1 i k) 0 < x) := by omega
              clear finish
              generalize l.getD (posD l.length 1 i k) 0 = y at hcy hyx
              generalize posD l.length 1 i k = p at hp hcy e1 e2
              have hp' : (p : Int) < (l.length : Int) := by omega
              clear hxy hne
              go_wp2_with (at_builtin; refine wpList_push rfl (.tmp 34) (.tmp 36) 22 rfl 3 i0 Try.underlying22 hi hz0 hz1 hz2 wr w w.heap.size _ (passT l i) (k : Int) rfl rfl HA.out rfl (by rw [passT_length]; omega) HB.out.size HB.out ?_; intro v2 w2 hacc2 hb2)
              go_roundg g
              case measure => omega
              case rel => exact ⟨i + 1, by omega, by go_num, by rw [HT.out]; exact hacc2, hb2⟩
            · have HT : Hid (stopN (gD l i 1) (k + 1 - 1) (l.length - (k + 1 - 1)) = stopN (gD l i 1) 0 l.length) := passI_on HK.out hk1 hlt (by unfold gD; rw [← HX.out]; simpa using hxy)
              have hyx : l.getD (posD l.length 1 i k) 0 < x := by omega
              clear finish
              generalize l.getD (posD l.length 1 i k) 0 = y at hcy hyx
              generalize posD l.length 1 i k = p at hp hcy e1 e2
              have hp' : (p : Int) < (l.length : Int) := by omega
              clear hxy hne
              go_wp2_with fail
              go_roundg g2
              case measure => omega
              case rel => exact ⟨k + 1, by omega, by omega, by omega, by go_num, HT, rfl⟩
          · have HT := finish (passI_at HK.out hk1 hkn hil (.inl (by omega)))
            have hlt' : ¬ ((k : Int) < (l.length : Int)) := by omega
            clear finish
            go_wp2_with (at_builtin; refine wpList_push rfl (.tmp 34) (.tmp 36) 22 rfl 3 i0 Try.underlying22 hi hz0 hz1 hz2 wr w w.heap.size _ (passT l i) (k : Int) rfl rfl HA.out rfl (by rw [passT_length]; omega) HB.out.size HB.out ?_; intro v2 w2 hacc2 hb2)
            go_roundg g
            case measure => omega
            case rel => exact ⟨i + 1, by omega, by go_num, by rw [HT.out]; exact hacc2, hb2⟩
theorem simpleMsgs_any (v : Value) (l : List Int) (w : World) (h : RI w w.heap.size v l) (hn : 2 ≤ l.length ∧ l.length ≤ 12) :
    Calls Try.prog 68 #[v] w (RetV w (.int .i64 (sumL (passL l)))) := by
  have HP := Lib.hid (passedOn_any v l w h hn)
  have hpl := passT_length l l.length
  have hin := passL_in l
  have HS := Lib.hid (sumL_bound (passL l) 12 fun x hx => ⟨(hin x hx).1, by have := (hin x hx).2; omega⟩)
  have HIN := Lib.hid hin
  clear hin h
  obtain ⟨L, hL⟩ : ∃ L, L = passL l := ⟨_, rfl⟩
  have hlen : L.length = l.length := by rw [hL]; exact hpl
  rw [← hL] at HP HS HIN ⊢
  clear hL hpl
  have hn' : (L.length : Int) ≤ 12 := by omega
  have HLEN := Lib.hid hlen
  clear hlen
  go_enter Try.func68, Try.ntmps68
  go_wp2_with fail
  refine HP.out.mono ?_; rintro e w1 ⟨u, rfl, ho, hb⟩
  have HO := Lib.hid ho
  have HB := Lib.hid hb
  obtain ⟨A, c, rfl, hlc, hc⟩ := ho.ri
  clear ho hb
  go_wp2_with fail
  go_loop [3, 9] (fun u i => ∃ k : Nat, k ≤ L.length ∧ u = .int .i64 (sumL (L.take k)) ∧ i = .int .i64 k) (fun _ i => L.length - (intOf i).toNat)
  case atStart => exact ⟨0, Nat.zero_le _, rfl, rfl⟩
  case round =>
    obtain ⟨k, hk, rfl, rfl⟩ := hrel
    have hs := HS.out k hk
    by_cases hlt : k < L.length
    · obtain ⟨b, off, rfl, hbB, hcell⟩ := hc (by omega)
      have hcx : w1.cell? ⟨b, off + k, none⟩ = some (.int .i64 (L.getD k 0)) := hcell k hlt
      have hx := HIN.out (L.getD k 0) (by simp [hlt])
      have HT := Lib.hid (sumL_take L k hlt)
      have hl2 : (l.length : Int) ≤ 12 := by omega
      clear hcell hc
      generalize sumL (L.take k) = s at hs HT ⊢
      generalize L.getD k 0 = x at hcx hx HT
      go_wp2
      go_round
      case rel => exact ⟨k + 1, by omega, by rw [HT.out] <;> go_num, by go_num⟩
      case measure => simp [intOf]; omega
    · obtain rfl : k = L.length := by omega
      rw [List.take_length] at hs ⊢
      clear hc
      go_wp2
      go_ret
      exact ⟨rfl, HB.out⟩


/-- What PassedOn says. -/
def passRg (l : List Int) : List Int × Bool := if nmOk l = true then (passL l, true) else ([], false)
theorem passRg_len (l : List Int) : (passRg l).1.length ≤ 1048576 := by
  unfold passRg
  split
  · rename_i h
    have := nmOk_in h
    simp only [passL, passT_length]
    omega
  · simp


/-- What SimpleMessages says. -/
def simpleRg (l : List Int) : Int × Bool := if nmOk l = true then (sumL (passL l), true) else (0, false)


/-- What WinnerOf says. -/
def winRg (l : List Int) : Int × Bool := if nmOk l = true then (((winN l l.length : Nat) : Int), true) else (0, false)
theorem elIndex_any (v : Value) (l : List Int) (x : Int) (w : World) (h : RI w w.heap.size v l) (hn : l.length ≤ 1048576) (hx : ∃ j, j < l.length ∧ l.getD j 0 = x) :
    Calls Try.prog 73 #[v, .int .i64 x] w fun e w' => ∃ r : Nat, e = .returned (.int .i64 r) ∧ r < l.length ∧ l.getD r 0 = x ∧ (∀ j, j < r → l.getD j 0 ≠ x) ∧ w = w' := by
  obtain ⟨A, c, rfl, hlc, hc⟩ := h
  have hn' : (l.length : Int) ≤ 1048576 := by omega
  have HX := Lib.hid hx
  clear hx
  go_enter Try.func73, Try.ntmps73
  go_wp2
  go_loop [8] (fun i => ∃ k : Nat, k ≤ l.length ∧ i = .int .i64 k ∧ ∀ j, j < k → l.getD j 0 ≠ x) (fun i => l.length - (intOf i).toNat)
  case atStart => exact ⟨0, Nat.zero_le _, rfl, fun j hj => absurd hj (by omega)⟩
  case round =>
    obtain ⟨k, hk, rfl, hall⟩ := hrel
    have HA := Lib.hid hall
    clear hall
    by_cases hlt : k < l.length
    · obtain ⟨b, off, rfl, hbB, hcell⟩ := hc (by omega)
      have hcx : w.cell? ⟨b, off + k, none⟩ = some (.int .i64 (l.getD k 0)) := hcell k hlt
      have HC := Lib.hid hcell
      clear hcell hc
      obtain ⟨y, hy⟩ : ∃ y, y = l.getD k 0 := ⟨_, rfl⟩
      rw [← hy] at hcx
      have HY := Lib.hid hy
      clear hy
      by_cases he : x = y
      · have HE : Hid (l.getD k 0 = x) := by show _ = _; rw [← HY.out, he]
        subst he
        go_wp2
        go_ret
        exact ⟨k, rfl, hlt, HE.out, HA.out, rfl⟩
      · have hb : (x == y) = false := beq_eq_false_iff_ne.2 he
        have HE := Lib.hid he
        clear he
        go_wp2
        go_round
        case rel =>
          refine ⟨k + 1, by omega, by go_num, fun j hj => ?_⟩
          by_cases hjk : j = k
          · subst hjk; rw [← HY.out]; exact fun e => HE.out e.symm
          · exact HA.out j (by omega)
        case measure => simp [intOf]; omega
    · exfalso
      obtain ⟨j, hj, hjx⟩ := HX.out
      exact HA.out j (by omega) hjx
end Go.Proofs.Ytgmknndmmpoliaa
