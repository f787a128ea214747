/-
  Chapter 7: the contracts of BothWays, both sides.
-/
import Derived.Test.YtgmknndmmpoliaaElX
import Derived.LoopN
namespace Go.Proofs.Ytgmknndmmpoliaa
open Go.RowKit Go.Maps
set_option maxRecDepth 100000
set_option linter.unusedVariables false

/-- What BothWays says. -/
def bothRg (l : List Int) : Int × Bool := if nmOk l = true then (bothI l, true) else (0, false)
theorem implBothWays_any (v : Value) (l : List Int) (w : World) (h : RI w w.heap.size v l) (hn : l.length ≤ 1048576) :
    Calls Try.prog 21 #[v] w (RetV w (.tuple #[.int .i64 (bothRg l).1, .bool (bothRg l).2])) := by
  have HA := Lib.hid (implAreNames0_any v l w h hn)
  cases hg : nmOk l
  · rw [show bothRg l = (0, false) from by simp [bothRg, hg]]
    rw [hg] at HA
    go_enter Try.func21, Try.ntmps21
    go_wp2_with fail
    refine HA.out.mono ?_; rintro e w' ⟨rfl, rfl⟩
    go_wp2_with fail
    go_ret2
    exact ⟨rfl, Below.refl _ _⟩
  · rw [show bothRg l = (bothI l, true) from by simp [bothRg, hg]]
    rw [hg] at HA
    have HC := Lib.hid (bothWays_any v l w h (nmOk_in hg) (nmOk_ok hg))
    clear hg
    go_enter Try.func21, Try.ntmps21
    go_wp2_with fail
    refine HA.out.mono ?_; rintro e w' ⟨rfl, rfl⟩
    go_wp2_with fail
    refine HC.out.mono ?_; rintro e w1 ⟨rfl, hb⟩
    go_wp2_with fail
    go_ret2
    exact ⟨rfl, hb⟩
set_option maxHeartbeats 8000000 in
theorem specBothWays_any (v : Value) (l : List Int) (w : World) (h : RI w w.heap.size v l) (hnl : l.length ≤ 1048576) :
    Calls Try.prog 20 #[v] w (RetV w (.tuple #[.int .i64 (bothRg l).1, .bool (bothRg l).2])) := by
  have HA := Lib.hid (elNames_any v l w h hnl)
  obtain ⟨j0, hj, hjz0, hjz1, hjz2⟩ := info_parts int_info
  cases hg : nmOk l
  · rw [show bothRg l = (0, false) from by simp [bothRg, hg]]
    rw [hg] at HA
    clear hg
    go_enter Try.func20, Try.ntmps20
    go_wp2_with fail
    refine HA.out.mono ?_; rintro e w' ⟨rfl, rfl⟩
    go_wp2_with fail
    go_ret2
    exact ⟨rfl, Below.refl _ _⟩
  rw [show bothRg l = (bothI l, true) from by simp [bothRg, hg]]
  rw [hg] at HA
  have hn := nmOk_in hg
  have hd := nmOk_new hg
  have hn' : (2 : Int) ≤ (l.length : Int) ∧ (l.length : Int) ≤ 12 := by omega
  have HRI := Lib.hid h
  have HD := Lib.hid hd
  have HPH := Lib.hid (phN_in l.length hn.1 hn.2)
  have HLEAST : Hid (∀ (r : Nat) W, r < l.length → Calls Try.prog 37 #[.int .i64 (r : Int), .int .i64 (l.length : Int)] W fun e w' => e = .returned (.int .i64 (r : Int)) ∧ W = w') := by
    show ∀ r W, _
    intro r W hr
    have h9 := elLeast_any (r : Int) (l.length : Int) W
    rw [if_pos (by omega)] at h9
    exact h9
  have HLST := HLEAST
  clear HLEAST
  obtain ⟨A, c, rfl, hlc, hc⟩ := h
  clear hc hd hg
  go_enter Try.func20, Try.ntmps20
  go_wp2_with fail
  refine HA.out.mono ?_; rintro e w' ⟨rfl, rfl⟩
  go_wp2_with fail
  go_loopw [5, 23] (fun u i wr => ∃ k : Nat, k ≤ l.length ∧ i = .int .i64 k ∧ Acc 3 wr w.heap.size u (alL (fun _ => true) k) ∧ Below w.heap.size w wr) (fun _ i _ => l.length - (intOf i).toNat)
  case atStart => exact ⟨0, Nat.zero_le _, rfl, Acc.nil _ _ _, Below.refl _ _⟩
  case round =>
    obtain ⟨k, hk, rfl, hacc, hb⟩ := hrel
    by_cases hlt : k < l.length
    · have hAL : Hid (alL (fun _ => true) (k + 1) = alL (fun _ => true) k ++ [(k : Int)]) := rfl
      have hle := alL_le (fun _ => true) k
      have hlt' : (k : Int) < (l.length : Int) := by omega
      go_wp2_with (at_builtin; refine wpList_push rfl (.tmp 26) (.tmp 28) 22 rfl 3 j0 Try.underlying22 hj hjz0 hjz1 hjz2 wr w w.heap.size _ _ (k : Int) rfl rfl hacc rfl (by omega) hb.size hb ?_; intro v3 w3 hacc3 hb3)
      go_roundw
      case rel => first | exact ⟨k + 1, by omega, by go_num, by rw [hAL.out]; exact hacc3, hb3⟩ | exact ⟨k + 1, by omega, by omega, by rw [hAL.out]; exact hacc3⟩
      case measure => simp [intOf]; omega
    · obtain rfl : k = l.length := by omega
      rename World => W0
      have hri0 := hacc.oi.ri
      have HR0 := Lib.hid hri0
      have HB0 := Lib.hid hb
      clear hacc hb hri0
      have hlt' : ¬ ((l.length : Int) < (l.length : Int)) := by omega
      go_wp2_with fail
      go_loopg [5, 7, 8] 5 (fun g s5 s7 s8 wx => ∃ p : Nat, p + g = 5 ∧ p ≤ phN l.length ∧ s7 = .int .i64 (totS l p) ∧ s8 = .int .i64 ((2 ^ p : Nat) : Int) ∧ Hid (0 ≤ totS l p ∧ totS l p ≤ 576 * p) ∧ RI wx wx.heap.size s5 (alL (alN l p) l.length) ∧ Below w.heap.size w wx)
      case atStart => exact ⟨0, rfl, Nat.zero_le _, rfl, rfl, ⟨by simp [totS], by simp [totS]⟩, HR0.out, HB0.out⟩
      case round =>
        obtain ⟨p, hpg, hpP, rfl, rfl, HT, hri, hb⟩ := hrel
        rename World => W1
        have HBW1 := Lib.hid hb
        clear hb
        have HTI := HT.out
        obtain ⟨r, hr⟩ : ∃ r, r = 2 ^ p := ⟨_, rfl⟩
        rw [← hr]
        have HR := Lib.hid hr
        clear hr
        obtain ⟨M, hM⟩ : ∃ M, M = totS l p := ⟨_, rfl⟩
        rw [← hM] at HTI ⊢
        have HM := Lib.hid hM
        clear hM
        by_cases hpp : p < phN l.length
        · have hp4 : p ≤ 3 := by have := HPH.out.2.1; omega
          have hM9 : 0 ≤ M ∧ M ≤ 2304 := by omega
          have hrn : r < l.length := by
            have h1 := HPH.out.2.2.1
            have h2 : 2 ^ p ≤ 2 ^ (phN l.length - 1) := Nat.pow_le_pow_right (by omega) (by omega)
            have := HR.out
            omega
          have hrn' : (r : Int) < (l.length : Int) := by omega
          have hrn2 : ¬ ((l.length : Int) ≤ (r : Int)) := by omega
          have HMEM : Hid (∀ j, j < (alL (alN l p) l.length).length → ∃ s : Nat, s < l.length ∧ (alL (alN l p) l.length).getD j 0 = (s : Int)) := by
            show ∀ j, _
            intro j hj
            obtain ⟨s, h1, _, h2⟩ := (alL_mem (alN l p) l.length ((alL (alN l p) l.length).getD j 0)).1 (by simp [List.getD, hj])
            exact ⟨s, h1, h2⟩
          have hLle := alL_le (alN l p) l.length
          have HFIN : Hid ((alL (alN l p) l.length).filter (fun x => okN l r x.toNat) = alL (alN l (p + 1)) l.length) := by
            show _ = _
            rw [alL_filter (alN l p) (okN l r) l.length]
            exact alL_congr fun i hi => by rw [alN, HR.out]
          have HSUM : Hid (M + cstL (costN l r) (alL (alN l p) l.length) = totS l (p + 1)) := by
            show _ = _
            rw [alL_sum, totS, HM.out, phS, HR.out]
          have HCI : Hid (∀ L, 0 ≤ cstL (costN l r) L ∧ cstL (costN l r) L ≤ 48 * L.length) := cst_in fun s => costN_in l r s (by omega)
          have HLEAST : Hid (∀ W, Calls Try.prog 37 #[.int .i64 (r : Int), .int .i64 (l.length : Int)] W fun e w' => e = .returned (.int .i64 (r : Int)) ∧ W = w') := fun W => HLST.out r W hrn
          obtain ⟨L, hL⟩ : ∃ L, L = alL (alN l p) l.length := ⟨_, rfl⟩
          rw [← hL] at HMEM hLle HFIN HSUM hri
          clear hL
          have HRL := Lib.hid hri
          obtain ⟨A3, c3, rfl, _, hc3⟩ := hri
          have HC3 := Lib.hid hc3
          clear hc3
          have hLi : (L.length : Int) ≤ 12 := by omega
          go_wp2_with fail
          go_loopg [7, 9, 35] L.length (fun g3 s7 s9 s35 wx => ∃ j : Nat, j + g3 = L.length ∧ j ≤ L.length ∧ s7 = .int .i64 (M + cstL (costN l r) (L.take j)) ∧ Acc 3 wx W1.heap.size s9 ((L.take j).filter fun x => okN l r x.toNat) ∧ s35 = .int .i64 j ∧ Below w.heap.size w wx ∧ Below W1.heap.size W1 wx)
          case atStart => exact ⟨0, by omega, Nat.zero_le _, by simp [cstL, sumL], by simpa using Acc.nil _ _ _, rfl, HBW1.out, Below.refl _ _⟩
          case round =>
            obtain ⟨j, hjg, hjl, rfl, hacc, rfl, hb3, hbw3⟩ := hrel
            rename World => W3
            have HB3 := Lib.hid hb3
            have HBW3 := Lib.hid hbw3
            have HA3 := Lib.hid hacc
            clear hb3 hbw3 hacc
            cases gk with
            | zero =>
              obtain rfl : j = L.length := by omega
              rw [List.take_length] at HA3 ⊢
              have HA4 := HA3.out
              rw [HFIN.out] at HA4
              have HA5 := Lib.hid HA4.oi.ri
              have HR2 : Hid ((r : Int) * 2 = ((2 ^ (p + 1) : Nat) : Int)) := by show _ = _; rw [Nat.pow_succ, ← HR.out]; omega
              have HT2 : Hid (0 ≤ totS l (p + 1) ∧ totS l (p + 1) ≤ 576 * ((p + 1 : Nat) : Int)) := by
                show _ ∧ _
                have h1 := HT.out
                have h2 := phS_in l p (by rw [← HR.out]; omega) hn.2
                rw [totS]
                omega
              clear HA4
              have hz : ¬ ((L.length : Int) < (L.length : Int)) := by omega
              rw [HSUM.out]
              go_wp2_with fail
              go_roundg (5 - (p + 1))
              case measure => omega
              case rel => exact ⟨p + 1, by omega, by omega, rfl, by rw [← HR2.out], HT2.out, HA5.out, HB3.out⟩
            | succ g3 =>
              have hjlt : j < L.length := by omega
              have hjlt' : (j : Int) < (L.length : Int) := by omega
              obtain ⟨s, hs, hse⟩ := HMEM.out j hjlt
              obtain ⟨b3, off3, rfl, hbB3, hcell3⟩ := HC3.out (by omega)
              have hcx := (HBW3.out.cell (p := ⟨b3, off3 + j, none⟩) hbB3).trans (hcell3 j hjlt)
              rw [hse] at hcx
              have hci := HCI.out (L.take j)
              have hln : (L.take j).length ≤ 12 := by simp; omega
              have HSTEP : Hid (cstL (costN l r) (L.take (j + 1)) = cstL (costN l r) (L.take j) + costN l r s) := by
                show _ = _
                rw [cst_take _ L j hjlt, hse]
                simp
              have HFT : Hid ((L.take (j + 1)).filter (fun x => okN l r x.toNat) = if okN l r s = true then (L.take j).filter (fun x => okN l r x.toNat) ++ [(s : Int)] else (L.take j).filter (fun x => okN l r x.toNat)) := by
                show _ = _
                rw [filter_take _ L j hjlt, hse]
                simp
              have HFL : Hid (((L.take j).filter (fun x => okN l r x.toNat)).length < 1000000000) := by
                show _ < _
                have := List.length_filter_le (fun x => okN l r x.toNat) (L.take j)
                omega
              have HC1 : Hid (∀ W, Below w.heap.size w W → Calls Try.prog 36 #[.slice A l.length c, .int .i64 s, .int .i64 (-1), .int .i64 r] W (RetV W (.tuple #[.int .i64 (stopN (gD l s (l.length - 1)) 0 r : Nat), .bool (ansN (gD l s (l.length - 1)) 0 r)]))) := by
                show ∀ W, _
                intro W hW
                exact elSent_any _ l s (l.length - 1) r (-1) W ((HRI.out.below hW).more hW.size) hn hs (by omega) (.inr ⟨rfl, rfl⟩)
              have HC2 : Hid (∀ W, Below w.heap.size w W → Calls Try.prog 36 #[.slice A l.length c, .int .i64 s, .int .i64 1, .int .i64 r] W (RetV W (.tuple #[.int .i64 (stopN (gD l s 1) 0 r : Nat), .bool (ansN (gD l s 1) 0 r)]))) := by
                show ∀ W, _
                intro W hW
                exact elSent_any _ l s 1 r 1 W ((HRI.out.below hW).more hW.size) hn hs (by omega) (.inl ⟨rfl, rfl⟩)
              have HCOST : Hid (costN l r s = costD l s 1 r + costD l s (l.length - 1) r) := rfl
              have HOKE : Hid (okN l r s = (ansN (gD l s 1) 0 r && ansN (gD l s (l.length - 1)) 0 r)) := rfl
              have hs1a := stopN_le (gD l s 1) 0 r
              have hs1b := stopN_le (gD l s (l.length - 1)) 0 r
              have HD1 : Hid (costD l s 1 r = if ansN (gD l s 1) 0 r = true then (stopN (gD l s 1) 0 r : Int) + (stopN (gD l s 1) 0 r : Int) else (stopN (gD l s 1) 0 r : Int)) := rfl
              have HD2 : Hid (costD l s (l.length - 1) r = if ansN (gD l s (l.length - 1)) 0 r = true then (stopN (gD l s (l.length - 1)) 0 r : Int) + (stopN (gD l s (l.length - 1)) 0 r : Int) else (stopN (gD l s (l.length - 1)) 0 r : Int)) := rfl
              obtain ⟨S, hS⟩ : ∃ S, S = cstL (costN l r) (L.take j) := ⟨_, rfl⟩
              rw [← hS] at hci ⊢
              have HS := Lib.hid hS
              clear hS hcell3 hse
              have hS9 : 0 ≤ S ∧ S ≤ 576 := by omega
              have hs' : (s : Int) < (l.length : Int) := by omega
              generalize stopN (gD l s 1) 0 r = a at HC2 hs1a HD1
              generalize stopN (gD l s (l.length - 1)) 0 r = b at HC1 hs1b HD2
              generalize ansN (gD l s 1) 0 r = oa at HC2 HOKE HD1
              generalize ansN (gD l s (l.length - 1)) 0 r = ob at HC1 HOKE HD2
              have ha12 : (a : Int) ≤ 12 := by omega
              have hb12 : (b : Int) ≤ 12 := by omega
              cases ob <;> cases oa
              · go_wp2_with fail
                refine (HLEAST.out _).mono ?_; rintro e w' ⟨rfl, rfl⟩
                go_wp2_with fail
                refine (HC1.out _ HB3.out).mono ?_; rintro e W4 ⟨rfl, hb4⟩
                have HB4 := Lib.hid (HB3.out.trans (hb4.mono HB3.out.size))
                have HBW4 := Lib.hid (HBW3.out.trans (hb4.mono HBW3.out.size))
                have HA4 := Lib.hid (HA3.out.step hb4)
                clear hb4
                go_wp2_with fail
                refine (HLEAST.out _).mono ?_; rintro e w' ⟨rfl, rfl⟩
                go_wp2_with fail
                refine (HC2.out _ HB4.out).mono ?_; rintro e W5 ⟨rfl, hb5⟩
                have HB5 := Lib.hid (HB4.out.trans (hb5.mono HB4.out.size))
                have HBW5 := Lib.hid (HBW4.out.trans (hb5.mono HBW4.out.size))
                have HA5 := Lib.hid (HA4.out.step hb5)
                clear hb5
                go_wp2_with fail
                go_roundg g3
                case measure => omega
                case rel => exact ⟨j + 1, by omega, by omega, congrArg (Value.int .i64) (by have h1 := HSTEP.out; have h2 := HCOST.out; have h3 := HD1.out; have h4 := HD2.out; have h5 := HS.out; simp at h3 h4; omega), by rw [HFT.out, if_neg (by rw [HOKE.out]; simp)]; exact HA5.out, by go_num, HB5.out, HBW5.out⟩
              · go_wp2_with fail
                refine (HLEAST.out _).mono ?_; rintro e w' ⟨rfl, rfl⟩
                go_wp2_with fail
                refine (HC1.out _ HB3.out).mono ?_; rintro e W4 ⟨rfl, hb4⟩
                have HB4 := Lib.hid (HB3.out.trans (hb4.mono HB3.out.size))
                have HBW4 := Lib.hid (HBW3.out.trans (hb4.mono HBW3.out.size))
                have HA4 := Lib.hid (HA3.out.step hb4)
                clear hb4
                go_wp2_with fail
                refine (HLEAST.out _).mono ?_; rintro e w' ⟨rfl, rfl⟩
                go_wp2_with fail
                refine (HC2.out _ HB4.out).mono ?_; rintro e W5 ⟨rfl, hb5⟩
                have HB5 := Lib.hid (HB4.out.trans (hb5.mono HB4.out.size))
                have HBW5 := Lib.hid (HBW4.out.trans (hb5.mono HBW4.out.size))
                have HA5 := Lib.hid (HA4.out.step hb5)
                clear hb5
                go_wp2_with fail
                go_roundg g3
                case measure => omega
                case rel => exact ⟨j + 1, by omega, by omega, congrArg (Value.int .i64) (by have h1 := HSTEP.out; have h2 := HCOST.out; have h3 := HD1.out; have h4 := HD2.out; have h5 := HS.out; simp at h3 h4; omega), by rw [HFT.out, if_neg (by rw [HOKE.out]; simp)]; exact HA5.out, by go_num, HB5.out, HBW5.out⟩
              · go_wp2_with fail
                refine (HLEAST.out _).mono ?_; rintro e w' ⟨rfl, rfl⟩
                go_wp2_with fail
                refine (HC1.out _ HB3.out).mono ?_; rintro e W4 ⟨rfl, hb4⟩
                have HB4 := Lib.hid (HB3.out.trans (hb4.mono HB3.out.size))
                have HBW4 := Lib.hid (HBW3.out.trans (hb4.mono HBW3.out.size))
                have HA4 := Lib.hid (HA3.out.step hb4)
                clear hb4
                go_wp2_with fail
                refine (HLEAST.out _).mono ?_; rintro e w' ⟨rfl, rfl⟩
                go_wp2_with fail
                refine (HC2.out _ HB4.out).mono ?_; rintro e W5 ⟨rfl, hb5⟩
                have HB5 := Lib.hid (HB4.out.trans (hb5.mono HB4.out.size))
                have HBW5 := Lib.hid (HBW4.out.trans (hb5.mono HBW4.out.size))
                have HA5 := Lib.hid (HA4.out.step hb5)
                clear hb5
                go_wp2_with fail
                go_roundg g3
                case measure => omega
                case rel => exact ⟨j + 1, by omega, by omega, congrArg (Value.int .i64) (by have h1 := HSTEP.out; have h2 := HCOST.out; have h3 := HD1.out; have h4 := HD2.out; have h5 := HS.out; simp at h3 h4; omega), by rw [HFT.out, if_neg (by rw [HOKE.out]; simp)]; exact HA5.out, by go_num, HB5.out, HBW5.out⟩
              · go_wp2_with fail
                refine (HLEAST.out _).mono ?_; rintro e w' ⟨rfl, rfl⟩
                go_wp2_with fail
                refine (HC1.out _ HB3.out).mono ?_; rintro e W4 ⟨rfl, hb4⟩
                have HB4 := Lib.hid (HB3.out.trans (hb4.mono HB3.out.size))
                have HBW4 := Lib.hid (HBW3.out.trans (hb4.mono HBW3.out.size))
                have HA4 := Lib.hid (HA3.out.step hb4)
                clear hb4
                go_wp2_with fail
                refine (HLEAST.out _).mono ?_; rintro e w' ⟨rfl, rfl⟩
                go_wp2_with fail
                refine (HC2.out _ HB4.out).mono ?_; rintro e W5 ⟨rfl, hb5⟩
                have HB5 := Lib.hid (HB4.out.trans (hb5.mono HB4.out.size))
                have HBW5 := Lib.hid (HBW4.out.trans (hb5.mono HBW4.out.size))
                have HA5 := Lib.hid (HA4.out.step hb5)
                clear hb5
                go_wp2_with (at_builtin; refine wpList_push rfl (.tmp 86) (.tmp 88) 22 rfl 3 j0 Try.underlying22 hj hjz0 hjz1 hjz2 W5 W1 W1.heap.size _ _ (s : Int) rfl rfl HA5.out rfl HFL.out HBW5.out.size HBW5.out ?_; intro v6 w6 hacc6 hb6)
                go_roundg g3
                case measure => omega
                case rel => exact ⟨j + 1, by omega, by omega, congrArg (Value.int .i64) (by have h1 := HSTEP.out; have h2 := HCOST.out; have h3 := HD1.out; have h4 := HD2.out; have h5 := HS.out; simp at h3 h4; omega), by rw [HFT.out, if_pos (by rw [HOKE.out]; rfl)]; exact hacc6, by go_num, HBW1.out.trans (hb6.mono HBW1.out.size), hb6⟩
        · obtain rfl : p = phN l.length := by omega
          have HL1 : Hid (alL (alN l (phN l.length)) l.length = [((winN l l.length : Nat) : Int)]) := alL_one ((winN_lt l l.length).2 (by omega)) (win_on hn _) (fun s hs hne => win_alone hn HD.out s hs hne)
          rw [HL1.out] at hri
          have HW := Lib.hid (elWinner_any _ l W1 ((HRI.out.below HBW1.out).more HBW1.out.size) (by omega) (by omega))
          have hrn : (l.length : Int) ≤ (r : Int) := by have := HR.out; have := HPH.out.2.2.2; omega
          have hM9 : 0 ≤ M ∧ M ≤ 2304 := by have := HPH.out.2.1; omega
          have HV : Hid (bothI l = M + (l.length : Int)) := by show _ = _; rw [bothI, HM.out]
          have hwl := (winN_lt l l.length).2 (by omega)
          generalize winN l l.length = wn at HW hri hwl
          obtain ⟨A3, c3, rfl, _, hc3⟩ := hri
          obtain ⟨b3, off3, rfl, hbB3, hcell3⟩ := hc3 (by simp)
          have hcx := hcell3 0 (by simp)
          simp at hcx
          have hwn : (wn : Int) ≤ 12 := by omega
          clear hc3 hcell3 hpg hpp
          go_wp2_with fail
          refine wp_loop_rounds 2 ?_
          rw [rounds_succ]
          go_wp2_with fail
          refine HW.out.mono ?_; rintro e W4 ⟨rfl, hb4⟩
          have HB4 := Lib.hid (HBW1.out.trans (hb4.mono HBW1.out.size))
          clear hb4
          go_wp2_with fail
          rw [rounds_succ]
          go_wp2_with fail
          go_ret2
          exact ⟨by rw [HV.out]; first | rfl | simp, HB4.out⟩

end Go.Proofs.Ytgmknndmmpoliaa
