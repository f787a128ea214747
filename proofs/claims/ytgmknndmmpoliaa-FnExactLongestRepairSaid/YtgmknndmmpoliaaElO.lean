/-
  Chapter 7: the program's election both ways.
-/
import Derived.Test.YtgmknndmmpoliaaElN
import Derived.Deep.LoopGhost
import Derived.LoopN
import Derived.WalkMore
namespace Go.Proofs.Ytgmknndmmpoliaa
open Go.RowKit Go.Maps
set_option maxRecDepth 100000
set_option linter.unusedVariables false

/-- What is still to come, behind a key that has come. -/
theorem left_strike (left : Lit → Bool) (i j : Nat) (hi : i < 1000) : (left (stKey j) && !(stKey j).sameKey (.int .i64 (i : Int))) = if j = i then false else left (stKey j) := by
  by_cases e : j = i
  · subst e
    have : (stKey j).sameKey (.int .i64 (j : Int)) = true := WideAt.sameKey_self (stKey_is hi)
    rw [this, if_pos rfl]
    simp
  · have : (stKey j).sameKey (.int .i64 (i : Int)) = false := sameKey_ne (stKey_ne e)
    rw [this, if_neg e]
    simp
/-- The map within a phase; the messages within a phase. -/
def midA (l : List Int) (p : Nat) (left : Lit → Bool) (s : Nat) : Bool := alN l p s && (left (stKey s) || okN l (2 ^ p) s)
def midF (l : List Int) (p : Nat) (left : Lit → Bool) (s : Nat) : Int := if (alN l p s && !left (stKey s)) = true then costN l (2 ^ p) s else 0
def midL (left : Lit → Bool) (i : Nat) : Lit → Bool := fun z => left z && !z.sameKey (.int .i64 (i : Int))
theorem midF_in (l : List Int) (p : Nat) (left : Lit → Bool) (hp : 2 ^ p ≤ 12) (hl : l.length ≤ 12) : 0 ≤ sumTo (midF l p left) l.length ∧ sumTo (midF l p left) l.length ≤ 576 := by
  have h := sumTo_in (f := midF l p left) (b := 48) (n := l.length) fun i hi => by
    have := costN_in l (2 ^ p) i hp
    unfold midF
    split <;> omega
  omega
theorem midF_step {l : List Int} {p : Nat} {left : Lit → Bool} {i : Nat} (hi : i < l.length) (hl : l.length ≤ 12) (ha : alN l p i = true) (hle : left (stKey i) = true) :
    sumTo (midF l p (midL left i)) l.length = sumTo (midF l p left) l.length + costN l (2 ^ p) i := by
  refine sumTo_upd hi ?_ fun j hj hne => ?_
  · unfold midF midL
    rw [left_strike left i i (by omega), if_pos rfl, ha, hle]
    simp
  · unfold midF midL
    rw [left_strike left i j (by omega), if_neg hne]
theorem midA_keep {l : List Int} {p : Nat} {left : Lit → Bool} {i : Nat} (hl : l.length ≤ 12) (hi : i < l.length) (hok : okN l (2 ^ p) i = true) (j : Nat) (hj : j < l.length) : midA l p left j = midA l p (midL left i) j := by
  unfold midA midL
  rw [left_strike left i j (by omega)]
  by_cases e : j = i
  · subst e
    rw [hok]
    simp
  · rw [if_neg e]
theorem midA_del {l : List Int} {p : Nat} {left : Lit → Bool} {i : Nat} (hl : l.length ≤ 12) (hi : i < l.length) (hok : okN l (2 ^ p) i = false) (j : Nat) (hj : j < l.length) : updB (midA l p left) i false j = midA l p (midL left i) j := by
  unfold updB midA midL
  rw [left_strike left i j (by omega)]
  by_cases e : j = i
  · subst e
    rw [hok]
    simp
  · rw [if_neg e, if_neg e]
theorem midA_end {l : List Int} {p : Nat} {left : Lit → Bool} (h : ∀ kl, left kl = false) (j : Nat) : midA l p left j = alN l (p + 1) j := by
  unfold midA
  rw [h, alN]
  simp
theorem midF_end {l : List Int} {p : Nat} {left : Lit → Bool} (h : ∀ kl, left kl = false) : sumTo (midF l p left) l.length = phS l p := by
  unfold phS
  refine sumTo_congr fun i hi => ?_
  unfold midF
  rw [h]
  simp
theorem midA_start {l : List Int} {p : Nat} {left : Lit → Bool} (h : ∀ i, i < l.length → left (stKey i) = alN l p i) (j : Nat) (hj : j < l.length) : alN l p j = midA l p left j := by
  unfold midA
  rw [h j hj]
  cases alN l p j <;> rfl
theorem midF_start {l : List Int} {p : Nat} {left : Lit → Bool} (h : ∀ i, i < l.length → left (stKey i) = alN l p i) : sumTo (midF l p left) l.length = 0 := by
  have : sumTo (midF l p left) l.length = sumTo (fun _ => 0) l.length := sumTo_congr fun i hi => by
    unfold midF
    rw [h i hi]
    cases alN l p i <;> rfl
  rw [this]
  have z : ∀ n, sumTo (fun _ => 0) n = 0 := by
    intro n
    induction n with
    | zero => rfl
    | succ n ih => rw [sumTo, ih]; rfl
  exact z _
theorem pow_le {p n : Nat} (h : 2 ^ p < n) (hn : n ≤ 12) : p ≤ 3 := by
  refine Nat.le_of_not_lt fun h4 => ?_
  have : 2 ^ 4 ≤ 2 ^ p := Nat.pow_le_pow_right (by omega) h4
  simp at this
  omega
set_option maxHeartbeats 8000000 in
theorem bothWays_any (v : Value) (l : List Int) (w : World) (h : RI w w.heap.size v l) (hn : 2 ≤ l.length ∧ l.length ≤ 12) (hok : okAll 0 999 l = true) :
    Calls Try.prog 38 #[v] w (RetV w (.int .i64 (bothI l))) := by
  have hn' : (2 : Int) ≤ (l.length : Int) ∧ (l.length : Int) ≤ 12 := by omega
  have HAS := Lib.hid (allSurvive_any v l w h (by omega) (by omega) (kvOf l) (kvOf_at hok hn.2))
  have HMF0 := Lib.hid (all_mf hok hn.2)
  have HRI := Lib.hid h
  obtain ⟨A, c, rfl, hlc, hc⟩ := h
  clear hc hok
  go_enter Try.func38, Try.ntmps38
  go_wp2_with fail
  refine HAS.out.mono ?_; rintro e W0 ⟨mb, rfl, hmb, hown, hb0⟩
  have HOWN := Lib.hid hown
  have HB0 := Lib.hid hb0
  clear hown hb0
  go_wp2_with fail
  go_loopg [4, 5] 5 (fun g s4 s5 wx => ∃ (p : Nat) (D : DataW Unit), p + g = 5 ∧ p ≤ 4 ∧ Hid (∀ q, q < p → 2 ^ q < l.length) ∧ s4 = .int .i64 (totS l p) ∧ s5 = .int .i64 ((2 ^ p : Nat) : Int) ∧ Hid (0 ≤ totS l p ∧ totS l p ≤ 576 * p) ∧
    wx.ownsMap Try.prog 3 (plainElem (H := Unit) Try.prog 3) mb l.length D ∧ Hid (MF D l.length (alN l p) (fun i => l.getD i 0)) ∧ Below w.heap.size w wx)
  case atStart => exact ⟨0, _, rfl, by omega, fun q hq => absurd hq (by omega), rfl, rfl, ⟨by simp [totS], by simp [totS]⟩, HOWN.out, HMF0.out, HB0.out⟩
  case round =>
    obtain ⟨p, D, hpg, hp4, HQ, rfl, rfl, HT, hown, HMF, hb⟩ := hrel
    rename World => W1
    have HB1 := Lib.hid hb
    have HTI := HT.out
    obtain ⟨r, hr⟩ : ∃ r, r = 2 ^ p := ⟨_, rfl⟩
    rw [← hr]
    have HR := Lib.hid hr
    clear hr hb
    obtain ⟨M, hM⟩ : ∃ M, M = totS l p := ⟨_, rfl⟩
    rw [← hM] at HTI ⊢
    have HM := Lib.hid hM
    have hM9 : 0 ≤ M ∧ M ≤ 2304 := by omega
    clear hM HTI
    by_cases hlt : r < l.length
    · have hp3 : p ≤ 3 := pow_le (by rw [← HR.out]; exact hlt) hn.2
      have hr12 : 2 ^ p ≤ 12 := by rw [← HR.out]; omega
      have HR12 := Lib.hid hr12
      clear hr12
      have hlt' : (r : Int) < (l.length : Int) := by omega
      have HLEFT : Hid (∀ i, i < l.length → Maps.has D (stKey i) = alN l p i) := HMF.out.has
      go_wp2_with (at_range; refine wpList_range_own _ rfl _ 51 rfl 3 3 (int_keyed Try.underlying3) Try.underlying51 _ mb l.length D rfl hown ?_; intro w0 hrg0 hg0 hs0)
      have HB2 : Hid (Below w.heap.size w w0) := HB1.out.grown hg0 HB1.out.size (fun k hk => by cases hk)
      have HRG0 := Lib.hid hrg0
      have HS1 := Lib.hid HB1.out.size
      clear hrg0 hg0 hown hs0
      go_frame
      go_loopg [4] (Maps.size D + 1) (fun g s4 wx => ∃ (left : Lit → Bool) (cnt : Nat) (D2 : DataW Unit), g = cnt + 1 ∧ wx.ranges Try.prog 3 (plainElem (H := Unit) Try.prog 3) mb W1.heap.size l.length D2 left cnt ∧ Hid (MF D2 l.length (midA l p left) (fun i => l.getD i 0)) ∧ Hid (∀ i, i < l.length → left (stKey i) = true → alN l p i = true) ∧
        s4 = .int .i64 (M + sumTo (midF l p left) l.length) ∧ Below w.heap.size w wx)
      case atStart => exact ⟨_, _, D, rfl, HRG0.out, HMF.out.congr (fun i hi => midA_start HLEFT.out i hi) (fun _ _ _ => rfl), fun i hi h => by rw [HLEFT.out i hi] at h; exact h, by rw [midF_start HLEFT.out]; simp, HB2.out⟩
      case round =>
        obtain ⟨left, cnt, D2, rfl, hrg, HM2, HAL, rfl, hb3⟩ := hrel
        rename World => W2
        have HB3 := Lib.hid hb3
        have hsum := midF_in l p left HR12.out hn.2
        have HSUM := Lib.hid hsum
        obtain ⟨S, hS⟩ : ∃ S, S = sumTo (midF l p left) l.length := ⟨_, rfl⟩
        rw [← hS] at hsum ⊢
        have HS := Lib.hid hS
        clear hS hb3
        go_wp2_with (at_next; refine wpList_next_ranges_ii _ rfl _ rfl 3 3 .i64 .i64 (int_keyed Try.underlying3) Try.underlying3 Try.underlying3 mb W1.heap.size l.length _ _ _ rfl hrg ?_ ?_)
        · intro _ hl0
          have HL0 := Lib.hid hl0
          have HOWN3 := Lib.hid hrg.owns
          clear hl0 hrg
          have HMN : Hid (MF D2 l.length (alN l (p + 1)) (fun i => l.getD i 0)) := HM2.out.congr (fun i hi => midA_end HL0.out i) (fun _ _ _ => rfl)
          have HST : Hid (totS l (p + 1) = M + S) := by show _ = _; rw [totS, ← HM.out, HS.out, midF_end HL0.out]
          have HR2 : Hid ((r : Int) * 2 = ((2 ^ (p + 1) : Nat) : Int)) := by show _ = _; rw [Nat.pow_succ, ← HR.out]; omega
          have HT2 : Hid (0 ≤ totS l (p + 1) ∧ totS l (p + 1) ≤ 576 * ((p + 1 : Nat) : Int)) := by
            show _ ∧ _
            have h1 := HT.out
            have h2 := phS_in l p HR12.out hn.2
            rw [totS]
            omega
          go_wp2_with fail
          go_roundg (5 - (p + 1))
          case measure => omega
          case rel => exact ⟨p + 1, D2, by omega, by omega, fun q hq => by
              by_cases e : q = p
              · rw [e, ← HR.out]; exact hlt
              · exact HQ.out q (by omega), by rw [HST.out], by rw [← HR2.out], HT2.out, HOWN3.out, HMN.out, HB3.out⟩
        · intro x cc w1 cnt1 hwx hwc hlx hat hrg1 hltc hg1 hs1 hen
          obtain ⟨i, hi, hxi, hAi, hcv⟩ := HM2.out.came hat
          subst hxi
          have hal : alN l p i = true := HAL.out i hi hlx
          have HB4 : Hid (Below w.heap.size w w1) := HB3.out.grown hg1 HB3.out.size (fun k hk => by cases hk; exact HS1.out)
          have hrgL : w1.ranges Try.prog 3 (plainElem (H := Unit) Try.prog 3) mb W1.heap.size l.length D2 (midL left i) cnt1 := hrg1
          have HRG := Lib.hid hrgL
          have hbz : Below w1.heap.size w1 (w1.alloc (.cells #[.func (.func 61) #[] #[], .func (.func 62) #[] #[]] 59)) := (Below.refl _ _).alloc (Nat.le_refl _) _
          have hZ := BK.made w1 59 #[.func (.func 61) #[] #[], .func (.func 62) #[] #[]]
          have HRG5 : Hid ((w1.alloc (.cells #[.func (.func 61) #[] #[], .func (.func 62) #[] #[]] 59)).ranges Try.prog 3 (plainElem (H := Unit) Try.prog 3) mb W1.heap.size l.length D2 (midL left i) cnt1) := hrgL.alloc _
          have HB5 : Hid (Below w.heap.size w (w1.alloc (.cells #[.func (.func 61) #[] #[], .func (.func 62) #[] #[]] 59))) := HB4.out.trans (hbz.mono HB4.out.size)
          have HC1 := Lib.hid (linksbehind_any _ l i r (w1.alloc (.cells #[.func (.func 61) #[] #[], .func (.func 62) #[] #[]] 59)) ((HRI.out.below HB5.out).more HB5.out.size) hn hi (by omega))
          have HC2 : Hid (∀ W, Below w.heap.size w W → Calls Try.prog 63 #[.slice A l.length c, .int .i64 i, .int .i64 r, .func (.func 62) #[] #[]] W (RetV W (.tuple #[.int .i64 (stopN (gD l i (l.length - 1)) 0 r : Nat), .bool (ansN (gD l i (l.length - 1)) 0 r)]))) := by
            show ∀ W, _
            intro W hW
            exact linksbefore_any _ l i r W ((HRI.out.below hW).more hW.size) hn hi (by omega)
          have HSTEP := Lib.hid (midF_step (p := p) (left := left) hi hn.2 hal hlx)
          have HAL2 : Hid (∀ j, j < l.length → midL left i (stKey j) = true → alN l p j = true) := by
            show ∀ j, _
            intro j hj hjl
            refine HAL.out j hj ?_
            unfold midL at hjl
            simp at hjl
            exact hjl.1
          have HCOST : Hid (costN l (2 ^ p) i = costD l i 1 r + costD l i (l.length - 1) r) := by show _ = _; rw [costN, HR.out]
          have HOKE : Hid (okN l (2 ^ p) i = (ansN (gD l i 1) 0 r && ansN (gD l i (l.length - 1)) 0 r)) := by show _ = _; rw [okN, HR.out]
          have hs1a := stopN_le (gD l i 1) 0 r
          have hs1b := stopN_le (gD l i (l.length - 1)) 0 r
          have HD1 : Hid (costD l i 1 r = if ansN (gD l i 1) 0 r = true then (stopN (gD l i 1) 0 r : Int) + (stopN (gD l i 1) 0 r : Int) else (stopN (gD l i 1) 0 r : Int)) := rfl
          have HD2 : Hid (costD l i (l.length - 1) r = if ansN (gD l i (l.length - 1)) 0 r = true then (stopN (gD l i (l.length - 1)) 0 r : Int) + (stopN (gD l i (l.length - 1)) 0 r : Int) else (stopN (gD l i (l.length - 1)) 0 r : Int)) := rfl
          have HKEEP : Hid (okN l (2 ^ p) i = true → MF D2 l.length (midA l p (midL left i)) (fun i => l.getD i 0)) := fun hk => HM2.out.congr (fun j hj => midA_keep hn.2 hi hk j hj) (fun _ _ _ => rfl)
          have HDEL : Hid (okN l (2 ^ p) i = false → MF (D2.del (stKey i)) l.length (midA l p (midL left i)) (fun i => l.getD i 0)) := fun hk => (HM2.out.del hi (by omega)).congr (fun j hj => midA_del hn.2 hi hk j hj) (fun _ _ _ => rfl)
          have HDEL2 : Hid (okN l (2 ^ p) i = false → MF ((D2.del (stKey i)).del (stKey i)) l.length (midA l p (midL left i)) (fun i => l.getD i 0)) := fun hk => by
            have h9 := (HM2.out.del hi (by omega)).del hi (by omega)
            refine h9.congr (fun j hj => ?_) (fun _ _ _ => rfl)
            rw [← midA_del hn.2 hi hk j hj]
            unfold updB
            split <;> rfl
          have hkey : keyOf Try.prog 3 (.int .i64 (i : Int)) = some (stKey i) := keyOf_int_mk Try.underlying3 hwx
          have HKEY := Lib.hid hkey
          have HSZ1 := Lib.hid hs1
          have HMB := Lib.hid hmb
          clear hkey hrg hrg1 hrgL hat hAi hcv hwx hwc hlx hal hg1 hs1
          have hi' : (i : Int) < (l.length : Int) := by omega
          generalize stopN (gD l i 1) 0 r = a at HC1 hs1a HD1
          generalize stopN (gD l i (l.length - 1)) 0 r = b at HC2 hs1b HD2
          generalize ansN (gD l i 1) 0 r = oa at HC1 HOKE HD1
          generalize ansN (gD l i (l.length - 1)) 0 r = ob at HC2 HOKE HD2
          have ha12 : (a : Int) ≤ 12 := by omega
          have hb12 : (b : Int) ≤ 12 := by omega
          cases oa <;> cases ob
          · go_wp2_with fail
            refine wp_loop_rounds 3 ?_
            rw [rounds_succ]
            go_wp2_with fail
            refine HC1.out.mono ?_; rintro e W3 ⟨rfl, hb6⟩
            have hz1 := (hZ.step hb6).cell 1
            simp at hz1
            have hmbl := HRG.out.owns.lt
            have HRG6 := Lib.hid (HRG5.out.kept (below_grown0 hb6 none) (by simp) (by simp))
            have HB6 := Lib.hid (HB5.out.trans (hb6.mono HB5.out.size))
            have hszz : w1.heap.size < W3.heap.size := by have := hb6.size; simp at this; omega
            have HZZ := Lib.hid hszz
            have HML := Lib.hid hmbl
            clear hb6 hszz hmbl
            go_wp2_with (at_delete; refine wpList_delete_ranges _ rfl _ _ 51 3 rfl 3 (int_keyed Try.underlying3) Try.underlying51 _ mb W1.heap.size l.length _ _ _ rfl HRG6.out _ _ rfl HKEY.out ?_; intro W4 cntW4 hrgW4 hleW4 hturnW4; go_frame)
            rw [show (fun z : Lit => midL left i z && !z.sameKey (stKey i)) = midL left i from strike_twice left (stKey i)] at hrgW4
            have HRG7 := Lib.hid hrgW4
            have HB7 := Lib.hid (HB6.out.grown hturnW4.grown HB6.out.size (fun k hk => by cases hk; exact HMB.out))
            have hz1 := (World.cell?_of_block (hturnW4.grown.block w1.heap.size HZZ.out (by have := HML.out; simp; omega))).trans hz1
            clear hrgW4 hturnW4
            try go_wp2_with fail
            rw [rounds_succ]
            go_wp2_with fail
            refine (HC2.out _ HB7.out).mono ?_; rintro e W5 ⟨rfl, hb8⟩
            have HRG8 := Lib.hid (HRG7.out.kept (below_grown0 hb8 none) (by simp) (by simp))
            have HB8 := Lib.hid (HB7.out.trans (hb8.mono HB7.out.size))
            clear hb8
            go_wp2_with (at_delete; refine wpList_delete_ranges _ rfl _ _ 51 3 rfl 3 (int_keyed Try.underlying3) Try.underlying51 _ mb W1.heap.size l.length _ _ _ rfl HRG8.out _ _ rfl HKEY.out ?_; intro W6 cntW6 hrgW6 hleW6 hturnW6; go_frame)
            rw [show (fun z : Lit => midL left i z && !z.sameKey (stKey i)) = midL left i from strike_twice left (stKey i)] at hrgW6
            have HRG9 := Lib.hid hrgW6
            have HB9 := Lib.hid (HB8.out.grown hturnW6.grown HB8.out.size (fun k hk => by cases hk; exact HMB.out))
            clear hrgW6 hturnW6
            try go_wp2_with fail
            rw [rounds_succ]
            go_wp2_with fail
            go_roundg (cntW6 + 1)
            case measure => omega
            case rel => exact ⟨midL left i, cntW6, ((D2.del (stKey i)).del (stKey i)), rfl, HRG9.out, HDEL2.out (by rw [HOKE.out]; rfl), HAL2.out, congrArg (Value.int .i64) (by have h1 := HSTEP.out; have h2 := HCOST.out; have h3 := HD1.out; have h4 := HD2.out; have h5 := HS.out; simp at h3 h4; omega), HB9.out⟩
          · go_wp2_with fail
            refine wp_loop_rounds 3 ?_
            rw [rounds_succ]
            go_wp2_with fail
            refine HC1.out.mono ?_; rintro e W3 ⟨rfl, hb6⟩
            have hz1 := (hZ.step hb6).cell 1
            simp at hz1
            have hmbl := HRG.out.owns.lt
            have HRG6 := Lib.hid (HRG5.out.kept (below_grown0 hb6 none) (by simp) (by simp))
            have HB6 := Lib.hid (HB5.out.trans (hb6.mono HB5.out.size))
            have hszz : w1.heap.size < W3.heap.size := by have := hb6.size; simp at this; omega
            have HZZ := Lib.hid hszz
            have HML := Lib.hid hmbl
            clear hb6 hszz hmbl
            go_wp2_with (at_delete; refine wpList_delete_ranges _ rfl _ _ 51 3 rfl 3 (int_keyed Try.underlying3) Try.underlying51 _ mb W1.heap.size l.length _ _ _ rfl HRG6.out _ _ rfl HKEY.out ?_; intro W4 cntW4 hrgW4 hleW4 hturnW4; go_frame)
            rw [show (fun z : Lit => midL left i z && !z.sameKey (stKey i)) = midL left i from strike_twice left (stKey i)] at hrgW4
            have HRG7 := Lib.hid hrgW4
            have HB7 := Lib.hid (HB6.out.grown hturnW4.grown HB6.out.size (fun k hk => by cases hk; exact HMB.out))
            have hz1 := (World.cell?_of_block (hturnW4.grown.block w1.heap.size HZZ.out (by have := HML.out; simp; omega))).trans hz1
            clear hrgW4 hturnW4
            try go_wp2_with fail
            rw [rounds_succ]
            go_wp2_with fail
            refine (HC2.out _ HB7.out).mono ?_; rintro e W5 ⟨rfl, hb8⟩
            have HRG8 := Lib.hid (HRG7.out.kept (below_grown0 hb8 none) (by simp) (by simp))
            have HB8 := Lib.hid (HB7.out.trans (hb8.mono HB7.out.size))
            clear hb8
            go_wp2_with fail
            rw [rounds_succ]
            go_wp2_with fail
            go_roundg (cntW4 + 1)
            case measure => omega
            case rel => exact ⟨midL left i, cntW4, (D2.del (stKey i)), rfl, HRG8.out, HDEL.out (by rw [HOKE.out]; rfl), HAL2.out, congrArg (Value.int .i64) (by have h1 := HSTEP.out; have h2 := HCOST.out; have h3 := HD1.out; have h4 := HD2.out; have h5 := HS.out; simp at h3 h4; omega), HB8.out⟩
          · go_wp2_with fail
            refine wp_loop_rounds 3 ?_
            rw [rounds_succ]
            go_wp2_with fail
            refine HC1.out.mono ?_; rintro e W3 ⟨rfl, hb6⟩
            have hz1 := (hZ.step hb6).cell 1
            simp at hz1
            have hmbl := HRG.out.owns.lt
            have HRG6 := Lib.hid (HRG5.out.kept (below_grown0 hb6 none) (by simp) (by simp))
            have HB6 := Lib.hid (HB5.out.trans (hb6.mono HB5.out.size))
            have hszz : w1.heap.size < W3.heap.size := by have := hb6.size; simp at this; omega
            have HZZ := Lib.hid hszz
            have HML := Lib.hid hmbl
            clear hb6 hszz hmbl
            go_wp2_with fail
            rw [rounds_succ]
            go_wp2_with fail
            refine (HC2.out _ HB6.out).mono ?_; rintro e W5 ⟨rfl, hb8⟩
            have HRG8 := Lib.hid (HRG6.out.kept (below_grown0 hb8 none) (by simp) (by simp))
            have HB8 := Lib.hid (HB6.out.trans (hb8.mono HB6.out.size))
            clear hb8
            go_wp2_with (at_delete; refine wpList_delete_ranges _ rfl _ _ 51 3 rfl 3 (int_keyed Try.underlying3) Try.underlying51 _ mb W1.heap.size l.length _ _ _ rfl HRG8.out _ _ rfl HKEY.out ?_; intro W6 cntW6 hrgW6 hleW6 hturnW6; go_frame)
            rw [show (fun z : Lit => midL left i z && !z.sameKey (stKey i)) = midL left i from strike_twice left (stKey i)] at hrgW6
            have HRG9 := Lib.hid hrgW6
            have HB9 := Lib.hid (HB8.out.grown hturnW6.grown HB8.out.size (fun k hk => by cases hk; exact HMB.out))
            clear hrgW6 hturnW6
            try go_wp2_with fail
            rw [rounds_succ]
            go_wp2_with fail
            go_roundg (cntW6 + 1)
            case measure => omega
            case rel => exact ⟨midL left i, cntW6, (D2.del (stKey i)), rfl, HRG9.out, HDEL.out (by rw [HOKE.out]; rfl), HAL2.out, congrArg (Value.int .i64) (by have h1 := HSTEP.out; have h2 := HCOST.out; have h3 := HD1.out; have h4 := HD2.out; have h5 := HS.out; simp at h3 h4; omega), HB9.out⟩
          · go_wp2_with fail
            refine wp_loop_rounds 3 ?_
            rw [rounds_succ]
            go_wp2_with fail
            refine HC1.out.mono ?_; rintro e W3 ⟨rfl, hb6⟩
            have hz1 := (hZ.step hb6).cell 1
            simp at hz1
            have hmbl := HRG.out.owns.lt
            have HRG6 := Lib.hid (HRG5.out.kept (below_grown0 hb6 none) (by simp) (by simp))
            have HB6 := Lib.hid (HB5.out.trans (hb6.mono HB5.out.size))
            have hszz : w1.heap.size < W3.heap.size := by have := hb6.size; simp at this; omega
            have HZZ := Lib.hid hszz
            have HML := Lib.hid hmbl
            clear hb6 hszz hmbl
            go_wp2_with fail
            rw [rounds_succ]
            go_wp2_with fail
            refine (HC2.out _ HB6.out).mono ?_; rintro e W5 ⟨rfl, hb8⟩
            have HRG8 := Lib.hid (HRG6.out.kept (below_grown0 hb8 none) (by simp) (by simp))
            have HB8 := Lib.hid (HB6.out.trans (hb8.mono HB6.out.size))
            clear hb8
            go_wp2_with fail
            rw [rounds_succ]
            go_wp2_with fail
            go_roundg (cnt1 + 1)
            case measure => omega
            case rel => exact ⟨midL left i, cnt1, D2, rfl, HRG8.out, HKEEP.out (by rw [HOKE.out]; rfl), HAL2.out, congrArg (Value.int .i64) (by have h1 := HSTEP.out; have h2 := HCOST.out; have h3 := HD1.out; have h4 := HD2.out; have h5 := HS.out; simp at h3 h4; omega), HB8.out⟩
    · have hge : ¬ ((r : Int) < (l.length : Int)) := by omega
      have HP : Hid (p = phN l.length) := phN_is hn (by rw [← HR.out]; omega) HQ.out
      have HV : Hid (bothI l = M + (l.length : Int)) := by show _ = _; rw [bothI, ← HP.out, HM.out]
      go_wp2_with fail
      go_ret
      exact ⟨by rw [HV.out]; first | rfl | simp, HB1.out⟩

end Go.Proofs.Ytgmknndmmpoliaa
