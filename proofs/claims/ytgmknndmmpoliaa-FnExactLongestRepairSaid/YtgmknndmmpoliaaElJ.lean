/-
  Chapter 7: a whole round of the program's election by rounds, and all its rounds.
-/
import Derived.Test.YtgmknndmmpoliaaElZ
import Derived.Test.YtgmknndmmpoliaaElS
import Derived.Maps.OwnSet
namespace Go.Proofs.Ytgmknndmmpoliaa
open Go.RowKit Go.Maps
set_option maxRecDepth 100000
set_option linter.unusedVariables false

/-- The map within a round. -/
def goA (A : Nat → Bool) (V : Nat → Int) (n : Nat) (left : Lit → Bool) (s : Nat) : Bool := A s && (left (stKey s) || nextA A V n s)
def goV (A : Nat → Bool) (V : Nat → Int) (n : Nat) (left : Lit → Bool) (s : Nat) : Int := if left (stKey s) = true then V s else nextV A V n s
theorem goA_put {A : Nat → Bool} {V : Nat → Int} {n : Nat} {left : Lit → Bool} {i : Nat} (hn : n ≤ 12) (hi : i < n) (hA : A i = true) (hb : nextA A V n i = true) (j : Nat) (hj : j < n) : updB (goA A V n left) i true j = goA A V n (midL left i) j := by
  unfold updB goA midL
  rw [left_strike left i j (by omega)]
  by_cases e : j = i
  · rw [if_pos e, if_pos e, e, hA, hb]
    rfl
  · rw [if_neg e, if_neg e]
theorem goV_put {A : Nat → Bool} {V : Nat → Int} {n : Nat} {left : Lit → Bool} {i : Nat} (hn : n ≤ 12) (hi : i < n) (j : Nat) : updV (goV A V n left) i (nextV A V n i) j = goV A V n (midL left i) j := by
  unfold updV goV midL
  rw [left_strike left i j (by omega)]
  by_cases e : j = i
  · rw [if_pos e, if_pos e, e]
    simp
  · rw [if_neg e, if_neg e]
theorem goA_del {A : Nat → Bool} {V : Nat → Int} {n : Nat} {left : Lit → Bool} {i : Nat} (hn : n ≤ 12) (hi : i < n) (hb : nextA A V n i = false) (j : Nat) (hj : j < n) : updB (goA A V n left) i false j = goA A V n (midL left i) j := by
  unfold updB goA midL
  rw [left_strike left i j (by omega)]
  by_cases e : j = i
  · rw [if_pos e, if_pos e, e, hb]
    simp
  · rw [if_neg e, if_neg e]
theorem goV_del {A : Nat → Bool} {V : Nat → Int} {n : Nat} {left : Lit → Bool} {i : Nat} (hn : n ≤ 12) (hi : i < n) (hb : nextA A V n i = false) (j : Nat) (hj : goA A V n (midL left i) j = true) : goV A V n left j = goV A V n (midL left i) j := by
  unfold goA midL at hj
  rw [left_strike left i j (by omega)] at hj
  unfold goV midL
  rw [left_strike left i j (by omega)]
  by_cases e : j = i
  · rw [if_pos e, e, hb] at hj
    simp at hj
  · rw [if_neg e]
theorem goA_end {A : Nat → Bool} {V : Nat → Int} {n : Nat} {left : Lit → Bool} (h : ∀ kl, left kl = false) (j : Nat) : goA A V n left j = nextA A V n j := by
  unfold goA
  rw [h, Bool.false_or]
  unfold nextA
  cases A j <;> rfl
theorem goV_end {A : Nat → Bool} {V : Nat → Int} {n : Nat} {left : Lit → Bool} (h : ∀ kl, left kl = false) (j : Nat) : goV A V n left j = nextV A V n j := by
  unfold goV
  rw [h]
  simp
theorem goA_start {A : Nat → Bool} {V : Nat → Int} {n : Nat} {left : Lit → Bool} (h : ∀ i, i < n → left (stKey i) = A i) (j : Nat) (hj : j < n) : A j = goA A V n left j := by
  unfold goA
  rw [h j hj]
  cases A j <;> rfl
theorem goV_start {A : Nat → Bool} {V : Nat → Int} {n : Nat} {left : Lit → Bool} (h : ∀ i, i < n → left (stKey i) = A i) (j : Nat) (hj : j < n) (hA : goA A V n left j = true) : V j = goV A V n left j := by
  have hl : left (stKey j) = true := by
    rw [h j hj]
    unfold goA at hA
    simp only [Bool.and_eq_true] at hA
    exact hA.1
  unfold goV
  rw [if_pos hl]
/-- What a round leaves. -/
def RetGo (mb nn n : Nat) (A : Nat → Bool) (V : Nat → Int) (w : World) (e : Ending) (w' : World) : Prop := (∃ v, e = .returned v) ∧ ∃ D', w'.ownsMap Try.prog 3 (plainElem (H := Unit) Try.prog 3) mb nn D' ∧ MF D' n (nextA A V n) (nextV A V n) ∧ w.grownBy w' (some mb)
theorem gb_trans {w w1 w2 : World} {row row2 : Option Nat} (h : w.grownBy w1 row) (g : w1.grownBy w2 row2) (hr : ∀ k, row2 = some k → k < w.heap.size → row = some k) : w.grownBy w2 row :=
  ⟨g.os.trans h.os, g.tape.trans h.tape, g.output.trans h.output, Nat.le_trans h.size g.size, fun k hk hne => (g.block k (Nat.lt_of_lt_of_le hk h.size) (fun e => hne (hr k e.symm hk).symm)).trans (h.block k hk hne)⟩
theorem ownsMap_below {w w' : World} {B mb nn : Nat} {D : DataW Unit} (h : w.ownsMap Try.prog 3 (plainElem (H := Unit) Try.prog 3) mb nn D) (hb : Below B w w') (hm : mb < B) : w'.ownsMap Try.prog 3 (plainElem (H := Unit) Try.prog 3) mb nn D := by
  obtain ⟨es, clock, h1, F, hs, hD⟩ := h
  exact ⟨es, clock, (hb.block mb hm).trans h1, F, hs, hD⟩
set_option maxHeartbeats 8000000 in
theorem goOn_any (mb nn : Nat) (D : DataW Unit) (n : Nat) (A : Nat → Bool) (V : Nat → Int) (w : World) (hn : n ≤ 12) (hnn : nn ≤ 12) (h2 : 2 ≤ cntA A n) (hV : ∀ s, s < n → A s = true → 0 ≤ V s ∧ V s ≤ 999) (hown : w.ownsMap Try.prog 3 (plainElem (H := Unit) Try.prog 3) mb nn D) (hm : MF D n A V) :
    Calls Try.prog 60 #[.map (some mb)] w (RetGo mb nn n A V w) := by
  have HTAK := Lib.hid (taken_any mb nn D n A V w hn h2 hV hown hm)
  have HOWN := Lib.hid hown
  have HM := Lib.hid hm
  have HMB := Lib.hid hown.lt
  clear hown hm hV h2
  go_enter Try.func60, Try.ntmps60
  go_wp2_with fail
  refine HTAK.out.mono ?_; rintro e W1 ⟨tb, kb, Dt, rfl, htb, hkb, hot, hmt, hb1⟩
  have hown1 : W1.ownsMap Try.prog 3 (plainElem (H := Unit) Try.prog 3) mb nn D := HOWN.out.kept (below_grown0 hb1 none) (by simp)
  have HTL := Lib.hid hot.lt
  have HOT := Lib.hid hot
  have HMT := Lib.hid hmt
  have HTB : Hid (some tb ≠ some mb) := by
    show _ ≠ _
    intro e
    injection e with e
    have := HMB.out
    omega
  have HTW : Hid (some tb ≠ some W1.heap.size) := by
    show _ ≠ _
    intro e
    injection e with e
    have := HTL.out
    omega
  have HB1 : Hid (w.grownBy W1 (some mb)) := below_grown0 hb1 (some mb)
  have HLW : Hid (w.heap.size ≤ W1.heap.size) := hb1.size
  have HLEFT : Hid (∀ i, i < n → Maps.has D (stKey i) = A i) := HM.out.has
  clear hot hmt hb1 htb
  go_wp2_with (at_range; refine wpList_range_own _ rfl _ 51 rfl 3 3 (int_keyed Try.underlying3) Try.underlying51 _ mb nn D rfl hown1 ?_; intro w0 hrg0 hg0 hs0)
  have HB2 : Hid (w.grownBy w0 (some mb)) := gb_trans HB1.out hg0 (fun k hk _ => by cases hk)
  have HOT0 : Hid (w0.ownsMap Try.prog 3 (plainElem (H := Unit) Try.prog 3) tb kb Dt) := HOT.out.kept hg0 (by simp)
  have HRG0 := Lib.hid hrg0
  clear hrg0 hg0 hown1 hs0
  go_frame
  go_loopg [] (Maps.size D + 1) (fun g wx => ∃ (left : Lit → Bool) (cnt : Nat) (D2 : DataW Unit), g = cnt + 1 ∧ wx.ranges Try.prog 3 (plainElem (H := Unit) Try.prog 3) mb W1.heap.size nn D2 left cnt ∧ Hid (MF D2 n (goA A V n left) (goV A V n left)) ∧ wx.ownsMap Try.prog 3 (plainElem (H := Unit) Try.prog 3) tb kb Dt ∧ w.grownBy wx (some mb))
  case atStart => exact ⟨_, _, D, rfl, HRG0.out, HM.out.congr (fun i hi => goA_start HLEFT.out i hi) (fun i hi h => goV_start HLEFT.out i hi h), HOT0.out, HB2.out⟩
  case round =>
    obtain ⟨left, cnt, D2, rfl, hrg, HM2, hot2, hb3⟩ := hrel
    rename World => W2
    have HB3 := Lib.hid hb3
    have HOT2 := Lib.hid hot2
    clear hb3 hot2
    go_wp2_with (at_next; refine wpList_next_ranges_ii _ rfl _ rfl 3 3 .i64 .i64 (int_keyed Try.underlying3) Try.underlying3 Try.underlying3 mb W1.heap.size nn _ _ _ rfl hrg ?_ ?_)
    · intro _ hl0
      have HL0 := Lib.hid hl0
      have HOWN3 := Lib.hid hrg.owns
      clear hl0 hrg
      go_wp2_with fail
      go_end0
      unfold RetGo
      exact ⟨⟨_, rfl⟩, D2, HOWN3.out, HM2.out.congr (fun i hi => goA_end HL0.out i) (fun i hi _ => goV_end HL0.out i), HB3.out⟩
    · intro x cc w1 cnt1 hwx hwc hlx hat hrg1 hltc hg1 hs1 hen
      have hhas0 := has_true_of_atKey hat
      obtain ⟨i, hi, hxi, hgA, hcv⟩ := HM2.out.came hat
      subst hxi
      have hAi : A i = true := by unfold goA at hgA; simp only [Bool.and_eq_true] at hgA; exact hgA.1
      have HB4 : Hid (w.grownBy w1 (some mb)) := gb_trans HB3.out hg1 (fun k hk hlt => by cases hk; have := HLW.out; omega)
      have hrgL : w1.ranges Try.prog 3 (plainElem (H := Unit) Try.prog 3) mb W1.heap.size nn D2 (midL left i) cnt1 := hrg1
      have HRG := Lib.hid hrgL
      have HHASM : Hid (Maps.has D2 (stKey i) = true) := hhas0
      have HOT3 : Hid (w1.ownsMap Try.prog 3 (plainElem (H := Unit) Try.prog 3) tb kb Dt) := HOT2.out.kept hg1 HTW.out
      have hkey : keyOf Try.prog 3 (.int .i64 (i : Int)) = some (stKey i) := keyOf_int_mk Try.underlying3 hwx
      have HKEY := Lib.hid hkey
      have HI : Hid (i < n) := hi
      have HA := Lib.hid hAi
      have HHAS : Hid (Maps.has Dt (stKey i) = nextA A V n i) := HMT.out.has i hi
      have HAT : Hid (nextA A V n i = true → ∀ z, Dt.atKey (stKey i) z = .lit (.int .i64 (nextV A V n i))) := HMT.out.at_ i hi
      clear hkey hrg hrg1 hrgL hat hgA hcv hwx hwc hlx hg1 hs1 hhas0 hAi
      cases hb : nextA A V n i
      · have HN := Lib.hid hb
        rw [hb] at HHAS
        clear hb
        go_wp2_with
          (first
            | (at_lookup; refine wpList_lookup_own_ok_int _ rfl _ _ 51 rfl 3 3 .i64 (int_keyed Try.underlying3) Try.underlying51 Try.underlying3 (zeroI _) tb kb Dt rfl HOT3.out _ _ rfl HKEY.out ?_; intro c hat2 hwc2; rw [HHAS.out])
            | (at_delete; refine wpList_delete_ranges _ rfl _ _ 51 3 rfl 3 (int_keyed Try.underlying3) Try.underlying51 _ mb W1.heap.size nn _ _ _ rfl HRG.out _ _ rfl HKEY.out ?_; intro W4 cntW4 hrgW4 hleW4 hturnW4; go_frame))
        rw [show (fun z : Lit => midL left i z && !z.sameKey (stKey i)) = midL left i from strike_twice left (stKey i)] at hrgW4
        have HG4 := Lib.hid hturnW4.grown
        have HRG4 := Lib.hid hrgW4
        clear hrgW4 hturnW4
        try go_wp2_with fail
        go_roundg (cntW4 + 1)
        case measure => omega
        case rel => exact ⟨midL left i, cntW4, (D2.del (stKey i)), rfl, HRG4.out, (HM2.out.del HI.out (by omega)).congr (fun j hj => goA_del hn HI.out HN.out j hj) (fun j hj hgj => goV_del hn HI.out HN.out j hgj), HOT3.out.kept HG4.out HTB.out, gb_trans HB4.out HG4.out (fun k hk _ => hk)⟩
      · have HN := Lib.hid hb
        rw [hb] at HHAS
        have HATN : Hid (∀ z, Dt.atKey (stKey i) z = .lit (.int .i64 (nextV A V n i))) := HAT.out hb
        clear hb
        obtain ⟨y, hy⟩ : ∃ y, y = nextV A V n i := ⟨_, rfl⟩
        rw [← hy] at HATN
        have HY := Lib.hid hy
        clear hy HAT
        go_wp2_with
          (first
            | (at_lookup; refine wpList_lookup_own_ok_int _ rfl _ _ 51 rfl 3 3 .i64 (int_keyed Try.underlying3) Try.underlying51 Try.underlying3 (zeroI _) tb kb Dt rfl HOT3.out _ _ rfl HKEY.out ?_; intro c hat2 hwc2; rw [HHAS.out]; have hcy : c = y := (by (have h9 := HATN.out (.lit (.int .i64 0))); rw [hat2] at h9; injection h9 with h9; injection h9); subst hcy; have HWF := Lib.hid hwc2; clear hat2 hwc2)
            | (at_mapUpdate; refine wpList_store_ranges _ rfl _ _ _ 51 rfl 3 3 (int_keyed Try.underlying3) Try.underlying51 _ mb W1.heap.size nn _ _ _ rfl HRG.out (by unfold maxLen; omega) _ _ _ rfl rfl HKEY.out _ [] (plainElem_int Try.underlying3 HWF.out) HHASM.out ?_; intro w5 hrg5 hgrow5; go_frame))
        have HG5 := Lib.hid hgrow5
        have HRG5 := Lib.hid hrg5
        clear hgrow5 hrg5
        try go_wp2_with fail
        go_roundg (cnt1 + 1)
        case measure => omega
        case rel => exact ⟨midL left i, cnt1, _, rfl, HRG5.out, (HM2.out.put HI.out (by omega) c).congr (fun j hj => goA_put hn HI.out HA.out HN.out j hj) (fun j hj hgj => by rw [HY.out]; exact goV_put hn HI.out j), HOT3.out.kept HG5.out HTB.out, gb_trans HB4.out HG5.out (fun k hk _ => hk)⟩

/-- What all rounds leave. -/
def RetSL (w : World) (L : List (List Int)) (e : Ending) (w' : World) : Prop := ∃ u, e = .returned u ∧ OS 22 3 w' w.heap.size w'.heap.size u L ∧ Below w.heap.size w w'
set_option maxHeartbeats 8000000 in
theorem survivorsOf_any (v : Value) (l : List Int) (w : World) (h : RI w w.heap.size v l) (hn : 2 ≤ l.length ∧ l.length ≤ 12) (hok : okAll 0 999 l = true) :
    Calls Try.prog 34 #[v] w (RetSL w (srvT l (rdN l))) := by
  obtain ⟨i0, hi, hz0, hz1, hz2⟩ := info_parts elInts_info
  have hn' : (2 : Int) ≤ (l.length : Int) ∧ (l.length : Int) ≤ 12 := by omega
  have HAS := Lib.hid (allSurvive_any v l w h (by omega) (by omega) (kvOf l) (kvOf_at hok hn.2))
  have HMF0 := Lib.hid (all_mf hok hn.2)
  have HV : Hid (∀ p, ∀ s, s < l.length → (apF l p).1 s = true → 0 ≤ (apF l p).2 s ∧ (apF l p).2 s ≤ 999) := fun p => ap_in hok p
  obtain ⟨A, c, rfl, hlc, hc⟩ := h
  clear hc hok
  go_enter Try.func34, Try.ntmps34
  go_wp2_with fail
  refine HAS.out.mono ?_; rintro e W0 ⟨mb, rfl, hmb, hown, hb0⟩
  have HOR := Lib.hid (inOrder_any mb l.length _ l.length (fun _ => true) (fun i => l.getD i 0) W0 (by omega) hown HMF0.out)
  have HOWN := Lib.hid hown
  have HML : Hid (mb < W0.heap.size) := hown.lt
  have HB0 := Lib.hid hb0
  clear hown hb0
  go_wp2_with fail
  refine HOR.out.mono ?_; rintro e W1 ⟨u1, rfl, ho1, hb1⟩
  have hos0 := OS.lit1 (T := 22) (w := W1) (g := W1.heap.size) rfl ho1 hb1.size (Nat.le_refl _)
  have hb2 : Below W0.heap.size W0 (W1.alloc (.cells #[u1] 22)) := hb1.alloc hb1.size _
  obtain ⟨A1, c1, rfl, _, _⟩ := ho1.ri
  have HW := Lib.hid hb2
  have HO := Lib.hid hos0
  clear hb2 hos0 hb1 ho1
  go_wp2_with fail
  have hs2 : (W1.alloc (.cells #[.slice A1 (alL (fun _ => true) l.length).length c1] 22)).heap.size = W1.heap.size + 1 := by simp
  have HS2 := Lib.hid hs2
  clear hs2
  go_loopg [4] l.length (fun g s4 wx => ∃ (p : Nat) (D : DataW Unit), p + g = l.length ∧ Hid (∀ q, q < p → 1 < nmA l q) ∧ wx.ownsMap Try.prog 3 (plainElem (H := Unit) Try.prog 3) mb l.length D ∧ Hid (MF D l.length (apF l p).1 (apF l p).2) ∧
    OS 22 3 wx W0.heap.size wx.heap.size s4 (srvT l p) ∧ W0.heap.size ≤ wx.heap.size ∧ Below w.heap.size w wx)
  case atStart => exact ⟨0, _, by omega, fun q hq => absurd hq (by omega), ownsMap_below HOWN.out HW.out HML.out, HMF0.out, HO.out.wide (Nat.le_refl _) (by rw [HS2.out]; exact Nat.le_refl _), HW.out.size, HB0.out.trans (HW.out.mono HB0.out.size)⟩
  case round =>
    obtain ⟨p, D, hpg, HQ, hown, HMF, hos, hsz, hbw⟩ := hrel
    rename World => W2
    have HBW := Lib.hid hbw
    have HOS := Lib.hid hos
    have HSZ : Hid (Maps.size D = nmA l p) := HMF.out.size
    have HOWN2 := Lib.hid hown
    have HS := Lib.hid hsz
    have hdown := nmA_down l p HQ.out
    have hnm : (nmA l p : Int) ≤ 12 := by omega
    have HV2 := Lib.hid (HV.out p)
    obtain ⟨V, VA, vc, rfl, _, _, _, _⟩ := hos.rd
    clear hbw hos hown hsz
    by_cases hlt : 1 < nmA l p
    · have hlt' : (1 : Int) < (nmA l p : Int) := by omega
      have HGO := Lib.hid (goOn_any mb l.length D l.length (apF l p).1 (apF l p).2 W2 hn.2 hn.2 hlt HV2.out HOWN2.out HMF.out)
      go_wp2_with (at_len; refine wpList_len_own _ rfl _ 51 rfl 3 3 Try.underlying51 _ mb l.length D rfl HOWN2.out ?_; rw [HSZ.out])
      refine HGO.out.mono ?_; rintro e W3 ⟨⟨v3, rfl⟩, D3, hown3, hmf3, hg3⟩
      have HMF3 : Hid (MF D3 l.length (apF l (p + 1)).1 (apF l (p + 1)).2) := hmf3
      have HOS3 := Lib.hid (HOS.out.far (Wr.of_row hg3 (Nat.le_refl mb) (Nat.lt_succ_self mb)) (.inr HML.out))
      have HB3 : Hid (Below w.heap.size w W3) := HBW.out.grown hg3 HBW.out.size (fun k hk => by cases hk; exact hmb)
      have HOR3 := Lib.hid (inOrder_any mb l.length D3 l.length _ _ W3 (by omega) hown3 hmf3)
      have HOWN3 := Lib.hid hown3
      have HS3 : Hid (W2.heap.size ≤ W3.heap.size) := hg3.size
      have HS03 : Hid (W0.heap.size ≤ W3.heap.size) := Nat.le_trans HS.out hg3.size
      clear hown3 hmf3 hg3
      go_wp2_with fail
      refine HOR3.out.mono ?_; rintro e W4 ⟨u4, rfl, ho4, hb4⟩
      have HOS4 := Lib.hid ((HOS3.out.step hb4 HS3.out).wide (Nat.le_refl _) HS3.out)
      have HB4 : Hid (Below w.heap.size w W4) := HB3.out.trans (hb4.mono HB3.out.size)
      have HOWN4 : Hid (W4.ownsMap Try.prog 3 (plainElem (H := Unit) Try.prog 3) mb l.length D3) := ownsMap_below HOWN3.out hb4 (Nat.lt_of_lt_of_le HML.out HS03.out)
      have HU4 := Lib.hid ho4
      have HS4 : Hid (W3.heap.size ≤ W4.heap.size) := hb4.size
      obtain ⟨A8, c8, rfl, _, _⟩ := ho4.ri
      have HL : Hid ((srvT l p).length < 1000000) := by show _ < _; rw [srvT_len]; omega
      clear ho4 hb4
      go_wp2_with (at_builtin; go_loud (refine wpList_pushS rfl (.tmp 15) (.tmp 18) 23 rfl 22 3 (by decide) i0 Try.underlying23 hi hz0 hz1 hz2 W4 W4 W0.heap.size W3.heap.size W4.heap.size _ _ (srvT l p) _ rfl rfl HOS4.out HU4.out HS03.out (Nat.le_refl _) HS4.out rfl HL.out (Below.refl _ _) ?_; intro v5 w5 hos5 hb5))
      have HOS5 : Hid (OS 22 3 w5 W0.heap.size w5.heap.size v5 (srvT l (p + 1))) := hos5
      have HB5 := Lib.hid hb5
      have HW04 : Hid (w.heap.size ≤ W0.heap.size) := HB0.out.size
      clear hos5 hb5
      try go_wp2_with fail
      go_roundg (l.length - (p + 1))
      case measure => omega
      case rel => exact ⟨p + 1, D3, by omega, fun q hq => by
          by_cases e : q = p
          · rw [e]; exact hlt
          · exact HQ.out q (by omega), ownsMap_below HOWN4.out HB5.out HML.out, HMF3.out, HOS5.out, Nat.le_trans (Nat.le_trans HS03.out HS4.out) HB5.out.size, HB4.out.trans (HB5.out.mono HW04.out)⟩
    · have hge : ¬ ((1 : Int) < (nmA l p : Int)) := by omega
      have HP : Hid (rdN l = p) := rdN_is l p HQ.out (by omega)
      go_wp2_with (at_len; refine wpList_len_own _ rfl _ 51 rfl 3 3 Try.underlying51 _ mb l.length D rfl HOWN2.out ?_; rw [HSZ.out])
      go_ret
      unfold RetSL
      exact ⟨_, rfl, by rw [HP.out]; exact HOS.out.wide HB0.out.size (Nat.le_refl _), HBW.out⟩

end Go.Proofs.Ytgmknndmmpoliaa
