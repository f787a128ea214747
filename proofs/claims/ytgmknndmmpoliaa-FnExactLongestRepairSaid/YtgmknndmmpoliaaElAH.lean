/-
  Chapter 7: the program's LongestRepair: the numbers of the states that leave.
-/
import Derived.Test.YtgmknndmmpoliaaElAG
import Derived.Test.YtgmknndmmpoliaaElAA
import Derived.Deep.LoopGhost
namespace Go.Proofs.Ytgmknndmmpoliaa
open Go.RowKit Go.Maps
set_option maxRecDepth 100000
set_option linter.unusedVariables false

def anyP (p : Nat → Bool) : Nat → Bool
  | 0 => false
  | n + 1 => anyP p n || p n
theorem anyP_yes {p : Nat → Bool} {n q : Nat} (hq : q < n) (h : p q = true) : anyP p n = true := by
  induction n with
  | zero => omega
  | succ n ih =>
    rw [anyP]
    by_cases e : q = n
    · rw [e] at h; simp [h]
    · simp [ih (by omega)]
theorem anyP_no {p : Nat → Bool} {n : Nat} (h : ∀ q, q < n → p q = false) : anyP p n = false := by
  induction n with
  | zero => rfl
  | succ n ih => rw [anyP, ih fun q hq => h q (by omega), h n (by omega)]; rfl
theorem anyP_ex {p : Nat → Bool} {n : Nat} (h : anyP p n = true) : ∃ q, q < n ∧ p q = true := by
  induction n with
  | zero => cases h
  | succ n ih =>
    rw [anyP, Bool.or_eq_true] at h
    rcases h with h | h
    · obtain ⟨q, h1, h2⟩ := ih h
      exact ⟨q, by omega, h2⟩
    · exact ⟨n, by omega, h⟩
set_option maxHeartbeats 4000000 in
theorem indexFunc81_any (v : Value) (H : List Int) (p : Nat → Bool) (pl ps pk : Nat) (w : World) (h : RI w w.heap.size v H) (hn : H.length ≤ 12)
    (hp : ∀ q, q < H.length → ∀ W, Below w.heap.size w W → Calls Try.prog 81 #[.int .i64 (H.getD q 0), .pointer (some ⟨pl, 0, none⟩), .pointer (some ⟨ps, 0, none⟩), .pointer (some ⟨pk, 0, none⟩)] W (RetV W (.bool (p q)))) :
    Calls Try.prog 91 #[v, (.func (.func 81) #[] #[.pointer (some ⟨pl, 0, none⟩), .pointer (some ⟨ps, 0, none⟩), .pointer (some ⟨pk, 0, none⟩)])] w fun e w' => ∃ x : Int, e = .returned (.int .i64 x) ∧ decide (0 ≤ x) = anyP p H.length ∧ -1 ≤ x ∧ x ≤ 12 ∧ Below w.heap.size w w' := by
  have HP := Lib.hid hp
  have hn' : (H.length : Int) ≤ 12 := by omega
  obtain ⟨A, c, rfl, hlc, hc⟩ := h
  have HCC := Lib.hid hc
  clear hp hc
  go_enter Try.func91, Try.ntmps91
  go_wp2_with fail
  go_loopw [8] (fun i wr => ∃ q : Nat, q ≤ H.length ∧ i = .int .i64 q ∧ Hid (∀ q', q' < q → p q' = false) ∧ Hid (Below w.heap.size w wr)) (fun i _ => H.length - (intOf i).toNat)
  case atStart => exact ⟨0, Nat.zero_le _, rfl, fun q' h => absurd h (by omega), Below.refl _ _⟩
  case round =>
    obtain ⟨q, hq, rfl, HF, HB⟩ := hrel
    rename World => W2
    by_cases hlt : q < H.length
    · have hlt' : (q : Int) < (H.length : Int) := by omega
      obtain ⟨b, off, rfl, hbB, hcell⟩ := HCC.out (by omega)
      have hcx := (HB.out.cell (p := ⟨b, off + q, none⟩) hbB).trans (hcell q hlt)
      have HC := Lib.hid (HP.out q hlt W2 HB.out)
      clear hcell
      generalize H.getD q 0 = x at hcx HC
      cases hb : p q
      · have HB' := Lib.hid hb
        rw [hb] at HC
        clear hb
        go_wp2_with fail
        refine HC.out.mono ?_; rintro e w3 ⟨rfl, hb3⟩
        have HB3 := Lib.hid (HB.out.trans (hb3.mono HB.out.size))
        clear hb3
        go_wp2_with fail
        go_roundw
        case rel => exact ⟨q + 1, by omega, by go_num, fun q' h => (by
          by_cases e : q' = q
          · rw [e]; exact HB'.out
          · exact HF.out q' (by omega)), HB3.out⟩
        case measure => simp [intOf]; omega
      · have HAN := Lib.hid (anyP_yes hlt hb)
        rw [hb] at HC
        clear hb
        go_wp2_with fail
        refine HC.out.mono ?_; rintro e w3 ⟨rfl, hb3⟩
        have HB3 := Lib.hid (HB.out.trans (hb3.mono HB.out.size))
        clear hb3
        go_wp2_with fail
        go_ret
        exact ⟨(q : Int), rfl, by rw [HAN.out]; simp, by omega, by omega, HB3.out⟩
    · obtain rfl : q = H.length := by omega
      have HAN := Lib.hid (anyP_no HF.out)
      go_wp2_with fail
      go_ret
      exact ⟨-1, rfl, by rw [HAN.out]; rfl, by omega, by omega, HB.out⟩
theorem containsFunc81_any (v : Value) (H : List Int) (p : Nat → Bool) (pl ps pk : Nat) (w : World) (h : RI w w.heap.size v H) (hn : H.length ≤ 12)
    (hp : ∀ q, q < H.length → ∀ W, Below w.heap.size w W → Calls Try.prog 81 #[.int .i64 (H.getD q 0), .pointer (some ⟨pl, 0, none⟩), .pointer (some ⟨ps, 0, none⟩), .pointer (some ⟨pk, 0, none⟩)] W (RetV W (.bool (p q)))) :
    Calls Try.prog 84 #[v, (.func (.func 81) #[] #[.pointer (some ⟨pl, 0, none⟩), .pointer (some ⟨ps, 0, none⟩), .pointer (some ⟨pk, 0, none⟩)])] w (RetV w (.bool (anyP p H.length))) := by
  have HI := Lib.hid (indexFunc81_any v H p pl ps pk w h hn hp)
  obtain ⟨A, c, rfl, _, _⟩ := h
  clear hp
  go_enter Try.func84, Try.ntmps84
  go_wp2_with fail
  refine HI.out.mono ?_; rintro e w3 ⟨x, rfl, hx, hx1, hx2, hb3⟩
  have HB3 := Lib.hid hb3
  have HX := Lib.hid hx
  clear hx hb3
  go_wp2_with fail
  go_ret
  exact ⟨by first | exact HX.out | (simp; exact HX.out) | simpa using HX.out, HB3.out⟩
theorem ranges_below {w w' : World} {B b r n cnt : Nat} {D : DataW Value} {left : Lit → Bool} (h : w.ranges Try.prog 3 slElem b r n D left cnt) (hb : Below B w w') (h1 : b < B) (h2 : r < B) : w'.ranges Try.prog 3 slElem b r n D left cnt := by
  obtain ⟨es, clock, since, seen, c0, e1, F1, hs, hD, hr, rest⟩ := h
  exact ⟨es, clock, since, seen, c0, (hb.block b h1).trans e1, F1, hs, hD, (hb.block r h2).trans hr, rest⟩
/-- Does no firing from the state i stay in? -/
def lvN (N K : Nat) (A : Nat → Bool) (i : Nat) : Bool := !anyP (fun q => A (nxt N K i q)) (holdN (stA N K i) N).length
/-- What the numbers that leave are. -/
def RetLv (N K m : Nat) (A : Nat → Bool) (w : World) (e : Ending) (w' : World) : Prop := ∃ u nums, e = .returned u ∧ OI 3 w' w.heap.size w'.heap.size u nums ∧ nums.length ≤ 3125 ∧ (∀ x ∈ nums, ∃ i : Nat, i < m ∧ x = (i : Int) ∧ A i = true ∧ lvN N K A i = true) ∧ (∀ i : Nat, i < m → A i = true → lvN N K A i = true → (i : Int) ∈ nums) ∧ Below w.heap.size w w'
set_option maxHeartbeats 8000000 in
theorem numbersThatLeave_any (mb nn N K m : Nat) (D : DataW Value) (A : Nat → Bool) (V : Nat → Value) (w : World) (hN : 2 ≤ N ∧ N ≤ 4) (hK : 2 ≤ K ∧ K ≤ 5) (hm0 : m = K ^ N) (hm9 : m ≤ 1000) (hnn : nn ≤ 3125)
    (hown : w.ownsMap Try.prog 3 slElem mb nn D) (hm : MS D m A V) (hV : ∀ i, i < m → RI w w.heap.size (V i) (stA N K i)) :
    Calls Try.prog 71 #[.map (some mb), .int .i64 K] w (RetLv N K m A w) := by
  obtain ⟨i0, hi, hz0, hz1, hz2⟩ := info_parts int_info
  have HOWN := Lib.hid hown
  have HM := Lib.hid hm
  have HV := Lib.hid hV
  have HMB := Lib.hid hown.lt
  have HSD := Lib.hid hown.size_le
  have HMK := Lib.hid hm0
  have hNi : (2 : Int) ≤ (N : Int) ∧ (N : Int) ≤ 4 := by omega
  clear hown hm hV hm0
  have hb1 : Below w.heap.size w ((w.alloc (.cells #[.map (some mb)] 62)).alloc (.cells #[.int .i64 K] 3)) := (((Below.refl w.heap.size w).alloc (Nat.le_refl _) _).alloc (by simp) _)
  have c0 : ((w.alloc (.cells #[.map (some mb)] 62)).alloc (.cells #[.int .i64 K] 3)).cell? ⟨w.heap.size, 0, none⟩ = some (.map (some mb)) := by simp
  have c2 : ((w.alloc (.cells #[.map (some mb)] 62)).alloc (.cells #[.int .i64 K] 3)).cell? ⟨w.heap.size + 1, 0, none⟩ = some (.int .i64 K) := by simp
  have hsz : w.heap.size + 2 ≤ ((w.alloc (.cells #[.map (some mb)] 62)).alloc (.cells #[.int .i64 K] 3)).heap.size := by simp
  have hown1 : ((w.alloc (.cells #[.map (some mb)] 62)).alloc (.cells #[.int .i64 K] 3)).ownsMap Try.prog 3 slElem mb nn D := by
    obtain ⟨es, clock, e1, F1, e2, e3⟩ := HOWN.out
    exact ⟨es, clock, (hb1.block mb HMB.out).trans e1, F1, e2, e3⟩
  have HB1 := Lib.hid hb1
  have HC0 := Lib.hid c0
  have HC2 := Lib.hid c2
  have HSZ := Lib.hid hsz
  have HMB1 : Hid (mb < ((w.alloc (.cells #[.map (some mb)] 62)).alloc (.cells #[.int .i64 K] 3)).heap.size) := hown1.lt
  have HOWN1 := Lib.hid hown1
  clear hb1 c2 hsz hown1 c0
  go_enter Try.func71, Try.ntmps71
  go_wp2_with (at_range; refine wpList_range_own _ rfl _ 62 rfl 3 22 (int_keyed Try.underlying3) Try.underlying62 slElem mb nn D rfl HOWN1.out ?_; intro w0 hrg0 hg0 hs0)
  generalize ((w.alloc (.cells #[.map (some mb)] 62)).alloc (.cells #[.int .i64 K] 3)) = W1 at *
  have HB2 : Hid (Below W1.heap.size W1 w0) := (Below.refl _ _).grown hg0 (Nat.le_refl _) (fun k hk => by cases hk)
  have HRG0 := Lib.hid hrg0
  have HS0 : Hid (W1.heap.size + 1 ≤ w0.heap.size) := by show _ ≤ _; omega
  clear hrg0 hg0 hs0
  go_frame
  go_loopg [5] (Maps.size D + 1) (fun g s5 wx => ∃ (left : Lit → Bool) (cnt : Nat) (nums : List Int), g = cnt + 1 ∧ nums.length + cnt ≤ Maps.size D ∧ wx.ranges Try.prog 3 slElem mb W1.heap.size nn D left cnt ∧ Hid (Acc 3 wx (W1.heap.size + 1) s5 nums) ∧
    Hid (∀ x ∈ nums, ∃ i : Nat, i < m ∧ x = (i : Int) ∧ A i = true ∧ lvN N K A i = true) ∧ Hid (∀ i : Nat, i < m → A i = true → lvN N K A i = true → left (stKey i) = false → (i : Int) ∈ nums) ∧ Hid (Below W1.heap.size W1 wx) ∧ Hid (W1.heap.size + 1 ≤ wx.heap.size))
  case atStart => exact ⟨_, _, [], rfl, by simp, HRG0.out, Acc.nil _ _ _, fun x hx => (by cases hx), fun i hi hA _ hl => (by rw [HM.out.has i hi, hA] at hl; cases hl), HB2.out, HS0.out⟩
  case round =>
    obtain ⟨left, cnt, nums, rfl, hlen, hrg, HAC, HIN, HALL, HB3, HS3⟩ := hrel
    rename World => W2
    have hsd := HSD.out
    go_wp2_with (at_next; refine wpList_next_ranges_sl _ rfl _ rfl 3 (int_keyed Try.underlying3) Try.underlying3 mb W1.heap.size nn D _ _ rfl hrg ?_ ?_)
    · intro _ hl0
      have HL0 := Lib.hid hl0
      clear hl0 hrg
      have HRI := Lib.hid (HAC.out.oi.wide (lo' := w.heap.size) (by have := HB1.out.size; omega) (Nat.le_refl _))
      obtain ⟨A9, c9, e9, _, _⟩ := HAC.out.oi.ri
      go_wp2_with fail
      go_ret
      unfold RetLv
      exact ⟨_, nums, rfl, HRI.out, by omega, HIN.out, fun i hi hA hlv => HALL.out i hi hA hlv (HL0.out _), HB1.out.trans (HB3.out.mono HB1.out.size)⟩
    · intro x ad m' c w1 cnt1 hwx hlx hat hrg1 hltc hg1 hs1 hen
      obtain ⟨i, hi9, hxi, hA, hcv⟩ := HM.out.came hat
      subst hxi
      have hri := HV.out i hi9
      rw [← hcv] at hri
      have hsl : (stA N K i).length = N := stA_len (by rw [← HMK.out]; exact hi9)
      obtain rfl : m' = N := by
        obtain ⟨_, _, e, _, _⟩ := hri
        injection e with _ e _
        rw [e, hsl]
      have HRI := Lib.hid hri
      have HSL := Lib.hid hsl
      have HI : Hid (i < m) := hi9
      have HA := Lib.hid hA
      have HRG := Lib.hid hrg1
      have HB4 : Hid (Below W1.heap.size W1 w1) := HB3.out.grown hg1 HB3.out.size (fun k hk => by cases hk; exact Nat.le_refl _)
      have HAC1 : Hid (Acc 3 w1 (W1.heap.size + 1) _ nums) := ownsRow_grownE HAC.out hg1 (fun b hb e => by
        have := (World.ownsRow.lt HAC.out b hb).1
        injection e with e
        omega)
      have HS4 : Hid (W1.heap.size + 1 ≤ w1.heap.size) := Nat.le_trans HS3.out hg1.size
      have HHO : Hid (∀ W, Below W1.heap.size W1 W → Calls Try.prog 72 #[.slice ad m' c] W (RetL 3 W (holdN (stA m' K i) m'))) := by
        show ∀ W, _
        intro W hW
        have h9 := implHolders_any _ _ W ((HRI.out.below (HB1.out.trans (hW.mono HB1.out.size))).more (Nat.le_trans HB1.out.size hW.size)) (by rw [HSL.out]; omega)
        rw [HSL.out] at h9
        exact h9
      clear hrg hrg1 hat hcv hwx hlx hg1 hs1 hri hA hi9 hsl
      go_wp2_with fail
      refine (HHO.out _ (HB4.out.alloc (by have := HS4.out; omega) _)).mono ?_; rintro e w5 ⟨u5, rfl, ho5, hb5⟩
      have hq5 : Below w1.heap.size w1 w5 := ((Below.refl w1.heap.size w1).alloc (Nat.le_refl _) _).trans (hb5.mono (by simp))
      have c1 := hb5.cell (p := ⟨w1.heap.size, 0, none⟩) (by simp)
      simp at c1
      have hs5 := hb5.size
      simp at hs5
      have HQ5 := Lib.hid hq5
      have HC1 := Lib.hid c1
      have HS5 := Lib.hid hs5
      have HRI5 := Lib.hid ho5.ri
      have HB5 : Hid (Below W1.heap.size W1 w5) := HB4.out.trans (hq5.mono (by have := HS4.out; omega))
      have HCF := Lib.hid (containsFunc81_any u5 (holdN (stA m' K i) m') (fun q => A (nxt m' K i q)) w.heap.size w1.heap.size (w.heap.size + 1) w5 HRI5.out (by have := holdN_len (stA m' K i) m'; omega) (fun q hq W hW => by
        obtain ⟨s, h1, _, h2⟩ := holdN_at (stA m' K i) m' q hq
        have hiK : i < K ^ m' := by rw [← HMK.out]; exact HI.out
        have h3 := (nxt_lt hN.1 hK.1 hiK hq).2.2.1
        have hW5 : Below W1.heap.size W1 W := HB5.out.trans (hW.mono HB5.out.size)
        have hz1 := HSZ.out
        have hz2 := HS4.out
        have hz3 := HS5.out
        have hz4 := hW.size
        have hz5 := HMB1.out
        have h9 := staysIn_any w.heap.size w1.heap.size (w.heap.size + 1) mb nn m D A V (stA m' K i) K s ad c W
          ((hW5.cell (p := ⟨w.heap.size, 0, none⟩) (by show w.heap.size < _; omega)).trans HC0.out)
          (by rw [HSL.out]; exact (hW.cell (p := ⟨w1.heap.size, 0, none⟩) (by show w1.heap.size < _; omega)).trans HC1.out)
          ((hW5.cell (p := ⟨w.heap.size + 1, 0, none⟩) (by show w.heap.size + 1 < _; omega)).trans HC2.out)
          (by omega) (by omega) (by omega) (by
            obtain ⟨es, clock, e1, F1, e2, e3⟩ := HOWN1.out
            exact ⟨es, clock, (hW5.block mb hz5).trans e1, F1, e2, e3⟩) HM.out hm9 (by rw [HSL.out]; exact (HRI.out.below (HB1.out.trans (hW5.mono HB1.out.size))).more (Nat.le_trans HB1.out.size hW5.size)) (by rw [HSL.out]; exact hN) hK (stA_in hiK) (by rw [HSL.out]; exact h1) (by
            rw [HMK.out]
            rw [nxt, h2] at h3
            exact h3)
        rw [h2]
        rw [nxt, h2]
        exact h9))
      obtain ⟨A5, c5, e5, _, _⟩ := ho5.ri
      subst e5
      clear ho5 hb5 hq5 c1 hs5
      have HLN := Lib.hid (holdN_len (stA m' K i) m')
      go_wp2_with fail
      refine HCF.out.mono ?_; rintro e w7 ⟨rfl, hb7⟩
      have HQ7 : Hid (Below w1.heap.size w1 w7) := HQ5.out.trans (hb7.mono HQ5.out.size)
      have HB7 : Hid (Below W1.heap.size W1 w7) := HB5.out.trans (hb7.mono HB5.out.size)
      have HRG7 : Hid (w7.ranges Try.prog 3 slElem mb W1.heap.size nn D (fun z : Lit => left z && !z.sameKey (stKey i)) cnt1) := ranges_below HRG.out HQ7.out (by have := HS4.out; have := HMB1.out; omega) (by have := HS4.out; omega)
      have HAC7 := Lib.hid (HAC1.out.step HQ7.out)
      have HS7 : Hid (W1.heap.size + 1 ≤ w7.heap.size) := Nat.le_trans HS4.out HQ7.out.size
      clear hb7
      have HLV : Hid (lvN m' K A i = !anyP (fun q => A (nxt m' K i q)) (holdN (stA m' K i) m').length) := rfl
      have HSTK : Hid (∀ j : Nat, j < m → (left (stKey j) && !(stKey j).sameKey (stKey i)) = false → left (stKey j) = false ∨ j = i) := by
        show ∀ j, _
        intro j hj h
        by_cases e : j = i
        · exact .inr e
        · have : (stKey j).sameKey (stKey i) = false := sameKey_ne (stKey_ne e)
          rw [this] at h
          exact .inl (by simpa using h)
      cases hb : anyP (fun q => A (nxt m' K i q)) (holdN (stA m' K i) m').length
      · rw [hb] at HLV
        clear hb
        go_wp2_with (at_builtin; refine wpList_push rfl (.tmp 22) (.tmp 24) 22 rfl 3 i0 Try.underlying22 hi hz0 hz1 hz2 w7 w7 (W1.heap.size + 1) _ nums (i : Int) rfl rfl HAC7.out rfl (by omega) HS7.out (Below.refl _ _) ?_; intro v8 w8 ha8 hb8)
        have HA8 := Lib.hid ha8
        have HB8 := Lib.hid hb8
        clear ha8 hb8
        try go_wp2_with fail
        go_roundg (cnt1 + 1)
        case measure => omega
        case rel => exact ⟨_, cnt1, nums ++ [(i : Int)], rfl, by simp; omega, ranges_below HRG7.out HB8.out (by have := HMB1.out; omega) (by omega), HA8.out, fun x hx => (by
          rcases List.mem_append.1 hx with hx | hx
          · exact HIN.out x hx
          · simp at hx
            exact ⟨i, HI.out, hx, HA.out, HLV.out⟩), fun j hj hA hlv hl => (by
          rcases HSTK.out j hj hl with h9 | rfl
          · exact List.mem_append_left _ (HALL.out j hj hA hlv h9)
          · simp), HB7.out.trans (HB8.out.mono (by omega)), Nat.le_trans HS7.out HB8.out.size⟩
      · rw [hb] at HLV
        clear hb
        go_wp2_with fail
        go_roundg (cnt1 + 1)
        case measure => omega
        case rel => exact ⟨_, cnt1, nums, rfl, by omega, HRG7.out, HAC7.out, HIN.out, fun j hj hA hlv hl => (by
          rcases HSTK.out j hj hl with h9 | rfl
          · exact HALL.out j hj hA hlv h9
          · rw [HLV.out] at hlv
            cases hlv), HB7.out, HS7.out⟩
end Go.Proofs.Ytgmknndmmpoliaa
