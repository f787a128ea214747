/-
  What the draws of chapter 1 share (as XCurB, over XFrm and XCur): a cursor that steps, a literal of ints, lists that are the same, sums of bits.
-/
import Derived.Test.YtkmopfgeenadgaaCur
import Derived.Test.YtkmopfgeenadgaaMathBS
import Derived.Test.YtkmopfgeenadgaaCat
namespace Go.Proofs.Ytkmopfgeenadgaa
open Go.RowKit
set_option maxRecDepth 100000
set_option linter.unusedVariables false

theorem CurAt.below {w w' : World} {g B n k lo : Nat} (h : CurAt w g B n k) (hb : Below lo w w') (hg : g < lo) : CurAt w' g B n k := by
  obtain ⟨hBg, s, x, sd, bk, ha, hak, hrb⟩ := h
  exact ⟨hBg, s, x, sd, ⟨Nat.lt_of_lt_of_le bk.1 hb.size, (hb.block g hg).trans bk.2⟩, ha, hak, hrb.below (hb.mono (by omega))⟩
theorem CurAt.lt {w : World} {g B n k : Nat} (h : CurAt w g B n k) : g < w.heap.size := by
  obtain ⟨_, _, _, _, bk, _⟩ := h
  exact bk.1
theorem Wr.and_below {a b lo : Nat} {w0 w w' : World} (h : Wr a b w0 w) (hb : Below lo w w') (hlo : w0.heap.size ≤ lo) : Wr a b w0 w' :=
  ⟨hb.os.trans h.os, hb.tape.trans h.tape, hb.output.trans h.output, Nat.le_trans h.size hb.size, fun k hk hn => (hb.block k (by omega)).trans (h.block k hk hn)⟩
/-- A literal of ints is owned. -/
theorem litN {E : TypeId} {w : World} (l : List Int) (m : Nat) (cs : Array Value) (hm : m = l.length) (hm0 : 0 < m) (hcs : cs.toList = ics l) (hl : l.length ≤ 100) : OI E (w.alloc (.cells cs E)) w.heap.size (w.alloc (.cells cs E)).heap.size (.slice (some ⟨w.heap.size, 0, none⟩) m m) l := by
  subst hm
  have hs : cs.size = l.length := by
    rw [← Array.length_toList, hcs]
    simp [ics]
  have h : (w.alloc (.cells cs E)).ownsRow w.heap.size E 1 (.slice (some ⟨w.heap.size, 0, none⟩) l.length l.length) l.length (ics l) :=
    ⟨by simp [ics], .inr ⟨_, l.length, cs, rfl, Nat.le_refl _, heap_alloc_new w _, Nat.le_refl _, by unfold maxLen; omega, by omega, by rw [hcs, Nat.mul_one]; exact List.take_of_length_le (by simp [ics])⟩⟩
  exact Acc.oi h
/-- A cursor that has just been made. -/
theorem CurAt.made {w : World} {s : Value} {n : Nat} (h : RB w w.heap.size s n) : CurAt (w.alloc (.cells #[s, .int .i64 0, .int .u64 0] 36)) w.heap.size w.heap.size n 0 :=
  ⟨Nat.le_refl _, s, 0, 0, BK.made w _ _, by omega, by omega, h.below ((Below.refl _ _).alloc (Nat.le_refl _) _)⟩
/-- Two lists that are the same are told to be the same. -/
theorem zSame_any (a b : Value) (l : List Int) (B : Nat) (w : World) (ha : RI w B a l) (hb : RI w B b l) (hl : l.length ≤ 1048576) :
    Calls Try.prog 8 #[a, b] w (RetV w (.bool true)) := by
  obtain ⟨A1, c1, rfl, hc1, hd1⟩ := ha
  obtain ⟨A2, c2, rfl, hc2, hd2⟩ := hb
  have hl' : (l.length : Int) ≤ 1048576 := by omega
  have H1 := Lib.hid hd1
  have H2 := Lib.hid hd2
  clear hd1 hd2
  go_enter Try.func8, Try.ntmps8
  go_wp2_with fail
  go_loopw [13] (fun i wr => ∃ j : Nat, j ≤ l.length ∧ i = .int .i64 j ∧ Below w.heap.size w wr ∧ (∀ b o, b < B → wr.cell? ⟨b, o, none⟩ = w.cell? ⟨b, o, none⟩)) (fun i _ => l.length - (intOf i).toNat)
  case atStart => exact ⟨0, Nat.zero_le _, rfl, Below.refl _ _, fun _ _ _ => rfl⟩
  case round =>
    obtain ⟨j, hj, rfl, hT, hK⟩ := hrel
    have HT := Lib.hid hT
    have HK := Lib.hid hK
    by_cases hlt : j < l.length
    · obtain ⟨b1, o1, rfl, hb1, q1⟩ := H1.out (by omega)
      obtain ⟨b2, o2, rfl, hb2, q2⟩ := H2.out (by omega)
      have d1 := (hK b1 (o1 + j) hb1).trans (q1 j hlt)
      have d2 := (hK b2 (o2 + j) hb2).trans (q2 j hlt)
      generalize l.getD j 0 = x at d1 d2
      clear q1 q2 hK hT H1 H2
      go_wp2
      go_quiet (fail)
      go_wp2
      go_roundw
      case rel => exact ⟨j + 1, by omega, by go_num, below_drewN HT.out _, fun b o hb => HK.out b o hb⟩
      case measure => simp [intOf]; omega
    · obtain rfl : j = l.length := by omega
      clear hK hT
      go_wp2
      go_ret
      exact ⟨rfl, HT.out⟩
/-- Whether bytes are more than the laws take. -/
theorem big_all (a b : Value) (n m B : Nat) (w : World) (ha : RB w B a n) (hb : RB w B b m) :
    Calls Try.prog 4 #[a, b] w (RetV w (.bool (decide ((1048576 : Int) < n) || decide ((1048576 : Int) - n < m)))) := by
  obtain ⟨A1, c1, rfl, hc1, hd1⟩ := ha
  obtain ⟨A2, c2, rfl, hc2, hd2⟩ := hb
  clear hd1 hd2
  have h1 : (n : Int) ≤ 9223372036854775807 := by unfold maxLen at hc1; omega
  have h2 : (m : Int) ≤ 9223372036854775807 := by unfold maxLen at hc2; omega
  by_cases hn : (1048576 : Int) < n
  · rw [decide_eq_true hn, Bool.true_or]
    go_enter Try.func4, Try.ntmps4
    go_wp2_with fail
    go_ret
    exact ⟨rfl, Below.refl _ _⟩
  · rw [decide_eq_false hn, Bool.false_or]
    have hn2 : (n : Int) ≤ 1048576 := by omega
    go_enter Try.func4, Try.ntmps4
    go_wp2_with fail
    go_ret
    exact ⟨rfl, Below.refl _ _⟩
/-- Bytes within the bounds. -/
theorem big_any (a b : Value) (n m B : Nat) (w : World) (ha : RB w B a n) (hb : RB w B b m) (hn : n + m ≤ 1048576) :
    Calls Try.prog 4 #[a, b] w (RetV w (.bool false)) := by
  have h := big_all a b n m B w ha hb
  rw [decide_eq_false (by omega), decide_eq_false (by omega)] at h
  exact h
theorem sumZ_take (l : List Int) (k : Nat) (hk : k < l.length) : sumZ (l.take (k + 1)) = sumZ (l.take k) + l.getD k 0 := by
  have hg : l.getD k 0 = l[k] := by simp [hk]
  rw [List.take_succ_eq_append_getElem hk, sumZ_app, hg]
theorem sumZ_in {l : List Int} (h : okAll 0 1 l = true) (k : Nat) (hk : k ≤ l.length) : 0 ≤ sumZ (l.take k) ∧ sumZ (l.take k) ≤ k := by
  induction k with
  | zero => simp [sumZ]
  | succ k ih =>
    have h1 := ih (by omega)
    have h2 := okAll_iff.1 h (l.getD k 0) (by simp [List.getD, show k < l.length by omega])
    rw [sumZ_take l k (by omega)]
    omega
/-- The sum of bits. -/
theorem zSum_any (v : Value) (l : List Int) (w : World) (h : RI w w.heap.size v l) (hn : l.length ≤ 1000) (hb : okAll 0 1 l = true) :
    Calls Try.prog 10 #[v] w fun e w' => e = .returned (.int .i64 (sumZ l)) ∧ w = w' := by
  obtain ⟨A, c, rfl, hlc, hc⟩ := h
  have hn' : (l.length : Int) ≤ 1000 := by omega
  have H1 := Lib.hid hc
  have HB := Lib.hid hb
  clear hc hb
  go_enter Try.func10, Try.ntmps10
  go_wp2_with fail
  go_loopw [3, 8] (fun n i wr => ∃ j : Nat, j ≤ l.length ∧ i = .int .i64 j ∧ n = .int .i64 (sumZ (l.take j)) ∧ w = wr) (fun _ i _ => l.length - (intOf i).toNat)
  case atStart => exact ⟨0, Nat.zero_le _, rfl, by simp [sumZ], rfl⟩
  case round =>
    obtain ⟨j, hj, rfl, rfl, rfl⟩ := hrel
    by_cases hlt : j < l.length
    · obtain ⟨b1, o1, rfl, hb1, q1⟩ := H1.out (by omega)
      have d1 := q1 j hlt
      have e1 := sumZ_take l j hlt
      have e2 := sumZ_in HB.out j hj
      have e6 : 0 ≤ l.getD j 0 ∧ l.getD j 0 ≤ 1 := okAll_iff.1 HB.out _ (by simp [List.getD, hlt])
      generalize l.getD j 0 = x at d1 e1 e6
      have S := Lib.hid e1
      clear q1 H1 e1
      generalize sumZ (l.take j) = s at S e2
      go_wp2_with fail
      go_roundw
      case rel => exact ⟨j + 1, by omega, by go_num, by rw [S.out], by trivial⟩
      case measure => simp [intOf]; omega
    · obtain rfl : j = l.length := by omega
      go_wp2_with fail
      go_ret
      exact ⟨by rw [List.take_length]; rfl, by trivial⟩
theorem RB.more {w : World} {B B' : Nat} {v : Value} {n : Nat} (h : RB w B v n) (hB : B ≤ B') : RB w B' v n := by
  obtain ⟨A, c, hv, hlc, hc⟩ := h
  refine ⟨A, c, hv, hlc, fun hn => ?_⟩
  obtain ⟨b, off, hA, hbB, hcell⟩ := hc hn
  exact ⟨b, off, hA, by omega, hcell⟩
theorem Acc.farC {E : TypeId} {w w' : World} {lo a b : Nat} {v : Value} {l : List Int} (h : Acc E w lo v l) (hg : Wr a b w w') (hb : b ≤ lo) : Acc E w' lo v l := by
  refine ⟨h.1, ?_⟩
  rcases h.2 with ⟨hv, hn⟩ | ⟨g, c, cur, hv, hlo, hh, r⟩
  · exact .inl ⟨hv, hn⟩
  · exact .inr ⟨g, c, cur, hv, hlo, by rw [hg.block g (Array.getElem?_eq_some_iff.1 hh).1 (.inr (by omega))]; exact hh, r⟩
/-- What is gathered, as a slice. -/
theorem Acc.formC {E : TypeId} {w : World} {lo : Nat} {v : Value} {l : List Int} (h : Acc E w lo v l) : (l = [] ∧ v = .slice none 0 0) ∨ ∃ b c, v = .slice (some ⟨b, 0, none⟩) l.length c ∧ lo ≤ b ∧ b < w.heap.size ∧ l.length ≤ c ∧ c ≤ maxLen ∧ (∀ j, j < l.length → w.cell? ⟨b, j, none⟩ = some (.int .i64 (l.getD j 0))) ∧ (∀ j, w.frozen? ⟨b, j, none⟩ = false) := by
  have h0 := h
  rcases h.2 with ⟨hv, hn⟩ | ⟨g, c, cur, rfl, hlo, hh, hc, hcm, r1, r2⟩
  · exact .inl ⟨List.eq_nil_of_length_eq_zero hn, hv⟩
  · refine .inr ⟨g, c, rfl, hlo, (Array.getElem?_eq_some_iff.1 hh).1, hc, hcm, fun j hj => ?_, fun j => World.ownsRow.frozenAt h0 j⟩
    rw [World.ownsRow.cellAt h0 j (by omega), ics_get l j hj]
theorem Acc.putC {E : TypeId} {w : World} {lo b c : Nat} {l : List Int} (h : Acc E w lo (.slice (some ⟨b, 0, none⟩) l.length c) l) (j : Nat) (y : Int) : Acc E (w.setCell ⟨b, j, none⟩ (.int .i64 y)) lo (.slice (some ⟨b, 0, none⟩) l.length c) (l.set j y) := by
  have := World.ownsRow.stored h j (.int .i64 y)
  have e : ics (l.set j y) = (ics l).set j (.int .i64 y) := by simp [ics, List.map_set]
  show World.ownsRow _ _ _ _ _ _ _
  rw [e, List.length_set]
  exact this.1
theorem l1Least_any (a b : Int) (w : World) : Calls Try.prog 36 #[.int .i64 a, .int .i64 b] w fun e w' => e = .returned (.int .i64 (min a b)) ∧ w = w' := by
  by_cases h : a < b
  · go_enter Try.func36, Try.ntmps36
    go_wp2_with fail
    go_ret
    exact ⟨by rw [Int.min_eq_left (by omega)]; rfl, rfl⟩
  · go_enter Try.func36, Try.ntmps36
    go_wp2_with fail
    go_ret
    exact ⟨by rw [Int.min_eq_right (by omega)]; rfl, rfl⟩

/-- What a draw of a list leaves: at most m numbers. -/
def RetLC (m : Nat) (g B n k : Nat) (w : World) (e : Ending) (w' : World) : Prop :=
  ∃ (u : Value) (l : List Int), e = .returned u ∧ l.length ≤ m ∧ OI 3 w' w.heap.size w'.heap.size u l ∧ CurAt w' g B n k ∧ Wr g (g + 1) w w'
set_option maxHeartbeats 4000000 in
theorem bits_any (g B n k : Nat) (w : World) (h : CurAt w g B n k) (hk : k ≤ 100000000) (hn : n ≤ 1048576) :
    Calls Try.prog 24 #[.pointer (some ⟨g, 0, none⟩)] w (RetLC 402 g B n (k + 2000) w) := by
  obtain ⟨i0, hi, hz0, hz1, hz2⟩ := info_parts int_info
  have hgw := h.lt
  go_enter Try.func24, Try.ntmps24
  go_wp2_with fail
  refine (among_any g B n _ _ [0, 3, 8, 16, 40, 80] _ (h.below ((Below.refl _ _).alloc (Nat.le_refl _) _) (by omega)) (by omega) hn _ _ (litN [0, 3, 8, 16, 40, 80] 6 _ rfl (by omega) rfl (by simp)) (by omega) (by simp) (by simp)).mono ?_; rintro e w1 ⟨j1, hj1, rfl, h1, g1⟩
  have gA : Wr g (g + 1) w w1 := (Wr.of_below ((Below.refl _ _).alloc (Nat.le_refl _) _) g (g + 1)).trans g1
  have hq : 0 ≤ List.getD ([0, 3, 8, 16, 40, 80] : List Int) j1 0 ∧ List.getD ([0, 3, 8, 16, 40, 80] : List Int) j1 0 ≤ 80 := by
    match j1, hj1 with
    | 0, _ => decide
    | 1, _ => decide
    | 2, _ => decide
    | 3, _ => decide
    | 4, _ => decide
    | 5, _ => decide
  generalize List.getD ([0, 3, 8, 16, 40, 80] : List Int) j1 0 = q at hq
  obtain ⟨q1, q2⟩ := hq
  obtain ⟨q, rfl⟩ := Int.eq_ofNat_of_zero_le q1
  clear g1 hj1 h
  go_wp2_with fail
  go_loopw [3, 4] (fun u i wr => ∃ (m r : Nat) (f : List Int), m + r ≤ 80 ∧ f.length = m ∧ i = .int .i64 r ∧ Acc 3 wr w.heap.size u f ∧ CurAt wr g B n (k + 2 + 2 * m) ∧ Wr g (g + 1) w wr) (fun _ i _ => (intOf i).toNat)
  case atStart => exact ⟨0, q, [], by omega, rfl, rfl, Acc.nil _ _ _, h1, gA⟩
  case round =>
    obtain ⟨m, r, f, hmr, hfm, rfl, hacc, hcur, hwr⟩ := hrel
    have hgr := hcur.lt
    have hsz := hwr.size
    by_cases hr : 0 < r
    · have hr' : (0 : Int) < (r : Int) := by omega
      go_wp2_with fail
      refine (pick_any g B n _ 5 _ hcur (by omega) hn (by omega) (by omega)).mono ?_; rintro e w3 ⟨x, rfl, x0, x1, h3, g3⟩
      have HW3 := Lib.hid (hwr.trans g3)
      have HA3 := Lib.hid (hacc.farC g3 (by omega))
      have hs3 := HW3.out.size
      clear hacc hcur hwr g3
      have HF := Lib.hid hfm
      have HLN : Hid (f.length < 1000000000) := by show f.length < 1000000000; omega
      clear hfm
      go_wp2_with fail
      refine (l1Least_any 1 x _).mono ?_; rintro e w4 ⟨rfl, rfl⟩
      generalize min 1 x = y
      go_wp2_with (at_builtin; refine wpList_push rfl _ _ _ rfl 3 i0 Try.underlying24 hi hz0 hz1 hz2 _ w3 w.heap.size _ f _ rfl rfl HA3.out rfl HLN.out (by omega) (Below.refl _ _) ?_; intro v5 w5 hacc5 hb5; have HA5 := Lib.hid hacc5; have HB5 := Lib.hid hb5; clear hacc5 hb5)
      go_roundw
      case rel => first | exact ⟨m + 1, r - 1, _, by omega, by rw [List.length_append, HF.out]; rfl, by go_num, HA5.out, (h3.below HB5.out hgw).more (by omega), HW3.out.and_below HB5.out (Nat.le_refl _)⟩ | exact ⟨m + 1, r - 1, _, by omega, by rw [List.length_append, HF.out]; rfl, by omega, HA5.out, (h3.below HB5.out hgw).more (by omega), HW3.out.and_below HB5.out (Nat.le_refl _)⟩
      case measure => simp [intOf]; omega
    · obtain rfl : r = 0 := by omega
      have HF := Lib.hid hfm
      have HL : Hid (f.length ≤ 80) := by show f.length ≤ 80; omega
      clear hfm
      go_wp2_with fail
      refine (pick_any g B n _ 14 _ hcur (by omega) hn (by omega) (by omega)).mono ?_; rintro e w3 ⟨s, rfl, s0, s1, h3, g3⟩
      have HW3 := Lib.hid (hwr.trans g3)
      have HA3 := Lib.hid (hacc.farC g3 (by omega))
      have hs3 := HW3.out.size
      clear hacc hcur hwr g3
      by_cases e0 : s = 0
      · subst e0
        rcases HA3.out.formC with ⟨rfl, rfl⟩ | ⟨b, c, rfl, hlb, hbw, hmc, hcm, hcell, hfz⟩
        · go_wp2_with fail
          go_ret
          exact ⟨_, _, rfl, by simp, HA3.out.oi, h3.more (by omega), HW3.out⟩
        by_cases hz : f.length = 0
        · obtain rfl := List.eq_nil_of_length_eq_zero hz
          clear hcell hfz
          have HZ := Lib.hid hz
          clear hz
          go_wp2_with fail
          go_ret
          exact ⟨_, _, rfl, by simp, HA3.out.oi, h3.more (by omega), HW3.out⟩
        have hz1' : (1 : Int) ≤ (f.length : Int) := by omega
        have hz2' : (f.length : Int) ≤ 1000000 := by have := HL.out; omega
        clear hcell hfz hz
        go_wp2_with fail
        refine (pick_any g B n _ _ _ h3 (by omega) hn hz1' hz2').mono ?_; rintro e w4 ⟨p, rfl, p0, p1, h4, g4⟩
        obtain ⟨p, rfl⟩ := Int.eq_ofNat_of_zero_le p0
        have hp : p < f.length := by omega
        have HW4 := Lib.hid (HW3.out.trans g4)
        have HA4 := Lib.hid (HA3.out.farC g4 (by omega))
        have hs4 := HW4.out.size
        clear h3 g4 HW3 HA3
        go_wp2_with fail
        refine (among_any g B n _ _ [-1, 2, 4611686018427387904] _ (h4.below ((Below.refl _ _).alloc (Nat.le_refl _) _) (by omega)) (by omega) hn _ _ (litN [-1, 2, 4611686018427387904] 3 _ rfl (by omega) rfl (by simp)) (by omega) (by simp) (by simp)).mono ?_; rintro e w5 ⟨jj, hjj, rfl, h5, g5⟩
        generalize List.getD ([-1, 2, 4611686018427387904] : List Int) jj 0 = y
        have gA : Wr g (g + 1) w4 w5 := (Wr.of_below ((Below.refl _ _).alloc (Nat.le_refl _) _) g (g + 1)).trans g5
        have HW5 := Lib.hid (HW4.out.trans gA)
        have HA5 := Lib.hid (HA4.out.farC gA (by omega))
        have hs5 := HW5.out.size
        clear h4 gA g5 HW4 HA4 hjj
        have hd := World.ownsRow.cellAt HA5.out p (by omega)
        rw [ics_get f p hp] at hd
        have hzf := World.ownsRow.frozenAt HA5.out p
        generalize List.getD f p 0 = fy at hd
        go_wp2_with fail
        go_ret
        exact ⟨_, _, rfl, by rw [List.length_set]; have := HL.out; omega, (HA5.out.putC p y).oi, (h5.below (lo := w.heap.size) ((Below.refl _ _).setCell (p := ⟨b, p, none⟩) hlb _) hgw).more (by omega), HW5.out.and_below ((Below.refl w.heap.size w5).setCell (p := ⟨b, p, none⟩) hlb _) (Nat.le_refl _)⟩
      by_cases e1 : s = 1
      · subst e1
        go_wp2_with fail
        go_loopw [3] (fun u wr => ∃ (f : List Int), f.length ≤ 401 ∧ Acc 3 wr w.heap.size u f ∧ CurAt wr g B n (k + 200 + 4 * f.length) ∧ Wr g (g + 1) w wr) (fun u _ => 402 - (match u with | .slice _ n _ => n | _ => 0))
        case atStart => exact ⟨f, by have := HL.out; omega, HA3.out, h3.more (by have := HF.out; omega), HW3.out⟩
        case round =>
          obtain ⟨f, hf, hacc, hcur, hwr⟩ := hrel
          have hgr := hcur.lt
          have hsz := hwr.size
          have hf' : (f.length : Int) ≤ 401 := by omega
          obtain ⟨A9, c9, rfl, _, _⟩ := hacc.oi.ri
          go_wp2_with fail
          refine (pick_any g B n _ 2 _ hcur (by omega) hn (by omega) (by omega)).mono ?_; rintro e w4 ⟨z, rfl, z0, z1, h4, g4⟩
          have HW4 := Lib.hid (hwr.trans g4)
          have HA4 := Lib.hid (hacc.farC g4 (by omega))
          have hs4 := HW4.out.size
          clear hacc hcur hwr g4
          by_cases hlt : (f.length : Int) < 400 + z
          · have hf2 : f.length ≤ 400 := by omega
            go_wp2_with fail
            refine (pick_any g B n _ 2 _ h4 (by omega) hn (by omega) (by omega)).mono ?_; rintro e w5 ⟨y, rfl, y0, y1, h5, g5⟩
            have HW5 := Lib.hid (HW4.out.trans g5)
            have HA5 := Lib.hid (HA4.out.farC g5 (by omega))
            have hs5 := HW5.out.size
            clear h4 g5 HW4 HA4
            have HLN : Hid (f.length < 1000000000) := by show f.length < 1000000000; omega
            have HF2 := Lib.hid hf2
            clear hf2
            go_wp2_with (at_builtin; refine wpList_push rfl _ _ _ rfl 3 i0 Try.underlying24 hi hz0 hz1 hz2 _ w5 w.heap.size _ f _ rfl rfl HA5.out rfl HLN.out (by omega) (Below.refl _ _) ?_; intro v6 w6 hacc6 hb6; have HA6 := Lib.hid hacc6; have HB6 := Lib.hid hb6; clear hacc6 hb6)
            obtain ⟨A6, c6, hv6, _, _⟩ := HA6.out.oi.ri
            have HV6 := Lib.hid hv6
            clear hv6
            go_roundw
            case rel => exact ⟨_, by rw [List.length_append]; have := HF2.out; simp; omega, HA6.out, (h5.below HB6.out hgw).more (by rw [List.length_append]; simp; omega), HW5.out.and_below HB6.out (Nat.le_refl _)⟩
            case measure => rw [HV6.out]; simp; have := HF2.out; omega
          · go_wp2_with fail
            go_ret
            exact ⟨_, _, rfl, by omega, HA4.out.oi, h4.more (by omega), HW4.out⟩
      · go_wp2_with fail
        go_ret
        exact ⟨_, _, rfl, by have := HL.out; omega, HA3.out.oi, h3.more (by omega), HW3.out⟩
end Go.Proofs.Ytkmopfgeenadgaa
