/-
  Calls: the contracts of the functions that look whether a list is calls for a token ring.
-/
import Derived.Test.YtfkjiagagidmmaaTokA
import Derived.Test.YtfkjiagagidmmaaSCall
import Derived.Deep.QuietTactic
import Derived.BigQuiet
namespace Go.Proofs.Ytfkjiagagidmmaa
open Go.RowKit
set_option maxRecDepth 100000
set_option linter.unusedVariables false

def areCallsOf (x : Tr) (l : List Cl) : Bool × Bool := if isTr x then (areCl x.k l, true) else (false, false)
theorem areCallsOf_no {x : Tr} {l : List Cl} (h : isTr x = false) : areCallsOf x l = (false, false) := by simp [areCallsOf, h]
theorem areCallsOf_yes {x : Tr} {l : List Cl} (h : isTr x = true) : areCallsOf x l = (areCl x.k l, true) := by simp [areCallsOf, h]
theorem callsFrom_at (K e : Int) (l : List Cl) (k : Nat) (hk : k < l.length) : callsFrom K e (l.drop k) = (wi l[k]!.t e 1000 && (wi l[k]!.f 0 (K - 1) && (wi l[k]!.o 0 (K - 1) && callsFrom K l[k]!.t (l.drop (k + 1))))) := by
  rw [List.drop_eq_getElem_cons hk, getElem!_pos l k hk]
  rfl
theorem okAll_pair (g a b : Int) : okAll 0 g [a, b] = (wi a 0 g && wi b 0 g) := by simp [okAll, wi]
theorem areCl_long {K : Int} {l : List Cl} (h : 20 < l.length) : areCl K l = false := by simp [areCl]; omega
theorem areCl_short {K : Int} {l : List Cl} (h : l.length ≤ 20) : areCl K l = callsFrom K 0 l := by simp [areCl, h]

set_option maxHeartbeats 1000000 in
theorem areCalls_any (v : Value) (x : Tr) (l : List Cl) (w : World) (h : RClS w w.heap.size v l) (hn : l.length ≤ 1048576) (hg : isTr x = true) :
    Calls Try.prog 37 #[TrV x, v] w (RetV w (.bool (areCl x.k l))) := by
  have hin := isTr_in hg
  obtain ⟨k, hh, q⟩ := x
  simp only [TrV] at hin ⊢
  clear hg
  have h0 := h
  obtain ⟨A, c, rfl, hfl, hlc, hc⟩ := h
  clear hc hfl
  obtain ⟨_, _, _, hc⟩ := h0.parts
  clear h0
  have hW : Below w.heap.size w (w.alloc (.cells #[.int .i64 k, .int .i64 hh, .int .i64 q] 25)) := (Below.refl _ _).alloc (Nat.le_refl _) _
  have hB := BK.made w 25 #[.int .i64 k, .int .i64 hh, .int .i64 q]
  have hn' : (l.length : Int) ≤ 1048576 := by omega
  by_cases hlen : 20 < l.length
  · rw [areCl_long hlen]
    have hl2 : (20 : Int) < l.length := by omega
    go_enter Try.func37, Try.ntmps37
    go_wp2_with fail
    go_ret
    exact ⟨rfl, hW⟩
  rw [areCl_short (by omega)]
  have hl2 : (l.length : Int) ≤ 20 := by omega
  obtain ⟨R, hR⟩ : ∃ R, R = callsFrom k 0 l := ⟨_, rfl⟩
  rw [← hR]
  have HR : Hid (R = callsFrom k 0 (l.drop 0)) := hR
  clear hR
  go_enter Try.func37, Try.ntmps37
  go_wp2_with fail
  go_loopw [5, 13] (fun u i wr => ∃ (j : Nat) (e : Int), j ≤ l.length ∧ i = .int .i64 j ∧ u = .int .i64 e ∧ R = callsFrom k e (l.drop j) ∧ Below (w.heap.size + 1) (w.alloc (.cells #[.int .i64 k, .int .i64 hh, .int .i64 q] 25)) wr) (fun _ i _ => l.length - (intOf i).toNat)
  case atStart => exact ⟨0, 0, Nat.zero_le _, rfl, rfl, HR.out, Below.refl _ _⟩
  case round =>
    obtain ⟨j, e, hj, rfl, rfl, hrj, hbw⟩ := hrel
    have hB2 := hB.step (hbw.mono (by simp))
    have c0 := hB2.cell 0
    simp at c0
    have hT := hW.trans (hbw.mono (by omega))
    have HT := Lib.hid hT
    have hs1 := hbw.size
    simp at hs1
    have HBW := Lib.hid hbw
    have HB2 := Lib.hid hB2
    clear hbw hB2
    by_cases hlt : j < l.length
    · obtain ⟨b, off, rfl, hbB, hcell⟩ := hc (by omega)
      obtain ⟨hd0, hd1, hd2⟩ := hcell j hlt
      have hc0 := (hT.cell (p := ⟨b, off + j * 3, none⟩) hbB).trans hd0
      have hc1 := (hT.cell (p := ⟨b, off + j * 3 + 1, none⟩) hbB).trans hd1
      have hc2 := (hT.cell (p := ⟨b, off + j * 3 + 2, none⟩) hbB).trans hd2
      clear hd0 hd1 hd2 hcell hc hT
      rw [callsFrom_at _ _ _ _ hlt] at hrj
      generalize l[j]! = y at hc0 hc1 hc2 hrj
      obtain ⟨yt, yf, yo⟩ := y
      simp only at hc0 hc1 hc2 hrj
      have hp := okAll_pair (k - 1) yf yo
      have q0 := ((HB2.out.alloc (.cells #[.int .i64 yt, .int .i64 yf, .int .i64 yo] 51)).alloc (.cells #[.int .i64 yf, .int .i64 yo] 3)).cell 0
      simp at q0
      have e7 : IntKind.i64.wrap (k - 1) = k - 1 := IntWalk.i64_in _ (by omega)
      cases h1 : wi yt e 1000
      · have HF : Hid (R = false) := by show _ = _; rw [hrj, h1, Bool.false_and]
        clear hrj hp
        go_wp2_with (go_at_call 34; refine (isWithin_wi _ _ _ _).mono ?_; rintro e w' ⟨rfl, rfl⟩)
        go_ret
        exact ⟨congrArg (fun z => Ending.returned (.bool z)) HF.out.symm, HT.out.alloc (by have := HT.out.size; omega) _⟩
      cases h2 : okAll 0 (k - 1) [yf, yo]
      · have HF : Hid (R = false) := by show _ = _; rw [hrj, h1, Bool.true_and, ← Bool.and_assoc, ← hp, h2, Bool.false_and]
        clear hrj hp
        go_wp2_with (first
          | (go_at_call 34; refine (isWithin_wi _ _ _ _).mono ?_; rintro e w' ⟨rfl, rfl⟩)
          | (go_at_call 43; refine (areAllUpTo_any _ [yf, yo] _ _ (lit2 (by simp)) (by simp)).mono ?_; rintro e w' ⟨rfl, rfl⟩))
        go_ret
        exact ⟨congrArg (fun z => Ending.returned (.bool z)) HF.out.symm, (HT.out.alloc (by have := HT.out.size; omega) _).alloc (by have := HT.out.size; simp; omega) _⟩
      · have HF : Hid (R = callsFrom k yt (l.drop (j + 1))) := by show _ = _; rw [hrj, h1, Bool.true_and, ← Bool.and_assoc, ← hp, h2, Bool.true_and]
        clear hrj hp
        go_wp2_with (first
          | (go_at_call 34; refine (isWithin_wi _ _ _ _).mono ?_; rintro e w' ⟨rfl, rfl⟩)
          | (go_at_call 43; refine (areAllUpTo_any _ [yf, yo] _ _ (lit2 (by simp)) (by simp)).mono ?_; rintro e w' ⟨rfl, rfl⟩))
        go_roundw
        case rel => exact ⟨j + 1, yt, by omega, by go_num, rfl, HF.out, (HBW.out.alloc (by omega) _).alloc (by simp; omega) _⟩
        case measure => simp [intOf]; omega
    · obtain rfl : j = l.length := by omega
      have HF : Hid (R = true) := by show _ = _; rw [hrj, List.drop_length]; rfl
      clear hrj
      go_wp2_with fail
      go_ret
      exact ⟨congrArg (fun z => Ending.returned (.bool z)) HF.out.symm, HT.out⟩
/-- The model's look at the calls from j on, p the one before. -/
theorem wi_zero (t p : Int) (h : 0 ≤ p) : wi t p 1000 = (wi t 0 1000 && decide (p ≤ t)) := by
  unfold wi
  rw [Bool.eq_iff_iff]
  simp only [Bool.and_eq_true, decide_eq_true_eq]
  omega
/-- The tick of the one before. -/
def prevT (l : List Cl) : Nat → Int
  | 0 => 0
  | j + 1 => l[j]!.t
set_option maxHeartbeats 2000000 in
theorem tkCalls_any (v : Value) (x : Tr) (l : List Cl) (w : World) (h : RClS w w.heap.size v l) (hn : l.length ≤ 1048576) :
    Calls Try.prog 35 #[TrV x, v] w (RetV w (.bool (isTr x && areCl x.k l))) := by
  have HG := Lib.hid (fun w => tkGood_any x w)
  have h0 := h
  obtain ⟨A, c, rfl, hfl, hlc, hc⟩ := h
  clear hc hfl
  obtain ⟨_, _, _, hc⟩ := h0.parts
  clear h0
  have hn' : (l.length : Int) ≤ 1048576 := by omega
  cases hg : isTr x
  · rw [hg] at HG
    obtain ⟨k, hh, q⟩ := x
    simp only [TrV] at HG ⊢
    rw [Bool.false_and]
    have hW : Below w.heap.size w (w.alloc (.cells #[.int .i64 k, .int .i64 hh, .int .i64 q] 25)) := (Below.refl _ _).alloc (Nat.le_refl _) _
    clear hg
    go_enter Try.func35, Try.ntmps35
    go_wp2_with fail
    refine (HG.out _).mono ?_; rintro e w1 ⟨rfl, hb⟩
    go_wp2_with fail
    go_ret
    exact ⟨rfl, hW.trans (hb.mono hW.size)⟩
  have hin := isTr_in hg
  rw [hg] at HG
  obtain ⟨k, hh, q⟩ := x
  simp only [TrV] at HG hin ⊢
  rw [Bool.true_and]
  clear hg
  have hW : Below w.heap.size w (w.alloc (.cells #[.int .i64 k, .int .i64 hh, .int .i64 q] 25)) := (Below.refl _ _).alloc (Nat.le_refl _) _
  have hB := BK.made w 25 #[.int .i64 k, .int .i64 hh, .int .i64 q]
  by_cases hlen : 20 < l.length
  · rw [areCl_long hlen]
    have hl2 : (20 : Int) < l.length := by omega
    go_enter Try.func35, Try.ntmps35
    go_wp2_with fail
    refine (HG.out _).mono ?_; rintro e w1 ⟨rfl, hb⟩
    go_wp2_with fail
    go_ret
    exact ⟨rfl, hW.trans (hb.mono hW.size)⟩
  rw [areCl_short (by omega)]
  have hl2 : (l.length : Int) ≤ 20 := by omega
  obtain ⟨R, hR⟩ : ∃ R, R = callsFrom k 0 l := ⟨_, rfl⟩
  rw [← hR]
  have HR : Hid (R = callsFrom k (prevT l 0) (l.drop 0)) := hR
  clear hR
  go_enter Try.func35, Try.ntmps35
  go_wp2_with fail
  refine (HG.out _).mono ?_; rintro e w1 ⟨rfl, hb⟩
  have hB1 := hB.step hb
  have T1 := hW.trans (hb.mono hW.size)
  have hz3 := hB1.1
  have hz := T1.size
  clear hW hB hb
  go_wp2_with fail
  go_loopw [17] (fun i wr => ∃ j : Nat, j ≤ l.length ∧ i = .int .i64 j ∧ R = callsFrom k (prevT l j) (l.drop j) ∧ 0 ≤ prevT l j ∧ Below w1.heap.size w1 wr) (fun i _ => l.length - (intOf i).toNat)
  case atStart => exact ⟨0, Nat.zero_le _, rfl, HR.out, Int.le_refl _, Below.refl _ _⟩
  case round =>
    obtain ⟨j, hj, rfl, hrj, hpv, hbw⟩ := hrel
    have hB2 := hB1.step hbw
    have c0 := hB2.cell 0
    simp at c0
    have hT := T1.trans (hbw.mono hz)
    have HT := Lib.hid hT
    have hs1 := hbw.size
    have HBW := Lib.hid hbw
    have HB2 := Lib.hid hB2
    clear hbw hB2
    by_cases hlt : j < l.length
    · obtain ⟨b, off, rfl, hbB, hcell⟩ := hc (by omega)
      obtain ⟨hd0, hd1, hd2⟩ := hcell j hlt
      have hc0 := (hT.cell (p := ⟨b, off + j * 3, none⟩) hbB).trans hd0
      have hc1 := (hT.cell (p := ⟨b, off + j * 3 + 1, none⟩) hbB).trans hd1
      have hc2 := (hT.cell (p := ⟨b, off + j * 3 + 2, none⟩) hbB).trans hd2
      clear hd0 hd1 hd2
      rw [callsFrom_at _ _ _ _ hlt, wi_zero _ _ hpv] at hrj
      have HP : Hid (prevT l (j + 1) = l[j]!.t) := rfl
      generalize l[j]! = y at hc0 hc1 hc2 hrj HP
      obtain ⟨yt, yf, yo⟩ := y
      simp only at hc0 hc1 hc2 hrj HP
      have q0 := (HB2.out.alloc (.cells #[.int .i64 yt, .int .i64 yf, .int .i64 yo] 51)).cell 0
      simp at q0
      have e7 : IntKind.i64.wrap (k - 1) = k - 1 := IntWalk.i64_in _ (by omega)
      cases h1 : wi yt 0 1000
      · have HF : Hid (R = false) := by show _ = _; rw [hrj, h1, Bool.false_and, Bool.false_and]
        clear hrj hcell hc hT
        go_wp2_with (go_at_call 41; refine (l1In_wi _ _ _ _).mono ?_; rintro e w' ⟨rfl, rfl⟩)
        go_ret
        exact ⟨congrArg (fun z => Ending.returned (.bool z)) HF.out.symm, HT.out.alloc (by have := HT.out.size; omega) _⟩
      cases h2 : wi yf 0 (k - 1)
      · have HF : Hid (R = false) := by show _ = _; rw [hrj, h2, Bool.false_and, Bool.and_false]
        clear hrj hcell hc hT
        go_wp2_with (go_at_call 41; refine (l1In_wi _ _ _ _).mono ?_; rintro e w' ⟨rfl, rfl⟩)
        go_ret
        exact ⟨congrArg (fun z => Ending.returned (.bool z)) HF.out.symm, HT.out.alloc (by have := HT.out.size; omega) _⟩
      cases h3 : wi yo 0 (k - 1)
      · have HF : Hid (R = false) := by show _ = _; rw [hrj, h3, Bool.false_and, Bool.and_false, Bool.and_false]
        clear hrj hcell hc hT
        go_wp2_with (go_at_call 41; refine (l1In_wi _ _ _ _).mono ?_; rintro e w' ⟨rfl, rfl⟩)
        go_ret
        exact ⟨congrArg (fun z => Ending.returned (.bool z)) HF.out.symm, HT.out.alloc (by have := HT.out.size; omega) _⟩
      rw [h1, h2, h3, Bool.true_and, Bool.true_and, Bool.true_and] at hrj
      have hyt : 0 ≤ yt := by have : 0 ≤ yt ∧ yt ≤ 1000 := by simpa [wi] using h1
                              exact this.1
      have HPV : Hid (0 ≤ prevT l (j + 1)) := by show _ ≤ _; rw [HP.out]; exact hyt
      by_cases hj0 : (j : Int) ≤ 0
      · have HF : Hid (R = callsFrom k (prevT l (j + 1)) (l.drop (j + 1))) := by
          show _ = _
          obtain rfl : j = 0 := by omega
          rw [hrj, HP.out]
          have : decide (prevT l 0 ≤ yt) = true := by rw [decide_eq_true_eq]; exact hyt
          rw [this, Bool.true_and]
        have hj1 : decide ((0 : Int) < (j : Int)) = false := by rw [decide_eq_false_iff_not]; omega
        have hj2 : decide (0 < j) = false := by rw [decide_eq_false_iff_not]; omega
        clear hrj hcell hc hT hpv
        go_wp2_with (go_at_call 41; refine (l1In_wi _ _ _ _).mono ?_; rintro e w' ⟨rfl, rfl⟩)
        have HNB := Lib.hid (HBW.out.alloc (by omega) (.cells #[.int .i64 yt, .int .i64 yf, .int .i64 yo] 51))
        go_quiet (fail)
        go_wp2_with fail
        go_roundw
        case rel => exact ⟨j + 1, by omega, by go_num, HF.out, HPV.out, below_drewN HNB.out _⟩
        case measure => simp [intOf]; omega
      · obtain ⟨m, hm⟩ : ∃ m, j = m + 1 := ⟨j - 1, by omega⟩
        have hml : m < l.length := by omega
        obtain ⟨hd0, hd1, hd2⟩ := hcell m hml
        have hp0 := (hT.cell (p := ⟨b, off + m * 3, none⟩) hbB).trans hd0
        have HPM : Hid (prevT l j = l[m]!.t) := by show _ = _; rw [hm]; rfl
        rw [HPM.out] at hrj
        generalize l[m]!.t = pt at hp0 HPM hrj
        clear hd0 hd1 hd2
        have hj1 : decide ((0 : Int) < (j : Int)) = true := by rw [decide_eq_true_eq]; omega
        have hj2 : decide (0 < j) = true := by rw [decide_eq_true_eq]; omega
        have hj3 : 0 < j := by omega
        have e8 : IntKind.i64.wrap ((j : Int) - 1) = (m : Int) := by rw [IntWalk.i64_in _ (by omega)]; omega
        have hmi : (m : Int) < (l.length : Int) := by omega
        have HMJ := Lib.hid hm
        have hq0 : (wr.alloc (.cells #[.int .i64 yt, .int .i64 yf, .int .i64 yo] 51)).cell? ⟨b, off + m * 3, none⟩ = some (.int .i64 pt) := (((Below.refl _ _).alloc (Nat.le_refl wr.heap.size) _).cell (p := ⟨b, off + m * 3, none⟩) (by show b < wr.heap.size; omega)).trans hp0
        have HNB := Lib.hid (HBW.out.alloc (by omega) (.cells #[.int .i64 yt, .int .i64 yf, .int .i64 yo] 51))
        by_cases hlt2 : yt < pt
        · have HF : Hid (R = false) := by
            show _ = _
            have : decide (pt ≤ yt) = false := by rw [decide_eq_false_iff_not]; omega
            rw [hrj, this, Bool.false_and]
          clear hrj hcell hc hT hpv hm
          go_wp2_with (go_at_call 41; refine (l1In_wi _ _ _ _).mono ?_; rintro e w' ⟨rfl, rfl⟩)
          go_quiet (fail)
          go_wp2_with fail
          go_ret
          exact ⟨congrArg (fun z => Ending.returned (.bool z)) HF.out.symm, T1.trans ((below_drewN HNB.out _).mono hz)⟩
        · have HF : Hid (R = callsFrom k (prevT l (j + 1)) (l.drop (j + 1))) := by
            show _ = _
            have : decide (pt ≤ yt) = true := by rw [decide_eq_true_eq]; omega
            rw [hrj, HP.out, this, Bool.true_and]
          clear hrj hcell hc hT hpv hm
          go_wp2_with (go_at_call 41; refine (l1In_wi _ _ _ _).mono ?_; rintro e w' ⟨rfl, rfl⟩)
          go_quiet (fail)
          go_wp2_with fail
          go_roundw
          case rel => exact ⟨j + 1, by omega, by go_num, HF.out, HPV.out, below_drewN HNB.out _⟩
          case measure => simp [intOf]; omega
    · obtain rfl : j = l.length := by omega
      have HF : Hid (R = true) := by show _ = _; rw [hrj, List.drop_length]; rfl
      clear hrj
      go_wp2_with fail
      go_ret
      exact ⟨congrArg (fun z => Ending.returned (.bool z)) HF.out.symm, HT.out⟩
theorem implAreCalls_any (v : Value) (x : Tr) (l : List Cl) (w : World) (h : RClS w w.heap.size v l) (hn : l.length ≤ 1048576) :
    Calls Try.prog 16 #[TrV x, v] w (RetV w (.tuple #[.bool (areCallsOf x l).1, .bool (areCallsOf x l).2])) := by
  have HG := Lib.hid (fun w => implIsTokenRing_any x w)
  have hr := h
  obtain ⟨A, c, rfl, _, hlc, _⟩ := h
  cases hg : isTr x
  · rw [areCallsOf_no hg]
    rw [hg] at HG
    obtain ⟨k, hh, q⟩ := x
    simp only [TrV] at HG ⊢
    have hW : Below w.heap.size w (w.alloc (.cells #[.int .i64 k, .int .i64 hh, .int .i64 q] 25)) := (Below.refl _ _).alloc (Nat.le_refl _) _
    clear hg
    go_enter Try.func16, Try.ntmps16
    go_wp2_with fail
    refine (HG.out _).mono ?_; rintro e w1 ⟨rfl, hb⟩
    go_wp2_with fail
    go_ret2
    exact ⟨rfl, hW.trans (hb.mono hW.size)⟩
  · rw [areCallsOf_yes hg]
    rw [hg] at HG
    have HL := Lib.hid (fun w h => (areCalls_any _ x l w h hn hg : Calls _ _ #[_, .slice A l.length c] w _))
    obtain ⟨k, hh, q⟩ := x
    simp only [TrV] at HG HL ⊢
    rw [← Bool.true_and (areCl k l), Bool.true_and] at HL
    have hW : Below w.heap.size w (w.alloc (.cells #[.int .i64 k, .int .i64 hh, .int .i64 q] 25)) := (Below.refl _ _).alloc (Nat.le_refl _) _
    have hB := BK.made w 25 #[.int .i64 k, .int .i64 hh, .int .i64 q]
    clear hg
    go_enter Try.func16, Try.ntmps16
    go_wp2_with fail
    refine (HG.out _).mono ?_; rintro e w1 ⟨rfl, hb⟩
    have hB1 := hB.step hb
    have c0 := hB1.cell 0
    have c1 := hB1.cell 1
    have c2 := hB1.cell 2
    simp at c0 c1 c2
    have T1 := hW.trans (hb.mono hW.size)
    go_wp2_with fail
    refine (HL.out _ ((hr.step T1 (Nat.le_refl _)).more T1.size)).mono ?_; rintro e w2 ⟨rfl, hb2⟩
    go_wp2_with fail
    go_ret2
    exact ⟨rfl, T1.trans (hb2.mono T1.size)⟩
theorem specAreCalls_any (v : Value) (x : Tr) (l : List Cl) (w : World) (h : RClS w w.heap.size v l) (hn : l.length ≤ 1048576) :
    Calls Try.prog 14 #[TrV x, v] w (RetV w (.tuple #[.bool (areCallsOf x l).1, .bool (areCallsOf x l).2])) := by
  have HG := Lib.hid (fun w => tkGood_any x w)
  have hr := h
  obtain ⟨A, c, rfl, _, hlc, _⟩ := h
  cases hg : isTr x
  · rw [areCallsOf_no hg]
    rw [hg] at HG
    obtain ⟨k, hh, q⟩ := x
    simp only [TrV] at HG ⊢
    have hW : Below w.heap.size w (w.alloc (.cells #[.int .i64 k, .int .i64 hh, .int .i64 q] 25)) := (Below.refl _ _).alloc (Nat.le_refl _) _
    clear hg
    go_enter Try.func14, Try.ntmps14
    go_wp2_with fail
    refine (HG.out _).mono ?_; rintro e w1 ⟨rfl, hb⟩
    go_wp2_with fail
    go_ret2
    exact ⟨rfl, hW.trans (hb.mono hW.size)⟩
  · rw [areCallsOf_yes hg]
    rw [hg] at HG
    have HL := Lib.hid (fun w h => (tkCalls_any _ x l w h hn : Calls _ _ #[_, .slice A l.length c] w _))
    obtain ⟨k, hh, q⟩ := x
    simp only [TrV] at HG HL ⊢
    rw [hg, Bool.true_and] at HL
    have hW : Below w.heap.size w (w.alloc (.cells #[.int .i64 k, .int .i64 hh, .int .i64 q] 25)) := (Below.refl _ _).alloc (Nat.le_refl _) _
    have hB := BK.made w 25 #[.int .i64 k, .int .i64 hh, .int .i64 q]
    clear hg
    go_enter Try.func14, Try.ntmps14
    go_wp2_with fail
    refine (HG.out _).mono ?_; rintro e w1 ⟨rfl, hb⟩
    have hB1 := hB.step hb
    have c0 := hB1.cell 0
    have c1 := hB1.cell 1
    have c2 := hB1.cell 2
    simp at c0 c1 c2
    have T1 := hW.trans (hb.mono hW.size)
    go_wp2_with fail
    refine (HL.out _ ((hr.step T1 (Nat.le_refl _)).more T1.size)).mono ?_; rintro e w2 ⟨rfl, hb2⟩
    go_wp2_with fail
    go_ret2
    exact ⟨rfl, T1.trans (hb2.mono T1.size)⟩
end Go.Proofs.Ytfkjiagagidmmaa
