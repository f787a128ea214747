/-
  Slot rings and messages: the contracts of the functions that look whether they are such.
-/
import Derived.Test.YtehmhkbiofndaaaSMessage
import Derived.Test.YtehmhkbiofndaaaSSlotRing
import Derived.Deep.RegionHeld3
import Derived.Deep.DeepCutAuto
import Derived.RegionTactic
import Derived.BigRegion
namespace Go.Proofs.Ytehmhkbiofndaaa
open Go.RowKit
set_option maxRecDepth 100000
set_option linter.unusedVariables false

@[reducible] def srCells (x : Sr) : Array Value := #[.int .i64 x.n, .bool x.h]
theorem implIsSlotRing_any (x : Sr) (w : World) : Calls Try.prog 40 #[SrV x] w (RetV w (.bool (isSr x))) := by
  obtain ⟨n, h⟩ := x
  simp only [SrV]
  have hW : Below w.heap.size w (w.alloc (.cells #[.int .i64 n, .bool h] 25)) := (Below.refl _ _).alloc (Nat.le_refl _) _
  go_enter Try.func40, Try.ntmps40
  go_wp2_with (go_at_call 24; refine (isWithin_wi _ _ _ _).mono ?_; rintro e w' ⟨rfl, rfl⟩)
  go_ret
  exact ⟨rfl, hW⟩
theorem slGood_any (x : Sr) (w : World) : Calls Try.prog 48 #[SrV x] w (RetV w (.bool (isSr x))) := by
  obtain ⟨n, h⟩ := x
  simp only [SrV]
  have hW : Below w.heap.size w (w.alloc (.cells #[.int .i64 n, .bool h] 25)) := (Below.refl _ _).alloc (Nat.le_refl _) _
  go_enter Try.func48, Try.ntmps48
  go_wp2_with (go_at_call 28; refine (l1In_wi _ _ _ _).mono ?_; rintro e w' ⟨rfl, rfl⟩)
  go_ret
  exact ⟨rfl, hW⟩
theorem msFrom_at (K e : Int) (l : List Ms) (k : Nat) (hk : k < l.length) : msFrom K e (l.drop k) = (wi l[k]!.t e 100 && (msOk K l[k]! && msFrom K l[k]!.t (l.drop (k + 1)))) := by
  rw [List.drop_eq_getElem_cons hk, getElem!_pos l k hk]
  rfl
theorem okAll_pair (g a b : Int) : okAll 0 g [a, b] = (wi a 0 g && wi b 0 g) := by simp [okAll, wi]
theorem wi_zero (t p : Int) (h : 0 ≤ p) : wi t p 100 = (wi t 0 100 && decide (p ≤ t)) := by
  unfold wi
  rw [Bool.eq_iff_iff]
  simp only [Bool.and_eq_true, decide_eq_true_eq]
  omega

set_option maxHeartbeats 1000000 in
theorem areMessagesFor_any (v : Value) (k : Int) (l : List Ms) (w : World) (h : RMsS w w.heap.size v l) (hn : l.length ≤ 1048576) (hin : 2 ≤ k ∧ k ≤ 12) :
    Calls Try.prog 41 #[.int .i64 k, v] w (RetV w (.bool (areMs k l))) := by
  have h0 := h
  obtain ⟨A, c, rfl, hfl, hlc, hc⟩ := h
  clear hc hfl
  obtain ⟨_, _, _, hc⟩ := h0.parts
  clear h0
  have hn' : (l.length : Int) ≤ 1048576 := by omega
  by_cases hlen : 20 < l.length
  · rw [areMs_long hlen]
    have hl2 : (20 : Int) < l.length := by omega
    go_enter Try.func41, Try.ntmps41
    go_wp2_with fail
    go_ret
    exact ⟨rfl, Below.refl _ _⟩
  rw [areMs_short (by omega)]
  have hl2 : (l.length : Int) ≤ 20 := by omega
  obtain ⟨R, hR⟩ : ∃ R, R = msFrom k 0 l := ⟨_, rfl⟩
  rw [← hR]
  have HR : Hid (R = msFrom k 0 (l.drop 0)) := hR
  clear hR
  go_enter Try.func41, Try.ntmps41
  go_wp2_with fail
  go_loopw [5, 13] (fun u i wr => ∃ (j : Nat) (e : Int), j ≤ l.length ∧ i = .int .i64 j ∧ u = .int .i64 e ∧ R = msFrom k e (l.drop j) ∧ Below w.heap.size w wr) (fun _ i _ => l.length - (intOf i).toNat)
  case atStart => exact ⟨0, 0, Nat.zero_le _, rfl, rfl, HR.out, Below.refl _ _⟩
  case round =>
    obtain ⟨j, e, hj, rfl, rfl, hrj, hT⟩ := hrel
    have HT := Lib.hid hT
    have hs1 := hT.size
    by_cases hlt : j < l.length
    · obtain ⟨b, off, rfl, hbB, hcell⟩ := hc (by omega)
      obtain ⟨hd0, hd1, hd2⟩ := hcell j hlt
      have hc0 := (hT.cell (p := ⟨b, off + j * 3, none⟩) hbB).trans hd0
      have hc1 := (hT.cell (p := ⟨b, off + j * 3 + 1, none⟩) hbB).trans hd1
      have hc2 := (hT.cell (p := ⟨b, off + j * 3 + 2, none⟩) hbB).trans hd2
      clear hd0 hd1 hd2 hcell hc hT
      rw [msFrom_at _ _ _ _ hlt] at hrj
      generalize l[j]! = y at hc0 hc1 hc2 hrj
      obtain ⟨yt, yf, yo⟩ := y
      simp only [msOk] at hc0 hc1 hc2 hrj
      rw [← Bool.and_assoc (wi yf 0 (k - 1)), ← okAll_pair] at hrj
      have e7 : IntKind.i64.wrap (k - 1) = k - 1 := IntWalk.i64_in _ (by omega)
      have HA1 := Lib.hid (HT.out.alloc (by omega) (.cells #[.int .i64 yt, .int .i64 yf, .int .i64 yo] 35))
      have HA2 := Lib.hid (HA1.out.alloc (by simp; omega) (.cells #[.int .i64 yf, .int .i64 yo] 3))
      have q0 : ((wr.alloc (.cells #[.int .i64 yt, .int .i64 yf, .int .i64 yo] 35)).alloc (.cells #[.int .i64 yf, .int .i64 yo] 3)).cell? ⟨wr.heap.size, 0, none⟩ = some (.int .i64 yt) := by simp
      have q1 : ((wr.alloc (.cells #[.int .i64 yt, .int .i64 yf, .int .i64 yo] 35)).alloc (.cells #[.int .i64 yf, .int .i64 yo] 3)).cell? ⟨wr.heap.size, 1, none⟩ = some (.int .i64 yf) := by simp
      have q2 : ((wr.alloc (.cells #[.int .i64 yt, .int .i64 yf, .int .i64 yo] 35)).alloc (.cells #[.int .i64 yf, .int .i64 yo] 3)).cell? ⟨wr.heap.size, 2, none⟩ = some (.int .i64 yo) := by simp
      cases h1 : wi yt e 100
      · have HF : Hid (R = false) := by show _ = _; rw [hrj, h1, Bool.false_and]
        clear hrj
        go_wp2_with (go_at_call 24; refine (isWithin_wi _ _ _ _).mono ?_; rintro e w' ⟨rfl, rfl⟩)
        go_ret
        exact ⟨congrArg (fun z => Ending.returned (.bool z)) HF.out.symm, HA1.out⟩
      cases h2 : okAll 0 (k - 1) [yf, yo]
      · have HF : Hid (R = false) := by show _ = _; rw [hrj, h2, Bool.false_and, Bool.false_and, Bool.and_false]
        clear hrj
        go_wp2_with (first
          | (go_at_call 24; refine (isWithin_wi _ _ _ _).mono ?_; rintro e w' ⟨rfl, rfl⟩)
          | (go_at_call 54; refine (areAllUpTo_any _ [yf, yo] _ _ (lit2 (by simp)) (by simp)).mono ?_; rintro e w' ⟨rfl, rfl⟩))
        go_ret
        exact ⟨congrArg (fun z => Ending.returned (.bool z)) HF.out.symm, HA2.out⟩
      by_cases h3 : yf = yo
      · subst h3
        have HF : Hid (R = false) := by
          show _ = _
          have : decide (yf ≠ yf) = false := by simp
          rw [hrj, this, Bool.and_false, Bool.false_and, Bool.and_false]
        clear hrj
        go_wp2_with (first
          | (go_at_call 24; refine (isWithin_wi _ _ _ _).mono ?_; rintro e w' ⟨rfl, rfl⟩)
          | (go_at_call 54; refine (areAllUpTo_any _ [yf, yf] _ _ (lit2 (by simp)) (by simp)).mono ?_; rintro e w' ⟨rfl, rfl⟩))
        go_ret
        exact ⟨congrArg (fun z => Ending.returned (.bool z)) HF.out.symm, HA2.out⟩
      · have HF : Hid (R = msFrom k yt (l.drop (j + 1))) := by
          show _ = _
          have : decide (yf ≠ yo) = true := by simp [h3]
          rw [hrj, h1, h2, this, Bool.true_and, Bool.true_and, Bool.true_and]
        clear hrj
        go_wp2_with (first
          | (go_at_call 24; refine (isWithin_wi _ _ _ _).mono ?_; rintro e w' ⟨rfl, rfl⟩)
          | (go_at_call 54; refine (areAllUpTo_any _ [yf, yo] _ _ (lit2 (by simp)) (by simp)).mono ?_; rintro e w' ⟨rfl, rfl⟩))
        go_roundw
        case rel => exact ⟨j + 1, yt, by omega, by go_num, rfl, HF.out, HA2.out⟩
        case measure => simp [intOf]; omega
    · obtain rfl : j = l.length := by omega
      have HF : Hid (R = true) := by show _ = _; rw [hrj, List.drop_length]; rfl
      clear hrj
      go_wp2_with fail
      go_ret
      exact ⟨congrArg (fun z => Ending.returned (.bool z)) HF.out.symm, HT.out⟩
set_option maxHeartbeats 1000000 in
theorem slMessage_any (x : Sr) (y : Ms) (w : World) (hin : 2 ≤ x.n ∧ x.n ≤ 12) : Calls Try.prog 49 #[SrV x, MsV y] w (RetV w (.bool (wi y.t 0 100 && msOk x.n y))) := by
  obtain ⟨n, h⟩ := x
  obtain ⟨t, f, o⟩ := y
  simp only [SrV, MsV, msOk] at hin ⊢
  have hW : Below w.heap.size w ((w.alloc (.cells #[.int .i64 n, .bool h] 25)).alloc (.cells #[.int .i64 t, .int .i64 f, .int .i64 o] 35)) := ((Below.refl _ _).alloc (Nat.le_refl _) _).alloc (by simp) _
  have e7 : IntKind.i64.wrap (n - 1) = n - 1 := IntWalk.i64_in _ (by omega)
  cases h1 : wi t 0 100 <;> cases h2 : wi f 0 (n - 1) <;> cases h3 : wi o 0 (n - 1)
  all_goals
    by_cases h4 : f = o
    all_goals
      try subst h4
      go_enter Try.func49, Try.ntmps49
      go_wp2_with (go_at_call 28; refine (l1In_wi _ _ _ _).mono ?_; rintro e w' ⟨rfl, rfl⟩)
      go_ret
      exact ⟨ret_bool (by simp [*]), hW⟩
end Go.Proofs.Ytehmhkbiofndaaa
