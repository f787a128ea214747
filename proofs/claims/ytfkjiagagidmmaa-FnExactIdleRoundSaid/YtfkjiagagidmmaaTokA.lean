/-
  Token rings: the contracts of IdleRound, LongestRound and WaitBound.
-/
import Derived.Test.YtfkjiagagidmmaaTok
import Derived.Deep.RegionHeld3
import Derived.Deep.DeepCutAuto
import Derived.RegionTactic
import Derived.BigRegion
namespace Go.Proofs.Ytfkjiagagidmmaa
open Go.RowKit
set_option maxRecDepth 100000
set_option linter.unusedVariables false

theorem mul_in {a b A B : Int} (ha : 0 ≤ a) (hA : a ≤ A) (hb : 0 ≤ b) (hB : b ≤ B) : 0 ≤ a * b ∧ a * b ≤ A * B :=
  ⟨Int.mul_nonneg ha hb, Int.mul_le_mul hA hB hb (by omega)⟩
theorem idleRound_no {x : Tr} (h : isTr x = false) : idleRound x = (0, false) := by simp [idleRound, h]
theorem idleRound_yes {x : Tr} (h : isTr x = true) : idleRound x = (x.k * x.q, true) := by simp [idleRound, h]
theorem longRound_no {x : Tr} (h : isTr x = false) : longRound x = (0, false) := by simp [longRound, h]
theorem longRound_yes {x : Tr} (h : isTr x = true) : longRound x = (x.k * (x.h + x.q), true) := by simp [longRound, h]
theorem waitBound_no {x : Tr} {a : Int} (h : (isTr x && wi a 0 100) = false) : waitBound x a = (0, false) := by simp [waitBound, h]
theorem waitBound_yes {x : Tr} {a : Int} (h : (isTr x && wi a 0 100) = true) : waitBound x a = ((a.tdiv x.h + 1) * (x.k * (x.h + x.q)) + a - a.tdiv x.h * x.h - 1, true) := by simp [waitBound, h]
/-- The bound's value, in each side's own steps. -/
theorem waitVal (k h R a V : Int) (hh : 1 ≤ h ∧ h ≤ 10) (ha2 : 0 ≤ a ∧ a ≤ 100) (hR : 0 ≤ R ∧ R ≤ 12 * 20) (hV : V = (a.tdiv h + 1) * R + a - a.tdiv h * h - 1) :
    IntKind.i64.wrap (IntKind.i64.wrap (IntKind.i64.wrap (IntKind.i64.wrap (IntKind.i64.wrap (a.tdiv h) + 1) * R) + a.tmod h) - 1) = V ∧
    IntKind.i64.wrap (IntKind.i64.wrap (IntKind.i64.wrap (IntKind.i64.wrap (IntKind.i64.wrap (a / h + 1) * R) + a) - IntKind.i64.wrap (a / h * h)) - 1) = V := by
  rw [← Int.tdiv_eq_ediv_of_nonneg ha2.1]
  have hd0 : 0 ≤ a.tdiv h := Int.tdiv_nonneg ha2.1 (by omega)
  have hd1 : a.tdiv h ≤ a := Int.tdiv_le_self _ ha2.1
  have hdm : h * a.tdiv h + a.tmod h = a := Int.mul_tdiv_add_tmod a h
  have hm0 : 0 ≤ a.tmod h := Int.tmod_nonneg _ ha2.1
  have hm1 : a.tmod h < h := Int.tmod_lt_of_pos _ (by omega)
  rw [Int.mul_comm] at hdm
  have hP := mul_in (a := a.tdiv h + 1) (b := R) (A := 101) (B := 240) (by omega) (by omega) (by omega) (by omega)
  generalize a.tmod h = dm at *
  generalize a.tdiv h = dq at *
  have q1 : IntKind.i64.wrap dq = dq := IntWalk.i64_in _ (by omega)
  have q2 : IntKind.i64.wrap (dq + 1) = dq + 1 := IntWalk.i64_in _ (by omega)
  have q3 : IntKind.i64.wrap ((dq + 1) * R) = (dq + 1) * R := IntWalk.i64_in _ (by omega)
  have q4 : IntKind.i64.wrap (dq * h) = dq * h := IntWalk.i64_in _ (by omega)
  rw [q1, q2, q3, q4]
  generalize (dq + 1) * R = P at *
  generalize dq * h = Q at *
  constructor
  · rw [IntWalk.i64_in (P + dm) (by omega), IntWalk.i64_in (P + dm - 1) (by omega)]
    omega
  · rw [IntWalk.i64_in (P + a) (by omega), IntWalk.i64_in (P + a - Q) (by omega), IntWalk.i64_in (P + a - Q - 1) (by omega)]
    omega
@[reducible] def trCells (x : Tr) : Array Value := #[.int .i64 x.k, .int .i64 x.h, .int .i64 x.q]
theorem longestRound_any (x : Tr) (w : World) (hg : isTr x = true) : Calls Try.prog 40 #[TrV x] w (RetV w (.int .i64 (x.k * (x.h + x.q)))) := by
  have hin := isTr_in hg
  obtain ⟨k, h, q⟩ := x
  simp only [TrV] at hin ⊢
  clear hg
  have hW : Below w.heap.size w (w.alloc (.cells #[.int .i64 k, .int .i64 h, .int .i64 q] 25)) := (Below.refl _ _).alloc (Nat.le_refl _) _
  have hm := mul_in (a := k) (b := h + q) (A := 12) (B := 20) (by omega) (by omega) (by omega) (by omega)
  have e0 : IntKind.i64.wrap (h + q) = h + q := IntWalk.i64_in _ (by omega)
  have e1 : IntKind.i64.wrap (k * (h + q)) = k * (h + q) := IntWalk.i64_in _ (by omega)
  go_enter Try.func40, Try.ntmps40
  go_wp2_with fail
  go_ret
  exact ⟨rfl, hW⟩
theorem tkRound_any (x : Tr) (w : World) (hg : isTr x = true) : Calls Try.prog 39 #[TrV x] w (RetV w (.int .i64 (x.k * (x.h + x.q)))) := by
  have hin := isTr_in hg
  obtain ⟨k, h, q⟩ := x
  simp only [TrV] at hin ⊢
  clear hg
  have hW : Below w.heap.size w (w.alloc (.cells #[.int .i64 k, .int .i64 h, .int .i64 q] 25)) := (Below.refl _ _).alloc (Nat.le_refl _) _
  have hm := mul_in (a := k) (b := h + q) (A := 12) (B := 20) (by omega) (by omega) (by omega) (by omega)
  have e0 : IntKind.i64.wrap (h + q) = h + q := IntWalk.i64_in _ (by omega)
  have e1 : IntKind.i64.wrap (k * (h + q)) = k * (h + q) := IntWalk.i64_in _ (by omega)
  go_enter Try.func39, Try.ntmps39
  go_wp2_with fail
  go_ret
  exact ⟨rfl, hW⟩
theorem implIdleRound_any (x : Tr) (w : World) : Calls Try.prog 19 #[TrV x] w (RetV w (.tuple #[.int .i64 (idleRound x).1, .bool (idleRound x).2])) := by
  have HG := Lib.hid (fun w => implIsTokenRing_any x w)
  cases hg : isTr x
  · rw [idleRound_no hg]
    rw [hg] at HG
    obtain ⟨k, h, q⟩ := x
    simp only [TrV] at HG ⊢
    have hW : Below w.heap.size w (w.alloc (.cells #[.int .i64 k, .int .i64 h, .int .i64 q] 25)) := (Below.refl _ _).alloc (Nat.le_refl _) _
    clear hg
    go_enter Try.func19, Try.ntmps19
    go_wp2_with fail
    refine (HG.out _).mono ?_; rintro e w1 ⟨rfl, hb⟩
    go_wp2_with fail
    go_ret2
    exact ⟨rfl, hW.trans (hb.mono hW.size)⟩
  · rw [idleRound_yes hg]
    rw [hg] at HG
    have hin := isTr_in hg
    have HL := fun w => longestRound_any x w hg
    obtain ⟨k, h, q⟩ := x
    simp only [TrV] at HG hin HL ⊢
    have HLL := Lib.hid HL
    have hW : Below w.heap.size w (w.alloc (.cells #[.int .i64 k, .int .i64 h, .int .i64 q] 25)) := (Below.refl _ _).alloc (Nat.le_refl _) _
    have hB := BK.made w 25 #[.int .i64 k, .int .i64 h, .int .i64 q]
    clear hg HL
    have hm := mul_in (a := k) (b := q) (A := 12) (B := 10) (by omega) (by omega) (by omega) (by omega)
    have e1 : IntKind.i64.wrap (k * q) = k * q := IntWalk.i64_in _ (by omega)
    go_enter Try.func19, Try.ntmps19
    go_wp2_with fail
    refine (HG.out _).mono ?_; rintro e w1 ⟨rfl, hb⟩
    have hB1 := hB.step hb
    have c0 := hB1.cell 0
    have c1 := hB1.cell 1
    have c2 := hB1.cell 2
    simp at c0 c1 c2
    go_wp2_with fail
    go_ret2
    exact ⟨rfl, hW.trans (hb.mono hW.size)⟩
theorem implLongestRound_any (x : Tr) (w : World) : Calls Try.prog 21 #[TrV x] w (RetV w (.tuple #[.int .i64 (longRound x).1, .bool (longRound x).2])) := by
  have HG := Lib.hid (fun w => implIsTokenRing_any x w)
  cases hg : isTr x
  · rw [longRound_no hg]
    rw [hg] at HG
    obtain ⟨k, h, q⟩ := x
    simp only [TrV] at HG ⊢
    have hW : Below w.heap.size w (w.alloc (.cells #[.int .i64 k, .int .i64 h, .int .i64 q] 25)) := (Below.refl _ _).alloc (Nat.le_refl _) _
    clear hg
    go_enter Try.func21, Try.ntmps21
    go_wp2_with fail
    refine (HG.out _).mono ?_; rintro e w1 ⟨rfl, hb⟩
    go_wp2_with fail
    go_ret2
    exact ⟨rfl, hW.trans (hb.mono hW.size)⟩
  · rw [longRound_yes hg]
    rw [hg] at HG
    have hin := isTr_in hg
    have HL := fun w => longestRound_any x w hg
    obtain ⟨k, h, q⟩ := x
    simp only [TrV] at HG hin HL ⊢
    have HLL := Lib.hid HL
    have hW : Below w.heap.size w (w.alloc (.cells #[.int .i64 k, .int .i64 h, .int .i64 q] 25)) := (Below.refl _ _).alloc (Nat.le_refl _) _
    have hB := BK.made w 25 #[.int .i64 k, .int .i64 h, .int .i64 q]
    clear hg HL
    go_enter Try.func21, Try.ntmps21
    go_wp2_with fail
    refine (HG.out _).mono ?_; rintro e w1 ⟨rfl, hb⟩
    have hB1 := hB.step hb
    have c0 := hB1.cell 0
    have c1 := hB1.cell 1
    have c2 := hB1.cell 2
    simp at c0 c1 c2
    go_wp2_with fail
    refine (HLL.out _).mono ?_; rintro e w2 ⟨rfl, hb2⟩
    go_wp2_with fail
    go_ret2
    exact ⟨rfl, (hW.trans (hb.mono hW.size)).trans (hb2.mono (by have := hW.size; have := hb.size; omega))⟩
theorem specIdleRound_any (x : Tr) (w : World) : Calls Try.prog 18 #[TrV x] w (RetV w (.tuple #[.int .i64 (idleRound x).1, .bool (idleRound x).2])) := by
  have HG := Lib.hid (fun w => tkGood_any x w)
  cases hg : isTr x
  · rw [idleRound_no hg]
    rw [hg] at HG
    obtain ⟨k, h, q⟩ := x
    simp only [TrV] at HG ⊢
    have hW : Below w.heap.size w (w.alloc (.cells #[.int .i64 k, .int .i64 h, .int .i64 q] 25)) := (Below.refl _ _).alloc (Nat.le_refl _) _
    clear hg
    go_enter Try.func18, Try.ntmps18
    go_wp2_with fail
    refine (HG.out _).mono ?_; rintro e w1 ⟨rfl, hb⟩
    go_wp2_with fail
    go_ret2
    exact ⟨rfl, hW.trans (hb.mono hW.size)⟩
  · rw [idleRound_yes hg]
    rw [hg] at HG
    have hin := isTr_in hg
    have HL := fun w => tkRound_any x w hg
    obtain ⟨k, h, q⟩ := x
    simp only [TrV] at HG hin HL ⊢
    have HLL := Lib.hid HL
    have hW : Below w.heap.size w (w.alloc (.cells #[.int .i64 k, .int .i64 h, .int .i64 q] 25)) := (Below.refl _ _).alloc (Nat.le_refl _) _
    have hB := BK.made w 25 #[.int .i64 k, .int .i64 h, .int .i64 q]
    clear hg HL
    have hm := mul_in (a := k) (b := q) (A := 12) (B := 10) (by omega) (by omega) (by omega) (by omega)
    have e1 : IntKind.i64.wrap (k * q) = k * q := IntWalk.i64_in _ (by omega)
    go_enter Try.func18, Try.ntmps18
    go_wp2_with fail
    refine (HG.out _).mono ?_; rintro e w1 ⟨rfl, hb⟩
    have hB1 := hB.step hb
    have c0 := hB1.cell 0
    have c1 := hB1.cell 1
    have c2 := hB1.cell 2
    simp at c0 c1 c2
    go_wp2_with fail
    go_ret2
    exact ⟨rfl, hW.trans (hb.mono hW.size)⟩
theorem specLongestRound_any (x : Tr) (w : World) : Calls Try.prog 20 #[TrV x] w (RetV w (.tuple #[.int .i64 (longRound x).1, .bool (longRound x).2])) := by
  have HG := Lib.hid (fun w => tkGood_any x w)
  cases hg : isTr x
  · rw [longRound_no hg]
    rw [hg] at HG
    obtain ⟨k, h, q⟩ := x
    simp only [TrV] at HG ⊢
    have hW : Below w.heap.size w (w.alloc (.cells #[.int .i64 k, .int .i64 h, .int .i64 q] 25)) := (Below.refl _ _).alloc (Nat.le_refl _) _
    clear hg
    go_enter Try.func20, Try.ntmps20
    go_wp2_with fail
    refine (HG.out _).mono ?_; rintro e w1 ⟨rfl, hb⟩
    go_wp2_with fail
    go_ret2
    exact ⟨rfl, hW.trans (hb.mono hW.size)⟩
  · rw [longRound_yes hg]
    rw [hg] at HG
    have hin := isTr_in hg
    have HL := fun w => tkRound_any x w hg
    obtain ⟨k, h, q⟩ := x
    simp only [TrV] at HG hin HL ⊢
    have HLL := Lib.hid HL
    have hW : Below w.heap.size w (w.alloc (.cells #[.int .i64 k, .int .i64 h, .int .i64 q] 25)) := (Below.refl _ _).alloc (Nat.le_refl _) _
    have hB := BK.made w 25 #[.int .i64 k, .int .i64 h, .int .i64 q]
    clear hg HL
    go_enter Try.func20, Try.ntmps20
    go_wp2_with fail
    refine (HG.out _).mono ?_; rintro e w1 ⟨rfl, hb⟩
    have hB1 := hB.step hb
    have c0 := hB1.cell 0
    have c1 := hB1.cell 1
    have c2 := hB1.cell 2
    simp at c0 c1 c2
    go_wp2_with fail
    refine (HLL.out _).mono ?_; rintro e w2 ⟨rfl, hb2⟩
    go_wp2_with fail
    go_ret2
    exact ⟨rfl, (hW.trans (hb.mono hW.size)).trans (hb2.mono (by have := hW.size; have := hb.size; omega))⟩
theorem implWaitBound_any (x : Tr) (a : Int) (w : World) (ha : (Lit.int .i64 a).wf = true) : Calls Try.prog 23 #[TrV x, .int .i64 a] w (RetV w (.tuple #[.int .i64 (waitBound x a).1, .bool (waitBound x a).2])) := by
  have HG := Lib.hid (fun w => implIsTokenRing_any x w)
  cases hg : isTr x
  · rw [waitBound_no (by simp [hg])]
    rw [hg] at HG
    obtain ⟨k, h, q⟩ := x
    simp only [TrV] at HG ⊢
    have hW : Below w.heap.size w (w.alloc (.cells #[.int .i64 k, .int .i64 h, .int .i64 q] 25)) := (Below.refl _ _).alloc (Nat.le_refl _) _
    clear hg
    go_enter Try.func23, Try.ntmps23
    go_wp2_with fail
    refine (HG.out _).mono ?_; rintro e w1 ⟨rfl, hb⟩
    go_wp2_with fail
    go_ret2
    exact ⟨rfl, hW.trans (hb.mono hW.size)⟩
  cases hwa : wi a 0 100
  · rw [waitBound_no (by simp [hwa])]
    rw [hg] at HG
    obtain ⟨k, h, q⟩ := x
    simp only [TrV] at HG ⊢
    have hW : Below w.heap.size w (w.alloc (.cells #[.int .i64 k, .int .i64 h, .int .i64 q] 25)) := (Below.refl _ _).alloc (Nat.le_refl _) _
    clear hg
    go_enter Try.func23, Try.ntmps23
    go_wp2_with fail
    refine (HG.out _).mono ?_; rintro e w1 ⟨rfl, hb⟩
    go_wp2_with (go_at_call 34; refine (isWithin_wi _ _ _ _).mono ?_; rintro e w' ⟨rfl, rfl⟩)
    go_ret2
    exact ⟨rfl, hW.trans (hb.mono hW.size)⟩
  · rw [waitBound_yes (by simp [hg, hwa])]
    rw [hg] at HG
    have hin := isTr_in hg
    have HL := fun w => longestRound_any x w hg
    obtain ⟨k, h, q⟩ := x
    simp only [TrV] at HG hin HL ⊢
    have HLL := Lib.hid HL
    have hW : Below w.heap.size w (w.alloc (.cells #[.int .i64 k, .int .i64 h, .int .i64 q] 25)) := (Below.refl _ _).alloc (Nat.le_refl _) _
    have hB := BK.made w 25 #[.int .i64 k, .int .i64 h, .int .i64 q]
    have ha2 : 0 ≤ a ∧ a ≤ 100 := by simpa [wi] using hwa
    clear hg HL
    have hR := mul_in (a := k) (b := h + q) (A := 12) (B := 20) (by omega) (by omega) (by omega) (by omega)
    generalize k * (h + q) = R at hR HLL ⊢
    have hh0 : h ≠ 0 := by omega
    obtain ⟨V, hV⟩ : ∃ V, V = (a.tdiv h + 1) * R + a - a.tdiv h * h - 1 := ⟨_, rfl⟩
    rw [← hV]
    have HV := Lib.hid (waitVal k h R a V hin.2.1 ha2 hR hV)
    clear hV
    go_enter Try.func23, Try.ntmps23
    go_wp2_with fail
    refine (HG.out _).mono ?_; rintro e w1 ⟨rfl, hb⟩
    have hB1 := hB.step hb
    have c0 := hB1.cell 0
    have c1 := hB1.cell 1
    have c2 := hB1.cell 2
    simp at c0 c1 c2
    have HB1 := Lib.hid hB1
    have HT1 := Lib.hid (hW.trans (hb.mono hW.size))
    clear hW hb hB hB1
    go_upto_region 3 with (go_at_call 34; refine (isWithin_wi _ _ _ _).mono ?_; rintro e w' ⟨rfl, rfl⟩)
    go_region_held3 (fun w' => w'.cell? ⟨w.heap.size, 0, none⟩ = some (.int .i64 k) ∧ w'.cell? ⟨w.heap.size, 1, none⟩ = some (.int .i64 h) ∧ w'.cell? ⟨w.heap.size, 2, none⟩ = some (.int .i64 q)) (with_reducible first | exact ⟨c0, c1, c2⟩ | exact ⟨d0, d1, d2⟩ | go_keep)
      (first | (go_at_call 40; (with_reducible refine (HLL.out _).mono ?_); rintro e w3 ⟨rfl, hb3⟩; have y3 := HB1.out.step (Below.trans (Below.refl _ _).drew hb3); have d0 := y3.cell 0; have d1 := y3.cell 1; have d2 := y3.cell 2; simp at d0 d1 d2))
    · have HT3 := Lib.hid (HT1.out.drew.trans (hb3.mono HT1.out.size))
      clear hb3 y3
      go_wp2_with fail
      go_ret2
      exact ⟨congrArg (fun z => Ending.returned (.tuple #[.int .i64 z, .bool true])) HV.out.1, HT3.out⟩
theorem specWaitBound_any (x : Tr) (a : Int) (w : World) (ha : (Lit.int .i64 a).wf = true) : Calls Try.prog 22 #[TrV x, .int .i64 a] w (RetV w (.tuple #[.int .i64 (waitBound x a).1, .bool (waitBound x a).2])) := by
  have HG := Lib.hid (fun w => tkGood_any x w)
  cases hg : isTr x
  · rw [waitBound_no (by simp [hg])]
    rw [hg] at HG
    obtain ⟨k, h, q⟩ := x
    simp only [TrV] at HG ⊢
    have hW : Below w.heap.size w (w.alloc (.cells #[.int .i64 k, .int .i64 h, .int .i64 q] 25)) := (Below.refl _ _).alloc (Nat.le_refl _) _
    clear hg
    go_enter Try.func22, Try.ntmps22
    go_wp2_with fail
    refine (HG.out _).mono ?_; rintro e w1 ⟨rfl, hb⟩
    go_wp2_with fail
    go_ret2
    exact ⟨rfl, hW.trans (hb.mono hW.size)⟩
  cases hwa : wi a 0 100
  · rw [waitBound_no (by simp [hwa])]
    rw [hg] at HG
    obtain ⟨k, h, q⟩ := x
    simp only [TrV] at HG ⊢
    have hW : Below w.heap.size w (w.alloc (.cells #[.int .i64 k, .int .i64 h, .int .i64 q] 25)) := (Below.refl _ _).alloc (Nat.le_refl _) _
    clear hg
    go_enter Try.func22, Try.ntmps22
    go_wp2_with fail
    refine (HG.out _).mono ?_; rintro e w1 ⟨rfl, hb⟩
    go_wp2_with (go_at_call 41; refine (l1In_wi _ _ _ _).mono ?_; rintro e w' ⟨rfl, rfl⟩)
    go_ret2
    exact ⟨rfl, hW.trans (hb.mono hW.size)⟩
  · rw [waitBound_yes (by simp [hg, hwa])]
    rw [hg] at HG
    have hin := isTr_in hg
    have HL := fun w => tkRound_any x w hg
    obtain ⟨k, h, q⟩ := x
    simp only [TrV] at HG hin HL ⊢
    have HLL := Lib.hid HL
    have hW : Below w.heap.size w (w.alloc (.cells #[.int .i64 k, .int .i64 h, .int .i64 q] 25)) := (Below.refl _ _).alloc (Nat.le_refl _) _
    have hB := BK.made w 25 #[.int .i64 k, .int .i64 h, .int .i64 q]
    have ha2 : 0 ≤ a ∧ a ≤ 100 := by simpa [wi] using hwa
    clear hg HL
    have hR := mul_in (a := k) (b := h + q) (A := 12) (B := 20) (by omega) (by omega) (by omega) (by omega)
    generalize k * (h + q) = R at hR HLL ⊢
    have hh0 : h ≠ 0 := by omega
    obtain ⟨V, hV⟩ : ∃ V, V = (a.tdiv h + 1) * R + a - a.tdiv h * h - 1 := ⟨_, rfl⟩
    rw [← hV]
    have HV := Lib.hid (waitVal k h R a V hin.2.1 ha2 hR hV)
    clear hV
    go_enter Try.func22, Try.ntmps22
    go_wp2_with fail
    refine (HG.out _).mono ?_; rintro e w1 ⟨rfl, hb⟩
    have hB1 := hB.step hb
    have c0 := hB1.cell 0
    have c1 := hB1.cell 1
    have c2 := hB1.cell 2
    simp at c0 c1 c2
    have HB1 := Lib.hid hB1
    have HT1 := Lib.hid (hW.trans (hb.mono hW.size))
    clear hW hb hB hB1
    go_upto_region 4 with (go_at_call 41; refine (l1In_wi _ _ _ _).mono ?_; rintro e w' ⟨rfl, rfl⟩)
    go_region_held3 (fun w' => w'.cell? ⟨w.heap.size, 0, none⟩ = some (.int .i64 k) ∧ w'.cell? ⟨w.heap.size, 1, none⟩ = some (.int .i64 h) ∧ w'.cell? ⟨w.heap.size, 2, none⟩ = some (.int .i64 q)) (with_reducible first | exact ⟨c0, c1, c2⟩ | exact ⟨d0, d1, d2⟩ | go_keep)
      (first | (go_at_call 39; (with_reducible refine (HLL.out _).mono ?_); rintro e w3 ⟨rfl, hb3⟩; have y3 := HB1.out.step (Below.trans (Below.refl _ _).drew hb3); have d0 := y3.cell 0; have d1 := y3.cell 1; have d2 := y3.cell 2; simp at d0 d1 d2))
    · have HT3 := Lib.hid (HT1.out.drew.trans (hb3.mono HT1.out.size))
      clear hb3 y3
      go_wp2_with fail
      go_ret2
      exact ⟨congrArg (fun z => Ending.returned (.tuple #[.int .i64 z, .bool true])) HV.out.2, HT3.out⟩
end Go.Proofs.Ytfkjiagagidmmaa
