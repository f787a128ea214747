/-
  Slot rings with messages: the contracts of AreMessages, HopsOfMessage and SlotBound.
-/
import Derived.Test.YtmhcmbgbniaokaaSlB
namespace Go.Proofs.Ytmhcmbgbniaokaa
open Go.RowKit
set_option maxRecDepth 100000
set_option linter.unusedVariables false

theorem mul_in {a b A B : Int} (ha : 0 ≤ a) (hA : a ≤ A) (hb : 0 ≤ b) (hB : b ≤ B) : 0 ≤ a * b ∧ a * b ≤ A * B :=
  ⟨Int.mul_nonneg ha hb, Int.mul_le_mul hA hB hb (by omega)⟩

theorem slRing_any (v : Value) (x : Sr) (l : List Ms) (w : World) (h : RMsS w w.heap.size v l) (hn : l.length ≤ 1048576) :
    Calls Try.prog 26 #[SrV x, v] w (RetV w (.bool (slOk x l))) := by
  have HG := Lib.hid (fun w => implIsSlotRing_any x w)
  have hr := h
  obtain ⟨A, c, rfl, _, hlc, _⟩ := h
  cases hg : isSr x
  · rw [slOk, hg, Bool.false_and]
    rw [hg] at HG
    obtain ⟨k, hh⟩ := x
    simp only [SrV] at HG ⊢
    have hW : Below w.heap.size w (w.alloc (.cells #[.int .i64 k, .bool hh] 25)) := (Below.refl _ _).alloc (Nat.le_refl _) _
    clear hg
    go_enter Try.func26, Try.ntmps26
    go_wp2_with fail
    refine (HG.out _).mono ?_; rintro e w1 ⟨rfl, hb⟩
    go_wp2_with fail
    go_ret
    exact ⟨rfl, hW.trans (hb.mono hW.size)⟩
  · rw [slOk, hg, Bool.true_and]
    rw [hg] at HG
    have HL := Lib.hid (fun w h => (areMessagesFor_any _ x.n l w h hn (isSr_in hg) : Calls _ _ #[_, .slice A l.length c] w _))
    obtain ⟨k, hh⟩ := x
    simp only [SrV] at HG HL ⊢
    have hW : Below w.heap.size w (w.alloc (.cells #[.int .i64 k, .bool hh] 25)) := (Below.refl _ _).alloc (Nat.le_refl _) _
    have hB := BK.made w 25 #[.int .i64 k, .bool hh]
    clear hg
    go_enter Try.func26, Try.ntmps26
    go_wp2_with fail
    refine (HG.out _).mono ?_; rintro e w1 ⟨rfl, hb⟩
    have hB1 := hB.step hb
    have c0 := hB1.cell 0
    have c1 := hB1.cell 1
    simp at c0 c1
    have T1 := hW.trans (hb.mono hW.size)
    go_wp2_with fail
    refine (HL.out _ ((hr.step T1 (Nat.le_refl _)).more T1.size)).mono ?_; rintro e w2 ⟨rfl, hb2⟩
    go_wp2_with fail
    go_ret
    exact ⟨rfl, T1.trans (hb2.mono T1.size)⟩
theorem implAreMessages_any (v : Value) (x : Sr) (l : List Ms) (w : World) (h : RMsS w w.heap.size v l) (hn : l.length ≤ 1048576) :
    Calls Try.prog 16 #[SrV x, v] w (RetV w (.tuple #[.bool (areMsOf x l).1, .bool (areMsOf x l).2])) := by
  have HG := Lib.hid (fun w => implIsSlotRing_any x w)
  have hr := h
  obtain ⟨A, c, rfl, _, hlc, _⟩ := h
  cases hg : isSr x
  · rw [areMsOf_no hg]
    rw [hg] at HG
    obtain ⟨k, hh⟩ := x
    simp only [SrV] at HG ⊢
    have hW : Below w.heap.size w (w.alloc (.cells #[.int .i64 k, .bool hh] 25)) := (Below.refl _ _).alloc (Nat.le_refl _) _
    clear hg
    go_enter Try.func16, Try.ntmps16
    go_wp2_with fail
    refine (HG.out _).mono ?_; rintro e w1 ⟨rfl, hb⟩
    go_wp2_with fail
    go_ret2
    exact ⟨rfl, hW.trans (hb.mono hW.size)⟩
  · rw [areMsOf_yes hg]
    rw [hg] at HG
    have HL := Lib.hid (fun w h => (areMessagesFor_any _ x.n l w h hn (isSr_in hg) : Calls _ _ #[_, .slice A l.length c] w _))
    obtain ⟨k, hh⟩ := x
    simp only [SrV] at HG HL ⊢
    have hW : Below w.heap.size w (w.alloc (.cells #[.int .i64 k, .bool hh] 25)) := (Below.refl _ _).alloc (Nat.le_refl _) _
    have hB := BK.made w 25 #[.int .i64 k, .bool hh]
    clear hg
    go_enter Try.func16, Try.ntmps16
    go_wp2_with fail
    refine (HG.out _).mono ?_; rintro e w1 ⟨rfl, hb⟩
    have hB1 := hB.step hb
    have c0 := hB1.cell 0
    have c1 := hB1.cell 1
    simp at c0 c1
    have T1 := hW.trans (hb.mono hW.size)
    go_wp2_with fail
    refine (HL.out _ ((hr.step T1 (Nat.le_refl _)).more T1.size)).mono ?_; rintro e w2 ⟨rfl, hb2⟩
    go_wp2_with fail
    go_ret2
    exact ⟨rfl, T1.trans (hb2.mono T1.size)⟩
theorem specAreMessages_any (v : Value) (x : Sr) (l : List Ms) (w : World) (h : RMsS w w.heap.size v l) (hn : l.length ≤ 1048576) :
    Calls Try.prog 17 #[SrV x, v] w (RetV w (.tuple #[.bool (areMsOf x l).1, .bool (areMsOf x l).2])) := by
  have HG := Lib.hid (fun w => slGood_any x w)
  have hr := h
  obtain ⟨A, c, rfl, _, hlc, _⟩ := h
  cases hg : isSr x
  · rw [areMsOf_no hg]
    rw [hg] at HG
    obtain ⟨k, hh⟩ := x
    simp only [SrV] at HG ⊢
    have hW : Below w.heap.size w (w.alloc (.cells #[.int .i64 k, .bool hh] 25)) := (Below.refl _ _).alloc (Nat.le_refl _) _
    clear hg
    go_enter Try.func17, Try.ntmps17
    go_wp2_with fail
    refine (HG.out _).mono ?_; rintro e w1 ⟨rfl, hb⟩
    go_wp2_with fail
    go_ret2
    exact ⟨rfl, hW.trans (hb.mono hW.size)⟩
  · rw [areMsOf_yes hg]
    rw [hg] at HG
    have HL := Lib.hid (fun w h => (slAll_any _ x l w h hn : Calls _ _ #[_, .slice A l.length c] w _))
    rw [slOk, hg, Bool.true_and] at HL
    obtain ⟨k, hh⟩ := x
    simp only [SrV] at HG HL ⊢
    have hW : Below w.heap.size w (w.alloc (.cells #[.int .i64 k, .bool hh] 25)) := (Below.refl _ _).alloc (Nat.le_refl _) _
    have hB := BK.made w 25 #[.int .i64 k, .bool hh]
    clear hg
    go_enter Try.func17, Try.ntmps17
    go_wp2_with fail
    refine (HG.out _).mono ?_; rintro e w1 ⟨rfl, hb⟩
    have hB1 := hB.step hb
    have c0 := hB1.cell 0
    have c1 := hB1.cell 1
    simp at c0 c1
    have T1 := hW.trans (hb.mono hW.size)
    go_wp2_with fail
    refine (HL.out _ ((hr.step T1 (Nat.le_refl _)).more T1.size)).mono ?_; rintro e w2 ⟨rfl, hb2⟩
    go_wp2_with fail
    go_ret2
    exact ⟨rfl, T1.trans (hb2.mono T1.size)⟩
set_option maxHeartbeats 1000000 in
theorem implSlotBound_any (v : Value) (x : Sr) (l : List Ms) (w : World) (h : RMsS w w.heap.size v l) (hn : l.length ≤ 1048576) :
    Calls Try.prog 12 #[SrV x, v] w (RetV w (.tuple #[.int .i64 (slBound x l).1, .bool (slBound x l).2])) := by
  have HG := Lib.hid (fun w h => (slRing_any _ x l w h hn : Calls _ _ #[_, v] w _))
  have hr := h
  obtain ⟨A, c, rfl, hfl, hlc, hc⟩ := h
  clear hc hfl
  obtain ⟨_, _, _, hc⟩ := hr.parts
  cases hg : slOk x l
  · rw [slBound_no hg]
    rw [hg] at HG
    obtain ⟨k, hh⟩ := x
    simp only [SrV] at HG ⊢
    have hW : Below w.heap.size w (w.alloc (.cells #[.int .i64 k, .bool hh] 25)) := (Below.refl _ _).alloc (Nat.le_refl _) _
    clear hg
    go_enter Try.func12, Try.ntmps12
    go_wp2_with fail
    refine (HG.out _ ((hr.step hW (Nat.le_refl _)).more hW.size)).mono ?_; rintro e w1 ⟨rfl, hb⟩
    go_wp2_with fail
    go_ret2
    exact ⟨rfl, hW.trans (hb.mono hW.size)⟩
  · rw [slBound_yes hg]
    rw [hg] at HG
    have hin := isSr_in (slOk_in hg).1
    obtain ⟨hl20, hall, _⟩ := areMs_in (slOk_in hg).2
    obtain ⟨k, hh⟩ := x
    simp only [SrV] at HG hin ⊢
    have hW : Below w.heap.size w (w.alloc (.cells #[.int .i64 k, .bool hh] 25)) := (Below.refl _ _).alloc (Nat.le_refl _) _
    have hB := BK.made w 25 #[.int .i64 k, .bool hh]
    clear hg
    by_cases hl0 : l.length = 0
    · rw [if_pos hl0]
      obtain rfl := List.eq_nil_of_length_eq_zero hl0
      simp only [List.length_nil] at HG hr
      clear hc
      go_enter Try.func12, Try.ntmps12
      go_wp2_with fail
      refine (HG.out _ ((hr.step hW (Nat.le_refl _)).more hW.size)).mono ?_; rintro e w1 ⟨rfl, hb⟩
      have hB1 := hB.step hb
      have c0 := hB1.cell 0
      simp at c0
      go_wp2_with fail
      go_ret2
      exact ⟨rfl, hW.trans (hb.mono hW.size)⟩
    · rw [if_neg hl0]
      obtain ⟨m, hm⟩ : ∃ m, l.length = m + 1 := ⟨l.length - 1, by omega⟩
      obtain ⟨b, off, hA, hbB, hcell⟩ := hc (by omega)
      have hmt : 0 ≤ l[m]!.t ∧ l[m]!.t ≤ 100 := by
        rw [getElem!_pos l m (by omega)]
        have := hall _ (List.getElem_mem (l := l) (n := m) (by omega))
        exact ⟨this.1, this.2.1⟩
      have hpv : prevM l l.length = l[m]!.t := by rw [hm]; rfl
      rw [hpv]
      have hd0 := (hcell m (by omega)).1
      generalize l[m]!.t = pt at hd0 hmt hpv
      clear hcell hc hall hpv
      subst hA
      have hll : (1 : Int) ≤ (l.length : Int) ∧ (l.length : Int) ≤ 20 := by omega
      have hpos : (0 : Int) < (l.length : Int) := by omega
      have hmi : (m : Int) < (l.length : Int) := by omega
      have e8 : IntKind.i64.wrap ((l.length : Int) - 1) = (m : Int) := by rw [IntWalk.i64_in _ (by omega)]; omega
      have e1 : IntKind.i64.wrap (2 * k) = 2 * k := IntWalk.i64_in _ (by omega)
      have hP := mul_in (a := 2 * k) (b := (l.length : Int)) (A := 24) (B := 20) (by omega) (by omega) (by omega) (by omega)
      have e2 : IntKind.i64.wrap (2 * k * (l.length : Int)) = 2 * k * (l.length : Int) := IntWalk.i64_in _ (by omega)
      have HE : Hid (2 * k * (l.length : Int) + pt = pt + 2 * k * (l.length : Int)) := Int.add_comm _ _
      have e3 : IntKind.i64.wrap (2 * k * (l.length : Int) + pt) = 2 * k * (l.length : Int) + pt := IntWalk.i64_in _ (by omega)
      have HM := Lib.hid hm
      clear hm hl0
      go_enter Try.func12, Try.ntmps12
      go_wp2_with fail
      refine (HG.out _ ((hr.step hW (Nat.le_refl _)).more hW.size)).mono ?_; rintro e w1 ⟨rfl, hb⟩
      have hB1 := hB.step hb
      have T1 := hW.trans (hb.mono hW.size)
      have c0 := hB1.cell 0
      simp at c0
      have d0 := (T1.cell (p := ⟨b, off + m * 3, none⟩) hbB).trans hd0
      clear hd0
      go_wp2_with fail
      go_ret2
      exact ⟨congrArg (fun z => Ending.returned (.tuple #[.int .i64 z, .bool true])) HE.out, T1⟩
set_option maxHeartbeats 1000000 in
theorem specSlotBound_any (v : Value) (x : Sr) (l : List Ms) (w : World) (h : RMsS w w.heap.size v l) (hn : l.length ≤ 1048576) :
    Calls Try.prog 13 #[SrV x, v] w (RetV w (.tuple #[.int .i64 (slBound x l).1, .bool (slBound x l).2])) := by
  have HG := Lib.hid (fun w h => (slAll_any _ x l w h hn : Calls _ _ #[_, v] w _))
  have hr := h
  obtain ⟨A, c, rfl, hfl, hlc, hc⟩ := h
  clear hc hfl
  obtain ⟨_, _, _, hc⟩ := hr.parts
  cases hg : slOk x l
  · rw [slBound_no hg]
    rw [hg] at HG
    obtain ⟨k, hh⟩ := x
    simp only [SrV] at HG ⊢
    have hW : Below w.heap.size w (w.alloc (.cells #[.int .i64 k, .bool hh] 25)) := (Below.refl _ _).alloc (Nat.le_refl _) _
    clear hg
    go_enter Try.func13, Try.ntmps13
    go_wp2_with fail
    refine (HG.out _ ((hr.step hW (Nat.le_refl _)).more hW.size)).mono ?_; rintro e w1 ⟨rfl, hb⟩
    go_wp2_with fail
    go_ret2
    exact ⟨rfl, hW.trans (hb.mono hW.size)⟩
  · rw [slBound_yes hg]
    rw [hg] at HG
    have hin := isSr_in (slOk_in hg).1
    obtain ⟨hl20, hall, _⟩ := areMs_in (slOk_in hg).2
    obtain ⟨k, hh⟩ := x
    simp only [SrV] at HG hin ⊢
    have hW : Below w.heap.size w (w.alloc (.cells #[.int .i64 k, .bool hh] 25)) := (Below.refl _ _).alloc (Nat.le_refl _) _
    have hB := BK.made w 25 #[.int .i64 k, .bool hh]
    clear hg
    by_cases hl0 : l.length = 0
    · rw [if_pos hl0]
      obtain rfl := List.eq_nil_of_length_eq_zero hl0
      simp only [List.length_nil] at HG hr
      clear hc
      go_enter Try.func13, Try.ntmps13
      go_wp2_with fail
      refine (HG.out _ ((hr.step hW (Nat.le_refl _)).more hW.size)).mono ?_; rintro e w1 ⟨rfl, hb⟩
      have hB1 := hB.step hb
      have c0 := hB1.cell 0
      simp at c0
      go_wp2_with fail
      go_ret2
      exact ⟨rfl, hW.trans (hb.mono hW.size)⟩
    · rw [if_neg hl0]
      obtain ⟨m, hm⟩ : ∃ m, l.length = m + 1 := ⟨l.length - 1, by omega⟩
      obtain ⟨b, off, hA, hbB, hcell⟩ := hc (by omega)
      have hmt : 0 ≤ l[m]!.t ∧ l[m]!.t ≤ 100 := by
        rw [getElem!_pos l m (by omega)]
        have := hall _ (List.getElem_mem (l := l) (n := m) (by omega))
        exact ⟨this.1, this.2.1⟩
      have hpv : prevM l l.length = l[m]!.t := by rw [hm]; rfl
      rw [hpv]
      have hd0 := (hcell m (by omega)).1
      generalize l[m]!.t = pt at hd0 hmt hpv
      clear hcell hc hall hpv
      subst hA
      have hll : (1 : Int) ≤ (l.length : Int) ∧ (l.length : Int) ≤ 20 := by omega
      have hpos : (0 : Int) < (l.length : Int) := by omega
      have hmi : (m : Int) < (l.length : Int) := by omega
      have e8 : IntKind.i64.wrap ((l.length : Int) - 1) = (m : Int) := by rw [IntWalk.i64_in _ (by omega)]; omega
      have e1 : IntKind.i64.wrap (2 * k) = 2 * k := IntWalk.i64_in _ (by omega)
      have hP := mul_in (a := 2 * k) (b := (l.length : Int)) (A := 24) (B := 20) (by omega) (by omega) (by omega) (by omega)
      have e2 : IntKind.i64.wrap (2 * k * (l.length : Int)) = 2 * k * (l.length : Int) := IntWalk.i64_in _ (by omega)
      skip
      have e3 : IntKind.i64.wrap (pt + 2 * k * (l.length : Int)) = pt + 2 * k * (l.length : Int) := IntWalk.i64_in _ (by omega)
      have HM := Lib.hid hm
      clear hm hl0
      go_enter Try.func13, Try.ntmps13
      go_wp2_with fail
      refine (HG.out _ ((hr.step hW (Nat.le_refl _)).more hW.size)).mono ?_; rintro e w1 ⟨rfl, hb⟩
      have hB1 := hB.step hb
      have T1 := hW.trans (hb.mono hW.size)
      have c0 := hB1.cell 0
      simp at c0
      have d0 := (T1.cell (p := ⟨b, off + m * 3, none⟩) hbB).trans hd0
      clear hd0
      go_wp2_with fail
      go_quiet (fail)
      go_wp2_with fail
      go_ret2
      exact ⟨rfl, below_drewN T1 _⟩
theorem slHops_any (x : Sr) (y : Ms) (w : World) (hin : 2 ≤ x.n ∧ x.n ≤ 12) (hy : MsIn x.n y) : Calls Try.prog 36 #[SrV x, MsV y] w (RetV w (.int .i64 (hopsI x.n y))) := by
  obtain ⟨k, hh⟩ := x
  obtain ⟨t, f, o⟩ := y
  obtain ⟨_, _, h1, h2, h3, h4, h5⟩ := hy
  simp only [SrV, MsV, hopsI] at hin h1 h2 h3 h4 h5 ⊢
  have hW : Below w.heap.size w ((w.alloc (.cells #[.int .i64 k, .bool hh] 25)).alloc (.cells #[.int .i64 t, .int .i64 f, .int .i64 o] 39)) := ((Below.refl _ _).alloc (Nat.le_refl _) _).alloc (by simp) _
  have e1 : IntKind.i64.wrap (o - f) = o - f := IntWalk.i64_in _ (by omega)
  have e2 : IntKind.i64.wrap (o - f + k) = o - f + k := IntWalk.i64_in _ (by omega)
  have hm0 : 0 ≤ (o - f + k).tmod k := Int.tmod_nonneg _ (by omega)
  have hm1 : (o - f + k).tmod k < k := Int.tmod_lt_of_pos _ (by omega)
  have e3 : IntKind.i64.wrap ((o - f + k).tmod k) = (o - f + k).tmod k := IntWalk.i64_in _ (by omega)
  have hk0 : k ≠ 0 := by omega
  have HE : Hid ((o - f) % k = (o - f + k).tmod k) := by
    show _ = _
    rw [Int.tmod_eq_emod_of_nonneg (by omega), Int.add_emod_right]
  go_enter Try.func36, Try.ntmps36
  go_wp2_with fail
  go_ret
  exact ⟨congrArg (fun z => Ending.returned (.int .i64 z)) HE.out, hW⟩
theorem lit1M (w : World) (t f o : Int) : RMsS (w.alloc (.cells #[.int .i64 t, .int .i64 f, .int .i64 o] 39)) (w.heap.size + 1) (.slice (some ⟨w.heap.size, 0, none⟩) 1 1) [⟨t, f, o⟩] := by
  refine ⟨_, _, rfl, rfl, ⟨by simp, by simp [maxLen], by simp⟩, fun _ => ⟨w.heap.size, 0, rfl, by omega, ?_⟩⟩
  intro j hj
  match j, hj with
  | 0, _ => simp [flatMs]
  | 1, _ => simp [flatMs]
  | 2, _ => simp [flatMs]
theorem slOk_one (x : Sr) (t f o : Int) : slOk x [⟨t, f, o⟩] = (isSr x && (wi t 0 100 && msOk x.n ⟨t, f, o⟩)) := by simp [slOk, areMs, msFrom]
end Go.Proofs.Ytmhcmbgbniaokaa