/-
  Insertion rings: the contracts of the functions that look whether they are such, and small ones.
-/
import Derived.Test.YtfphkgialmjfnaaIr
import Derived.Test.YtfphkgialmjfnaaSlC
import Derived.Test.YtfphkgialmjfnaaSInsertRing
namespace Go.Proofs.Ytfphkgialmjfnaa
open Go.RowKit
set_option maxRecDepth 100000
set_option linter.unusedVariables false

theorem implIsInsertRing_any (x : Ir) (w : World) : Calls Try.prog 42 #[IrV x] w (RetV w (.bool (isIr x))) := by
  obtain ⟨k, m, hh⟩ := x
  simp only [IrV]
  have hW : Below w.heap.size w (w.alloc (.cells #[.int .i64 k, .int .i64 m, .bool hh] 29)) := (Below.refl _ _).alloc (Nat.le_refl _) _
  obtain ⟨b1, hb1⟩ : ∃ b1, b1 = wi k 2 12 := ⟨_, rfl⟩
  obtain ⟨b2, hb2⟩ : ∃ b2, b2 = wi m 1 20 := ⟨_, rfl⟩
  have H1 : Hid (∀ w, Calls Try.prog 47 #[.int .i64 k, .int .i64 2, .int .i64 12] w fun e w' => e = .returned (.bool b1) ∧ w = w') := by
    show ∀ _, _
    intro w
    rw [hb1]; exact isWithin_wi _ _ _ w
  have H2 : Hid (∀ w, Calls Try.prog 47 #[.int .i64 m, .int .i64 1, .int .i64 20] w fun e w' => e = .returned (.bool b2) ∧ w = w') := by
    show ∀ _, _
    intro w
    rw [hb2]; exact isWithin_wi _ _ _ w
  have HE : Hid (isIr ⟨k, m, hh⟩ = (b1 && b2)) := by show _ = _; rw [hb1, hb2]; rfl
  clear hb1 hb2
  cases b1
  · go_enter Try.func42, Try.ntmps42
    go_wp2_with fail
    refine (H1.out _).mono ?_; rintro e w' ⟨rfl, rfl⟩
    go_wp2_with fail
    go_ret
    exact ⟨by rw [HE.out]; rfl, hW⟩
  · go_enter Try.func42, Try.ntmps42
    go_wp2_with fail
    refine (H1.out _).mono ?_; rintro e w' ⟨rfl, rfl⟩
    go_wp2_with fail
    refine (H2.out _).mono ?_; rintro e w' ⟨rfl, rfl⟩
    go_wp2_with fail
    go_ret
    exact ⟨by rw [HE.out]; cases b2 <;> rfl, hW⟩
theorem inGood_any (x : Ir) (w : World) : Calls Try.prog 52 #[IrV x] w (RetV w (.bool (isIr x))) := by
  obtain ⟨k, m, hh⟩ := x
  simp only [IrV]
  have hW : Below w.heap.size w (w.alloc (.cells #[.int .i64 k, .int .i64 m, .bool hh] 29)) := (Below.refl _ _).alloc (Nat.le_refl _) _
  obtain ⟨b1, hb1⟩ : ∃ b1, b1 = wi k 2 12 := ⟨_, rfl⟩
  obtain ⟨b2, hb2⟩ : ∃ b2, b2 = wi m 1 20 := ⟨_, rfl⟩
  have H1 : Hid (∀ w, Calls Try.prog 40 #[.int .i64 k, .int .i64 2, .int .i64 12] w fun e w' => e = .returned (.bool b1) ∧ w = w') := by
    show ∀ _, _
    intro w
    rw [hb1]; exact l1In_wi _ _ _ w
  have H2 : Hid (∀ w, Calls Try.prog 40 #[.int .i64 m, .int .i64 1, .int .i64 20] w fun e w' => e = .returned (.bool b2) ∧ w = w') := by
    show ∀ _, _
    intro w
    rw [hb2]; exact l1In_wi _ _ _ w
  have HE : Hid (isIr ⟨k, m, hh⟩ = (b1 && b2)) := by show _ = _; rw [hb1, hb2]; rfl
  clear hb1 hb2
  cases b1
  · go_enter Try.func52, Try.ntmps52
    go_wp2_with fail
    refine (H1.out _).mono ?_; rintro e w' ⟨rfl, rfl⟩
    go_wp2_with fail
    go_ret
    exact ⟨by rw [HE.out]; rfl, hW⟩
  · go_enter Try.func52, Try.ntmps52
    go_wp2_with fail
    refine (H1.out _).mono ?_; rintro e w' ⟨rfl, rfl⟩
    go_wp2_with fail
    refine (H2.out _).mono ?_; rintro e w' ⟨rfl, rfl⟩
    go_wp2_with fail
    go_ret
    exact ⟨by rw [HE.out]; cases b2 <;> rfl, hW⟩
theorem areMs_both (k : Int) (l : List Ms) (h : 2 ≤ k ∧ k ≤ 12) : slOk ⟨k, false⟩ l = areMs k l := by
  have e : wi k 2 12 = true := by simp [wi]; omega
  simp [slOk, isSr, e]
theorem isInsertRingWith_any (v : Value) (x : Ir) (l : List Ms) (w : World) (h : RMsS w w.heap.size v l) (hn : l.length ≤ 1048576) :
    Calls Try.prog 35 #[IrV x, v] w (RetV w (.bool (inOk x l))) := by
  have HG := Lib.hid (fun w => implIsInsertRing_any x w)
  have hr := h
  obtain ⟨A, c, rfl, _, hlc, _⟩ := h
  cases hg : isIr x
  · rw [inOk, hg, Bool.false_and]
    rw [hg] at HG
    obtain ⟨k, m, hh⟩ := x
    simp only [IrV] at HG ⊢
    have hW : Below w.heap.size w (w.alloc (.cells #[.int .i64 k, .int .i64 m, .bool hh] 29)) := (Below.refl _ _).alloc (Nat.le_refl _) _
    clear hg
    go_enter Try.func35, Try.ntmps35
    go_wp2_with fail
    refine (HG.out _).mono ?_; rintro e w1 ⟨rfl, hb⟩
    go_wp2_with fail
    go_ret
    exact ⟨rfl, hW.trans (hb.mono hW.size)⟩
  · rw [inOk, hg, Bool.true_and]
    rw [hg] at HG
    have HL : Hid (∀ w, RMsS w w.heap.size (.slice A l.length c) l → Calls Try.prog 56 #[.int .i64 x.n, .slice A l.length c] w (RetV w (.bool (areMs x.n l)))) := by
      show ∀ _, _
      intro w h
      exact areMessagesFor_any _ x.n l w h hn (isIr_in hg).1
    obtain ⟨k, m, hh⟩ := x
    simp only [IrV] at HG HL ⊢
    have hW : Below w.heap.size w (w.alloc (.cells #[.int .i64 k, .int .i64 m, .bool hh] 29)) := (Below.refl _ _).alloc (Nat.le_refl _) _
    have hB := BK.made w 29 #[.int .i64 k, .int .i64 m, .bool hh]
    clear hg
    go_enter Try.func35, Try.ntmps35
    go_wp2_with fail
    refine (HG.out _).mono ?_; rintro e w1 ⟨rfl, hb⟩
    have hB1 := hB.step hb
    have c0 := hB1.cell 0
    have c1 := hB1.cell 1
    have c2 := hB1.cell 2
    simp at c0 c1 c2
    have T1 := hW.trans (hb.mono hW.size)
    go_wp2_with fail
    refine (HL.out _ ((hr.step T1 (Nat.le_refl _)).more T1.size)).mono ?_; rintro e w2 ⟨rfl, hb2⟩
    go_wp2_with fail
    go_ret
    exact ⟨rfl, T1.trans (hb2.mono T1.size)⟩
theorem inAll_any (v : Value) (x : Ir) (l : List Ms) (w : World) (h : RMsS w w.heap.size v l) (hn : l.length ≤ 1048576) :
    Calls Try.prog 32 #[IrV x, v] w (RetV w (.bool (inOk x l))) := by
  have HG := Lib.hid (fun w => inGood_any x w)
  have hr := h
  obtain ⟨A, c, rfl, _, hlc, _⟩ := h
  cases hg : isIr x
  · rw [inOk, hg, Bool.false_and]
    rw [hg] at HG
    obtain ⟨k, m, hh⟩ := x
    simp only [IrV] at HG ⊢
    have hW : Below w.heap.size w (w.alloc (.cells #[.int .i64 k, .int .i64 m, .bool hh] 29)) := (Below.refl _ _).alloc (Nat.le_refl _) _
    clear hg
    go_enter Try.func32, Try.ntmps32
    go_wp2_with fail
    refine (HG.out _).mono ?_; rintro e w1 ⟨rfl, hb⟩
    go_wp2_with fail
    go_ret
    exact ⟨rfl, hW.trans (hb.mono hW.size)⟩
  · rw [inOk, hg, Bool.true_and]
    rw [hg] at HG
    have HL : Hid (∀ w, RMsS w w.heap.size (.slice A l.length c) l → Calls Try.prog 53 #[.agg #[.int .i64 x.n, .bool false], .slice A l.length c] w (RetV w (.bool (areMs x.n l)))) := by
      show ∀ _, _
      intro w h
      have h9 := slAll_any _ ⟨x.n, false⟩ l w h hn; rw [areMs_both _ _ (isIr_in hg).1] at h9; exact h9
    obtain ⟨k, m, hh⟩ := x
    simp only [IrV] at HG HL ⊢
    have hW : Below w.heap.size w (w.alloc (.cells #[.int .i64 k, .int .i64 m, .bool hh] 29)) := (Below.refl _ _).alloc (Nat.le_refl _) _
    have hB := BK.made w 29 #[.int .i64 k, .int .i64 m, .bool hh]
    clear hg
    go_enter Try.func32, Try.ntmps32
    go_wp2_with fail
    refine (HG.out _).mono ?_; rintro e w1 ⟨rfl, hb⟩
    have hB1 := hB.step hb
    have c0 := hB1.cell 0
    have c1 := hB1.cell 1
    have c2 := hB1.cell 2
    simp at c0 c1 c2
    have T1 := hW.trans (hb.mono hW.size)
    go_wp2_with fail
    refine (HL.out _ ((hr.step T1 (Nat.le_refl _)).more T1.size)).mono ?_; rintro e w2 ⟨rfl, hb2⟩
    go_wp2_with fail
    go_ret
    exact ⟨rfl, T1.trans (hb2.mono T1.size)⟩
theorem asSlotRing_any (x : Ir) (w : World) : Calls Try.prog 37 #[IrV x] w (RetV w (SrV ⟨x.n, false⟩)) := by
  obtain ⟨k, m, hh⟩ := x
  simp only [IrV, SrV]
  go_enter Try.func37, Try.ntmps37
  go_wp2_with fail
  refine bodyPost_ret (v := .agg #[.int .i64 k, .bool false]) (by simp [results, Try.results37, go_sem]) rfl ⟨rfl, ?_⟩
  repeat (first | exact Below.refl _ _ | refine Below.alloc ?_ (by simp <;> omega) _ | refine Below.setCell ?_ (by simp <;> omega) _)
theorem roomBeforeOwn_any (x : Ir) (l : List Ms) (w : World) (hr : 1 ≤ x.r) : Calls Try.prog 72 #[IrV x] w (RetV w (.int .i64 (((iwOf x l).rb : Nat) : Int))) := by
  have e : (((iwOf x l).rb : Nat) : Int) = if x.h then x.r else 1 := by
    unfold Iw.rb iwOf
    simp only
    split <;> omega
  rw [e]
  obtain ⟨k, m, hh⟩ := x
  simp only [IrV]
  have hW : Below w.heap.size w (w.alloc (.cells #[.int .i64 k, .int .i64 m, .bool hh] 29)) := (Below.refl _ _).alloc (Nat.le_refl _) _
  clear e hr
  cases hh
  · go_enter Try.func72, Try.ntmps72
    go_wp2_with fail
    go_ret
    exact ⟨rfl, hW⟩
  · go_enter Try.func72, Try.ntmps72
    go_wp2_with fail
    go_ret
    exact ⟨rfl, hW⟩
end Go.Proofs.Ytfphkgialmjfnaa
