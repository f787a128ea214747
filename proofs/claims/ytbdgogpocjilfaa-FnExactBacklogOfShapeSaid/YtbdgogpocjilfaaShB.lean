/-
  Chapter 8: permits, and the levels: the contracts of both sides.
-/
import Derived.Test.YtbdgogpocjilfaaShA
import Derived.Test.YtbdgogpocjilfaaAcc
import Derived.Test.YtbdgogpocjilfaaRow5
import Derived.Deep.RegionHeld3
import Derived.Deep.LoopGhost
namespace Go.Proofs.Ytbdgogpocjilfaa
open Go.RowKit
set_option maxRecDepth 100000
set_option linter.unusedVariables false

/-- Permits in memory: the box of the next level, the box of the bucket. -/
structure PM (W : World) (pn pb : Nat) (x : Bu) (q : Int) : Prop where
  nx : BK W pn 3 #[.int .i64 q]
  bu : BK W pb 27 #[.int .i64 x.r, .int .i64 x.d]
  ne : pn ≠ pb
theorem PM.far {W W' : World} {pn pb a b : Nat} {x : Bu} {q : Int} (h : PM W pn pb x q) (hg : Wr a b W W') (h1 : pn < a ∨ b ≤ pn) (h2 : pb < a ∨ b ≤ pb) : PM W' pn pb x q := ⟨h.nx.far hg h1, h.bu.far hg h2, h.ne⟩
theorem PM.step {W W' : World} {pn pb : Nat} {x : Bu} {q : Int} (h : PM W pn pb x q) (hb : Below W.heap.size W W') : PM W' pn pb x q := ⟨h.nx.step hb, h.bu.step hb, h.ne⟩
@[reducible] def permitV (pn pb : Nat) : Value := .func (.func 37) #[] #[.pointer (some ⟨pn, 0, none⟩), .pointer (some ⟨pb, 0, none⟩)]
set_option maxHeartbeats 1000000 in
theorem permit_any (pn pb : Nat) (x : Bu) (q a : Int) (W : World) (h : PM W pn pb x q) (hq : 0 ≤ q ∧ q ≤ 1000) (ha : 0 ≤ a ∧ a ≤ 1000000) (hx : buOk x = true) :
    Calls Try.prog 37 #[.int .i64 a, .pointer (some ⟨pn, 0, none⟩), .pointer (some ⟨pb, 0, none⟩)] W
      fun e W' => e = .returned (.tuple #[.int .i64 q, .int .i64 (min a q)]) ∧ PM W' pn pb x (min (q - min a q + x.r) x.d) ∧ Wr pn (pn + 1) W W' := by
  have hin := buOk_in hx
  obtain ⟨r, d⟩ := x
  obtain ⟨hn, hb, hne⟩ := h
  simp only at hin hb ⊢
  have c0 := hn.cell 0
  have f0 := hn.free 0
  have c1 := hb.cell 0
  have c2 := hb.cell 1
  simp at c0 c1 c2
  have HN := Lib.hid hn
  have HB := Lib.hid hb
  have HNE : Hid (pn ≠ pb) := hne
  have hmn : 0 ≤ min a q ∧ min a q ≤ q := by omega
  have HFIN : Hid (∀ g n : Int, g = min a q → n = min (q - min a q + r) d → (Ending.returned (.tuple #[.int .i64 q, .int .i64 g]) = Ending.returned (.tuple #[.int .i64 q, .int .i64 (min a q)]) ∧
      PM (W.setCell ⟨pn, 0, none⟩ (.int .i64 n)) pn pb ⟨r, d⟩ (min (q - min a q + r) d) ∧ Wr pn (pn + 1) W (W.setCell ⟨pn, 0, none⟩ (.int .i64 n)))) := by
    show ∀ _ _, _
    rintro g n rfl rfl
    have hw : Wr pn (pn + 1) W (W.setCell ⟨pn, 0, none⟩ (.int .i64 (min (q - min a q + r) d))) := (Wr.refl pn (pn + 1) W).setCell (Nat.le_refl _) (Nat.lt_succ_self _) _
    exact ⟨rfl, ⟨HN.out.put 0 _, HB.out.far hw (by have := HNE.out; omega), HNE.out⟩, hw⟩
  clear hn hb hne
  go_enter Try.func37, Try.ntmps37
  go_wp2_with fail
  all_goals
    go_ret2
    exact HFIN.out _ _ (by omega) (by omega)
theorem permitsOf_any (x : Bu) (w : World) :
    Calls Try.prog 24 #[BuV x] w fun e w' => ∃ pn pb, e = .returned (permitV pn pb) ∧ w.heap.size ≤ pn ∧ w.heap.size ≤ pb ∧ PM w' pn pb x x.d ∧ Below w.heap.size w w' := by
  obtain ⟨r, d⟩ := x
  simp only [BuV]
  go_enter Try.func24, Try.ntmps24
  have hB1 := BK.made w 27 #[.int .i64 r, .int .i64 d]
  have hl1 := hB1.1
  have hB2 := hB1.alloc (.cells #[.int .i64 d] 3)
  have hn : BK ((w.alloc (.cells #[.int .i64 r, .int .i64 d] 27)).alloc (.cells #[.int .i64 d] 3)) (w.heap.size + 1) 3 #[.int .i64 d] := by
    have h := BK.made (w.alloc (.cells #[.int .i64 r, .int .i64 d] 27)) 3 #[.int .i64 d]
    have e : (w.alloc (.cells #[.int .i64 r, .int .i64 d] 27)).heap.size = w.heap.size + 1 := by simp
    rw [e] at h
    exact h
  have hW : Below w.heap.size w ((w.alloc (.cells #[.int .i64 r, .int .i64 d] 27)).alloc (.cells #[.int .i64 d] 3)) := ((Below.refl _ _).alloc (Nat.le_refl _) _).alloc (by simp) _
  clear hB1 hl1
  go_wp2_with fail
  go_ret
  exact ⟨w.heap.size + 1, w.heap.size, rfl, by omega, Nat.le_refl _, ⟨hn, hB2, by omega⟩, hW⟩
end Go.Proofs.Ytbdgogpocjilfaa
