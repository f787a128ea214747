/-
  The contracts of InsertedAt, InsertRead and BufferPeak, both sides.
-/
import Derived.Test.YtfphkgialmjfnaaAll
import Derived.Test.YtfphkgialmjfnaaInDone
namespace Go.Proofs.Ytfphkgialmjfnaa
open Go.RowKit Go.Conc
set_option maxRecDepth 100000
set_option linter.unusedVariables false

/-- The state behind all messages. -/
def endOf (x : Ir) (l : List Ms) : Ist := (iwOf x l).run (iwOf x l).need
theorem GW.slice {w : World} {v : Value} {b : Nat} {L : List Int} (h : GW w v b L) : ∃ a n c, v = .slice a n c := by
  rcases h with ⟨_, rfl⟩ | ⟨c, rfl, _⟩
  · exact ⟨_, _, _, rfl⟩
  · exact ⟨_, _, _, rfl⟩
def insSays (x : Ir) (l : List Ms) : List Int × Bool := if inOk x l then (tabl (endOf x l).I l.length, true) else ([], false)
theorem insSays_no {x : Ir} {l : List Ms} (h : inOk x l = false) : insSays x l = ([], false) := by simp only [insSays, h]; rfl
theorem insSays_yes {x : Ir} {l : List Ms} (h : inOk x l = true) : insSays x l = (tabl (endOf x l).I l.length, true) := by simp only [insSays, h, if_true]
theorem insSays_len (x : Ir) (l : List Ms) : (insSays x l).1.length ≤ 1048576 := by
  cases h : inOk x l
  · rw [insSays_no h]; simp
  · rw [insSays_yes h]
    show (tabl (endOf x l).I l.length).length ≤ _
    rw [tabl_len]
    have := (areMs_in (inOk_in h).2).1
    omega
def rdSays (x : Ir) (l : List Ms) : List Int × Bool := if inOk x l then (tabl (endOf x l).R l.length, true) else ([], false)
theorem rdSays_no {x : Ir} {l : List Ms} (h : inOk x l = false) : rdSays x l = ([], false) := by simp only [rdSays, h]; rfl
theorem rdSays_yes {x : Ir} {l : List Ms} (h : inOk x l = true) : rdSays x l = (tabl (endOf x l).R l.length, true) := by simp only [rdSays, h, if_true]
theorem rdSays_len (x : Ir) (l : List Ms) : (rdSays x l).1.length ≤ 1048576 := by
  cases h : inOk x l
  · rw [rdSays_no h]; simp
  · rw [rdSays_yes h]
    show (tabl (endOf x l).R l.length).length ≤ _
    rw [tabl_len]
    have := (areMs_in (inOk_in h).2).1
    omega
def peakSays (x : Ir) (l : List Ms) : Int × Bool := if inOk x l then (((endOf x l).P : Int), true) else (0, false)
theorem peakSays_no {x : Ir} {l : List Ms} (h : inOk x l = false) : peakSays x l = (0, false) := by simp only [peakSays, h]; rfl
theorem peakSays_yes {x : Ir} {l : List Ms} (h : inOk x l = true) : peakSays x l = (((endOf x l).P : Int), true) := by simp only [peakSays, h, if_true]
set_option maxHeartbeats 2000000 in
theorem implInsertedAt_any (v : Value) (x : Ir) (l : List Ms) (w : World) (h : RMsS w w.heap.size v l) (hn : l.length ≤ 1048576) :
    Calls Try.prog 44 #[IrV x, v] w (RetLB 3 w (insSays x l).1 (insSays x l).2) := by
  have HG := Lib.hid (fun w h => (isInsertRingWith_any _ x l w h hn : Calls _ _ #[_, v] w _))
  have hr := h
  obtain ⟨A, c, rfl, _, hlc, _⟩ := h
  have hW : Below w.heap.size w (w.alloc (.cells #[.int .i64 x.n, .int .i64 x.r, .bool x.h] 29)) := (Below.refl _ _).alloc (Nat.le_refl _) _
  have hB := BK.made w 29 #[.int .i64 x.n, .int .i64 x.r, .bool x.h]
  cases hg : inOk x l
  · rw [insSays_no hg]
    rw [hg] at HG
    unfold IrV at HG ⊢
    clear hg hB
    go_enter Try.func44, Try.ntmps44
    go_wp2_with fail
    refine (HG.out _ ((hr.step hW (Nat.le_refl _)).more hW.size)).mono ?_; rintro e w1 ⟨rfl, hb⟩
    go_wp2_with fail
    go_ret2
    exact ⟨_, rfl, .inl ⟨rfl, none, 0, rfl, by simp, fun _ => rfl⟩, hW.trans (hb.mono hW.size)⟩
  rw [insSays_yes hg]
  have HF := Lib.hid (fun w h => (walkOfAll_any _ x l w h hg : Calls _ _ #[_, .slice A l.length c] w _))
  rw [hg] at HG
  clear hg
  unfold IrV at HG HF ⊢
  go_enter Try.func44, Try.ntmps44
  go_wp2_with fail
  refine (HG.out _ ((hr.step hW (Nat.le_refl _)).more hW.size)).mono ?_; rintro e w1 ⟨rfl, hb⟩
  have T1 := hW.trans (hb.mono hW.size)
  have hB1 := hB.step hb
  have c0 := hB1.cell 0
  have c1 := hB1.cell 1
  have c2 := hB1.cell 2
  simp only [List.getElem?_toArray, List.getElem?_cons_zero, List.getElem?_cons_succ] at c0 c1 c2
  have HR1 := Lib.hid ((hr.step T1 (Nat.le_refl _)).more T1.size)
  have HT1 := Lib.hid T1
  clear hW hB hb hB1 T1 hr
  go_wp2_with fail
  refine (HF.out _ HR1.out).mono ?_; rintro e w2 ⟨A2, c2', hAc, p, rfl, ⟨hpA, hpc⟩, hp, hS⟩
  have HO := Lib.hid (hS.ins.oi (Nat.le_trans HT1.out.size hp.i0) (Nat.le_refl _))
  have HB := Lib.hid (HT1.out.trans (hS.bel.mono HT1.out.size))
  have c4 := hS.run.cell 8
  simp only [List.getElem?_toArray, List.getElem?_cons_zero, List.getElem?_cons_succ] at c4
  obtain ⟨a4, n4, c4', hv⟩ := hS.ins.slice
  rw [hv] at c4 HO
  clear hS hp c0 c1 c2 hpA hpc hAc hv
  go_wp2_with fail
  go_ret2
  exact ⟨_, rfl, HO.out, HB.out⟩
end Go.Proofs.Ytfphkgialmjfnaa
