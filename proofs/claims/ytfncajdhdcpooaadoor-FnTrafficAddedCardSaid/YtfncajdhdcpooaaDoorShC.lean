/-
  Chapter 8: the model's levels, and the contracts of LevelsOf, KeepsBucket, KeepsBoth, LeastRate, both sides.
-/
import Derived.Test.YtfncajdhdcpooaaDoorShB
namespace Go.Proofs.YtfncajdhdcpooaaDoor
open Go.RowKit
set_option maxRecDepth 100000
set_option linter.unusedVariables false

theorem keepsBucket_any (v : Value) (x : Bu) (l : List Int) (w : World) (h : RI w w.heap.size v l) (hx : buOk x = true) (hl : trOk l = true) :
    Calls Tryd.prog 31 #[BuV x, v] w (RetV w (.bool (kpN x l l.length))) := by
  have H1 : Hid (∀ w', Below w.heap.size w w' → Calls Tryd.prog 47 #[BuV x, v] w' (RetLB 3 w' (lvRg x l).1 (lvRg x l).2)) := fun w' hb => levelsOf_any v x l w' ((h.below hb).more hb.size) hx hl
  rw [← lvRg_snd x l]
  generalize (lvRg x l).2 = bb at H1 ⊢
  generalize (lvRg x l).1 = L at H1
  clear h hx hl
  obtain ⟨r, d⟩ := x
  simp only [BuV] at H1 ⊢
  have hW : Below w.heap.size w (w.alloc (.cells #[.int .i64 r, .int .i64 d] 32)) := (Below.refl _ _).alloc (Nat.le_refl _) _
  go_enter Tryd.func31, Tryd.ntmps31
  go_wp2_with fail
  refine (H1.out _ hW).mono ?_; rintro e w1 ⟨u, rfl, _, hb⟩
  go_wp2_with fail
  go_ret
  exact ⟨rfl, hW.trans (hb.mono hW.size)⟩
theorem implKeepsBucket_any (v : Value) (x : Bu) (l : List Int) (w : World) (h : RI w w.heap.size v l) (hn : l.length ≤ 1048576) :
    Calls Tryd.prog 13 #[BuV x, v] w (RetV w (.tuple #[.bool (kpSays x l).1, .bool (kpSays x l).2])) := by
  have H1 : Hid (∀ w', Below w.heap.size w w' → Calls Tryd.prog 30 #[BuV x, v] w' (RetV w' (.bool (askOk x l)))) := fun w' hb => implAsk_any x v l w' ((h.below hb).more hb.size) hn
  cases hg : askOk x l
  · rw [show kpSays x l = (false, false) from by simp [kpSays, hg]]
    rw [hg] at H1
    clear h hg
    obtain ⟨r, d⟩ := x
    simp only [BuV] at H1 ⊢
    have hW : Below w.heap.size w (w.alloc (.cells #[.int .i64 r, .int .i64 d] 32)) := (Below.refl _ _).alloc (Nat.le_refl _) _
    go_enter Tryd.func13, Tryd.ntmps13
    go_wp2_with fail
    refine (H1.out _ hW).mono ?_; rintro e w1 ⟨rfl, hb⟩
    have hT := hW.trans (hb.mono hW.size)
    go_wp2_with fail
    go_ret2
    exact ⟨rfl, hT⟩
  have hq := askOk_in hg
  have H2 : Hid (∀ w', Below w.heap.size w w' → Calls Tryd.prog 31 #[BuV x, v] w' (RetV w' (.bool (kpN x l l.length)))) := fun w' hb => keepsBucket_any v x l w' ((h.below hb).more hb.size) hq.1 hq.2
  rw [show kpSays x l = (kpN x l l.length, true) from by simp [kpSays, hg]]
  rw [hg] at H1
  clear hg hq h
  simp only
  generalize kpN x l l.length = bb at H2 ⊢
  obtain ⟨r, d⟩ := x
  simp only [BuV] at H1 H2 ⊢
  have hW : Below w.heap.size w (w.alloc (.cells #[.int .i64 r, .int .i64 d] 32)) := (Below.refl _ _).alloc (Nat.le_refl _) _
  have hbk := BK.made w 32 #[.int .i64 r, .int .i64 d]
  go_enter Tryd.func13, Tryd.ntmps13
  go_wp2_with fail
  refine (H1.out _ hW).mono ?_; rintro e w1 ⟨rfl, hb⟩
  have hT := hW.trans (hb.mono hW.size)
  have hbk1 := hbk.step hb
  have c0 := hbk1.cell 0
  have c1 := hbk1.cell 1
  simp at c0 c1
  have HT := Lib.hid hT
  clear hbk hbk1 hb hT
  go_wp2_with fail
  refine (H2.out _ HT.out).mono ?_; rintro e w2 ⟨rfl, hb2⟩
  have hT := HT.out
  go_wp2_with fail
  go_ret2
  exact ⟨rfl, hT.trans (hb2.mono hT.size)⟩
end Go.Proofs.YtfncajdhdcpooaaDoor
