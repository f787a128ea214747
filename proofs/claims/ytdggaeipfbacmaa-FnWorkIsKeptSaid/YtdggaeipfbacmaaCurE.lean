/-
  The draws of jobs with a number.
-/
import Derived.Test.YtdggaeipfbacmaaCurD
namespace Go.Proofs.Ytdggaeipfbacmaa
open Go.RowKit
set_option maxRecDepth 100000
set_option linter.unusedVariables false

/-- What a draw of jobs with a number leaves. -/
def RetDrawnI (lo hi : Int) (w : World) (e : Ending) (w' : World) : Prop :=
  ∃ (u : Value) (l : List Jb) (t : Int), e = .returned (.tuple #[u, .int .i64 t]) ∧ l.length ≤ 21 ∧ lo ≤ t ∧ t ≤ hi ∧ OJbS w' w.heap.size w'.heap.size u l ∧ Below w.heap.size w w'
theorem mem_bounds {l : List Int} {lo hi : Int} (h : l.all (fun x => decide (lo ≤ x ∧ x ≤ hi)) = true) {j : Nat} (hj : j < l.length) : lo ≤ l.getD j 0 ∧ l.getD j 0 ≤ hi := by
  rw [List.all_eq_true] at h
  have := h (l.getD j 0) (by rw [List.getD_eq_getElem?_getD, List.getElem?_eq_getElem hj]; exact List.getElem_mem hj)
  simpa using this
set_option maxHeartbeats 1000000 in
theorem drawWorkLeft_any (v : Value) (n : Nat) (w : World) (h : RB w w.heap.size v n) (hn : n ≤ 1048576) :
    Calls Try.prog 14 #[v] w (RetDrawnI (-1) 5001 w) := by
  have h0 := CurAt.made h
  obtain ⟨A, c, rfl, hlc, hc⟩ := h
  clear hc
  go_enter Try.func14, Try.ntmps14
  go_wp2_with fail
  refine (one_any w.heap.size w.heap.size n 0 10 _ h0 (by omega) hn (by omega) (by omega)).mono ?_; rintro e w1 ⟨b, rfl, h1, g1⟩
  have hb1 : Below w.heap.size w w1 := ((Below.refl _ _).alloc (Nat.le_refl _) _).trans (g1.below (Nat.le_refl _) (by simp))
  have hs1 := hb1.size
  have hl1 := h1.lt
  clear h0 g1
  cases b
  · go_wp2_with fail
    refine (jobs_any w.heap.size w.heap.size n _ _ h1 (by omega) hn).mono ?_; rintro e w2 ⟨u, l, rfl, hl, hj, h2, g2⟩
    have hl2 := h2.lt
    have hs2 := g2.size
    have hb2 := hb1.trans (g2.below (Nat.le_refl _) (by omega))
    clear h1 g2 hb1
    go_wp2_with fail
    refine (pick_any w.heap.size w.heap.size n _ 50 _ h2 (by omega) hn (by omega) (by omega)).mono ?_; rintro e w3 ⟨t, rfl, t0, t1, h3, g3⟩
    have hb3 := hb2.trans (g3.below (Nat.le_refl _) (by omega))
    have hs3 := g3.size
    have hj3 : OJbS w3 w.heap.size w3.heap.size u l := OK.wide (OK.far hj g3 (.inr (by omega))) (by omega) hs3
    clear h2 g3 hb2 hj h3
    go_wp2_with fail
    go_ret2
    exact ⟨u, l, _, rfl, hl, by omega, by omega, hj3, hb3⟩
  · go_wp2_with fail
    refine (jobs_any w.heap.size w.heap.size n _ _ h1 (by omega) hn).mono ?_; rintro e w2 ⟨u, l, rfl, hl, hj, h2, g2⟩
    have hl2 := h2.lt
    have hs2 := g2.size
    have hb2 := hb1.trans (g2.below (Nat.le_refl _) (by omega))
    clear h1 g2 hb1
    go_wp2_with fail
    refine (among_any w.heap.size w.heap.size n _ _ [-1, 0, 5000, 5001] _ (h2.below ((Below.refl _ _).alloc (Nat.le_refl _) _) (by omega)) (by omega) hn _ _ (litN [-1, 0, 5000, 5001] 4 _ rfl (by omega) rfl (by simp)) (by omega) (by simp) (by simp)).mono ?_; rintro e w3 ⟨jj, hjj, rfl, h3, g3⟩
    have ht := mem_bounds (l := [(-1 : Int), 0, 5000, 5001]) (lo := -1) (hi := 5001) (by decide) hjj
    generalize List.getD [(-1 : Int), 0, 5000, 5001] jj 0 = t at ht
    obtain ⟨t0, t1⟩ := ht
    have gA : Wr w.heap.size (w.heap.size + 1) w2 w3 := (Wr.of_below ((Below.refl _ _).alloc (Nat.le_refl _) _) _ _).trans g3
    have hb3 := hb2.trans (gA.below (Nat.le_refl _) (by omega))
    have hs3 := gA.size
    have hj3 : OJbS w3 w.heap.size w3.heap.size u l := OK.wide (OK.far hj gA (.inr (by omega))) (by omega) hs3
    clear h2 g3 gA hb2 hj h3 hjj
    go_wp2_with fail
    go_ret2
    exact ⟨u, l, _, rfl, hl, by omega, by omega, hj3, hb3⟩
end Go.Proofs.Ytdggaeipfbacmaa
