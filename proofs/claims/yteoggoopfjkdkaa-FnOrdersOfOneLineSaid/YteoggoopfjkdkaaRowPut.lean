/-
  Slices of slices of ints that the call owns: a cell of a row is written; a row is put in the place of another.
-/
import Derived.Test.YteoggoopfjkdkaaIntSS
namespace Go.Proofs.Yteoggoopfjkdkaa
open Go.RowKit
set_option maxRecDepth 100000
set_option linter.unusedVariables false

section
variable {T E : TypeId} {w w' : World} {lo hi lo' hi' : Nat} {v : Value} {L : List (List Int)}
/-- Where a row lies. -/
theorem OS.row_at (hTE : T ≠ E) (h : OS T E w lo hi v L) (j : Nat) (hj : j < L.length) (hne : L.getD j [] ≠ []) :
    ∃ A c b c2, v = .slice (some ⟨A, 0, none⟩) L.length c ∧ lo ≤ A ∧ A < hi ∧ A < w.heap.size ∧ w.cell? ⟨A, j, none⟩ = some (.slice (some ⟨b, 0, none⟩) (L.getD j []).length c2) ∧ w.frozen? ⟨A, j, none⟩ = false ∧ lo ≤ b ∧ b < hi ∧ b < w.heap.size ∧
      (∀ q, q < (L.getD j []).length → w.cell? ⟨b, q, none⟩ = some (.int .i64 ((L.getD j []).getD q 0))) ∧ (∀ q, w.frozen? ⟨b, q, none⟩ = false) ∧
      ∀ i x, i < (L.getD j []).length → OS T E (w.setCell ⟨b, i, none⟩ (.int .i64 x)) lo hi v (L.set j ((L.getD j []).set i x)) := by
  obtain ⟨rows, hL, hown, hhi, hr, hp⟩ := h
  have hn : rows.length = L.length := by rw [← hL, List.length_map]
  have hjr : j < rows.length := by omega
  have hrl : rows[j].l = L.getD j [] := by rw [← hL]; simp [List.getD, hjr]
  have hrj := hr rows[j] (List.getElem_mem hjr)
  have hne' : rows[j].l ≠ [] := by rw [hrl]; exact hne
  have hap := OS.apart (lo2 := 0) (hi2 := 0) hTE hown hrj.1 hne'
  have hb := hrj.2 hne'
  rcases hrj.1 with ⟨h0, _⟩ | ⟨g', c2, hu, h1, h2, hrow⟩
  · exact absurd h0 hne'
  obtain ⟨g, hg⟩ : ∃ g, rows[j].g = g := ⟨_, rfl⟩
  rw [hg] at h1 h2 hb hap hrow
  obtain rfl : g' = g := by omega
  have hown0 := hown
  rcases hown.2 with ⟨_, hn0⟩ | ⟨A, c, cur, rfl, hA1, hA2, _⟩
  · omega
  have hAhi := hhi A rfl
  have hAs : A < w.heap.size := (Array.getElem?_eq_some_iff.1 hA2).1
  obtain ⟨_, hgs, _⟩ := row_parts hrow
  refine ⟨A, c, g', c2, rfl, hA1, hAhi, hAs, ?_, World.ownsRow.frozenAt hown0 j, hb.1, hb.2, hgs, ?_, fun q => World.ownsRow.frozenAt hrow q, ?_⟩
  · rw [World.ownsRow.cellAt hown0 j (by omega)]
    simp [hjr, hu, hrl]
  · intro q hq
    rw [← hrl] at hq ⊢
    rw [World.ownsRow.cellAt hrow q (by omega), ics_get _ q hq]
  · intro i x hi2
    have hwr := (Wr.refl g' (g' + 1) w).setCell (p := ⟨g', i, none⟩) (Nat.le_refl g') (Nat.lt_succ_self g') (.int .i64 x)
    have hnew : OI E (w.setCell ⟨g', i, none⟩ (.int .i64 x)) g' (g' + 1) rows[j].u (rows[j].l.set i x) := by
      have hs := (World.ownsRow.stored hrow i (.int .i64 x)).1
      have e : (ics rows[j].l).set i (.int .i64 x) = ics (rows[j].l.set i x) := by simp [ics, List.map_set]
      rw [e] at hs
      exact .inr ⟨g', c2, by rw [List.length_set]; exact hu, h1, h2, by rw [List.length_set]; exact hs⟩
    refine ⟨rows.set j ⟨rows[j].u, g', rows[j].l.set i x⟩, ?_, ?_, hhi, ?_, ?_⟩
    · rw [List.map_set, hL, hrl]
    · have e : (rows.set j ⟨rows[j].u, g', rows[j].l.set i x⟩).map (·.u) = rows.map (·.u) := by
        apply List.ext_getElem (by simp)
        intro q q1 q2
        simp only [List.length_map] at q2
        simp only [List.getElem_map, List.getElem_set]
        by_cases e : j = q
        · subst e; simp
        · rw [if_neg e]
      rw [e, List.length_set]
      exact own_far hown0 hwr fun k hk => by
        have : k ≠ g' := fun h9 => hap (by rw [hk, h9])
        omega
    · intro r hm
      obtain ⟨q, hq, rfl⟩ := List.getElem_of_mem hm
      rw [List.length_set] at hq
      rw [List.getElem_set]
      by_cases e : j = q
      · rw [if_pos e]
        exact ⟨hnew, fun _ => hb⟩
      · rw [if_neg e]
        refine (hr _ (List.getElem_mem hq)).far hwr fun hl => ?_
        have hd : rows[q].g ≠ g' := by
          rw [List.pairwise_iff_getElem] at hp
          rcases Nat.lt_or_ge j q with h9 | h9
          · have := hp j q hjr hq h9 hne' hl
            rw [hg] at this
            exact this.symm
          · have := hp q j hq hjr (by omega) hl hne'
            rw [hg] at this
            exact this
        omega
    · rw [List.pairwise_iff_getElem] at hp ⊢
      intro p q hpp hqq hlt
      rw [List.length_set] at hpp hqq
      have hx : rows[j].l.set i x ≠ [] := by
        intro h9
        apply hne'
        have := congrArg List.length h9
        rw [List.length_set] at this
        exact List.eq_nil_of_length_eq_zero this
      simp only [List.getElem_set]
      by_cases e1 : j = p
      · rw [if_pos e1, if_neg (by omega)]
        subst e1
        intro _ hl
        have := hp j q hjr hqq hlt hne' hl
        rw [hg] at this
        exact this
      · rw [if_neg e1]
        by_cases e2 : j = q
        · rw [if_pos e2]
          subst e2
          intro hl _
          have := hp p j hpp hjr hlt hl hne'
          rw [hg] at this
          exact this
        · rw [if_neg e2]
          exact hp p q hpp hqq hlt
/-- A row made behind all is put in the place of another. -/
theorem OS.set_row (hTE : T ≠ E) (h : OS T E w lo hi v L) (j : Nat) (hj : j < L.length) {u : Value} {l : List Int} {h1 : Nat} (hu : OI E w hi h1 u l) (hl : l ≠ []) (hlh : lo ≤ hi) (h12 : hi ≤ h1) :
    ∃ A c, v = .slice (some ⟨A, 0, none⟩) L.length c ∧ lo ≤ A ∧ A < hi ∧ A < w.heap.size ∧ w.frozen? ⟨A, j, none⟩ = false ∧ (∃ u0, w.cell? ⟨A, j, none⟩ = some u0) ∧ OS T E (w.setCell ⟨A, j, none⟩ u) lo h1 v (L.set j l) := by
  obtain ⟨rows, hL, hown, hhi, hr, hp⟩ := h
  have hn : rows.length = L.length := by rw [← hL, List.length_map]
  have hjr : j < rows.length := by omega
  obtain ⟨g, hg0, hg1, hut⟩ := hu.tight hl
  have hown0 := hown
  rcases hown.2 with ⟨_, hn0⟩ | ⟨A, c, cur, rfl, hA1, hA2, _⟩
  · omega
  have hAhi := hhi A rfl
  have hAs : A < w.heap.size := (Array.getElem?_eq_some_iff.1 hA2).1
  have hwr := (Wr.refl A (A + 1) w).setCell (p := ⟨A, j, none⟩) (Nat.le_refl A) (Nat.lt_succ_self A) u
  refine ⟨A, c, rfl, hA1, hAhi, hAs, World.ownsRow.frozenAt hown0 j, ?_, rows.set j ⟨u, g, l⟩, by rw [List.map_set, hL], ?_, fun k hk => by have := hhi k hk; omega, ?_, ?_⟩
  · rw [World.ownsRow.cellAt hown0 j (by omega)]
    exact ⟨_, List.getElem?_eq_getElem (by simp; exact hjr)⟩
  · rw [List.length_set, List.map_set]
    exact (World.ownsRow.stored hown0 j u).1
  · intro r hm
    obtain ⟨q, hq, rfl⟩ := List.getElem_of_mem hm
    rw [List.length_set] at hq
    rw [List.getElem_set]
    by_cases e : j = q
    · rw [if_pos e]
      exact ⟨hut.far hwr (.inr (by omega)), fun _ => by simp only; omega⟩
    · rw [if_neg e]
      have hq2 := hr _ (List.getElem_mem hq)
      have hf := hq2.far hwr fun hl2 => by
        have hap := OS.apart (lo2 := 0) (hi2 := 0) hTE hown0 hq2.1 hl2
        have : rows[q].g ≠ A := fun h9 => hap (by rw [h9]; rfl)
        omega
      exact ⟨hf.1, fun hl2 => by have := hf.2 hl2; omega⟩
  · rw [List.pairwise_iff_getElem] at hp ⊢
    intro p q hpp hqq hlt
    rw [List.length_set] at hpp hqq
    simp only [List.getElem_set]
    by_cases e1 : j = p
    · rw [if_pos e1, if_neg (by omega)]
      intro _ hl2
      have := (hr _ (List.getElem_mem hqq)).2 hl2
      simp only
      omega
    · rw [if_neg e1]
      by_cases e2 : j = q
      · rw [if_pos e2]
        intro hl2 _
        have := (hr _ (List.getElem_mem hpp)).2 hl2
        simp only
        omega
      · rw [if_neg e2]
        exact hp p q hpp hqq hlt
end
end Go.Proofs.Yteoggoopfjkdkaa
