/-
  Chapter 7: whole slices of rows are appended; all orders of names by recursion: the model.
-/
import Derived.Test.YtgmknndmmpoliaaElG
import Derived.Test.YtgmknndmmpoliaaElC
import Derived.Laws.AppendOwnNone
namespace Go.Proofs.Ytgmknndmmpoliaa
open Go.RowKit
set_option maxRecDepth 100000
set_option linter.unusedVariables false

section
variable {T E : TypeId} {w w' : World} {lo hi lo' hi' : Nat} {v : Value} {L : List (List Int)}
/-- 'out = append(out, rows...)', rows made behind all that is gathered. -/
theorem wp_catS {P : Program} {o : Oper} {a : Act} {K : Act → World → Prop} {Q : Exit → Act → World → Prop} (s x : Operand) (t : TypeId)
    (ho : o.op = .call { callee := .builtin .append, args := #[s, x], argTypes := #[t, t] }) (T E : TypeId) (hTE : T ≠ E) (i : TypeInfo) (ht : P.underlying t = some (.slice T)) (hi : P.info? T = some i)
    (hz0 : i.zero = some (.slice none 0 0)) (hz1 : i.size = 1) (hz2 : i.bytes = 24) (W w0 : World) (lo h0 h1 : Nat) (v u : Value) (L M : List (List Int))
    (hs : a.eval s = v) (hacc : OS T E W lo h0 v L) (hu : OS T E W h0 h1 u M) (hM : 0 < M.length) (hlo : lo ≤ h0) (hh1 : h1 ≤ W.heap.size) (hh0 : h0 ≤ W.heap.size)
    (hx : a.eval x = u) (hn : L.length + M.length < 1000000) (hb : Below lo w0 W)
    (h : ∀ v' w', OS T E w' lo w'.heap.size v' (L ++ M) → Below lo w0 w' → K (a.put o.dst v') w') : o.wp P a W K Q := by
  obtain ⟨rows, hL, hown0, hhi, hr, hp⟩ := hacc
  obtain ⟨rows2, hM2, hown2, hhi2, hr2, hp2⟩ := hu
  have hlo2 : lo ≤ W.heap.size := by omega
  have hml : (rows2.map (·.u)).length = M.length := by rw [← hM2]; simp
  obtain ⟨g, c, hv⟩ : ∃ g c, u = .slice (some ⟨g, 0, none⟩) M.length c := by
    rcases hown2.2 with ⟨_, hn0⟩ | ⟨g, c, cur, rfl, _⟩
    · omega
    · exact ⟨g, c, rfl⟩
  subst hv
  refine wp_append_own _ s x t ho lo T i (.slice none 0 0) 1 24 ht hi hz0 hz1 hz2 rfl (by decide) v L.length (rows.map (·.u)) hs hown0 ⟨g, 0, none⟩ M.length c (rows2.map (·.u)) hx (by rw [hml]; omega) ?_ ?_ (by unfold maxLen; omega) (by omega) hlo2 ?_
  · intro j y hj
    have hj2 : j < M.length := by
      rcases Nat.lt_or_ge j M.length with h9 | h9
      · exact h9
      · rw [List.getElem?_eq_none (by omega)] at hj; cases hj
    rw [addr_add, Nat.zero_add, World.ownsRow.cellAt hown2 j (by omega), hj]
  · intro y hy
    obtain ⟨r, hr9, rfl⟩ := List.mem_map.1 hy
    obtain ⟨A, c9, h9, _⟩ := (hr2 r hr9).1.ri
    rw [h9]
    rfl
  · intro v' w' h2 h3 _
    have hsz : W.heap.size ≤ w'.heap.size := h3.size
    have hkeep : ∀ k, k < W.heap.size → v.ownBlock ≠ some k → w'.heap[k]? = W.heap[k]? := fun k hk hne => h3.block k hk (fun e => hne e.symm)
    have hrow : ∀ (lo9 : Nat) (r : Rw), lo ≤ lo9 → RwOK E W lo9 W.heap.size r → RwOK E w' lo w'.heap.size r := by
      intro lo9 r hlo9 hr1
      refine ⟨?_, fun hl => by have := hr1.2 hl; omega⟩
      by_cases hl : r.l = []
      · have h4 := hr1.1
        rw [hl] at h4 ⊢
        exact h4.empty_far
      · have hne := OS.apart (lo2 := 0) (hi2 := 0) hTE hown0 hr1.1 hl
        rcases hr1.1 with ⟨h4, _⟩ | ⟨g', c, he, h5, h6, hrw⟩
        · exact absurd h4 hl
        · obtain rfl : g' = r.g := by omega
          obtain ⟨_, h12, h7, h8, cur, h9, h10, h11⟩ := row_parts hrw
          exact .inr ⟨r.g, c, he, h5, h6, hrw.1, .inr ⟨r.g, c, cur, rfl, Nat.le_refl _, by rw [hkeep r.g h12 hne]; exact h9, h7, h8, h10, h11⟩⟩
    refine h v' w' ⟨rows ++ rows2, by simp [hL, hM2], ?_, fun k hk => (World.ownsRow.lt h2 k hk).2, fun r hm => ?_, ?_⟩ (hb.grown h3 hlo2 (fun k hk => ((World.ownsRow.lt hown0) k hk).1))
    · rw [List.length_append, List.map_append]
      exact h2
    · rcases List.mem_append.1 hm with hm | hm
      · exact hrow lo r (Nat.le_refl _) ⟨(hr r hm).1, fun hl => by have := (hr r hm).2 hl; omega⟩
      · exact hrow h0 r hlo ⟨(hr2 r hm).1, fun hl => by have := (hr2 r hm).2 hl; omega⟩
    · refine List.pairwise_append.2 ⟨hp, hp2, fun r hm r2 hm2 hl hl2 => ?_⟩
      have h8 := (hr r hm).2 hl
      have h9 := (hr2 r2 hm2).2 hl2
      omega
theorem wpList_catS {P : Program} {W : World} {ops : Array Oper} {rest : List Oper} {o : Oper} {a : Act} {Q : Exit → Act → World → Prop} (hgd : o.guard = none) (s x : Operand) (t : TypeId)
    (ho : o.op = .call { callee := .builtin .append, args := #[s, x], argTypes := #[t, t] }) (T E : TypeId) (hTE : T ≠ E) (i : TypeInfo) (ht : P.underlying t = some (.slice T)) (hi : P.info? T = some i)
    (hz0 : i.zero = some (.slice none 0 0)) (hz1 : i.size = 1) (hz2 : i.bytes = 24) (w0 : World) (lo h0 h1 : Nat) (v u : Value) (L M : List (List Int))
    (hs : a.eval s = v) (hacc : OS T E W lo h0 v L) (hu : OS T E W h0 h1 u M) (hM : 0 < M.length) (hlo : lo ≤ h0) (hh1 : h1 ≤ W.heap.size) (hh0 : h0 ≤ W.heap.size)
    (hx : a.eval x = u) (hn : L.length + M.length < 1000000) (hb : Below lo w0 W)
    (h : ∀ v' w', OS T E w' lo w'.heap.size v' (L ++ M) → Below lo w0 w' → wpList P ops Q rest (a.put o.dst v') w') : wpList P ops Q (o :: rest) a W :=
  wpList_plain hgd fun _ hK => wp_catS s x t ho T E hTE i ht hi hz0 hz1 hz2 W w0 lo h0 h1 v u L M hs hacc hu hM hlo hh1 hh0 hx hn hb fun v' w' h2 h3 => hK _ _ (h v' w' h2 h3)
end

/-- All orders that go on a list by m more names below n. -/
def ordF (n : Nat) : Nat → List Int → List (List Int)
  | 0, l => [l]
  | m + 1, l => (List.range n).flatMap fun x : Nat => if hasI l (x : Int) = true then [] else ordF n m (l ++ [(x : Int)])
def ordP (n m : Nat) (l : List Int) (x : Nat) : List (List Int) := (List.range x).flatMap fun x : Nat => if hasI l (x : Int) = true then [] else ordF n m (l ++ [(x : Int)])
theorem ordP_has {n m x : Nat} {l : List Int} (h : hasI l (x : Int) = true) : ordP n m l (x + 1) = ordP n m l x := by simp [ordP, List.range_succ, h]
theorem ordP_new {n m x : Nat} {l : List Int} (h : hasI l (x : Int) = false) : ordP n m l (x + 1) = ordP n m l x ++ ordF n m (l ++ [(x : Int)]) := by simp [ordP, List.range_succ, h]
/-- How many there are at most. -/
def capN (n : Nat) : Nat → Nat
  | 0 => 1
  | m + 1 => n * capN n m
theorem ordP_len_of {n m : Nat} (l : List Int) (x : Nat) (h : ∀ l, (ordF n m l).length ≤ capN n m) : (ordP n m l x).length ≤ x * capN n m := by
  induction x with
  | zero => simp [ordP]
  | succ x ih =>
    cases hh : hasI l (x : Int)
    · rw [ordP_new hh, List.length_append, Nat.succ_mul]
      have := h (l ++ [(x : Int)])
      omega
    · rw [ordP_has hh, Nat.succ_mul]
      omega
theorem ordF_len (n m : Nat) (l : List Int) : (ordF n m l).length ≤ capN n m := by
  induction m generalizing l with
  | zero => exact Nat.le_refl _
  | succ m ih => exact ordP_len_of l n fun l => ih l
theorem capN_small : ∀ n m : Nat, n ≤ 6 → m ≤ 6 → capN n m ≤ 46656 := by
  have h : ∀ n m : Fin 7, capN n.1 m.1 ≤ 46656 := by decide
  exact fun n m h1 h2 => h ⟨n, by omega⟩ ⟨m, by omega⟩
/-- A list of fewer than n names leaves one. -/
theorem ordF_pos (n m : Nat) (l : List Int) (h : l.length + m = n) (hd : ∀ x ∈ l, 0 ≤ x ∧ x < n) : 0 < (ordF n m l).length := by
  induction m generalizing l with
  | zero => exact Nat.one_pos
  | succ m ih =>
    obtain ⟨x, hx, hh⟩ : ∃ x, x < n ∧ hasI l (x : Int) = false := by
      refine Classical.byContradiction fun hno => ?_
      have hall : ∀ x, x < n → hasI l (x : Int) = true := fun x hx => by
        cases hb : hasI l (x : Int)
        · exact absurd ⟨x, hx, hb⟩ hno
        · rfl
      have key : ∀ (k : Nat) (l : List Int), (∀ x : Nat, x < k → (x : Int) ∈ l) → k ≤ l.length := by
        intro k
        induction k with
        | zero => intro l _; omega
        | succ k ih =>
          intro l hl
          have h1 := ih (l.erase (k : Int)) fun x hx => (List.mem_erase_of_ne (by omega)).2 (hl x (by omega))
          have h2 := List.length_erase_of_mem (hl k (by omega))
          have h3 := List.length_pos_of_mem (hl k (by omega))
          omega
      have := key n l fun x hx => hasI_iff.1 (hall x hx)
      omega
    rw [ordF]
    have h1 := ih (l ++ [(x : Int)]) (by simp; omega) (by
      intro y hy
      rcases List.mem_append.1 hy with hy | hy
      · exact hd y hy
      · simp at hy; omega)
    obtain ⟨r, hr⟩ := List.exists_mem_of_length_pos h1
    refine List.length_pos_of_mem (a := r) (List.mem_flatMap.2 ⟨x, List.mem_range.2 hx, ?_⟩)
    rw [if_neg (by rw [hh]; simp)]
    exact hr
end Go.Proofs.Ytgmknndmmpoliaa
