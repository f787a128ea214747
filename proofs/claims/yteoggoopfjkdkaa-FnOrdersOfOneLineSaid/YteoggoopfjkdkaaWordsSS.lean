/-
  Words on memory for slices of slices of ints: one that reads as lists, one that the call owns, rows and all. No dump is imported but for the laws' helpers on rows.
-/
import Derived.Test.YteoggoopfjkdkaaAcc
import Derived.Test.YteoggoopfjkdkaaOne
namespace Go.Proofs.Yteoggoopfjkdkaa
open Go.RowKit
set_option maxRecDepth 100000
set_option linter.unusedVariables false

/-- The slice value v reads as the lists L, each row as one of them, all below block B. -/
def RS (w : World) (B : Nat) (v : Value) (L : List (List Int)) : Prop :=
  ∃ (V : List Value) (A : Option Addr) (c : Nat), v = .slice A L.length c ∧ V.length = L.length ∧ (L.length ≤ c ∧ c ≤ maxLen ∧ (A = none → c = 0)) ∧
    (0 < L.length → ∃ b off, A = some ⟨b, off, none⟩ ∧ b < B ∧ ∀ j, j < L.length → w.cell? ⟨b, off + j, none⟩ = some (V.getD j undef)) ∧ ∀ j, j < L.length → RI w B (V.getD j undef) (L.getD j [])
/-- A row: its value, its block, its list. -/
structure Rw where
  u : Value
  g : Nat
  l : List Int
/-- A row that the call owns, in a block of its own in [lo, hi). -/
def RwOK (E : TypeId) (w : World) (lo hi : Nat) (r : Rw) : Prop := OI E w r.g (r.g + 1) r.u r.l ∧ (r.l ≠ [] → lo ≤ r.g ∧ r.g < hi)
/-- The slice value v owns the lists L: its cells and each row lie in blocks of their own in [lo, hi). -/
def OS (T E : TypeId) (w : World) (lo hi : Nat) (v : Value) (L : List (List Int)) : Prop :=
  ∃ rows : List Rw, rows.map (·.l) = L ∧ w.ownsRow lo T 1 v L.length (rows.map (·.u)) ∧ (∀ k, v.ownBlock = some k → k < hi) ∧ (∀ r ∈ rows, RwOK E w lo hi r) ∧
    rows.Pairwise fun a b => a.l ≠ [] → b.l ≠ [] → a.g ≠ b.g
section
variable {w w' : World} {B B' : Nat} {v : Value} {L : List (List Int)}
theorem RS.below (h : RS w B v L) (hb : Below B w w') : RS w' B v L := by
  obtain ⟨V, A, c, hv, hV, hlc, hc, hr⟩ := h
  refine ⟨V, A, c, hv, hV, hlc, fun hn => ?_, fun j hj => (hr j hj).below hb⟩
  obtain ⟨b, off, hA, hbB, hcell⟩ := hc hn
  exact ⟨b, off, hA, hbB, fun j hj => (hb.cell (p := ⟨b, off + j, none⟩) hbB).trans (hcell j hj)⟩
theorem RS.more (h : RS w B v L) (hB : B ≤ B') : RS w B' v L := by
  obtain ⟨V, A, c, hv, hV, hlc, hc, hr⟩ := h
  refine ⟨V, A, c, hv, hV, hlc, fun hn => ?_, fun j hj => (hr j hj).more hB⟩
  obtain ⟨b, off, hA, hbB, hcell⟩ := hc hn
  exact ⟨b, off, hA, by omega, hcell⟩
theorem RS.step (h : RS w B v L) (hb : Below w.heap.size w w') (hB : B ≤ w.heap.size) : RS w' B v L := h.below (hb.mono hB)
theorem RS.far {a b : Nat} (h : RS w B v L) (hg : Wr a b w w') (hB : B ≤ a) (hs : B ≤ w.heap.size) : RS w' B v L := h.below (hg.below hB hs)
end
section
variable {T E : TypeId} {w w' : World} {lo hi lo' hi' : Nat} {v : Value} {L : List (List Int)}
theorem own_far {xs : List Value} {n a b : Nat} (h : w.ownsRow lo T 1 v n xs) (hg : Wr a b w w') (hne : ∀ k, v.ownBlock = some k → k < a ∨ b ≤ k) : w'.ownsRow lo T 1 v n xs := by
  rcases h.2 with ⟨rfl, hn⟩ | ⟨g, c, cur, rfl, _⟩
  · exact ⟨h.1, .inl ⟨rfl, hn⟩⟩
  · exact row_far h hg (hne g rfl)
theorem own_lower {xs : List Value} {n : Nat} (h : w.ownsRow lo T 1 v n xs) (hl : lo' ≤ lo) : w.ownsRow lo' T 1 v n xs := by
  rcases h.2 with ⟨rfl, hn⟩ | ⟨g, c, cur, rfl, _⟩
  · exact ⟨h.1, .inl ⟨rfl, hn⟩⟩
  · exact row_lower h hl
theorem OI.tight {L0 : List Int} (h : OI E w lo hi v L0) (hn : L0 ≠ []) : ∃ g, lo ≤ g ∧ g < hi ∧ OI E w g (g + 1) v L0 := by
  rcases h with ⟨h0, _⟩ | ⟨g, c, rfl, h1, h2, hr⟩
  · exact absurd h0 hn
  · obtain ⟨_, hs, h3, h4, cur, h5, h6, h7⟩ := row_parts hr
    exact ⟨g, h1, h2, .inr ⟨g, c, rfl, Nat.le_refl _, Nat.lt_succ_self _, hr.1, .inr ⟨g, c, cur, rfl, Nat.le_refl _, h5, h3, h4, h6, h7⟩⟩⟩
theorem OI.empty {a b : Nat} (h : OI E w lo hi v []) : OI E w a b v [] := by
  rcases h with h2 | ⟨g, c, h3, _, _, h4⟩
  · exact .inl h2
  · refine .inl ⟨rfl, some ⟨g, 0, none⟩, c, h3, ?_, fun h => by cases h⟩
    obtain ⟨_, _, _, h5, _⟩ := row_parts h4
    exact h5
theorem OI.empty_far {a b : Nat} (h : OI E w lo hi v []) : OI E w' a b v [] := by
  rcases h.empty (a := 0) (b := 0) with h2 | ⟨g, c, h3, _, h5, h4⟩
  · exact .inl h2
  · omega
theorem RwOK.far {a b : Nat} {r : Rw} (h : RwOK E w lo hi r) (hg : Wr a b w w') (hne : r.l ≠ [] → r.g < a ∨ b ≤ r.g) : RwOK E w' lo hi r := by
  refine ⟨?_, h.2⟩
  by_cases hl : r.l = []
  · have h2 := h.1
    rw [hl] at h2 ⊢
    exact h2.empty_far
  · exact h.1.far hg (by have := hne hl; omega)
theorem OS.far {a b : Nat} (h : OS T E w lo hi v L) (hg : Wr a b w w') (hne : hi ≤ a ∨ b ≤ lo) : OS T E w' lo hi v L := by
  obtain ⟨rows, hL, hown, hhi, hr, hp⟩ := h
  refine ⟨rows, hL, own_far hown hg fun k hk => ?_, hhi, fun r hm => (hr r hm).far hg fun hl => ?_, hp⟩
  · have h1 := hhi k hk
    have h2 := World.ownsRow.lt hown k hk
    omega
  · have := (hr r hm).2 hl
    omega
theorem OS.step (h : OS T E w lo hi v L) (hb : Below w.heap.size w w') (hh : hi ≤ w.heap.size := by omega) : OS T E w' lo hi v L := h.far (Wr.of_below hb hi hi) (.inl (Nat.le_refl _))
theorem OS.wide (h : OS T E w lo hi v L) (h1 : lo' ≤ lo) (h2 : hi ≤ hi') : OS T E w lo' hi' v L := by
  obtain ⟨rows, hL, hown, hhi, hr, hp⟩ := h
  exact ⟨rows, hL, own_lower hown h1, fun k hk => by have := hhi k hk; omega, fun r hm => ⟨(hr r hm).1, fun hl => by have := (hr r hm).2 hl; omega⟩, hp⟩
theorem OS.nil (T E : TypeId) (w : World) (lo hi : Nat) : OS T E w lo hi (.slice none 0 0) [] :=
  ⟨[], rfl, World.ownsRow_nil _ _ _ _, fun k hk => by simp [Value.ownBlock] at hk, fun r hm => by simp at hm, List.Pairwise.nil⟩
/-- The literal of no rows. -/
theorem OS.lit0 {g : Nat} (hg : g = w.heap.size) (hlo : lo ≤ g) : OS T E (w.alloc (.cells #[] T)) lo (g + 1) (.slice (some ⟨g, 0, none⟩) 0 0) [] := by
  subst hg
  exact ⟨[], rfl, World.ownsRow_made w #[] 0 hlo (by simp) rfl, fun k hk => by simp [Value.ownBlock] at hk; omega, fun r hm => by simp at hm, List.Pairwise.nil⟩
theorem RI.of_nil {w : World} {B : Nat} {A : Option Addr} {c : Nat} (hc : c ≤ maxLen) (hA : A = none → c = 0) : RI w B (.slice A 0 c) [] := ⟨A, c, rfl, ⟨by simp, hc, hA⟩, fun h => absurd h (by simp)⟩
theorem OS.rd (h : OS T E w lo hi v L) : RS w hi v L := by
  obtain ⟨rows, hL, hown, hhi, hr, hp⟩ := h
  have hn : rows.length = L.length := by rw [← hL, List.length_map]
  have hrow : ∀ j, j < L.length → RI w hi ((rows.map (·.u)).getD j undef) (L.getD j []) := by
    intro j hj
    have hjr : j < rows.length := by omega
    have e1 : (rows.map (·.u)).getD j undef = rows[j].u := by simp [List.getD, hjr]
    have e2 : L.getD j [] = rows[j].l := by rw [← hL]; simp [List.getD, hjr]
    rw [e1, e2]
    have h1 := hr rows[j] (List.getElem_mem hjr)
    by_cases hl : rows[j].l = []
    · have h2 := h1.1
      rw [hl] at h2 ⊢
      rcases h2 with ⟨_, A, c, h3, h4, h5⟩ | ⟨g, c, h3, _, _, h4⟩
      · rw [h3]; exact RI.of_nil h4 h5
      · rw [h3]
        obtain ⟨_, _, _, h5, _⟩ := row_parts h4
        exact RI.of_nil h5 (fun h => by cases h)
    · exact h1.1.ri.more (by have := h1.2 hl; omega)
  rcases hown.2 with ⟨rfl, hn0⟩ | ⟨g, c, cur, rfl, _⟩
  · refine ⟨rows.map (·.u), none, 0, by rw [hn0], by simp [hn], ⟨by omega, by simp, fun _ => rfl⟩, fun h => by omega, hrow⟩
  · obtain ⟨_, _, h3, h4, _⟩ := row_parts hown
    refine ⟨rows.map (·.u), some ⟨g, 0, none⟩, c, rfl, by simp [hn], ⟨h3, h4, fun h => by cases h⟩, fun _ => ⟨g, 0, rfl, hhi g rfl, fun j hj => ?_⟩, hrow⟩
    have hjr : j < rows.length := by omega
    have := World.ownsRow.cellAt hown j (by omega)
    rw [Nat.zero_add, this]
    simp [List.getD, hjr]
theorem OS.drewN (h : OS T E w lo hi v L) (m : Nat) : OS T E (w.drewN m) lo hi v L := h
/-- The gathered row's block is no row's: their cells are of other types. -/
theorem OS.apart (hTE : T ≠ E) {xs : List Value} {n : Nat} (hown : w.ownsRow lo T 1 v n xs) {g lo2 hi2 : Nat} {u : Value} {l : List Int} (hu : OI E w g (g + 1) u l) (hl : l ≠ []) : v.ownBlock ≠ some g := by
  intro he
  rcases hu with ⟨h0, _⟩ | ⟨g', c, rfl, h5, h6, hrow⟩
  · exact hl h0
  obtain rfl : g' = g := by omega
  obtain ⟨_, _, _, _, cur, h9, _⟩ := row_parts hrow
  rcases hown.2 with ⟨rfl, _⟩ | ⟨g2, c2, cur2, rfl, _, hh2, _⟩
  · simp [Value.ownBlock] at he
  · simp only [Value.ownBlock, Option.some.injEq] at he
    subst he
    rw [hh2] at h9
    injection h9 with h9
    injection h9 with _ h9
    exact hTE h9
/-- 'out = append(out, row)', a row made behind all that is gathered. -/
theorem wp_pushS {P : Program} {w : World} {o : Oper} {a : Act} {K : Act → World → Prop} {Q : Exit → Act → World → Prop} (s x : Operand) (t : TypeId)
    (ho : o.op = .call { callee := .builtin .append, args := #[s, x], argTypes := #[t, t] }) (T E : TypeId) (hTE : T ≠ E) (i : TypeInfo) (ht : P.underlying t = some (.slice T)) (hi : P.info? T = some i)
    (hz0 : i.zero = some (.slice none 0 0)) (hz1 : i.size = 1) (hz2 : i.bytes = 24) (W w0 : World) (lo h0 h1 : Nat) (v u : Value) (L : List (List Int)) (l : List Int)
    (hw : w = W.alloc (.cells #[u] T)) (hs : a.eval s = v) (hacc : OS T E W lo h0 v L) (hu : OI E W h0 h1 u l) (hlo : lo ≤ h0) (hh1 : h1 ≤ W.heap.size) (hh0 : h0 ≤ W.heap.size)
    (hx : a.eval x = .slice (some ⟨W.heap.size, 0, none⟩) 1 1) (hn : L.length < 1000000) (hb : Below lo w0 W)
    (h : ∀ v' w', OS T E w' lo w'.heap.size v' (L ++ [l]) → Below lo w0 w' → K (a.put o.dst v') w') : o.wp P a w K Q := by
  subst hw
  obtain ⟨rows, hL, hown0, hhi, hr, hp⟩ := hacc
  have hone : u.oneCell' = true := by
    obtain ⟨A, c, rfl, _⟩ := hu.ri
    rfl
  obtain ⟨g, hg0, hg1, hut⟩ : ∃ g, h0 ≤ g ∧ (l ≠ [] → g < h1) ∧ OI E W g (g + 1) u l := by
    by_cases hl : l = []
    · subst hl
      exact ⟨h0, Nat.le_refl _, fun h => absurd rfl h, hu.empty⟩
    · obtain ⟨g, h2, h3, h4⟩ := hu.tight hl
      exact ⟨g, h2, fun _ => h3, h4⟩
  have hlo2 : lo ≤ W.heap.size := by omega
  have hown : (W.alloc (.cells #[u] T)).ownsRow lo T 1 v L.length (rows.map (·.u)) := World.ownsRow.alloc hown0 _
  have hcl : lo ≤ (W.alloc (.cells #[u] T)).heap.size := by simp; omega
  refine wp_append_own _ s x t ho lo T i (.slice none 0 0) 1 24 ht hi hz0 hz1 hz2 rfl (by decide) v L.length (rows.map (·.u)) hs hown ⟨W.heap.size, 0, none⟩ 1 1 [u] hx rfl ?_ ?_ (by unfold maxLen; omega) (by omega) hcl ?_
  · intro j y hj
    match j, hj with
    | 0, hj => simp at hj; subst hj; simp [Addr.add]
    | j + 1, hj => simp at hj
  · intro y hy
    simp at hy
    subst hy
    exact hone
  · intro v' w' h2 h3 _
    have hsz : W.heap.size ≤ w'.heap.size := Nat.le_trans (by simp) h3.size
    have hkeep : ∀ k, k < W.heap.size → v.ownBlock ≠ some k → w'.heap[k]? = W.heap[k]? := fun k hk hne => by
      rw [h3.block k (by simp; omega) (fun e => hne e.symm)]
      exact heap_alloc_old W _ hk
    have hrow : ∀ r : Rw, RwOK E W lo W.heap.size r → RwOK E w' lo w'.heap.size r := by
      intro r hr1
      refine ⟨?_, fun hl => by have := hr1.2 hl; omega⟩
      by_cases hl : r.l = []
      · have h4 := hr1.1
        rw [hl] at h4 ⊢
        exact h4.empty_far
      · have hne := OS.apart (lo2 := 0) (hi2 := 0) hTE hown0 hr1.1 hl
        rcases hr1.1 with ⟨h4, _⟩ | ⟨g', c, he, h5, h6, hrw⟩
        · exact absurd h4 hl
        · obtain rfl : g' = r.g := by omega
          obtain ⟨_, h12, h7, h8, cur, h9, h10, h11⟩ := row_parts hrw
          exact .inr ⟨r.g, c, he, h5, h6, hrw.1, .inr ⟨r.g, c, cur, rfl, Nat.le_refl _, by rw [hkeep r.g h12 hne]; exact h9, h7, h8, h10, h11⟩⟩
    refine h v' w' ⟨rows ++ [⟨u, g, l⟩], by simp [hL], ?_, fun k hk => (World.ownsRow.lt h2 k hk).2, fun r hm => ?_, ?_⟩ ((hb.alloc hlo2 _).grown h3 hcl (fun k hk => ((World.ownsRow.lt hown) k hk).1))
    · rw [List.length_append, List.map_append]
      exact h2
    · rcases List.mem_append.1 hm with hm | hm
      · exact hrow r ⟨(hr r hm).1, fun hl => by have := (hr r hm).2 hl; omega⟩
      · simp only [List.mem_singleton] at hm
        subst hm
        exact hrow _ ⟨hut, fun hl => by have := hg1 hl; simp only; omega⟩
    · refine List.pairwise_append.2 ⟨hp, List.pairwise_singleton _ _, fun r hm r2 hm2 hl _ => ?_⟩
      simp only [List.mem_singleton] at hm2
      subst hm2
      have := (hr r hm).2 hl
      simp only
      omega
theorem wpList_pushS {P : Program} {w : World} {ops : Array Oper} {rest : List Oper} {o : Oper} {a : Act} {Q : Exit → Act → World → Prop} (hgd : o.guard = none) (s x : Operand) (t : TypeId)
    (ho : o.op = .call { callee := .builtin .append, args := #[s, x], argTypes := #[t, t] }) (T E : TypeId) (hTE : T ≠ E) (i : TypeInfo) (ht : P.underlying t = some (.slice T)) (hi : P.info? T = some i)
    (hz0 : i.zero = some (.slice none 0 0)) (hz1 : i.size = 1) (hz2 : i.bytes = 24) (W w0 : World) (lo h0 h1 : Nat) (v u : Value) (L : List (List Int)) (l : List Int)
    (hw : w = W.alloc (.cells #[u] T)) (hs : a.eval s = v) (hacc : OS T E W lo h0 v L) (hu : OI E W h0 h1 u l) (hlo : lo ≤ h0) (hh1 : h1 ≤ W.heap.size) (hh0 : h0 ≤ W.heap.size)
    (hx : a.eval x = .slice (some ⟨W.heap.size, 0, none⟩) 1 1) (hn : L.length < 1000000) (hb : Below lo w0 W)
    (h : ∀ v' w', OS T E w' lo w'.heap.size v' (L ++ [l]) → Below lo w0 w' → wpList P ops Q rest (a.put o.dst v') w') : wpList P ops Q (o :: rest) a w :=
  wpList_plain hgd fun _ hK => wp_pushS s x t ho T E hTE i ht hi hz0 hz1 hz2 W w0 lo h0 h1 v u L l hw hs hacc hu hlo hh1 hh0 hx hn hb fun v' w' h2 h3 => hK _ _ (h v' w' h2 h3)
theorem step_pushS {P : Program} {w : World} {ops : Array Oper} {o : Oper} {a : Act} {K : Act → World → Prop} {Q : Exit → Act → World → Prop} {R : Prop} (hgd : o.guard = none) (s x : Operand) (t : TypeId)
    (ho : o.op = .call { callee := .builtin .append, args := #[s, x], argTypes := #[t, t] }) (T E : TypeId) (hTE : T ≠ E) (i : TypeInfo) (ht : P.underlying t = some (.slice T)) (hi : P.info? T = some i)
    (hz0 : i.zero = some (.slice none 0 0)) (hz1 : i.size = 1) (hz2 : i.bytes = 24) (W w0 : World) (lo h0 h1 : Nat) (v u : Value) (L : List (List Int)) (l : List Int)
    (hw : w = W.alloc (.cells #[u] T)) (hs : a.eval s = v) (hacc : OS T E W lo h0 v L) (hu : OI E W h0 h1 u l) (hlo : lo ≤ h0) (hh1 : h1 ≤ W.heap.size) (hh0 : h0 ≤ W.heap.size)
    (hx : a.eval x = .slice (some ⟨W.heap.size, 0, none⟩) 1 1) (hn : L.length < 1000000) (hb : Below lo w0 W)
    (h : ∀ v' w', OS T E w' lo w'.heap.size v' (L ++ [l]) → Below lo w0 w' → K (a.put o.dst v') w') : if Region.wanted o (yielded ops a.tmps) = true then Oper.wp P o a w K Q else R := by
  rw [if_pos (show Region.wanted o (yielded ops a.tmps) = true by simp [Region.wanted, hgd])]
  exact wp_pushS s x t ho T E hTE i ht hi hz0 hz1 hz2 W w0 lo h0 h1 v u L l hw hs hacc hu hlo hh1 hh0 hx hn hb h
end
end Go.Proofs.Yteoggoopfjkdkaa
