/-
  A slice of rows of ints and a slice of ints that are gathered side by side.
-/
import Derived.Test.YtgkpdlicgllcoaaWordsSS
import Derived.Test.YtgkpdlicgllcoaaPr
namespace Go.Proofs.Ytgkpdlicgllcoaa
open Go.RowKit Go.Maps
set_option maxRecDepth 100000
set_option linter.unusedVariables false

/-- Rows and a slice of ints, side by side. -/
def PrS (T : TypeId) (w : World) (lo : Nat) (u v : Value) (A : List (List Int)) (B : List Int) : Prop :=
  ∃ rows : List Rw, rows.map (·.l) = A ∧ w.ownsRow lo T 1 u A.length (rows.map (·.u)) ∧ (∀ r ∈ rows, RwOK 3 w lo w.heap.size r) ∧ (rows.Pairwise fun a b => a.l ≠ [] → b.l ≠ [] → a.g ≠ b.g) ∧
    w.ownsRow lo 3 1 v B.length (ics B) ∧ ∀ r ∈ rows, r.l ≠ [] → v.ownBlock ≠ some r.g
theorem PrS.nil (T : TypeId) (w : World) (lo : Nat) : PrS T w lo (.slice none 0 0) (.slice none 0 0) [] [] :=
  ⟨[], rfl, World.ownsRow_nil _ _ _ _, fun r hm => by simp at hm, List.Pairwise.nil, World.ownsRow_nil _ _ _ _, fun r hm => by simp at hm⟩
theorem PrS.os {T : TypeId} {w : World} {lo : Nat} {u v : Value} {A : List (List Int)} {B : List Int} (h : PrS T w lo u v A B) : OS T 3 w lo w.heap.size u A := by
  obtain ⟨rows, hL, hown, hr, hp, _, _⟩ := h
  exact ⟨rows, hL, hown, fun k hk => (World.ownsRow.lt hown k hk).2, hr, hp⟩
theorem PrS.oi {T : TypeId} {w : World} {lo : Nat} {u v : Value} {A : List (List Int)} {B : List Int} (h : PrS T w lo u v A B) : OI 3 w lo w.heap.size v B := by
  obtain ⟨rows, _, _, _, _, hz, _⟩ := h
  exact OI.of_row hz
/-- What lies below, or is written beside it, is nothing to it. -/
theorem PrS.far {T : TypeId} {w w' : World} {lo a b : Nat} {u v : Value} {A : List (List Int)} {B : List Int} (h : PrS T w lo u v A B) (hg : Wr a b w w') (hne : b ≤ lo ∨ w.heap.size ≤ a) : PrS T w' lo u v A B := by
  obtain ⟨rows, hL, hown, hr, hp, hz, hd⟩ := h
  refine ⟨rows, hL, own_far hown hg fun k hk => ?_, fun r hm => ?_, hp, own_far hz hg fun k hk => ?_, hd⟩
  · have := World.ownsRow.lt hown k hk
    omega
  · have h1 := (hr r hm).far hg fun hl => by have := (hr r hm).2 hl; omega
    exact ⟨h1.1, fun hl => by have := h1.2 hl; have := hg.size; omega⟩
  · have := World.ownsRow.lt hz k hk
    omega
theorem PrS.step {T : TypeId} {w w' : World} {lo : Nat} {u v : Value} {A : List (List Int)} {B : List Int} (h : PrS T w lo u v A B) (hb : Below w.heap.size w w') : PrS T w' lo u v A B :=
  h.far (Wr.of_below hb w.heap.size w.heap.size) (.inr (Nat.le_refl _))
theorem PrS.drew {T : TypeId} {w : World} {lo : Nat} {u v : Value} {A : List (List Int)} {B : List Int} (h : PrS T w lo u v A B) : PrS T w.drew lo u v A B := h
/-- Rows of unlike types lie in blocks of their own. -/
theorem own_apart {T E : TypeId} (hTE : T ≠ E) {w : World} {lo lo' n m : Nat} {v z : Value} {xs ys : List Value} (h1 : w.ownsRow lo T 1 v n xs) (h2 : w.ownsRow lo' E 1 z m ys) : ∀ b, z.ownBlock = some b → v.ownBlock ≠ some b := by
  intro b hb he
  rcases h1.2 with ⟨rfl, _⟩ | ⟨g1, c1, cur1, rfl, _, hh1, _⟩
  · simp [Value.ownBlock] at he
  rcases h2.2 with ⟨rfl, _⟩ | ⟨g2, c2, cur2, rfl, _, hh2, _⟩
  · simp [Value.ownBlock] at hb
  simp only [Value.ownBlock, Option.some.injEq] at he hb
  subst he
  subst hb
  rw [hh1] at hh2
  injection hh2 with hh2
  injection hh2 with _ hh2
  exact hTE hh2
theorem wpList_pushSP {P : Program} {w : World} {ops : Array Oper} {rest : List Oper} {o : Oper} {a : Act} {Q : Exit → Act → World → Prop} (hgd : o.guard = none) (s x : Operand) (t : TypeId)
    (ho : o.op = .call { callee := .builtin .append, args := #[s, x], argTypes := #[t, t] }) (T : TypeId) (hTE : T ≠ 3) (i : TypeInfo) (ht : P.underlying t = some (.slice T)) (hi : P.info? T = some i)
    (hz0 : i.zero = some (.slice none 0 0)) (hz1 : i.size = 1) (hz2 : i.bytes = 24) (W0 W w0 : World) (lo : Nat) (v u z : Value) (A : List (List Int)) (B : List Int) (l : List Int)
    (hw : w = W.alloc (.cells #[u] T)) (hs : a.eval s = v) (hacc : PrS T W0 lo v z A B) (hW : Below W0.heap.size W0 W) (hu : OI 3 W W0.heap.size W.heap.size u l) (hl : l ≠ []) (hlo : lo ≤ W0.heap.size)
    (hx : a.eval x = .slice (some ⟨W.heap.size, 0, none⟩) 1 1) (hn : A.length < 1000000) (hb : Below lo w0 W)
    (h : ∀ v' w', PrS T w' lo v' z (A ++ [l]) B → Below lo w0 w' → ((∀ k, k < W.heap.size → v.ownBlock ≠ some k → w'.heap[k]? = W.heap[k]?) ∧ W.heap.size ≤ w'.heap.size) → (v'.ownBlock = v.ownBlock ∨ ∃ b, v'.ownBlock = some b ∧ W.heap.size ≤ b) → wpList P ops Q rest (a.put o.dst v') w') : wpList P ops Q (o :: rest) a w := by
  subst hw
  have hzlt : ∀ b, z.ownBlock = some b → b < W0.heap.size := by
    obtain ⟨_, _, _, _, _, hz, _⟩ := hacc
    exact fun b hb => (World.ownsRow.lt hz b hb).2
  have hrlt : ∀ k, v.ownBlock = some k → lo ≤ k := by
    obtain ⟨_, _, hown, _, _, _, _⟩ := hacc
    exact fun k hk => (World.ownsRow.lt hown k hk).1
  have hold : ∃ rows : List Rw, rows.map (·.l) = A ∧ W.ownsRow lo T 1 v A.length (rows.map (·.u)) ∧ (∀ r ∈ rows, RwOK 3 W lo W0.heap.size r) ∧ (rows.Pairwise fun a b => a.l ≠ [] → b.l ≠ [] → a.g ≠ b.g) ∧
      W.ownsRow lo 3 1 z B.length (ics B) ∧ ∀ r ∈ rows, r.l ≠ [] → z.ownBlock ≠ some r.g := by
    obtain ⟨rows, hL, hown, hr, hp, hz, hd⟩ := hacc
    have hg := Wr.of_below hW W0.heap.size W0.heap.size
    refine ⟨rows, hL, own_far hown hg fun k hk => ?_, fun r hm => (hr r hm).far hg fun hl => ?_, hp, own_far hz hg fun k hk => ?_, hd⟩
    · have := World.ownsRow.lt hown k hk; omega
    · have := (hr r hm).2 hl; omega
    · have := World.ownsRow.lt hz k hk; omega
  obtain ⟨rows, hL, hown0, hr, hp, hz, hd⟩ := hold
  have hone : u.oneCell' = true := by
    obtain ⟨A, c, rfl, _⟩ := hu.ri
    rfl
  obtain ⟨g, hg0, hg1, hut⟩ := hu.tight hl
  have hsz0 : W0.heap.size ≤ W.heap.size := hW.size
  have hlo2 : lo ≤ W.heap.size := by omega
  have hown : (W.alloc (.cells #[u] T)).ownsRow lo T 1 v A.length (rows.map (·.u)) := World.ownsRow.alloc hown0 _
  have hza : (W.alloc (.cells #[u] T)).ownsRow lo 3 1 z B.length (ics B) := World.ownsRow.alloc hz _
  have hcl : lo ≤ (W.alloc (.cells #[u] T)).heap.size := by simp; omega
  refine wpList_append_own_at _ hgd s x t ho lo T i (.slice none 0 0) 1 24 ht hi hz0 hz1 hz2 rfl (by decide) v A.length (rows.map (·.u)) hs hown ⟨W.heap.size, 0, none⟩ 1 1 [u] hx rfl ?_ ?_ (by unfold maxLen; omega) (by omega) hcl ?_
  · intro j y hj
    match j, hj with
    | 0, hj => simp at hj; subst hj; rw [addr_add]; simp
    | j + 1, hj => simp at hj
  · intro y hy
    simp at hy
    subst hy
    exact hone
  · intro v' w' h2 h3 _ h4
    have hsz : W.heap.size ≤ w'.heap.size := Nat.le_trans (by simp) h3.size
    have hkeep : ∀ k, k < W.heap.size → v.ownBlock ≠ some k → w'.heap[k]? = W.heap[k]? := fun k hk hne => by
      rw [h3.block k (by simp; omega) (fun e => hne e.symm)]
      exact heap_alloc_old W _ hk
    have hrow : ∀ r : Rw, RwOK 3 W lo W.heap.size r → RwOK 3 w' lo w'.heap.size r := by
      intro r hr1
      refine ⟨?_, fun hl => by have := hr1.2 hl; omega⟩
      by_cases hl : r.l = []
      · have h4 := hr1.1
        rw [hl] at h4 ⊢
        exact h4.empty_far
      · have hne := OS.apart (lo2 := 0) (hi2 := 0) hTE hown0 hr1.1 hl
        rcases hr1.1 with ⟨h4, _⟩ | ⟨g', c, he, h5, h6, hrw⟩
        · exact absurd h4 hl
        · obtain rfl : g' = r.g := by omega
          obtain ⟨_, h12, h7, h8, cur, h9, h10, h11⟩ := row_parts hrw
          exact .inr ⟨r.g, c, he, h5, h6, hrw.1, .inr ⟨r.g, c, cur, rfl, Nat.le_refl _, by rw [hkeep r.g h12 hne]; exact h9, h7, h8, h10, h11⟩⟩
    refine h v' w' ⟨rows ++ [⟨u, g, l⟩], by simp [hL], ?_, fun r hm => ?_, ?_, ?_, fun r hm hrl => ?_⟩ ((hb.alloc hlo2 _).grown h3 hcl (fun k hk => ((World.ownsRow.lt hown) k hk).1)) ⟨hkeep, hsz⟩ ?_
    · rw [List.length_append, List.map_append]
      exact h2
    · rcases List.mem_append.1 hm with hm | hm
      · exact hrow r ⟨(hr r hm).1, fun hl => by have := (hr r hm).2 hl; omega⟩
      · simp only [List.mem_singleton] at hm
        subst hm
        exact hrow _ ⟨hut, fun hl => by simp only; omega⟩
    · refine List.pairwise_append.2 ⟨hp, List.pairwise_singleton _ _, fun r hm r2 hm2 hl _ => ?_⟩
      simp only [List.mem_singleton] at hm2
      subst hm2
      have := (hr r hm).2 hl
      simp only
      omega
    · exact ownsRow_grown8 hza h3 (fun b hb e => own_apart hTE hown hza b hb e.symm)
    · rcases List.mem_append.1 hm with hm | hm
      · exact hd r hm hrl
      · simp only [List.mem_singleton] at hm
        subst hm
        intro he
        have := hzlt _ he
        simp only at this
        omega
    · rcases h4 with h4 | h4
      · exact .inl h4
      · exact .inr ⟨_, h4, by simp⟩
theorem wpList_pushIP {P : Program} {w : World} {ops : Array Oper} {rest : List Oper} {o : Oper} {a : Act} {Q : Exit → Act → World → Prop} (hgd : o.guard = none) (s x : Operand) (t : TypeId)
    (ho : o.op = .call { callee := .builtin .append, args := #[s, x], argTypes := #[t, t] }) (T : TypeId) (hTE : T ≠ 3) (i : TypeInfo) (ht : P.underlying t = some (.slice 3)) (hi : P.info? 3 = some i)
    (hz0 : i.zero = some (.int .i64 0)) (hz1 : i.size = 1) (hz2 : i.bytes = 8) (W w0 : World) (lo : Nat) (u v : Value) (A : List (List Int)) (B : List Int) (y : Int)
    (hw : w = W.alloc (.cells #[.int .i64 y] 3)) (hs : a.eval s = v) (hacc : PrS T W lo u v A B) (hx : a.eval x = .slice (some ⟨W.heap.size, 0, none⟩) 1 1) (hn : B.length < 1000000000) (hlo : lo ≤ W.heap.size) (hb : Below lo w0 W)
    (h : ∀ v' w', PrS T w' lo u v' A (B ++ [y]) → Below lo w0 w' → wpList P ops Q rest (a.put o.dst v') w') : wpList P ops Q (o :: rest) a w := by
  obtain ⟨rows, hL, hown, hr, hp, hz, hd⟩ := hacc
  refine wpList_pushAt8 hgd s x t ho 3 i ht hi hz0 hz1 hz2 W lo v B.length B y hw hs hz hx hn hlo ?_
  intro v' w' h1 h2 h4
  have hwr : ∀ r : Rw, r.l ≠ [] → v.ownBlock ≠ some r.g → RwOK 3 W lo W.heap.size r → RwOK 3 w' lo w'.heap.size r := by
    intro r hl hne hr1
    refine ⟨?_, fun hl => by have := hr1.2 hl; have := h2.size; omega⟩
    rcases hr1.1 with ⟨h4, _⟩ | ⟨g', c, he, h5, h6, hrw⟩
    · exact absurd h4 hl
    · obtain rfl : g' = r.g := by omega
      obtain ⟨_, h12, h7, h8, cur, h9, h10, h11⟩ := row_parts hrw
      exact .inr ⟨r.g, c, he, h5, h6, hrw.1, .inr ⟨r.g, c, cur, rfl, Nat.le_refl _, by rw [h2.block r.g h12 (fun e => hne e.symm)]; exact h9, h7, h8, h10, h11⟩⟩
  refine h v' w' ⟨rows, hL, ownsRow_grown8 hown h2 (fun b hb e => own_apart hTE hown hz b e.symm hb), fun r hm => ?_, hp, by rw [List.length_append]; exact h1, fun r hm hl he => ?_⟩ (hb.trans (grown_below h2 hlo fun k hk => (World.ownsRow.lt hz k hk).1))
  · by_cases hl : r.l = []
    · refine ⟨?_, fun h => absurd hl h⟩
      have h5 := (hr r hm).1
      rw [hl] at h5 ⊢
      exact h5.empty_far
    · exact hwr r hl (hd r hm hl) (hr r hm)
  · rcases h4 with e | ⟨b, e, hb2⟩
    · rw [e] at he
      exact hd r hm hl he
    · rw [e] at he
      injection he with he
      have := (hr r hm).2 hl
      omega
end Go.Proofs.Ytgkpdlicgllcoaa
