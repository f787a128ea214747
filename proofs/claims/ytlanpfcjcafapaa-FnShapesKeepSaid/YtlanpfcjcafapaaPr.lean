/-
  Two lists of ints that are gathered side by side.
-/
import Derived.Test.YtlanpfcjcafapaaAcc
import Derived.Test.YtlanpfcjcafapaaOne
import Derived.Maps.AppendAt
namespace Go.Proofs.Ytlanpfcjcafapaa
open Go.RowKit Go.Maps
set_option maxRecDepth 100000
set_option linter.unusedVariables false

theorem wpList_pushAt8 {P : Program} {w : World} {ops : Array Oper} {rest : List Oper} {o : Oper} {a : Act} {Q : Exit → Act → World → Prop} (hgd : o.guard = none) (s x : Operand) (t : TypeId)
    (ho : o.op = .call { callee := .builtin .append, args := #[s, x], argTypes := #[t, t] }) (E : TypeId) (i : TypeInfo) (ht : P.underlying t = some (.slice E)) (hi : P.info? E = some i)
    (hz0 : i.zero = some (.int .i64 0)) (hz1 : i.size = 1) (hz2 : i.bytes = 8) (W : World) (lo : Nat) (v : Value) (n : Nat) (l : List Int) (y : Int)
    (hw : w = W.alloc (.cells #[.int .i64 y] E)) (hs : a.eval s = v) (hacc : W.ownsRow lo E 1 v n (ics l)) (hx : a.eval x = .slice (some ⟨W.heap.size, 0, none⟩) 1 1) (hn : n < 1000000000) (hlo : lo ≤ W.heap.size)
    (h : ∀ v' w', w'.ownsRow lo E 1 v' (n + 1) (ics (l ++ [y])) → W.grownBy w' v.ownBlock → (v'.ownBlock = v.ownBlock ∨ ∃ b, v'.ownBlock = some b ∧ W.heap.size ≤ b) → wpList P ops Q rest (a.put o.dst v') w') : wpList P ops Q (o :: rest) a w := by
  subst hw
  have hown : (W.alloc (.cells #[.int .i64 y] E)).ownsRow lo E 1 v n (ics l) := World.ownsRow.alloc hacc _
  have hcl : lo ≤ (W.alloc (.cells #[.int .i64 y] E)).heap.size := by simp; omega
  refine wpList_append_own_at _ hgd s x t ho lo E i (.int .i64 0) 1 8 ht hi hz0 hz1 hz2 rfl (by decide) v n (ics l) hs hown ⟨W.heap.size, 0, none⟩ 1 1 [.int .i64 y] hx rfl ?_ ?_ (by unfold maxLen; omega) (by omega) hcl ?_
  · intro j u hj
    match j, hj with
    | 0, hj =>
      simp at hj
      subst hj
      rw [addr_add]
      simp
  · intro u hu
    simp at hu
    subst hu
    rfl
  · intro v' w' h1 h2 _ h4
    refine h v' w' ?_ ((World.grownBy_alloc W _ _).trans h2) ?_
    · have e : ics (l ++ [y]) = ics l ++ [.int .i64 y] := by simp [ics]
      rw [e]
      exact h1
    · rcases h4 with h4 | h4
      · exact .inl h4
      · exact .inr ⟨_, h4, by simp⟩
theorem ownsRow_grown8 {w w' : World} {lo n : Nat} {E : TypeId} {v : Value} {xs : List Value} {row : Option Nat} (h : w.ownsRow lo E 1 v n xs) (hg : w.grownBy w' row) (hne : ∀ b, v.ownBlock = some b → some b ≠ row) : w'.ownsRow lo E 1 v n xs := by
  rcases h.2 with ⟨hv, hr⟩ | ⟨g, c, cur, hv, h1, h2, rest⟩
  · exact ⟨h.1, .inl ⟨hv, hr⟩⟩
  · refine ⟨h.1, .inr ⟨g, c, cur, hv, h1, ?_, rest⟩⟩
    have hlt : g < w.heap.size := (Array.getElem?_eq_some_iff.1 h2).1
    rw [hg.block g hlt (hne g (by rw [hv]; rfl))]
    exact h2
/-- Two lists of ints that are gathered side by side. -/
structure Pr (w : World) (lo : Nat) (u v : Value) (A B : List Int) : Prop where
  fst : w.ownsRow lo 3 1 u A.length (ics A)
  snd : w.ownsRow lo 3 1 v B.length (ics B)
  ne : ∀ k, u.ownBlock = some k → v.ownBlock ≠ some k
theorem Pr.nil (w : World) (lo : Nat) : Pr w lo (.slice none 0 0) (.slice none 0 0) [] [] :=
  ⟨World.ownsRow_nil _ _ _ _, World.ownsRow_nil _ _ _ _, fun k hk => by simp [Value.ownBlock] at hk⟩
theorem Pr.put1 {w w' : World} {lo : Nat} {u v u' : Value} {A B : List Int} {x : Int} (h : Pr w lo u v A B) (hr : w'.ownsRow lo 3 1 u' (A.length + 1) (ics (A ++ [x]))) (hg : w.grownBy w' u.ownBlock)
    (hu : u'.ownBlock = u.ownBlock ∨ ∃ b, u'.ownBlock = some b ∧ w.heap.size ≤ b) : Pr w' lo u' v (A ++ [x]) B :=
  ⟨by rw [List.length_append]; exact hr, ownsRow_grown8 h.snd hg (fun b hb e => h.ne b e.symm hb), fun k hk hv => by
    rcases hu with e | ⟨b, e, hb⟩
    · rw [e] at hk
      exact h.ne k hk hv
    · rw [e] at hk
      injection hk with hk
      have := (World.ownsRow.lt h.snd k hv).2
      omega⟩
theorem Pr.put2 {w w' : World} {lo : Nat} {u v v' : Value} {A B : List Int} {x : Int} (h : Pr w lo u v A B) (hr : w'.ownsRow lo 3 1 v' (B.length + 1) (ics (B ++ [x]))) (hg : w.grownBy w' v.ownBlock)
    (hu : v'.ownBlock = v.ownBlock ∨ ∃ b, v'.ownBlock = some b ∧ w.heap.size ≤ b) : Pr w' lo u v' A (B ++ [x]) :=
  ⟨ownsRow_grown8 h.fst hg (fun b hb e => h.ne b hb e.symm), by rw [List.length_append]; exact hr, fun k hk hv => by
    rcases hu with e | ⟨b, e, hb⟩
    · rw [e] at hv
      exact h.ne k hk hv
    · rw [e] at hv
      injection hv with hv
      have := (World.ownsRow.lt h.fst k hk).2
      omega⟩
theorem Pr.drewN {w : World} {lo : Nat} {u v : Value} {A B : List Int} (h : Pr w lo u v A B) (m : Nat) : Pr (w.drewN m) lo u v A B := ⟨h.fst, h.snd, h.ne⟩
theorem Pr.own1 {w : World} {lo : Nat} {u v : Value} {A B : List Int} (h : Pr w lo u v A B) : OI 3 w lo w.heap.size u A := OI.of_row h.fst
theorem Pr.own2 {w : World} {lo : Nat} {u v : Value} {A B : List Int} (h : Pr w lo u v A B) : OI 3 w lo w.heap.size v B := OI.of_row h.snd
theorem grown_below {w w' : World} {row : Option Nat} {B : Nat} (h : w.grownBy w' row) (hB : B ≤ w.heap.size) (hr : ∀ k, row = some k → B ≤ k) : Below B w w' := (Below.refl B w).grown h hB hr
end Go.Proofs.Ytlanpfcjcafapaa
