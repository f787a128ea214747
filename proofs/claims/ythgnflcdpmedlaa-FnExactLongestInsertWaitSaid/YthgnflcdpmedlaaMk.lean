/-
  Blocks that are made in any order: what is known of them, and of the values that speak of them.
-/
import Derived.Test.YthgnflcdpmedlaaRowE
import Derived.Test.YthgnflcdpmedlaaTabl
namespace Go.Proofs.Ythgnflcdpmedlaa
open Go.RowKit Go.Conc
set_option maxRecDepth 100000
set_option linter.unusedVariables false

structure BW (wa : World) (ms : Nat → Bool) (C : (Nat → Bool) → Prop) (val : (Nat → Nat) → Nat → Value) (F : Nat → (Nat → Nat) → World → Prop) (D : Nat → Bool) (V : Nat → Value) (bl : Nat → Nat) (w : World) : Prop where
  bel : Below wa.heap.size wa w
  lo : ∀ i, ms i = true → D i = true → wa.heap.size ≤ bl i
  lt : ∀ i, ms i = true → D i = true → bl i < w.heap.size
  ne : ∀ i j, ms i = true → ms j = true → i ≠ j → D i = true → D j = true → bl i ≠ bl j
  cl : C D
  vals : ∀ i, D i = true → V i = val bl i
  facts : ∀ i, D i = true → F i bl w
section
variable {wa w w' : World} {ms : Nat → Bool} {C : (Nat → Bool) → Prop} {val : (Nat → Nat) → Nat → Value} {F : Nat → (Nat → Nat) → World → Prop} {D D' : Nat → Bool} {V : Nat → Value} {bl : Nat → Nat} {i : Nat}
theorem BW.start (hb : Below wa.heap.size wa w) (hc : C fun _ => false) (bl : Nat → Nat) (V : Nat → Value) : BW wa ms C val F (fun _ => false) V bl w :=
  ⟨hb, fun _ _ h => (nomatch h), fun _ _ h => (nomatch h), fun _ _ _ _ _ h => (nomatch h), hc, fun _ h => (nomatch h), fun _ h => (nomatch h)⟩
/-- A value that makes nothing. -/
theorem BW.pure (h : BW wa ms C val F D V bl w) (hD' : ∀ j, D' j = if j = i then true else D j) (hm : ms i = false) {v : Value} (hv : v = val bl i) (hf : F i bl w) (hc : C D') : BW wa ms C val F D' (fun j => if j = i then v else V j) bl w := by
  have old : ∀ j, ms j = true → D' j = true → D j = true := by
    intro j hj hd
    rw [hD'] at hd
    by_cases e : j = i
    · subst e; rw [hm] at hj; cases hj
    · rw [if_neg e] at hd; exact hd
  refine ⟨h.bel, fun j hj hd => h.lo j hj (old j hj hd), fun j hj hd => h.lt j hj (old j hj hd), fun j k hj hk hne hd hd2 => h.ne j k hj hk hne (old j hj hd) (old k hk hd2), hc, fun j hd => ?_, fun j hd => ?_⟩
  · by_cases e : j = i
    · subst e; rw [if_pos rfl]; exact hv
    · rw [hD', if_neg e] at hd; rw [if_neg e]; exact h.vals j hd
  · by_cases e : j = i
    · subst e; exact hf
    · rw [hD', if_neg e] at hd; exact h.facts j hd
/-- A value that makes a block. -/
theorem BW.mem (h : BW wa ms C val F D V bl w) (hD' : ∀ j, D' j = if j = i then true else D j) {b : Nat} (hb : w.heap.size ≤ b) (hb' : b < w'.heap.size) (hbel : Below w.heap.size w w')
    (hstep : ∀ j, F j bl w → F j bl w') (hst : ∀ j, j ≠ i → D j = true → val (up bl i b) j = val bl j ∧ (F j bl w' → F j (up bl i b) w'))
    {v : Value} (hv : v = val (up bl i b) i) (hf : F i (up bl i b) w') (hc : C D') : BW wa ms C val F D' (fun j => if j = i then v else V j) (up bl i b) w' := by
  have hs := h.bel.size
  have hs2 := hbel.size
  refine ⟨h.bel.trans (hbel.mono hs), fun j hj hd => ?_, fun j hj hd => ?_, fun j k hj hk hne hd hd2 => ?_, hc, fun j hd => ?_, fun j hd => ?_⟩
  · by_cases e : j = i
    · subst e; rw [up_same]; omega
    · rw [hD', if_neg e] at hd; rw [up_ne _ _ _ e]; exact h.lo j hj hd
  · by_cases e : j = i
    · subst e; rw [up_same]; exact hb'
    · rw [hD', if_neg e] at hd; rw [up_ne _ _ _ e]; have := h.lt j hj hd; omega
  · rw [hD'] at hd hd2
    by_cases e : j = i
    · subst e
      have e2 : k ≠ j := fun e => hne e.symm
      rw [if_neg e2] at hd2
      rw [up_same, up_ne _ _ _ e2]
      have := h.lt k hk hd2
      omega
    · rw [if_neg e] at hd
      rw [up_ne _ _ _ e]
      by_cases e2 : k = i
      · subst e2
        rw [up_same]
        have := h.lt j hj hd
        omega
      · rw [if_neg e2] at hd2
        rw [up_ne _ _ _ e2]
        exact h.ne j k hj hk hne hd hd2
  · by_cases e : j = i
    · subst e; rw [if_pos rfl]; exact hv
    · rw [hD', if_neg e] at hd; rw [if_neg e, (hst j e hd).1]; exact h.vals j hd
  · by_cases e : j = i
    · subst e; exact hf
    · rw [hD', if_neg e] at hd; exact (hst j e hd).2 (hstep j (h.facts j hd))
end
theorem ints_infoI : (Try.prog.info? 30).map (fun i => (i.zero, i.size, i.bytes)) = some (some (.slice none 0 0), 1, 24) := by kernel_rfl
theorem mkInts (n : Nat) (hn : n ≤ 1000) (w : World) : (Instr.makeSlice 30 (.int .i64 (n : Int)) (.int .i64 (n : Int))).run Try.prog w = .ok (.slice (some ⟨w.heap.size, 0, none⟩) n n) (w.alloc (.cells (madeCells #[.int .i64 0] n) 3)) :=
  run_make_row' (P := Try.prog) 30 3 (.int .i64 0) 8 Try.underlying30 int_info rfl .i64 .i64 n (by omega) (by omega) w
theorem mkRows (n : Nat) (hn : n ≤ 1000) (w : World) : (Instr.makeSlice 46 (.int .i64 (n : Int)) (.int .i64 (n : Int))).run Try.prog w = .ok (.slice (some ⟨w.heap.size, 0, none⟩) n n) (w.alloc (.cells (madeCells #[.slice none 0 0] n) 30)) :=
  run_make_row' (P := Try.prog) 46 30 (.slice none 0 0) 24 Try.underlying46 ints_infoI rfl .i64 .i64 n (by omega) (by omega) w
theorem madeRC (w : World) (n : Nat) (hn : n ≤ 1000) : RC (w.alloc (.cells (madeCells #[Value.int IntKind.i64 0] n) 3)) w.heap.size n (List.replicate n 0) := by
  have h := World.ownsRow_lit (base := w.heap.size) (e := 3) (size := 1) w (madeCells #[Value.int IntKind.i64 0] n) n (Nat.le_refl _) (by unfold maxLen; omega) (by rw [size_madeCells]; simp)
  rw [toList_madeCells_one] at h
  exact RC.of (by simpa [ics] using h) (by simp)
theorem madeA (v : Value) (n : Nat) : madeCells #[v] n = ((List.range n).map fun _ => v).toArray := by
  apply Array.ext'
  rw [toList_madeCells_one]
  apply List.ext_getElem (by simp)
  intro i h1 h2
  simp
theorem madeBK (w : World) (n : Nat) (v : Value) (t : TypeId) : BK (w.alloc (.cells (madeCells #[v] n) t)) w.heap.size t ((List.range n).map fun _ => v).toArray := by
  have := BK.made w t (madeCells #[v] n)
  rw [madeA] at this ⊢
  exact this
end Go.Proofs.Ythgnflcdpmedlaa
