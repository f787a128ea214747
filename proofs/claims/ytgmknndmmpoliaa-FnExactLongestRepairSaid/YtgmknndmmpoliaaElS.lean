/-
  Slices of slices of ints that a call of chapter 7 hands back: words.
-/
import Derived.Test.YtgmknndmmpoliaaElB
import Derived.Test.YtgmknndmmpoliaaIntSS
namespace Go.Proofs.Ytgmknndmmpoliaa
open Go.RowKit
set_option maxRecDepth 100000
set_option linter.unusedVariables false

theorem elInts_info : (Try.prog.info? 22).map (fun i => (i.zero, i.size, i.bytes)) = some (some (.slice none 0 0), 1, 24) := by kernel_rfl
/-- What a function of lists and a bool leaves. -/
def RetSB (w : World) (L : List (List Int)) (b : Bool) (e : Ending) (w' : World) : Prop := ∃ u, e = .returned (.tuple #[u, .bool b]) ∧ OS 22 3 w' w.heap.size w'.heap.size u L ∧ Below w.heap.size w w'
/-- The literal of one row. -/
theorem OS.lit1 {T E : TypeId} {w : World} {lo hi g : Nat} {u : Value} {l : List Int} (hg : g = w.heap.size) (hu : OI E w lo hi u l) (hlo : lo ≤ g) (hhi : hi ≤ g) :
    OS T E (w.alloc (.cells #[u] T)) lo (g + 1) (.slice (some ⟨g, 0, none⟩) 1 1) [l] := by
  subst hg
  have hb : Below w.heap.size w (w.alloc (.cells #[u] T)) := (Below.refl _ _).alloc (Nat.le_refl _) _
  obtain ⟨g1, hg1, hut⟩ : ∃ g1, (l ≠ [] → lo ≤ g1 ∧ g1 < hi) ∧ OI E w g1 (g1 + 1) u l := by
    by_cases hl : l = []
    · subst hl
      exact ⟨0, fun h => absurd rfl h, hu.empty⟩
    · obtain ⟨g1, h2, h3, h4⟩ := hu.tight hl
      exact ⟨g1, fun _ => ⟨h2, h3⟩, h4⟩
  refine ⟨[⟨u, g1, l⟩], rfl, ⟨rfl, .inr ⟨_, 1, _, rfl, hlo, heap_alloc_new w _, Nat.le_refl _, by unfold maxLen; omega, rfl, rfl⟩⟩, fun k hk => by simp [Value.ownBlock] at hk; omega, fun r hm => ?_, List.pairwise_singleton _ _⟩
  simp only [List.mem_singleton] at hm
  subst hm
  exact ⟨hut.step hb, fun hl => by have := hg1 hl; simp only; omega⟩
theorem elRun_call {P : Program} {w : World} {ρ : Operand → Value} {o : Oper} {f : FuncId} {fn : Func} {args : Array Operand} {ats : Array TypeId} (hop : o.op = .call { callee := .value (.func f), args, argTypes := ats })
    (hρ : ρ (.func f) = .func (.func f) #[] #[]) (hf : P.funcs[f]? = some fn) (hname : (fn.name == "runtime.NumGoroutine") = false) (hb : fn.body.isNone = false) : (execOp ρ o).run P w = .ok (.enter f (args.map ρ)) w := by
  have h1 : ¬ fn.name = "runtime.NumGoroutine" := by simpa using hname
  have h2 : ¬ fn.body = none := by cases hx : fn.body <;> simp_all
  unfold execOp
  simp [hop, resolve, Deferred.ofValue, invoke, callFunc, hf, h1, h2, hρ]
/-- A call that gives a list, as one step of a region that draws. -/
theorem step_callL {P : Program} {ops : Array Oper} {o : Oper} {a : Act} {w : World} {K : Act → World → Prop} {Q : Exit → Act → World → Prop} {R : Prop} (hgd : o.guard = none) (f : FuncId) (args : Array Value) (hr : (execOp a.eval o).run P w = .ok (.enter f args) w)
    (E : TypeId) (l : List Int) (hc : Calls P f args w (RetL E w l)) (h : ∀ v w', OI E w' w.heap.size w'.heap.size v l → Below w.heap.size w w' → K (a.put o.dst v) w') :
    if Region.wanted o (yielded ops a.tmps) = true then Oper.wp P o a w K Q else R := by
  rw [if_pos (show Region.wanted o (yielded ops a.tmps) = true by simp [Region.wanted, hgd])]
  unfold Oper.wp
  rw [hr, Oper.upon_enter]
  refine hc.mono ?_
  rintro e w' ⟨u, rfl, ho, hb⟩
  exact h u w' ho hb
theorem total_el (L : List (List Int)) (m : Nat) (h : ∀ l ∈ L, l.length ≤ m) : total L ≤ L.length * m := by
  induction L with
  | nil => simp [total]
  | cons l L ih =>
    have h1 := h l (by simp)
    have h2 := ih fun x hx => h x (by simp [hx])
    simp only [total, List.length_cons, Nat.succ_mul]
    omega
end Go.Proofs.Ytgmknndmmpoliaa
