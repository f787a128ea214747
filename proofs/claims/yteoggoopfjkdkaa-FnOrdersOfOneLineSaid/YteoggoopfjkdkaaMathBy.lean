/-
  Starts of a line: the model's own state, and that it chooses as the program does.
-/
import Derived.Test.YteoggoopfjkdkaaModel
namespace Go.Proofs.Yteoggoopfjkdkaa
open Go.RowKit
set_option maxRecDepth 100000
set_option linter.unusedVariables false

/-- The rank of a job: its class where classes count, its age in steps where these do. -/
def rkG (cl : Bool) (st T : Int) (y : Jb) : Int := (if cl then y.c else 0) + (if 0 < st then (T - y.t) / st else 0)
theorem rkG_0 : rkG false 0 = rk0 := by funext T y; simp [rkG, rk0]
theorem rkG_C : rkG true 0 = rkC := by funext T y; simp [rkG, rkC]
theorem rkG_A {st : Int} (h : 1 ≤ st) : rkG true st = rkA st := by
  funext T y
  have : 0 < st := by omega
  simp [rkG, rkA, agedC, this]
theorem rkG_bd {cl : Bool} {st T : Int} {y : Jb} (hs : 0 ≤ st) (ht : y.t ≤ T) (h0 : 0 ≤ y.t) (hT : T ≤ 10000) (hc : 0 ≤ y.c ∧ y.c ≤ 7) : 0 ≤ rkG cl st T y ∧ rkG cl st T y ≤ 20000 := by
  unfold rkG
  have h1 : 0 ≤ (if cl then y.c else 0) ∧ (if cl then y.c else 0) ≤ 7 := by split <;> omega
  have h2 : 0 ≤ (if 0 < st then (T - y.t) / st else 0) ∧ (if 0 < st then (T - y.t) / st else 0) ≤ 10000 := by
    split
    · have := Int.ediv_nonneg (a := T - y.t) (b := st) (by omega) (by omega)
      have := Int.ediv_le_self (a := T - y.t) st (by omega)
      omega
    · omega
  omega
theorem bestOf_congr {w w' : Nat → Bool} {r r' : Nat → Int} {m : Nat} (h : ∀ i, i < m → w i = w' i) (hr : ∀ i, i < m → w i = true → r i = r' i) : bestOf w r m = bestOf w' r' m := by
  induction m with
  | zero => rfl
  | succ m ih =>
    have e := ih (fun i hi => h i (by omega)) (fun i hi => hr i (by omega))
    rw [bestOf, bestOf, ← e, ← h m (by omega)]
    cases hb : bestOf w r m with
    | none => rfl
    | some b =>
      simp only
      cases hw : w m
      · rfl
      · obtain ⟨h1, h2⟩ := bestOf_some hb
        rw [hr b (by omega) h2, hr m (by omega) hw]
/-- The model's starts beside the program's. -/
structure Mod (js l : List Jb) (sp out : List Int) : Prop where
  left : LeftOf js l
  lsp : sp.length = js.length
  lout : out.length = js.length
  at_ : ∀ k, k < js.length → (l[k]! = js[k]! ∧ sp.getD k 0 = -1) ∨ (l[k]! = jbZ ∧ sp.getD k 0 = out.getD k 0 ∧ 0 ≤ out.getD k 0)
theorem Mod.start (js : List Jb) : Mod js js (List.replicate js.length (-1)) (List.replicate js.length 0) :=
  ⟨LeftOf.refl _, by simp, by simp, fun k hk => .inl ⟨rfl, by simp [hk]⟩⟩
theorem getD_set (l : List Int) (k j : Nat) (x : Int) (hk : k < l.length) : (l.set k x).getD j 0 = if j = k then x else l.getD j 0 := by
  simp only [List.getD_eq_getElem?_getD, List.getElem?_set]
  by_cases e : k = j
  · subst e; simp [hk]
  · simp [e, Ne.symm e]
theorem Mod.put {js l : List Jb} {sp out : List Int} (h : Mod js l sp out) (k : Nat) (hk : k < js.length) (T : Int) (hT : 0 ≤ T) : Mod js (l.set k jbZ) (sp.set k T) (out.set k T) := by
  refine ⟨h.left.set k hk, by rw [List.length_set]; exact h.lsp, by rw [List.length_set]; exact h.lout, fun j hj => ?_⟩
  rw [set_get l k jbZ j (by rw [h.left.1]; exact hk), getD_set sp k j T (by rw [h.lsp]; exact hk), getD_set out k j T (by rw [h.lout]; exact hk)]
  by_cases e : j = k
  · rw [if_pos e, if_pos e, if_pos e]
    exact .inr ⟨rfl, rfl, hT⟩
  · rw [if_neg e, if_neg e, if_neg e]
    exact h.at_ j hj
theorem isJ_in {js : List Jb} (hA : areJb js = true) {k : Nat} (hk : k < js.length) : isJ js[k]! = true := by
  rw [getElem!_pos js k hk]
  exact isJ_ok ((areJb_in hA).2.1 _ (List.getElem_mem hk)).2.2.2.2.1
/-- A job waits there as here. -/
theorem Mod.waits {js l : List Jb} {sp out : List Int} (h : Mod js l sp out) (hA : areJb js = true) (T : Int) {k : Nat} (hk : k < js.length) : isW T l[k]! = wtB js sp T k := by
  unfold isW wtB
  rcases h.at_ k hk with ⟨h1, h2⟩ | ⟨h1, h2, h3⟩
  · rw [h1, h2, isJ_in hA hk]; rfl
  · rw [h1, h2, isJ_zero, decide_eq_false (p := out.getD k 0 < 0) (by omega)]; rfl
theorem Mod.job {js l : List Jb} {sp out : List Int} (h : Mod js l sp out) (hA : areJb js = true) {k : Nat} (hk : k < js.length) : isJ l[k]! = decide (sp.getD k 0 < 0) := by
  rcases h.at_ k hk with ⟨h1, h2⟩ | ⟨h1, h2, h3⟩
  · rw [h1, h2, isJ_in hA hk]; rfl
  · rw [h1, h2, isJ_zero, decide_eq_false (by omega)]
theorem Mod.pick {js l : List Jb} {sp out : List Int} (h : Mod js l sp out) (hA : areJb js = true) (rk : Jb → Int) (T : Int) : pickOf rk T l = bestOf (wtB js sp T) (fun i => rk js[i]!) js.length := by
  unfold pickOf
  rw [h.left.1]
  refine bestOf_congr (fun i hi => h.waits hA T hi) (fun i hi hw => ?_)
  have h1 : isJ l[i]! = true := (isW_t.1 hw).1
  show rk l[i]! = rk js[i]!
  rw [h.left.is hi h1]
/-- All have begun. -/
theorem Mod.done {js l : List Jb} {sp out : List Int} (h : Mod js l sp out) (hA : areJb js = true) (h0 : cntJ l = 0) : sp = out := by
  apply List.ext_getElem?
  intro k
  by_cases hk : k < js.length
  · have h1 := cntJ_zero h0 k (by rw [h.left.1]; exact hk)
    have h2 : sp.getD k 0 = out.getD k 0 := by
      rcases h.at_ k hk with ⟨h3, _⟩ | ⟨_, h3, _⟩
      · rw [h3, isJ_in hA hk] at h1; cases h1
      · exact h3
    have a1 : k < sp.length := by rw [h.lsp]; exact hk
    have a2 : k < out.length := by rw [h.lout]; exact hk
    rw [List.getElem?_eq_getElem a1, List.getElem?_eq_getElem a2]
    simpa [List.getD_eq_getElem?_getD, List.getElem?_eq_getElem a1, List.getElem?_eq_getElem a2] using h2
  · rw [List.getElem?_eq_none (by rw [h.lsp]; omega), List.getElem?_eq_none (by rw [h.lout]; omega)]
theorem tick_at {js : List Jb} (hA : areJb js = true) {k : Nat} (hk : k < js.length) : 0 ≤ js[k]!.t ∧ js[k]!.t ≤ 1000 ∧ 0 ≤ js[k]!.c ∧ js[k]!.c ≤ 7 ∧ 1 ≤ js[k]!.l ∧ js[k]!.l ≤ 20 := by
  rw [getElem!_pos js k hk]
  have := (areJb_in hA).2.1 _ (List.getElem_mem hk)
  omega
theorem tick_mono {js : List Jb} (hA : areJb js = true) {i j : Nat} (hij : i ≤ j) (hj : j < js.length) : js[i]!.t ≤ js[j]!.t := by
  by_cases e : i = j
  · rw [e]; exact Int.le_refl _
  · have hp := (areJb_in hA).2.2
    rw [List.pairwise_iff_getElem] at hp
    have := hp i j (by omega) hj (by omega)
    rw [getElem!_pos js i (by omega), getElem!_pos js j hj]
    exact this
/-- The model goes on to the same tick. -/
theorem Mod.skip {js l : List Jb} {sp out : List Int} (h : Mod js l sp out) (hA : areJb js = true) (hp : 0 < cntJ l) (now done : Int) (hd : done ≠ js.length) :
    skipT js sp now done = tickOf now l ∧ (!(someB js sp now js.length || decide (done = js.length))) = !someB js sp now js.length := by
  refine ⟨?_, by rw [decide_eq_false hd, Bool.or_false]⟩
  obtain ⟨u, h1, h2, h3⟩ := cntJ_pos hp
  have hu : u < js.length := by rw [← h.left.1]; exact h1
  have e := tickOf_at (tick := now) h1 h2 h3
  have hlu := h.left.is hu h2
  have hsu : sp.getD u 0 < 0 := by have := h.job hA hu; rw [h2] at this; exact of_decide_eq_true this.symm
  have hnu : ∀ j, j < u → ¬ sp.getD j 0 < 0 := fun j hj => by
    have := h.job hA (k := j) (by omega)
    rw [h3 j hj] at this
    exact of_decide_eq_false this.symm
  rw [e, hlu]
  unfold skipT
  rw [decide_eq_false hd, Bool.or_false]
  cases hs : someB js sp now js.length
  · have hnw : ¬ js[u]!.t ≤ now := fun h9 => by
      have : someB js sp now js.length = true := someB_at hu (by unfold wtB; rw [decide_eq_true hsu, decide_eq_true h9]; rfl)
      rw [hs] at this; cases this
    rw [if_pos (show now < js[u]!.t by omega)]
    simp only [Bool.false_eq_true, if_false]
    exact leastT_is (fun i j hij hj => tick_mono hA hij hj) (fun i hi => (tick_at hA hi).2.1) hu hsu hnu
  · have hle : js[u]!.t ≤ now := by
      have hw : ∃ k, k < js.length ∧ wtB js sp now k = true := by
        have key : ∀ m, m ≤ js.length → someB js sp now m = true → ∃ k, k < js.length ∧ wtB js sp now k = true := by
          intro m
          induction m with
          | zero => intro _ h; cases h
          | succ m ih =>
            intro hm h
            rw [someB] at h
            cases hw : wtB js sp now m
            · rw [hw, Bool.or_false] at h; exact ih (by omega) h
            · exact ⟨m, by omega, hw⟩
        exact key _ (Nat.le_refl _) hs
      obtain ⟨k, hk, hw⟩ := hw
      simp only [wtB, Bool.and_eq_true, decide_eq_true_eq] at hw
      have huk : u ≤ k := by
        rcases Nat.lt_or_ge k u with h9 | h9
        · exact absurd hw.1 (hnu k h9)
        · exact h9
      have := tick_mono hA huk hk
      omega
    rw [if_neg (show ¬ now < js[u]!.t by omega)]
    simp
end Go.Proofs.Yteoggoopfjkdkaa
