/-
  Slots: the contracts of what a station does with one.
-/
import Derived.Test.YtehmhkbiofndaaaSlot
import Derived.Test.YtehmhkbiofndaaaMathWl
import Derived.Test.YtehmhkbiofndaaaRow5
import Derived.Deep.QuietTactic
import Derived.BigQuiet
import Derived.StillTailTactics
namespace Go.Proofs.Ytehmhkbiofndaaa
open Go.RowKit Go.Maps
set_option maxRecDepth 100000
set_option linter.unusedVariables false

/-- The ring and its messages, for the mathematics. -/
def swOf (x : Sr) (l : List Ms) : Sw where
  n := x.n.toNat
  len := l.length
  home := x.h
  fr := fun i => l[i]!.f.toNat
  to_ := fun i => l[i]!.o.toNat
  tk := fun i => l[i]!.t.toNat
theorem msAt {k : Int} {l : List Ms} (h : ∀ x ∈ l, MsIn k x) (i : Nat) (hi : i < l.length) : MsIn k l[i]! := by
  rw [getElem!_pos l i hi]
  exact h _ (List.getElem_mem _)
theorem swOk {x : Sr} {l : List Ms} (hin : 2 ≤ x.n ∧ x.n ≤ 12) (h : ∀ y ∈ l, MsIn x.n y) : (swOf x l).Ok := by
  refine ⟨by simp only [swOf]; omega, ?_, ?_, ?_⟩
  · intro i hi
    obtain ⟨_, _, h1, h2, _⟩ := msAt h i hi
    simp only [swOf]
    omega
  · intro i hi
    obtain ⟨_, _, _, _, h1, h2, _⟩ := msAt h i hi
    simp only [swOf]
    omega
  · intro i hi
    obtain ⟨_, _, h1, _, h2, _, h3⟩ := msAt h i hi
    simp only [swOf]
    omega
/-- A slot that holds c. -/
def slotV (l : List Ms) (c : Nat) : Value := if c = 0 then slV 0 0 0 else slV c l[c - 1]!.f l[c - 1]!.o
/-- What a message is known by in the map. -/
def mKey (l : List Ms) (i : Nat) : Lit := slKey ((i : Int) + 1) l[i]!.f l[i]!.o
/-- The map tells the ticks at which messages are filled. -/
structure MapIs (l : List Ms) (F : Nat → Int) (D : DataW Unit) : Prop where
  has : ∀ i, i < l.length → Maps.has D (mKey l i) = decide (0 ≤ F i)
  at_ : ∀ i, i < l.length → 0 ≤ F i → D.atKey (mKey l i) (.lit (.int .i64 0)) = .lit (.int .i64 (F i))
  size : Maps.size D = cntF F l.length
def updF (F : Nat → Int) (i : Nat) (t : Int) : Nat → Int := fun j => if j = i then t else F j
theorem cntF_upd {F : Nat → Int} {n i : Nat} {t : Int} (hi : i < n) (h0 : F i < 0) (h1 : 0 ≤ t) : cntF (updF F i t) n = cntF F n + 1 := by
  induction n with
  | zero => omega
  | succ n ih =>
    rw [cntF, cntF]
    by_cases e : i = n
    · subst e
      have h2 : cntF (updF F i t) i = cntF F i := by
        have key : ∀ m, m ≤ i → cntF (updF F i t) m = cntF F m := by
          intro m
          induction m with
          | zero => intro _; rfl
          | succ m ih2 =>
            intro hm
            rw [cntF, cntF, ih2 (by omega)]
            have : updF F i t m = F m := by unfold updF; rw [if_neg (by omega)]
            rw [this]
        exact key i (Nat.le_refl _)
      have h3 : updF F i t i = t := by simp [updF]
      rw [h2, h3, if_pos h1, if_neg (by omega)]
    · have h3 : updF F i t n = F n := by unfold updF; rw [if_neg (by omega)]
      rw [ih (by omega), h3]
      omega
theorem mWf {k : Int} {l : List Ms} (hk : k ≤ 12) (h : ∀ x ∈ l, MsIn k x) (hl : l.length ≤ 20) (i : Nat) (hi : i < l.length) : (Lit.int .i64 ((i : Int) + 1)).wf = true ∧ (Lit.int .i64 l[i]!.f).wf = true ∧ (Lit.int .i64 l[i]!.o).wf = true := by
  obtain ⟨_, _, h1, h2, h3, h4, _⟩ := msAt h i hi
  exact ⟨WalkArith.wf_i64 (by omega), WalkArith.wf_i64 (by omega), WalkArith.wf_i64 (by omega)⟩
theorem mKey_ne {k : Int} {l : List Ms} (hk : k ≤ 12) (h : ∀ x ∈ l, MsIn k x) (hl : l.length ≤ 20) {i j : Nat} (hi : i < l.length) (hj : j < l.length) (hne : i ≠ j) : mKey l i ≠ mKey l j := by
  intro e
  have a := mWf hk h hl i hi
  have b := mWf hk h hl j hj
  have := slKey_inj a.1 a.2.1 a.2.2 b.1 b.2.1 b.2.2 e
  omega
theorem MapIs.put {k : Int} {l : List Ms} (hk : k ≤ 12) (h : ∀ x ∈ l, MsIn k x) (hl : l.length ≤ 20) {F : Nat → Int} {D : DataW Unit} (hD : MapIs l F D) (hT : Tidy D) {i : Nat} (hi : i < l.length) (h0 : F i < 0) {t : Int} (ht : 0 ≤ t) :
    MapIs l (updF F i t) (D.put (mKey l i) (.lit (.int .i64 t))) := by
  have hkl : WideAt.IsKeyLit (mKey l i) := by simp [mKey, slKey, WideAt.IsKeyLit]
  refine ⟨?_, ?_, ?_⟩
  · intro j hj
    by_cases e : j = i
    · subst e
      rw [has_put_same hT.isMap hkl]
      simp [updF, ht]
    · rw [has_put_other (mKey_ne hk h hl hj hi e), hD.has j hj]
      simp [updF, e]
  · intro j hj h1
    by_cases e : j = i
    · subst e
      rw [atKey_put_same hT.isMap hkl]
      simp [updF]
    · have e2 : updF F i t j = F j := by simp [updF, e]
      rw [e2] at h1 ⊢
      rw [atKey_put_other (mKey_ne hk h hl hj hi e)]
      exact hD.at_ j hj h1
  · rw [size_put hT, hD.has i hi, hD.size, cntF_upd hi h0 ht]
    simp
    omega
theorem MapIs.new {l : List Ms} : MapIs l (fun _ => -1) (.map []) := by
  refine ⟨fun i _ => by rfl, fun i _ h => by omega, ?_⟩
  have : cntF (fun _ => -1) l.length = 0 := by
    induction l.length with
    | zero => rfl
    | succ n ih => rw [cntF, ih]; rfl
  rw [this]
  rfl
theorem slotWith_any (i : Nat) (y : Ms) (w : World) (hi : i ≤ 20) : Calls Try.prog 47 #[.int .i64 i, MsV y] w (RetV w (slV ((i : Int) + 1) y.f y.o)) := by
  obtain ⟨t, f, o⟩ := y
  simp only [MsV, slV]
  have e1 : IntKind.i64.wrap ((i : Int) + 1) = (i : Int) + 1 := IntWalk.i64_in _ (by omega)
  go_enter Try.func47, Try.ntmps47
  go_wp2_with fail
  refine bodyPost_ret (v := .agg #[.int .i64 ((i : Int) + 1), .int .i64 f, .int .i64 o]) (by simp [results, Try.results47, go_sem]) rfl ⟨rfl, ?_⟩
  repeat (first | exact Below.refl _ _ | refine Below.alloc ?_ (by simp <;> omega) _ | refine Below.setCell ?_ (by simp <;> omega) _)
theorem frees_any (x : Sr) (s a f o : Int) (w : World) : Calls Try.prog 56 #[SrV x, .int .i64 s, slV a f o] w (RetV w (.bool (if x.h then decide (f = s) else decide (o = s)))) := by
  obtain ⟨n, h⟩ := x
  simp only [SrV, slV]
  have hW : Below w.heap.size w ((w.alloc (.cells #[.int .i64 n, .bool h] 25)).alloc (.cells #[.int .i64 a, .int .i64 f, .int .i64 o] 78)) := ((Below.refl _ _).alloc (Nat.le_refl _) _).alloc (by simp) _
  cases h
  · by_cases hs : o = s
    · subst hs
      go_enter Try.func56, Try.ntmps56
      go_wp2_with fail
      go_ret
      exact ⟨ret_bool (by simp), hW⟩
    · go_enter Try.func56, Try.ntmps56
      go_wp2_with fail
      go_ret
      exact ⟨ret_bool (by simp [hs]), hW⟩
  · by_cases hs : f = s
    · subst hs
      go_enter Try.func56, Try.ntmps56
      go_wp2_with fail
      go_ret
      exact ⟨ret_bool (by simp), hW⟩
    · go_enter Try.func56, Try.ntmps56
      go_wp2_with fail
      go_ret
      exact ⟨ret_bool (by simp [hs]), hW⟩
end Go.Proofs.Ytehmhkbiofndaaa
