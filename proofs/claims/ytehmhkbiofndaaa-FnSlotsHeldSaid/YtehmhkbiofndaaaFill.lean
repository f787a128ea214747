/-
  A station fills a slot: the contract.
-/
import Derived.Test.YtehmhkbiofndaaaSlotF
namespace Go.Proofs.Ytehmhkbiofndaaa
open Go.RowKit Go.Maps
set_option maxRecDepth 100000
set_option linter.unusedVariables false

/-- Block mb is the map of the ticks at which messages are filled. -/
def MapAt (w : World) (mb : Nat) (l : List Ms) (F : Nat → Int) : Prop := ∃ D : DataW Unit, w.ownsMap Try.prog 78 (plainElem Try.prog 3) mb (cntF F l.length) D ∧ MapIs l F D
theorem MapAt.far {w w' : World} {mb a b : Nat} {l : List Ms} {F : Nat → Int} (h : MapAt w mb l F) (hg : Wr a b w w') (hne : mb < a ∨ b ≤ mb) : MapAt w' mb l F := by
  obtain ⟨D, hown, hm⟩ := h
  have hlt := hown.lt
  obtain ⟨es, clock, hb, rest⟩ := hown
  exact ⟨D, ⟨es, clock, (hg.block mb hlt hne).trans hb, rest⟩, hm⟩
theorem MapAt.lt {w : World} {mb : Nat} {l : List Ms} {F : Nat → Int} (h : MapAt w mb l F) : mb < w.heap.size := by
  obtain ⟨D, hown, hm⟩ := h
  exact hown.lt
theorem MapAt.step {w w' : World} {mb : Nat} {l : List Ms} {F : Nat → Int} (h : MapAt w mb l F) (hb : Below w.heap.size w w') : MapAt w' mb l F := h.far (Wr.of_below hb w.heap.size w.heap.size) (.inl h.lt)
theorem MapAt.drewN {w : World} {mb : Nat} {l : List Ms} {F : Nat → Int} (h : MapAt w mb l F) (n : Nat) : MapAt (w.drewN n) mb l F := h
theorem slZero (w : World) : (zeroValue 3).run Try.prog w = .ok (.int .i64 0) w := by kernel_rfl
/-- 'm[k]', with 'ok'. -/
theorem MapAt.look {w : World} {mb : Nat} {l : List Ms} {F : Nat → Int} (h : MapAt w mb l F) {k : Int} (hk : k ≤ 12) (hall : ∀ x ∈ l, MsIn k x) (hl : l.length ≤ 20) {i : Nat} (hi : i < l.length) :
    ∃ c : Int, ∀ n, (Instr.lookup 71 (.map (some mb)) (slV ((i : Int) + 1) l[i]!.f l[i]!.o) true).run Try.prog (w.drewN n) = .ok (.tuple #[.int .i64 c, .bool (decide (0 ≤ F i))]) (w.drewN n) := by
  obtain ⟨D, hown, hm⟩ := h
  have hw := mWf hk hall hl i hi
  have hkey := slKey_is hw.1 hw.2.1 hw.2.2
  have one : ∀ w' : World, w'.ownsMap Try.prog 78 (plainElem Try.prog 3) mb (cntF F l.length) D → ∃ c : Int, (Instr.lookup 71 (.map (some mb)) (slV ((i : Int) + 1) l[i]!.f l[i]!.o) true).run Try.prog w' = .ok (.tuple #[.int .i64 c, .bool (decide (0 ≤ F i))]) w' ∧ D.atKey (mKey l i) (.lit (.int .i64 0)) = .lit (.int .i64 c) := by
    intro w' h'
    obtain ⟨v, ps, hrun, hv⟩ := h'.look_ok slLaw Try.underlying71 (slZero w') (plainElem_int Try.underlying3 (by decide)) hkey
    obtain ⟨c, rfl, hc, _⟩ := plainElem_int_inv Try.underlying3 hv
    simp only [Prod.mk.injEq] at hc
    refine ⟨c, ?_, hc.1⟩
    rw [hrun]
    have := hm.has i hi
    unfold mKey at this
    rw [this]
  obtain ⟨c, _, h1⟩ := one w hown
  refine ⟨c, fun n => ?_⟩
  obtain ⟨c', h2, h3⟩ := one (w.drewN n) hown
  rw [h1] at h3
  have : c = c' := by simpa using h3
  rw [this]
  exact h2
/-- 'm[k]' of a message that is filled. -/
theorem MapAt.get {w : World} {mb : Nat} {l : List Ms} {F : Nat → Int} (h : MapAt w mb l F) {k : Int} (hk : k ≤ 12) (hall : ∀ x ∈ l, MsIn k x) (hl : l.length ≤ 20) {i : Nat} (hi : i < l.length) (h0 : 0 ≤ F i) :
    (Instr.lookup 71 (.map (some mb)) (slV ((i : Int) + 1) l[i]!.f l[i]!.o) false).run Try.prog w = .ok (.int .i64 (F i)) w := by
  obtain ⟨D, hown, hm⟩ := h
  have hw := mWf hk hall hl i hi
  have hkey := slKey_is hw.1 hw.2.1 hw.2.2
  obtain ⟨c, hrun, hat, _⟩ := hown.lookup_int slLaw Try.underlying71 Try.underlying3 (slZero w) hkey
  have h2 := hm.at_ i hi h0
  unfold mKey at h2
  rw [h2] at hat
  have : F i = c := by simpa using hat
  rw [hrun, this]
theorem MapAt.len {w : World} {mb : Nat} {l : List Ms} {F : Nat → Int} (h : MapAt w mb l F) (ty : TypeId) : (Builtin.len_ #[71] ty #[.map (some mb)]).run Try.prog w = .ok (.int .i64 (cntF F l.length : Nat)) w := by
  obtain ⟨D, hown, hm⟩ := h
  have := hown.len (t := 71) Try.underlying71 ty
  rw [hm.size] at this
  exact this
theorem find_range (p : Nat → Bool) (n j : Nat) (hj : j < n) (hp : p j = true) (hno : ∀ i, i < j → p i = false) : (List.range n).find? p = some j := by
  induction n with
  | zero => omega
  | succ n ih =>
    rw [List.range_succ, List.find?_append]
    by_cases e : j = n
    · subst e
      have : (List.range j).find? p = none := by
        rw [List.find?_eq_none]
        intro x hx
        rw [hno x (by simpa using hx)]
        simp
      rw [this]
      simp [hp]
    · rw [ih (by omega)]
      rfl
theorem find_range_none (p : Nat → Bool) (n : Nat) (hno : ∀ i, i < n → p i = false) : (List.range n).find? p = none := by
  rw [List.find?_eq_none]
  intro x hx
  rw [hno x (by simpa using hx)]
  simp
/-- What a station's filling leaves. -/
def FillPost (l : List Ms) (F : Nat → Int) (t mb : Nat) (w : World) (r : Option Nat) (e : Ending) (w' : World) : Prop :=
  match r with
  | none => e = .returned (slotV l 0) ∧ Below w.heap.size w w'
  | some i => e = .returned (slotV l (i + 1)) ∧ MapAt w' mb l (updF F i t) ∧ Wr mb (mb + 1) w w'
/-- Whether a message waits, in ints. -/
def waitsI (l : List Ms) (F : Nat → Int) (s t : Nat) (i : Nat) : Prop := l[i]!.f = (s : Int) ∧ l[i]!.t ≤ (t : Int) ∧ F i < 0
theorem next_at_some {x : Sr} {l : List Ms} {F : Nat → Int} {s t j : Nat} (hall : ∀ y ∈ l, MsIn x.n y) (hj : j < l.length) (hw : waitsI l F s t j) (hno : ∀ i, i < j → ¬ waitsI l F s t i) : (swOf x l).next F s t = some j := by
  have key : ∀ i, i < l.length → (((swOf x l).fr i = s ∧ (swOf x l).tk i ≤ t ∧ F i < 0) ↔ waitsI l F s t i) := by
    intro i hi
    obtain ⟨h1, _, h2, _⟩ := msAt hall i hi
    unfold waitsI swOf
    simp only
    constructor <;> (rintro ⟨a, b, c⟩; exact ⟨by omega, by omega, c⟩)
  unfold Sw.next
  refine find_range _ _ j hj (by simpa using (key j hj).2 hw) fun i hi => ?_
  have := hno i hi
  rw [← key i (by omega)] at this
  simpa using this
theorem next_at_none {x : Sr} {l : List Ms} {F : Nat → Int} {s t : Nat} (hall : ∀ y ∈ l, MsIn x.n y) (hno : ∀ i, i < l.length → ¬ waitsI l F s t i) : (swOf x l).next F s t = none := by
  unfold Sw.next
  refine find_range_none _ _ fun i hi => ?_
  have hi : i < l.length := hi
  have := hno i hi
  obtain ⟨h1, _, h2, _⟩ := msAt hall i hi
  unfold waitsI at this
  simp only [swOf]
  refine decide_eq_false ?_
  rintro ⟨a, b, c⟩
  exact this ⟨by omega, by omega, c⟩
end Go.Proofs.Ytehmhkbiofndaaa
