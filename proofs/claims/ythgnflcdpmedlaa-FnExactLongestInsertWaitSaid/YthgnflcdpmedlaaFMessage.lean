/-
  An argument that is a slice of Messages is opened to what the walks ask of it.
-/
import Derived.Test.YthgnflcdpmedlaaFrameK
import Derived.Test.YthgnflcdpmedlaaSMessage
namespace Go.Proofs.Ythgnflcdpmedlaa
open Go.ChangeShapes Go.WideShapes Go.ChangeAt Go.RowKit Go.Deep
set_option maxRecDepth 100000

theorem open_MessageS {H : Type} {enc : TypeId × Value → H} {w : World} {base : Nat} {spare : Nat → Bool} {held : Bool} {fuel : Nat} {v : Value} {x : DataW H × List MemPlace}
    (h : DataW.trod enc Try.prog w base spare held fuel 28 [v] = some x) : ∃ l : List Ms, RMsS w w.heap.size v l ∧ l.length ≤ maxLen ∧ ∀ y ∈ l, (Lit.int .i64 y.t).wf = true ∧ (Lit.int .i64 y.f).wf = true ∧ (Lit.int .i64 y.o).wf = true := by
  rcases open_flat (m := 3) Try.underlying28 Try.underlying54 (by kernel_rfl) rfl (by kernel_rfl) (by
      intro j f hj
      match j, hj with
      | 0, hj => cases hj; exact Try.underlying3
      | 1, hj => cases hj; exact Try.underlying3
      | 2, hj => cases hj; exact Try.underlying3
      | j + 3, hj => simp at hj) h with hcs | ⟨a, len, cap, hcs, hlc, hm, hcell⟩
  · obtain rfl : v = .slice none 0 0 := by simpa using hcs
    exact ⟨[], ⟨none, 0, rfl, rfl, ⟨by simp, by simp, fun _ => rfl⟩, fun h => absurd h (by simp)⟩, by simp, by simp⟩
  obtain rfl : v = .slice (some a) len cap := by simpa using hcs
  have hlen : ((List.range len).map fun i => (⟨intAt w (a.add (i * 3 + 0)), intAt w (a.add (i * 3 + 1)), intAt w (a.add (i * 3 + 2))⟩ : Ms)).length = len := by simp
  have hget : ∀ i, i < len → ((List.range len).map fun i => (⟨intAt w (a.add (i * 3 + 0)), intAt w (a.add (i * 3 + 1)), intAt w (a.add (i * 3 + 2))⟩ : Ms))[i]! = ⟨intAt w (a.add (i * 3 + 0)), intAt w (a.add (i * 3 + 1)), intAt w (a.add (i * 3 + 2))⟩ := by
    intro i hi
    rw [getElem!_pos _ _ (by simpa using hi)]
    simp
  refine ⟨(List.range len).map fun i => ⟨intAt w (a.add (i * 3 + 0)), intAt w (a.add (i * 3 + 1)), intAt w (a.add (i * 3 + 2))⟩, ?_, by rw [hlen]; omega, ?_⟩
  · generalize hL : ((List.range len).map fun i => (⟨intAt w (a.add (i * 3 + 0)), intAt w (a.add (i * 3 + 1)), intAt w (a.add (i * 3 + 2))⟩ : Ms)) = L at *
    unfold RMsS
    rw [hlen]
    refine rk_of_cells (by omega) (by rw [flatMs_length, hlen]) hlc hm fun j hj => ?_
    have hd := Nat.div_add_mod j 3
    rw [Nat.mul_comm] at hd
    have hr : j % 3 < 3 := Nat.mod_lt _ (by omega)
    have hi : j / 3 < len := Nat.div_lt_of_lt_mul (by omega)
    have h1 := (hcell (j / 3) hi (j % 3) hr).1
    have h2 := flatMs_at L (j / 3) (j % 3) (by omega) hr
    rw [hget _ hi] at h2
    generalize j / 3 = i at *
    generalize j % 3 = r at *
    subst hd
    rw [h1, h2]
    match r, hr with
    | 0, _ => rfl
    | 1, _ => rfl
    | 2, _ => rfl
  · intro y hy
    obtain ⟨i, hi, rfl⟩ := List.mem_map.1 hy
    have hi : i < len := by simpa using hi
    exact ⟨(hcell i hi 0 (by omega)).2, (hcell i hi 1 (by omega)).2, (hcell i hi 2 (by omega)).2⟩
end Go.Proofs.Ythgnflcdpmedlaa
