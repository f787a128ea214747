/-
  What the rows' frames share: an argument that is a slice of ints is opened to what the walks ask of it. What the rows' frames share: an argument that is a slice of structs of ints is opened to what the walks ask of it. An argument that is a slice of Messages is opened to what the walks ask of it.
-/
import Derived.Test.YtfphkgialmjfnaaRows
import Derived.Test.YtfphkgialmjfnaaWords
import Derived.Test.YtfphkgialmjfnaaInit
import Derived.ProofKit
import Derived.OpenShut
import Derived.ShutString
import Derived.ChangeOld
import Derived.Below
import Derived.Test.YtfphkgialmjfnaaWordsK
import Derived.Deep.Slices
import Derived.Deep.Fields
import Derived.ChangeSame
import Derived.Test.YtfphkgialmjfnaaSMessage
namespace Go.Proofs.Ytfphkgialmjfnaa
section
open Go.ChangeShapes Go.WideShapes Go.ChangeAt Go.RowKit

theorem own : ownKnob Try.prog.godebug = none := by kernel_rfl
theorem laidOut : laidOutB Try.prog = true := by kernel_rfl

theorem ri_of_cells {w : World} {x : Addr} {len cap : Nat} {zs : List Int} (hl : len ≤ zs.length) (hzc : zs.length = cap) (hm : cap ≤ maxLen) (hcell : ∀ i, i < zs.length → w.cell? (x.add i) = some (.int .i64 (zs.getD i 0))) :
    RI w w.heap.size (.slice (some x) len cap) (zs.take len) := by
  have e : (zs.take len).length = len := by simp; omega
  refine ⟨some x, cap, by rw [e], ⟨by omega, hm, fun h => by cases h⟩, fun h0 => ?_⟩
  obtain ⟨b, off, spot⟩ := x
  have hc0 := hcell 0 (by omega)
  have hspot : spot = none := by simpa [Addr.add] using World.cell?_spot hc0
  subst hspot
  refine ⟨b, off, rfl, ?_, fun j hj => ?_⟩
  · have hc1 : w.cell? ⟨b, off, none⟩ = some (.int .i64 (zs.getD 0 0)) := by simpa [Addr.add] using hc0
    unfold World.cell? at hc1
    cases hb : w.heap[b]? with
    | none => simp [hb] at hc1
    | some o => exact (Array.getElem?_eq_some_iff.1 hb).1
  · have hj' : j < len := by omega
    have hcj := hcell j (by omega)
    rw [add_plain] at hcj
    rw [hcj]
    congr 2
    simp [List.getD, hj']
end
section
open Go.ChangeShapes Go.WideShapes Go.ChangeAt Go.RowKit Go.Deep
set_option maxRecDepth 100000

/-- The int that a cell holds. -/
def intAt (w : World) (a : Addr) : Int := match w.cell? a with
  | some (.int .i64 z) => z
  | _ => 0
section
variable {H : Type} {enc : TypeId × Value → H} {P : Program} {w : World} {base : Nat} {spare : Nat → Bool} {held : Bool}
/-- A slice of structs of m ints: each of its numbers lies in its cell. -/
theorem open_flat {t e : TypeId} {fs : Array Field} {fuel m : Nat} {cs : List Value} {x : DataW H × List MemPlace} (ht : P.underlying t = some (.slice e)) (he : P.underlying e = some (.struct fs)) (hone : oneCellFields P fs = true) (hm : fs.size = m)
    (hC : P.cellsOf e = m) (hi : ∀ (j : Nat) (f : Field), fs[j]? = some f → P.underlying f.type = some (.int .i64)) (h : DataW.trod enc P w base spare held fuel t cs = some x) :
    cs = [.slice none 0 0] ∨ ∃ (a : Addr) (len cap : Nat), cs = [.slice (some a) len cap] ∧ len ≤ cap ∧ cap ≤ maxLen ∧
      ∀ i, i < len → ∀ j, j < m → w.cell? (a.add (i * m + j)) = some (.int .i64 (intAt w (a.add (i * m + j)))) ∧ (Lit.int .i64 (intAt w (a.add (i * m + j)))).wf = true := by
  rcases open_slice ht h with ⟨h0, _⟩ | ⟨a, len, cap, k, n, D, Pl, hcs, _, hl, hcap, hk, _, hat⟩
  · exact .inl h0
  refine .inr ⟨a, len, cap, hcs, hl, hcap, fun i hil j hj => ?_⟩
  have hik : i < k := by rw [hk]; split <;> omega
  obtain ⟨c, hc, htr⟩ := hat i hik
  rw [hC] at hc
  obtain ⟨_, hcl, hcell⟩ := World.cells?_some hc
  obtain ⟨xs, n', _, _, _, hxl, hfld⟩ := DataW.trod_struct he htr
  have hjf : fs[j]? = some (fs[j]'(by omega)) := Array.getElem?_eq_getElem (by omega)
  obtain ⟨ho, hk1⟩ := hone_of hone j _ hjf
  have h1 := hfld j _ hjf
  rw [ho, hk1, List.drop_eq_getElem_cons (by omega)] at h1
  rw [List.getElem?_eq_getElem (by omega)] at h1
  obtain ⟨z, hz, _, hwf⟩ := DataW.trod_int (hi j _ hjf) h1
  have hz2 : c[j]'(by omega) = .int .i64 z := (List.cons.inj (show [c[j]'(by omega)] = [.int .i64 z] from hz)).1
  have hcj : w.cell? (a.add (i * m + j)) = some (.int .i64 z) := by
    rw [← add_add, hcell j hj, List.getElem?_eq_getElem (by omega), hz2]
  have hv : intAt w (a.add (i * m + j)) = z := by unfold intAt; rw [hcj]
  rw [hv]
  exact ⟨hcj, hwf⟩
end
/-- Cells that hold a list's numbers: the slice reads as it. -/
theorem rk_of_cells {k : Nat} {w : World} {x : Addr} {len cap : Nat} {l : List Int} (hk : 0 < k) (hl : l.length = len * k) (hlc : len ≤ cap) (hm : cap ≤ maxLen) (hcell : ∀ j, j < len * k → w.cell? (x.add j) = some (.int .i64 (l.getD j 0))) :
    RK k w w.heap.size (.slice (some x) len cap) len l := by
  refine ⟨some x, cap, rfl, hl, ⟨hlc, hm, fun h => by cases h⟩, fun h0 => ?_⟩
  obtain ⟨b, off, spot⟩ := x
  have hlk : 0 < len * k := Nat.mul_pos h0 hk
  have hc0 := hcell 0 hlk
  have hspot : spot = none := by simpa [Addr.add] using World.cell?_spot hc0
  subst hspot
  refine ⟨b, off, rfl, ?_, fun j hj => ?_⟩
  · have hc1 : w.cell? ⟨b, off, none⟩ = some (.int .i64 (l.getD 0 0)) := by simpa [Addr.add] using hc0
    unfold World.cell? at hc1
    cases hb : w.heap[b]? with
    | none => simp [hb] at hc1
    | some o => exact (Array.getElem?_eq_some_iff.1 hb).1
  · have hcj := hcell j hj
    rw [add_plain] at hcj
    exact hcj
end
section
open Go.ChangeShapes Go.WideShapes Go.ChangeAt Go.RowKit Go.Deep
set_option maxRecDepth 100000

theorem open_MessageS {H : Type} {enc : TypeId × Value → H} {w : World} {base : Nat} {spare : Nat → Bool} {held : Bool} {fuel : Nat} {v : Value} {x : DataW H × List MemPlace}
    (h : DataW.trod enc Try.prog w base spare held fuel 24 [v] = some x) : ∃ l : List Ms, RMsS w w.heap.size v l ∧ l.length ≤ maxLen ∧ ∀ y ∈ l, (Lit.int .i64 y.t).wf = true ∧ (Lit.int .i64 y.f).wf = true ∧ (Lit.int .i64 y.o).wf = true := by
  rcases open_flat (m := 3) Try.underlying24 Try.underlying57 (by kernel_rfl) rfl (by kernel_rfl) (by
      intro j f hj
      match j, hj with
      | 0, hj => cases hj; exact Try.underlying3
      | 1, hj => cases hj; exact Try.underlying3
      | 2, hj => cases hj; exact Try.underlying3
      | j + 3, hj => simp at hj) h with hcs | ⟨a, len, cap, hcs, hlc, hm, hcell⟩
  · obtain rfl : v = .slice none 0 0 := by simpa using hcs
    exact ⟨[], ⟨none, 0, rfl, rfl, ⟨by simp, by simp, fun _ => rfl⟩, fun h => absurd h (by simp)⟩, by simp, by simp⟩
  obtain rfl : v = .slice (some a) len cap := by simpa using hcs
  have hlen : ((List.range len).map fun i => (⟨intAt w (a.add (i * 3 + 0)), intAt w (a.add (i * 3 + 1)), intAt w (a.add (i * 3 + 2))⟩ : Ms)).length = len := by simp
  have hget : ∀ i, i < len → ((List.range len).map fun i => (⟨intAt w (a.add (i * 3 + 0)), intAt w (a.add (i * 3 + 1)), intAt w (a.add (i * 3 + 2))⟩ : Ms))[i]! = ⟨intAt w (a.add (i * 3 + 0)), intAt w (a.add (i * 3 + 1)), intAt w (a.add (i * 3 + 2))⟩ := by
    intro i hi
    rw [getElem!_pos _ _ (by simpa using hi)]
    simp
  refine ⟨(List.range len).map fun i => ⟨intAt w (a.add (i * 3 + 0)), intAt w (a.add (i * 3 + 1)), intAt w (a.add (i * 3 + 2))⟩, ?_, by rw [hlen]; omega, ?_⟩
  · generalize hL : ((List.range len).map fun i => (⟨intAt w (a.add (i * 3 + 0)), intAt w (a.add (i * 3 + 1)), intAt w (a.add (i * 3 + 2))⟩ : Ms)) = L at *
    unfold RMsS
    rw [hlen]
    refine rk_of_cells (by omega) (by rw [flatMs_length, hlen]) hlc hm fun j hj => ?_
    have hd := Nat.div_add_mod j 3
    rw [Nat.mul_comm] at hd
    have hr : j % 3 < 3 := Nat.mod_lt _ (by omega)
    have hi : j / 3 < len := Nat.div_lt_of_lt_mul (by omega)
    have h1 := (hcell (j / 3) hi (j % 3) hr).1
    have h2 := flatMs_at L (j / 3) (j % 3) (by omega) hr
    rw [hget _ hi] at h2
    generalize j / 3 = i at *
    generalize j % 3 = r at *
    subst hd
    rw [h1, h2]
    match r, hr with
    | 0, _ => rfl
    | 1, _ => rfl
    | 2, _ => rfl
  · intro y hy
    obtain ⟨i, hi, rfl⟩ := List.mem_map.1 hy
    have hi : i < len := by simpa using hi
    exact ⟨(hcell i hi 0 (by omega)).2, (hcell i hi 1 (by omega)).2, (hcell i hi 2 (by omega)).2⟩
end
end Go.Proofs.Ytfphkgialmjfnaa
