/-
  JobS as values: what they read as, what owns them, and the contracts of the laws' helpers on them.
-/
import Derived.Test.YteoggoopfjkdkaaMathJob
import Derived.Test.YteoggoopfjkdkaaWordsK
import Derived.Test.YteoggoopfjkdkaaBk
import Derived.Deep.RegionHeld3
import Derived.Deep.DeepCutAuto
import Derived.RegionTactic
import Derived.BigRegion
namespace Go.Proofs.Yteoggoopfjkdkaa
open Go.RowKit
set_option maxRecDepth 100000

/-- All numbers of a list, one behind the other. -/
def flatJb (l : List Jb) : List Int := l.flatMap fun x => [x.t, x.c, x.l]
theorem flatJb_length (l : List Jb) : (flatJb l).length = l.length * 3 := by
  induction l with
  | nil => rfl
  | cons x l ih =>
    have e : flatJb (x :: l) = [x.t, x.c, x.l] ++ flatJb l := rfl
    rw [e, List.length_append, ih]
    simp
    omega
theorem flatJb_at (l : List Jb) (i j : Nat) (hi : i < l.length) (hj : j < 3) : (flatJb l).getD (i * 3 + j) 0 = [l[i]!.t, l[i]!.c, l[i]!.l].getD j 0 := by
  induction l generalizing i with
  | nil => simp at hi
  | cons x l ih =>
    have e : flatJb (x :: l) = [x.t, x.c, x.l] ++ flatJb l := rfl
    rw [e]
    cases i with
    | zero =>
      rw [Nat.zero_mul, Nat.zero_add]
      match j, hj with
      | 0, _ => simp
      | 1, _ => simp
      | 2, _ => simp
    | succ i =>
      have h1 : (i + 1) * 3 + j = (i * 3 + j) + 3 := by omega
      have h2 : ([x.t, x.c, x.l] ++ flatJb l).getD ((i * 3 + j) + 3) 0 = (flatJb l).getD (i * 3 + j) 0 := by
        simp only [List.getD_eq_getElem?_getD]
        rw [List.getElem?_append_right (by simp)]
        simp
      rw [h1, h2, ih i (by simp at hi; omega)]
      simp
/-- The slice value v reads as the list l, and lies below block B. -/
def RJbS (w : World) (B : Nat) (v : Value) (l : List Jb) : Prop := RK 3 w B v l.length (flatJb l)
/-- .. owns it. -/
def OJbS (w : World) (lo hi : Nat) (v : Value) (l : List Jb) : Prop := OK 3 43 w lo hi v l.length (flatJb l)
/-- What a function that makes one leaves. -/
def RetJbS (w : World) (l : List Jb) (e : Ending) (w' : World) : Prop := ∃ u, e = .returned u ∧ OJbS w' w.heap.size w'.heap.size u l ∧ Below w.heap.size w w'
/-- .. and a bool. -/
def RetJbSB (w : World) (l : List Jb) (b : Bool) (e : Ending) (w' : World) : Prop := ∃ u, e = .returned (.tuple #[u, .bool b]) ∧ OJbS w' w.heap.size w'.heap.size u l ∧ Below w.heap.size w w'
/-- The cells of an element. -/
theorem RJbS.parts {w : World} {B n c : Nat} {A : Option Addr} {l : List Jb} (h : RJbS w B (.slice A n c) l) : n = l.length ∧ l.length ≤ c ∧ c ≤ maxLen ∧ (0 < l.length → ∃ b off, A = some ⟨b, off, none⟩ ∧ b < B ∧
    ∀ i, i < l.length → w.cell? ⟨b, off + i * 3, none⟩ = some (.int .i64 l[i]!.t) ∧ w.cell? ⟨b, off + i * 3 + 1, none⟩ = some (.int .i64 l[i]!.c) ∧ w.cell? ⟨b, off + i * 3 + 2, none⟩ = some (.int .i64 l[i]!.l)) := by
  obtain ⟨A', c', hv, hl, hlc, hc⟩ := h
  injection hv with h1 h2 h3
  subst h1; subst h2; subst h3
  refine ⟨rfl, hlc.1, hlc.2.1, fun hn => ?_⟩
  obtain ⟨b, off, hA, hb, hcell⟩ := hc hn
  refine ⟨b, off, hA, hb, fun i hi => ?_⟩
  have q := fun j (hj : j < 3) => hcell (i * 3 + j) (by omega)
  have r := fun j hj => flatJb_at l i j hi hj
  exact ⟨by have := q 0 (by omega); rw [r 0 (by omega)] at this; exact this, by have := q 1 (by omega); rw [r 1 (by omega)] at this; exact this, by have := q 2 (by omega); rw [r 2 (by omega)] at this; exact this⟩

theorem job_info : (Try.prog.info? 43).map (fun i => (i.zero, i.size, i.bytes)) = some (some (.agg #[.int .i64 0, .int .i64 0, .int .i64 0]), 3, 24) := by kernel_rfl
/-- An element laid over the copy so far. -/
theorem partCopy_Jb (l : List Jb) (k : Nat) (hk : k < l.length) : (((partCopy (flatJb l) (k * 3)).set (k * 3) (.int .i64 l[k]!.t)).set (k * 3 + 1) (.int .i64 l[k]!.c)).set (k * 3 + 2) (.int .i64 l[k]!.l) = partCopy (flatJb l) ((k + 1) * 3) := by
  have hl := flatJb_length l
  have a0 : (flatJb l).getD (k * 3 + 0) 0 = l[k]!.t := by rw [flatJb_at l k 0 hk (by omega)]; rfl
  have a1 : (flatJb l).getD (k * 3 + 1) 0 = l[k]!.c := by rw [flatJb_at l k 1 hk (by omega)]; rfl
  have a2 : (flatJb l).getD (k * 3 + 2) 0 = l[k]!.l := by rw [flatJb_at l k 2 hk (by omega)]; rfl
  rw [Nat.add_zero] at a0
  rw [← a0, partCopy_succ _ _ (by omega)]
  rw [← a1, partCopy_succ _ _ (by omega)]
  rw [← a2, partCopy_succ _ _ (by omega)]
  congr 1
  omega
end Go.Proofs.Yteoggoopfjkdkaa
