/-
  Marks laid into a frame's data, and marks held.
-/
import Derived.Test.YtmghhhceemmdpaaIsFrB
namespace Go.Proofs.Ytmghhhceemmdpaa
open Go.RowKit
set_option maxRecDepth 100000

def RetMF (E : TypeId) (lo hi : Nat) (v : Value) (x : Fr) (m : Int) (w : World) (e : Ending) (w' : World) : Prop :=
  e = .returned (.int .i64 (m + x.d.length)) ∧ OF E w' lo hi v { x with d := marks m x.d.length } ∧ Wr lo hi w w'
theorem markFrame_any (lo hi : Nat) (v : Value) (x : Fr) (m : Int) (w : World) (h : OF 3 w lo hi v x) (hn : x.d.length ≤ 1048576) (hm : 0 ≤ m) (hm' : m ≤ 100000000) :
    Calls Try.prog 17 #[v, .int .i64 m] w (RetMF 3 lo hi v x m w) := by
  obtain ⟨s, rfl, h⟩ := h
  obtain ⟨f, t, p, d⟩ := x
  simp only [frV] at h hn ⊢
  have hW : Below w.heap.size w (w.alloc (.cells #[.int .i64 f, .int .i64 t, .int .i64 p, s] 26)) := (Below.refl _ _).alloc (Nat.le_refl _) _
  have h4 := h.step hW
  obtain ⟨A, c, rfl, _, _⟩ := h.ri
  go_enter Try.func17, Try.ntmps17
  go_wp2_with fail
  refine (markIntS_any _ _ _ d m _ h4 hn hm hm').mono ?_; rintro e w1 ⟨rfl, ho, hg⟩
  go_wp2_with fail
  go_ret
  exact ⟨rfl, ⟨_, rfl, ho⟩, (Wr.of_below hW lo hi).trans hg⟩
theorem heldFrame_any (v : Value) (x : Fr) (n : Nat) (m : Int) (w : World) (h : RF w w.heap.size v { x with d := marks m n }) (hn : n ≤ 1048576) (hm : 0 ≤ m) (hm' : m ≤ 100000000) :
    Calls Try.prog 19 #[v, .int .i64 m] w (RetV w (.int .i64 (m + n))) := by
  obtain ⟨s, rfl, h⟩ := h
  obtain ⟨f, t, p, d⟩ := x
  simp only [frV] at h ⊢
  have hW : Below w.heap.size w (w.alloc (.cells #[.int .i64 f, .int .i64 t, .int .i64 p, s] 26)) := (Below.refl _ _).alloc (Nat.le_refl _) _
  have h4 := (h.step hW (Nat.le_refl _)).more hW.size
  obtain ⟨A, c, rfl, _, _⟩ := h
  have hn' : (n : Int) ≤ 1048576 := by omega
  go_enter Try.func19, Try.ntmps19
  go_wp2_with fail
  refine (heldIntS_any _ n m _ h4 hn hm hm').mono ?_; rintro e w1 ⟨rfl, hb⟩
  go_wp2_with fail
  go_ret
  exact ⟨rfl, hW.trans (hb.mono hW.size)⟩
end Go.Proofs.Ytmghhhceemmdpaa
