/-
  The contracts of LoadOfLinks, both sides.
-/
import Derived.Test.YtehmhkbiofndaaaSlC
import Derived.Test.YtehmhkbiofndaaaRow5
namespace Go.Proofs.Ytehmhkbiofndaaa
open Go.RowKit
set_option maxRecDepth 100000
set_option linter.unusedVariables false

theorem slBehind_any (x : Sr) (s : Nat) (w : World) (hin : 2 ≤ x.n ∧ x.n ≤ 12) (hs : (s : Int) < x.n) : Calls Try.prog 45 #[SrV x, .int .i64 s] w (RetV w (.int .i64 (((s + 1) % x.n.toNat : Nat) : Int))) := by
  obtain ⟨k, hh⟩ := x
  simp only [SrV] at hin hs ⊢
  have hW : Below w.heap.size w (w.alloc (.cells #[.int .i64 k, .bool hh] 25)) := (Below.refl _ _).alloc (Nat.le_refl _) _
  have e1 : IntKind.i64.wrap ((s : Int) + 1) = (s : Int) + 1 := IntWalk.i64_in _ (by omega)
  have hk0 : k ≠ 0 := by omega
  have hE : ((s : Int) + 1).tmod k = (((s + 1) % k.toNat : Nat) : Int) := by
    rw [Int.tmod_eq_emod_of_nonneg (by omega), Int.natCast_emod]
    congr 1
    omega
  have HE : Hid (((s : Int) + 1) % k = (((s + 1) % k.toNat : Nat) : Int)) := by
    show _ = _
    rw [← hE, Int.tmod_eq_emod_of_nonneg (by omega)]
  clear hE
  go_enter Try.func45, Try.ntmps45
  go_wp2_with fail
  go_ret
  exact ⟨congrArg (fun z => Ending.returned (.int .i64 z)) HE.out, hW⟩
theorem dist_at (n f d : Nat) (hf : f < n) (hd : d < n) : ((f + d) % n + (n - f)) % n = d := by
  rw [Nat.mod_add_mod]
  have : f + d + (n - f) = d + n := by omega
  rw [this, Nat.add_mod_right, Nat.mod_eq_of_lt hd]
theorem loads_at (k : Int) (l : List Ms) (j : Nat) (hj : j < l.length) : loadsOf k (l.take (j + 1)) = loadMs k (loadsOf k (l.take j)) l[j]! := by
  unfold loadsOf
  rw [List.take_succ_eq_append_getElem hj, List.foldl_append, getElem!_pos l j hj]
  rfl
theorem loadsOf_upto (k : Int) (l : List Ms) (hk : 2 ≤ k ∧ k ≤ 12) (hl : ∀ x ∈ l, MsIn k x) : Upto (12 * l.length) (loadsOf k l) := by
  have key : ∀ (l : List Ms) (L : List Int) (B : Int), (∀ x ∈ l, MsIn k x) → Upto B L → Upto (B + 12 * l.length) (l.foldl (loadMs k) L) := by
    intro l
    induction l with
    | nil => intro L B _ h; simpa using h
    | cons x l ih =>
      intro L B hx h
      rw [List.foldl_cons]
      have h1 := hopsI_in hk.1 (hx x (by simp))
      have h2 := walkL_upto k.toNat x.f.toNat h (hopsI k x).toNat
      have h3 := ih _ (B + (hopsI k x).toNat) (fun y hy => hx y (by simp [hy])) h2
      intro j
      have := h3 j
      simp only [List.length_cons]
      unfold loadMs at this ⊢
      push_cast
      omega
  have h := key l (List.replicate k.toNat 0) 0 hl (fun j => by
    rw [List.getD_eq_getElem?_getD]
    rcases Nat.lt_or_ge j k.toNat with h | h
    · rw [List.getElem?_eq_getElem (by simpa using h)]; simp
    · rw [List.getElem?_eq_none (by simpa using h)]; simp)
  intro j
  have := h j
  unfold loadsOf
  omega
end Go.Proofs.Ytehmhkbiofndaaa
