/-
  The contracts of the functions that look for a number in a list: those of the library and those of the model.
-/
import Derived.Test.YtehmhkbiofndaaaIn
import Derived.Test.YtehmhkbiofndaaaMathRing
namespace Go.Proofs.Ytehmhkbiofndaaa
open Go.RowKit
set_option maxRecDepth 100000

theorem hasI_at {l : List Int} {x : Int} {k : Nat} (hk : k < l.length) (h : l.getD k 0 = x) : hasI l x = true := by
  rw [hasI_iff]
  have hg : l[k] = x := by simpa [hk] using h
  exact hg ▸ List.getElem_mem hk
theorem hasI_no {l : List Int} {x : Int} (h : ∀ j, j < l.length → l.getD j 0 ≠ x) : hasI l x = false := by
  rw [← Bool.not_eq_true, hasI_iff]
  intro hm
  obtain ⟨m, hm, e⟩ := List.getElem_of_mem hm
  exact h m hm (by simp [hm, e])
/-- A place that holds the number, or -1. -/
def RetIdx (w : World) (l : List Int) (x : Int) (e : Ending) (w' : World) : Prop := ∃ r : Int, e = .returned (.int .i64 r) ∧ w = w' ∧ ((hasI l x = true ∧ 0 ≤ r) ∨ (hasI l x = false ∧ r = -1))
theorem index_any (v : Value) (l : List Int) (x : Int) (w : World) (h : RI w w.heap.size v l) (hn : l.length ≤ 1048576) :
    Calls Try.prog 52 #[v, .int .i64 x] w (RetIdx w l x) := by
  obtain ⟨A, c, rfl, hlc, hc⟩ := h
  have hn' : (l.length : Int) ≤ 1048576 := by omega
  go_enter Try.func52, Try.ntmps52
  go_wp2
  go_loop [8] (fun i => ∃ k : Nat, k ≤ l.length ∧ i = .int .i64 k ∧ ∀ j, j < k → l.getD j 0 ≠ x) (fun i => l.length - (intOf i).toNat)
  case atStart => exact ⟨0, Nat.zero_le _, rfl, fun j hj => absurd hj (by omega)⟩
  case round =>
    obtain ⟨k, hk, rfl, hall⟩ := hrel
    have HA := Lib.hid hall
    clear hall
    by_cases hlt : k < l.length
    · obtain ⟨b, off, rfl, hbB, hcell⟩ := hc (by omega)
      have hcx : w.cell? ⟨b, off + k, none⟩ = some (.int .i64 (l.getD k 0)) := hcell k hlt
      have HC := Lib.hid hcell
      clear hcell hc
      obtain ⟨y, hy⟩ : ∃ y, y = l.getD k 0 := ⟨_, rfl⟩
      rw [← hy] at hcx
      have HY := Lib.hid hy
      clear hy
      by_cases he : x = y
      · have HB : Hid (hasI l x = true) := hasI_at hlt (by rw [← HY.out, he])
        subst he
        go_wp2
        go_ret
        exact ⟨_, rfl, rfl, .inl ⟨HB.out, by omega⟩⟩
      · have hb : (x == y) = false := beq_eq_false_iff_ne.2 he
        have HE := Lib.hid he
        clear he
        go_wp2
        go_round
        case rel =>
          refine ⟨k + 1, by omega, by go_num, fun j hj => ?_⟩
          by_cases hjk : j = k
          · subst hjk; rw [← HY.out]; exact fun e => HE.out e.symm
          · exact HA.out j (by omega)
        case measure => simp [intOf]; omega
    · obtain rfl : k = l.length := by omega
      go_wp2
      go_ret
      exact ⟨_, rfl, rfl, .inr ⟨hasI_no HA.out, rfl⟩⟩
theorem contains_any (v : Value) (l : List Int) (x : Int) (w : World) (h : RI w w.heap.size v l) (hn : l.length ≤ 1048576) :
    Calls Try.prog 32 #[v, .int .i64 x] w fun e w' => e = .returned (.bool (hasI l x)) ∧ w = w' := by
  have h0 := h
  obtain ⟨A, c, rfl, hlc, hc⟩ := h
  clear hc
  go_enter Try.func32, Try.ntmps32
  go_wp2_with fail
  refine (index_any _ l x _ h0 hn).mono ?_; rintro e w' ⟨r, rfl, rfl, hr⟩
  rcases hr with ⟨h1, h2⟩ | ⟨h1, rfl⟩
  · go_wp2
    go_ret
    exact ⟨ret_bool (by rw [h1]), rfl⟩
  · go_wp2
    go_ret
    exact ⟨ret_bool (by rw [h1]), rfl⟩
theorem l1Has_any (v : Value) (l : List Int) (x : Int) (w : World) (h : RI w w.heap.size v l) (hn : l.length ≤ 1048576) :
    Calls Try.prog 35 #[v, .int .i64 x] w fun e w' => e = .returned (.bool (hasI l x)) ∧ w = w' := by
  obtain ⟨A, c, rfl, hlc, hc⟩ := h
  have hn' : (l.length : Int) ≤ 1048576 := by omega
  go_enter Try.func35, Try.ntmps35
  go_wp2
  go_loop [9] (fun i => ∃ k : Nat, k ≤ l.length ∧ i = .int .i64 k ∧ ∀ j, j < k → l.getD j 0 ≠ x) (fun i => l.length - (intOf i).toNat)
  case atStart => exact ⟨0, Nat.zero_le _, rfl, fun j hj => absurd hj (by omega)⟩
  case round =>
    obtain ⟨k, hk, rfl, hall⟩ := hrel
    have HA := Lib.hid hall
    clear hall
    by_cases hlt : k < l.length
    · obtain ⟨b, off, rfl, hbB, hcell⟩ := hc (by omega)
      have hcx : w.cell? ⟨b, off + k, none⟩ = some (.int .i64 (l.getD k 0)) := hcell k hlt
      have HC := Lib.hid hcell
      clear hcell hc
      obtain ⟨y, hy⟩ : ∃ y, y = l.getD k 0 := ⟨_, rfl⟩
      rw [← hy] at hcx
      have HY := Lib.hid hy
      clear hy
      by_cases he : y = x
      · have HB : Hid (hasI l x = true) := hasI_at hlt (by rw [← HY.out, he])
        subst he
        go_wp2
        go_ret
        exact ⟨ret_bool HB.out.symm, rfl⟩
      · have hb : (y == x) = false := beq_eq_false_iff_ne.2 he
        have HE := Lib.hid he
        clear he
        go_wp2
        go_round
        case rel =>
          refine ⟨k + 1, by omega, by go_num, fun j hj => ?_⟩
          by_cases hjk : j = k
          · subst hjk; rw [← HY.out]; exact HE.out
          · exact HA.out j (by omega)
        case measure => simp [intOf]; omega
    · obtain rfl : k = l.length := by omega
      go_wp2
      go_ret
      exact ⟨ret_bool (hasI_no HA.out).symm, rfl⟩
end Go.Proofs.Ytehmhkbiofndaaa
