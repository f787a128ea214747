/-
  The model's copy of a list, as something gathered; a list without its first elements.
-/
import Derived.Test.YthgnflcdpmedlaaCat
namespace Go.Proofs.Ythgnflcdpmedlaa
open Go.RowKit
set_option maxRecDepth 100000
set_option linter.unusedVariables false

theorem l1OwnI_any (v : Value) (l : List Int) (w : World) (h : RI w w.heap.size v l) (hn : l.length ≤ 1048576) :
    Calls Try.prog 67 #[v] w fun e w' => ∃ u, e = .returned u ∧ Acc 3 w' w.heap.size u l ∧ Below w.heap.size w w' := by
  have h0 := h
  have hsh := Lib.hid h.shape
  obtain ⟨A, c, rfl, hlc, hc⟩ := h
  clear hc
  obtain ⟨i0, hi, hz0, hz1, hz2⟩ := info_parts int_info
  have hb0 : Below w.heap.size w (w.alloc (.cells #[] 3)) := (Below.refl _ _).alloc (Nat.le_refl _) _
  have ha : Acc 3 (w.alloc (.cells #[] 3)) w.heap.size (.slice (some ⟨w.heap.size, 0, none⟩) 0 0) [] := World.ownsRow_made w #[] 0 (Nat.le_refl _) (by simp) rfl
  go_enter Try.func67, Try.ntmps67
  go_wp2_with (at_builtin; refine wpList_cat rfl (.tmp 3) (.tmp 4) 30 rfl 3 i0 Try.underlying30 hi hz0 hz1 hz2 w w.heap.size w.heap.size _ _ _ l rfl ha rfl (h0.below hb0) hsh.out (by simp; omega) hb0 hb0.size ?_; intro v2 w2 ha2 hb2)
  go_ret
  exact ⟨_, rfl, by simpa using ha2, hb2⟩
theorem tail_riI {w : World} {B : Nat} {A : Option Addr} {n c : Nat} {l : List Int} (h : RI w B (.slice A n c) l) (k : Nat) (hk : k ≤ l.length) : RI w B (.slice (if c = k then A else Option.map (fun x => x.add k) A) (l.length - k) (c - k)) (l.drop k) := by
  obtain ⟨A', c', hv, hlc, hc⟩ := h
  injection hv with h1 h2 h3
  subst h1; subst h2; subst h3
  refine ⟨_, c - k, by rw [List.length_drop], ⟨by rw [List.length_drop]; omega, by omega, fun hA => ?_⟩, fun h0 => ?_⟩
  · have h5 : A = none := by
      split at hA
      · exact hA
      · cases A with
        | none => rfl
        | some a => cases hA
    have := hlc.2.2 h5
    omega
  · rw [List.length_drop] at h0
    obtain ⟨b, off, hA, hb, hcell⟩ := hc (by omega)
    refine ⟨b, off + k, ?_, hb, fun j hj => ?_⟩
    · rw [if_neg (by omega), hA]
      simp [addr_add]
    · rw [List.length_drop] at hj
      rw [Nat.add_assoc, hcell (k + j) (by omega)]
      congr 2
      simp [List.getD]

end Go.Proofs.Ythgnflcdpmedlaa
