/-
  The contract of slices.Clone at slices of ints.
-/
import Derived.Test.YtfphkgialmjfnaaOne
import Derived.WalkSpells
import Derived.WalkLawsBesides
namespace Go.Proofs.Ytfphkgialmjfnaa
open Go.RowKit
set_option maxRecDepth 100000

theorem clone_any (v : Value) (l : List Int) (w : World) (h : RI w w.heap.size v l) (hn : l.length ≤ 1048576) :
    Calls Try.prog 49 #[v] w (RetL 3 w l) := by
  obtain ⟨A, c, rfl, hlc, hc⟩ := h
  obtain ⟨i0, hi, hz0, hz1, hz2⟩ := info_parts int_info
  rcases A with _ | ad
  · have hnil : l = [] := by
      rcases Nat.eq_zero_or_pos l.length with h0 | h0
      · exact List.eq_nil_of_length_eq_zero h0
      · obtain ⟨b, off, hA, _⟩ := hc h0
        cases hA
    subst hnil
    obtain rfl : c = 0 := hlc.2.2 rfl
    have he := fun (wx : World) => Lib.run_eql_slice_nil (P := Try.prog) wx 26 3 none 0 0 0 0 Try.underlying26
    go_enter Try.func49, Try.ntmps49
    go_wp2
    go_ret
    exact ⟨_, rfl, (Acc.nil _ _ _).oi, Below.refl _ _⟩
  · have he := fun (wx : World) => Lib.run_eql_slice_nil (P := Try.prog) wx 26 3 (some ad) l.length c 0 0 Try.underlying26
    have hcell : ∀ j u, (ics l)[j]? = some u → (w.alloc (.cells #[] 3)).cell? (ad.add j) = some u := by
      intro j u hj
      have hjl : j < l.length := by
        rcases Nat.lt_or_ge j l.length with h | h
        · exact h
        · rw [List.getElem?_eq_none (by rw [ics_length]; omega)] at hj; cases hj
      obtain ⟨b, off, hA, hb, hcl⟩ := hc (by omega)
      injection hA with hA
      subst hA
      rw [ics_get l j hjl] at hj
      injection hj with hj
      rw [addr_add, World.cell?_alloc_lt w _ _ hb, hcl j hjl, hj]
    have hown : (w.alloc (.cells #[] 3)).ownsRow w.heap.size 3 1 (.slice (some ⟨w.heap.size, 0, none⟩) 0 0) 0 [] := World.ownsRow_made w #[] 0 (Nat.le_refl _) (by simp) rfl
    have hlen := ics_length l
    have HL := Lib.hid hlen
    clear hlen
    go_enter Try.func49, Try.ntmps49
    go_wp2_with (at_builtin; refine wpList_append_own _ rfl _ _ 26 rfl w.heap.size 3 i0 (.int .i64 0) 1 8 Try.underlying26 hi hz0 hz1 hz2 rfl (by decide) (.slice (some ⟨w.heap.size, 0, none⟩) 0 0) 0 [] rfl hown ad l.length c (ics l) rfl (by rw [HL.out]; omega) hcell (ics_oneCell l) (by unfold maxLen; omega) (by omega) (by simp) ?_; intro v1 w1 hown1 hg1 _)
    go_ret
    have e1 : 0 + l.length = l.length := by omega
    rw [e1, List.nil_append] at hown1
    exact ⟨_, rfl, OI.of_row hown1, ((Below.refl _ _).alloc (Nat.le_refl _) _).grown hg1 (by simp) (fun k hk => Nat.le_of_eq (by simpa [Value.ownBlock] using hk))⟩
end Go.Proofs.Ytfphkgialmjfnaa
