/-
  The contract of the model's l1Put where the number is not there.
-/
import Derived.Test.YtffmpkdkifecpaaRingE
namespace Go.Proofs.Ytffmpkdkifecpaa
open Go.RowKit
set_option maxRecDepth 100000
set_option linter.unusedVariables false

set_option maxHeartbeats 1000000 in
theorem l1Put_new (v : Value) (l : List Int) (t : Int) (w : World) (h : RI w w.heap.size v l) (hn : l.length ≤ 1000) (hr : SS l) (hno : hasI l t = false) :
    Calls Try.prog 30 #[v, .int .i64 t] w (RetL 3 w (putI l t)) := by
  have h0 := h
  obtain ⟨A, c, rfl, hlc, hc⟩ := h
  obtain ⟨i0, hi, hz0, hz1, hz2⟩ := info_parts int_info
  have hn' : (l.length : Int) ≤ 1000 := by omega
  have HR := Lib.hid hr
  have HNO := Lib.hid hno
  clear hr hno
  go_enter Try.func30, Try.ntmps30
  go_wp2_with fail
  go_loop [5] (fun a => ∃ k : Nat, a = .int .i64 k ∧ k ≤ l.length ∧ (∀ m, m < k → l.getD m 0 < t)) (fun a => l.length - (intOf a).toNat)
  case atStart => exact ⟨0, rfl, Nat.zero_le _, fun m h => by omega⟩
  case round =>
    obtain ⟨k, rfl, hk, hlo⟩ := hrel
    have HLO := Lib.hid hlo
    clear hlo
    have hkc : (k : Int) ≤ c := by omega
    by_cases hlt : k < l.length
    · have hkl : (k : Int) ≤ l.length := by omega
      obtain ⟨bb, off, hA, hbB, hcell⟩ := hc (by omega)
      have hcx : w.cell? ⟨bb, off + k, none⟩ = some (.int .i64 (l.getD k 0)) := hcell _ hlt
      have HC := Lib.hid hcell
      clear hcell hc
      have HLT : Hid (∀ x, x = l.getD k 0 → x < t → ∀ m, m < k + 1 → l.getD m 0 < t) := by
        show ∀ x, _
        rintro x rfl hx m hm
        by_cases e : m = k
        · rw [e]; exact hx
        · exact HLO.out m (by omega)
      have HGE : Hid (∀ x, x = l.getD k 0 → ¬ x < t → ∀ m, k ≤ m → m < l.length → t ≤ l.getD m 0) := by
        show ∀ x, _
        rintro x rfl hx m hm hml
        by_cases e2 : m = k
        · rw [e2]; omega
        · have h1 := List.pairwise_iff_getElem.1 HR.out k m (by omega) (by omega) (by omega)
          simp only [List.getD, show m < l.length by omega, hlt, List.getElem?_eq_getElem, Option.getD_some] at hx ⊢
          omega
      have HNE : Hid (∀ x, x = l.getD k 0 → x ≠ t) := by
        show ∀ x, _
        rintro x rfl hx
        have := hasI_at hlt hx
        rw [HNO.out] at this
        cases this
      obtain ⟨x, hx⟩ : ∃ x, x = l.getD k 0 := ⟨_, rfl⟩
      rw [← hx] at hcx
      have HXX := Lib.hid hx
      clear hx
      subst hA
      by_cases hxt : x < t
      · have HA := Lib.hid (HLT.out x HXX.out hxt)
        go_wp2_with fail
        go_round
        case rel => exact ⟨k + 1, by go_num, by omega, HA.out⟩
        case measure => simp [intOf]; omega
      · have hne : (x == t) = false := beq_eq_false_iff_ne.2 (HNE.out x HXX.out)
        have HA := Lib.hid (HGE.out x HXX.out hxt)
        have hxt2 : t ≤ x := by omega
        obtain ⟨A, hAd⟩ : ∃ A : Option Addr, A = some ⟨bb, off, none⟩ := ⟨_, rfl⟩
        have hcut : CutAt l t k := ⟨hk, HLO.out, HA.out⟩
        have HP : Hid (putI l t = l.take k ++ [t] ++ l.drop k) := by show _ = _; rw [hcut.put]; simp
        have HR1 := Lib.hid (h0.front k hcut.le)
        have hRt := h0.tail k hcut.le
        simp only [Option.map_some, addr_add] at hRt
        rw [if_neg (show ¬ c = k by omega)] at hRt
        have HR2 := Lib.hid hRt
        have hl1 : ((l.take k).length : Int) ≤ 1000 := by rw [List.length_take]; omega
        have hl2 : (l.drop k).length ≤ 1000 := by rw [List.length_drop]; omega
        have hl1' : (l.take k).length ≤ 1000 := by omega
        clear hcut hRt
        generalize l.take k = D1 at HP HR1 hl1 hl1'
        generalize l.drop k = D2 at HP HR2 hl2
        have hbe : Below w.heap.size w (w.alloc (.cells #[] 3)) := (Below.refl _ _).alloc (Nat.le_refl _) _
        have hacc0 : Acc 3 (w.alloc (.cells #[] 3)) w.heap.size (.slice (some ⟨w.heap.size, 0, none⟩) 0 0) [] := World.ownsRow_made w #[] 0 (Nat.le_refl _) (by simp) rfl
        have hr1 : RI (w.alloc (.cells #[] 3)) w.heap.size (.slice (some ⟨bb, off, none⟩) k c) D1 := HR1.out.below hbe
        have hs1 := HR1.out.shape
        have hs2 := HR2.out.shape
        have HS1 := Lib.hid hs1
        have HS2 := Lib.hid hs2
        have hszz : w.heap.size ≤ (w.alloc (.cells #[] 3)).heap.size := hbe.size
        clear hs1 hs2
        go_wp2_with (first
          | (at_builtin; refine wpList_cat rfl (.tmp 34) (.tmp 37) 22 rfl 3 i0 Try.underlying22 hi hz0 hz1 hz2 w w.heap.size w.heap.size _ _ [] D1 rfl hacc0 rfl hr1 HS1.out (by simp only [List.length_nil]; omega) hbe hszz ?_; intro v2 w2 hacc2 hb2; have hsz2 := hb2.size; rw [List.nil_append] at hacc2)
          | (at_builtin; refine wpList_push rfl (.tmp 39) (.tmp 41) 22 rfl 3 i0 Try.underlying22 hi hz0 hz1 hz2 w2 w w.heap.size _ D1 t rfl rfl hacc2 rfl (by omega) hsz2 hb2 ?_; intro v3 w3 hacc3 hb3; have hsz3 := hb3.size; have hr2 := HR2.out.below hb3; have hl3 : (D1 ++ [t]).length + D2.length < 1000000000 := by simp; omega)
          | (at_builtin; refine wpList_cat rfl (.tmp 43) (.tmp 46) 22 rfl 3 i0 Try.underlying22 hi hz0 hz1 hz2 w w.heap.size w.heap.size _ _ (D1 ++ [t]) D2 rfl hacc3 rfl hr2 HS2.out hl3 hb3 hsz3 ?_; intro v4 w4 hacc4 hb4))
        go_ret
        refine ⟨_, rfl, ?_, hb4⟩
        rw [HP.out]
        exact hacc4.oi
    · obtain rfl : k = l.length := by omega
      have hcut : CutAt l t l.length := ⟨Nat.le_refl _, HLO.out, fun m h1 h2 => by omega⟩
      have HP : Hid (putI l t = l.take l.length ++ [t] ++ l.drop l.length) := by show _ = _; rw [hcut.put]; simp
      have HR1 := Lib.hid (h0.front l.length hcut.le)
      have hRt := h0.tail l.length hcut.le
      obtain ⟨V, hV⟩ : ∃ V : Option Addr, (if c = l.length then A else Option.map (fun x => x.add l.length) A) = V := ⟨_, rfl⟩
      rw [hV, Nat.sub_self] at hRt
      have HR2 := Lib.hid hRt
      have hl1 : ((l.take l.length).length : Int) ≤ 1000 := by rw [List.length_take]; omega
      have hl2 : (l.drop l.length).length ≤ 1000 := by rw [List.length_drop]; omega
      have hl1' : (l.take l.length).length ≤ 1000 := by omega
      clear hcut hRt
      generalize l.take l.length = D1 at HP HR1 hl1 hl1'
      generalize l.drop l.length = D2 at HP HR2 hl2
      have hbe : Below w.heap.size w (w.alloc (.cells #[] 3)) := (Below.refl _ _).alloc (Nat.le_refl _) _
      have hacc0 : Acc 3 (w.alloc (.cells #[] 3)) w.heap.size (.slice (some ⟨w.heap.size, 0, none⟩) 0 0) [] := World.ownsRow_made w #[] 0 (Nat.le_refl _) (by simp) rfl
      have hr1 : RI (w.alloc (.cells #[] 3)) w.heap.size (.slice A l.length c) D1 := HR1.out.below hbe
      have hs1 := HR1.out.shape
      have hs2 := HR2.out.shape
      have HS1 := Lib.hid hs1
      have HS2 := Lib.hid hs2
      have hszz : w.heap.size ≤ (w.alloc (.cells #[] 3)).heap.size := hbe.size
      clear hs1 hs2
      go_wp2_with (first
        | (at_builtin; refine wpList_cat rfl (.tmp 34) (.tmp 37) 22 rfl 3 i0 Try.underlying22 hi hz0 hz1 hz2 w w.heap.size w.heap.size _ _ [] D1 rfl hacc0 rfl hr1 HS1.out (by simp only [List.length_nil]; omega) hbe hszz ?_; intro v2 w2 hacc2 hb2; have hsz2 := hb2.size; rw [List.nil_append] at hacc2)
        | (at_builtin; refine wpList_push rfl (.tmp 39) (.tmp 41) 22 rfl 3 i0 Try.underlying22 hi hz0 hz1 hz2 w2 w w.heap.size _ D1 t rfl rfl hacc2 rfl (by omega) hsz2 hb2 ?_; intro v3 w3 hacc3 hb3; have hsz3 := hb3.size; have hr2 := HR2.out.below hb3; have hl3 : (D1 ++ [t]).length + D2.length < 1000000000 := by simp; omega)
        | (at_builtin; refine wpList_cat rfl (.tmp 43) (.tmp 46) 22 rfl 3 i0 Try.underlying22 hi hz0 hz1 hz2 w w.heap.size w.heap.size _ _ (D1 ++ [t]) D2 rfl hacc3 rfl hr2 HS2.out hl3 hb3 hsz3 ?_; intro v4 w4 hacc4 hb4))
      go_ret
      refine ⟨_, rfl, ?_, hb4⟩
      rw [HP.out]
      exact hacc4.oi
end Go.Proofs.Ytffmpkdkifecpaa
