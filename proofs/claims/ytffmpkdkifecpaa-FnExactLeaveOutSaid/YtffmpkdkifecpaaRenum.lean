/-
  The contract of renumbered at each closure that is handed to it.
-/
import Derived.Test.YtffmpkdkifecpaaSort
import Derived.Test.YtffmpkdkifecpaaRingM
namespace Go.Proofs.Ytffmpkdkifecpaa
open Go.RowKit
set_option maxRecDepth 100000
set_option linter.unusedVariables false

theorem acc_ne {E : TypeId} {w : World} {lo : Nat} {v : Value} {l : List Int} (h : Acc E w lo v l) (hl : 0 < l.length) : v ≠ .slice none 0 0 := by
  rintro rfl
  rcases h.2 with ⟨_, hn⟩ | ⟨g, c, cur, hv, _⟩
  · omega
  · cases hv
theorem setL_snoc {m : List Int} {y : Int} (h : y ∉ m) : setL (m ++ [y]) = putI (setL m) y := by
  unfold setL
  rw [List.foldl_append, List.foldl_cons, List.foldl_nil]
  have h2 : y ∉ setL m := fun hm => h ((mem_setL m y).1 hm)
  show putU (setL m) y = _
  unfold putU
  rw [if_neg (by simpa using h2)]
  rfl

set_option maxHeartbeats 2000000 in
theorem renumLeave_any (v : Value) (x : Rg) (n : Int) (g3 g2 : Nat) (f : Int → Int) (w : World) (h : RRg w w.heap.size v x) (hn : x.d.length ≤ 1000)
    (hcl : ∀ wr y, Below w.heap.size w wr → y ∈ x.d → Calls Try.prog 34 #[.int .i64 y, .pointer (some ⟨g3, 0, none⟩), .pointer (some ⟨g2, 0, none⟩)] wr (RetV wr (.int .i64 (f y)))) :
    Calls Try.prog 33 #[v, .int .i64 n, .func (.func 34) #[] #[.pointer (some ⟨g3, 0, none⟩), .pointer (some ⟨g2, 0, none⟩)]] w (RetRg 3 w ⟨n, setL (x.d.map f)⟩) := by
  obtain ⟨sv, rfl, h⟩ := h
  obtain ⟨k, d⟩ := x
  have h3 := h
  obtain ⟨A, c, rfl, hlc, hc⟩ := h
  simp only [RgV] at hn h3 hlc hcl hc ⊢
  obtain ⟨i0, hi, hz0, hz1, hz2⟩ := info_parts int_info
  have HCL := Lib.hid hcl
  clear hcl
  have hz : (d.length : Int) ≤ 1000 := by omega
  have hB0 := (BK.made w 26 #[.int .i64 k, .slice A d.length c]).alloc (.cells #[.int .i64 0, .slice none 0 0] 26)
  have hC0 := BK.made (w.alloc (.cells #[.int .i64 k, .slice A d.length c] 26)) 26 #[.int .i64 0, .slice none 0 0]
  rw [World.size_alloc] at hC0
  have hW : Below w.heap.size w ((w.alloc (.cells #[.int .i64 k, .slice A d.length c] 26)).alloc (.cells #[.int .i64 0, .slice none 0 0] 26)) := ((Below.refl _ _).alloc (Nat.le_refl _) _).alloc (by simp) _
  obtain ⟨D, hD⟩ : ∃ D, D = setL (d.map f) := ⟨_, rfl⟩
  rw [show ({ k := n, d := setL (d.map f) } : Rg) = ⟨n, D⟩ from by rw [hD]]
  have HD := Lib.hid hD
  clear hD
  obtain ⟨W0, hW0⟩ : ∃ W0, W0 = (w.alloc (.cells #[.int .i64 k, .slice A d.length c] 26)).alloc (.cells #[.int .i64 0, .slice none 0 0] 26) := ⟨_, rfl⟩
  have hs0 : W0.heap.size = w.heap.size + 1 + 1 := by rw [hW0, World.size_alloc, World.size_alloc]
  have HBX := Lib.hid hB0
  have q0' := hB0.cell 0
  have q1' := hB0.cell 1
  simp at q0' q1'
  rw [← hW0] at hB0 hC0 hW
  have HB0 := Lib.hid hB0
  have HC0 := Lib.hid hC0
  have HW := Lib.hid hW
  have hHC := Lib.hid hc
  clear hB0 hC0 hW hc
  have HS0 := Lib.hid hs0
  clear hs0
  go_enter Try.func33, Try.ntmps33
  go_wp2_with (at_make; refine wpList_make_own _ rfl _ _ 22 rfl (w.heap.size + 1 + 1) 3 i0 _ 1 Try.underlying22 hi hz0 hz1 _ _ _ d.length rfl rfl rfl (by rw [hz2]; omega) (by unfold maxLen; omega) (by simp) ?_; intro w1 hown hg; have B1 := HBX.out.step ((Below.refl _ _).grown hg (Nat.le_refl _) (by intro k hk; cases hk)); have p0 := B1.cell 0; have p1 := B1.cell 1; simp at p0 p1)
  rw [← hW0] at hown hg
  rw [HS0.out] at hown
  have hb1 : Below W0.heap.size W0 w1 := (Below.refl _ _).grown hg (Nat.le_refl _) (by intro k hk; cases hk)
  have ha1 : Acc 3 w1 W0.heap.size (.slice (some ⟨w.heap.size + 1 + 1, 0, none⟩) 0 d.length) [] := by rw [HS0.out]; exact hown
  clear HBX
  clear hown hg hW0
  go_loopw [7, 17] (fun u i wr => ∃ j : Nat, j ≤ d.length ∧ i = .int .i64 j ∧ u ≠ .slice none 0 0 ∧ Acc 3 wr W0.heap.size u ((d.take j).map f) ∧ Below W0.heap.size W0 wr) (fun _ i _ => d.length - (intOf i).toNat)
  case atStart => exact ⟨0, Nat.zero_le _, rfl, (fun h => by cases h), ha1, hb1⟩
  case round =>
    obtain ⟨j, hj, rfl, hne, hacc, hbw⟩ := hrel
    have hsz := hbw.size
    by_cases hlt : j < d.length
    · obtain ⟨bb, off, hA, hbB, hcell⟩ := hHC.out (by omega)
      subst hA
      have hbT := HW.out.trans (hbw.mono HW.out.size)
      have hcx : wr.cell? ⟨bb, off + j, none⟩ = some (.int .i64 (d.getD j 0)) := (hbT.cell (p := ⟨bb, off + j, none⟩) hbB).trans (hcell j hlt)
      have hg : d.getD j 0 = d[j] := by simp [hlt]
      have HM : Hid (d.getD j 0 ∈ d) := by show _ ∈ _; rw [hg]; exact List.getElem_mem hlt
      have HT : Hid ((d.take (j + 1)).map f = (d.take j).map f ++ [f (d.getD j 0)]) := by show _ = _; rw [List.take_succ_eq_append_getElem hlt, List.map_append, List.map_cons, List.map_nil, hg]
      have hol : ((d.take j).map f).length ≤ 1000 := by simp; omega
      clear hcell hg
      have HNE := Lib.hid hne
      clear hne
      generalize (d.take j).map f = acc at hacc HT hol
      obtain ⟨y, hy⟩ : ∃ y, y = d.getD j 0 := ⟨_, rfl⟩
      rw [← hy] at hcx HM HT
      clear hy
      go_wp2_with fail
      refine (HCL.out wr y hbT HM.out).mono ?_; rintro e w3 ⟨rfl, hb3⟩
      have hacc3 := hacc.step hb3
      have hbw3 := hbw.trans (hb3.mono hsz)
      have hsz3 := hbw3.size
      generalize f y = z at HT
      go_wp2_with (at_builtin; refine wpList_push rfl (.tmp 21) (.tmp 25) 22 rfl 3 i0 Try.underlying22 hi hz0 hz1 hz2 w3 W0 W0.heap.size _ acc z rfl rfl hacc3 rfl (by omega) hsz3 hbw3 ?_; intro v4 w4 hacc4 hbw4; have hne4 := acc_ne hacc4 (by simp))
      go_roundw
      case rel => first | exact ⟨j + 1, by omega, by go_num, hne4, by rw [HT.out]; exact hacc4, hbw4⟩ | exact ⟨j + 1, by omega, by omega, hne4, by rw [HT.out]; exact hacc4, hbw4⟩ | exact ⟨j + 1, by omega, by go_num, hne4, by rw [HT.out]; exact hacc4⟩ | exact ⟨j + 1, by omega, by go_num, by rw [HT.out]; exact hacc4, hbw4⟩ | (refine ⟨j + 1, by omega, by omega, ?_⟩; rw [HT.out]; first | exact ⟨hne4, hacc4⟩ | exact ⟨hacc4, hbw4⟩ | exact hacc4)
      case measure => simp [intOf]; omega
    · obtain rfl : j = d.length := by omega
      rw [List.take_length] at hacc
      obtain ⟨A5, c5, rfl⟩ := acc_shape hacc
      have hml : (d.map f).length = d.length := by simp
      rw [hml] at hacc hne
      have HNE := Lib.hid hne
      clear hml hne
      have hl2 : (d.map f).length ≤ 1000 := by simp; omega
      have HACC := Lib.hid hacc
      have HSR : Hid (Calls Try.prog 49 #[.slice A5 d.length c5] wr (RetSort 3 wr W0.heap.size (.slice A5 d.length c5) (d.map f))) := sort_any _ _ _ _ hacc HNE.out hl2
      clear hacc
      go_wp2_with fail
      refine HSR.out.mono ?_; rintro e w3 ⟨rfl, m, hm, hms, hmm, hml, hb3⟩
      have hl3 : m.length ≤ 1000 := by omega
      have hbw3 := hbw.trans hb3
      have HCM : Hid (Calls Try.prog 50 #[.slice A5 d.length c5] w3 (RetComp 3 w3 W0.heap.size m)) := compact_any _ _ _ _ hm hbw3.size hms HNE.out hl3
      have HDM : Hid (setL m = D) := by
        show _ = _
        rw [HD.out]
        exact setL_one (setL_SS m) fun x => by rw [mem_setL, hmm]
      clear hm hms hmm hml
      go_wp2_with fail
      refine HCM.out.mono ?_; rintro e w5 ⟨u, rfl, hu, hb5⟩
      rw [HDM.out] at hu
      obtain ⟨A6, c6, rfl⟩ := acc_shape hu
      have hbw5 := hbw3.trans hb5
      have C5 := HC0.out.step hbw5
      have c0 := C5.cell 0
      have c1 := C5.cell 1
      have f0 := C5.free 0
      have f1 := C5.free 1
      simp at c0 c1
      have hs5 := hbw5.size
      have hs6 := HS0.out
      have hoi := hu.oi
      have hlow := HW.out.trans (hbw5.mono HW.out.size)
      have hwr := ((Wr.refl (w.heap.size + 1) (w.heap.size + 2) w5).setCell (p := ⟨w.heap.size + 1, 0, none⟩) (Nat.le_refl _) (Nat.lt_succ_self _) (.int .i64 n)).setCell (p := ⟨w.heap.size + 1, 1, none⟩) (Nat.le_refl _) (Nat.lt_succ_self _) (.slice A6 D.length c6)
      have HO := Lib.hid ((hoi.far hwr (.inr (by omega))).wide (lo' := w.heap.size) (by omega) hwr.size)
      have HR := Lib.hid (rg_zeroed (g := w.heap.size + 1) (by omega) hlow (.int .i64 n) (.slice A6 D.length c6))
      clear hoi hu hwr hs6 hs5 hlow hbw5 hbw3 hbw C5
      go_wp2_with fail
      refine bodyPost_ret (v := RgV ⟨n, D⟩ (.slice A6 D.length c6)) (by simp [results, Try.results33, go_sem, RgV, c0, c1]) rfl ⟨_, rfl, ⟨_, rfl, HO.out⟩, HR.out⟩

end Go.Proofs.Ytffmpkdkifecpaa
