/-
  The contracts of BreakLink, at every argument.
-/
import Derived.Test.YtifebadcfopfkaaPut
import Derived.Deep.RegionWith
namespace Go.Proofs.Ytifebadcfopfkaa
open Go.RowKit
set_option maxRecDepth 100000
set_option linter.unusedVariables false

set_option maxHeartbeats 2000000 in
theorem implBreakLink_any (v : Value) (x : Rg) (t : Int) (w : World) (h : RRg w w.heap.size v x) (hn : x.d.length ≤ 1048576) (hx : (Lit.int .i64 t).wf = true) :
    Calls Try.prog 65 #[v, .int .i64 t] w (RetRgB 3 w (breakLk x t).1 (breakLk x t).2) := by
  cases hg : (isRg x && wi t 0 (x.k - 1))
  rotate_left
  · cases hh : hasI x.d t
    · rw [breakLk_yes hg hh]
      exact implBreakLink_yes v x t w h hn hx hg hh
    · rw [breakLk_no (fun hk => by rw [hh] at hk; exact absurd hk.2 (by simp))]
      obtain ⟨sv, rfl, h⟩ := h
      obtain ⟨k, d⟩ := x
      have h3 := h
      obtain ⟨A, c, rfl, hlc, hc⟩ := h
      clear hc
      simp only [RgV] at hn h3 hlc hg hh ⊢
      have hg2 : isRg ⟨k, d⟩ = true := (Bool.and_eq_true _ _ ▸ hg).1
      have hlen := isRg_len hg2
      have hss : SS d := (isRg_d hg2).ss
      simp only at hlen
      have hB0 := ((BK.made w 26 #[.int .i64 k, .slice A d.length c]).alloc (.cells #[.int .i64 0, .slice none 0 0] 26)).alloc (.cells #[.int .i64 t] 3)
      have hC0 := (BK.made (w.alloc (.cells #[.int .i64 k, .slice A d.length c] 26)) 26 #[.int .i64 0, .slice none 0 0]).alloc (.cells #[.int .i64 t] 3)
      rw [World.size_alloc] at hC0
      have hW : Below w.heap.size w (((w.alloc (.cells #[.int .i64 k, .slice A d.length c] 26)).alloc (.cells #[.int .i64 0, .slice none 0 0] 26)).alloc (.cells #[.int .i64 t] 3)) := (((Below.refl _ _).alloc (Nat.le_refl _) _).alloc (by simp) _).alloc (by simp; omega) _
      have h4 := (h3.below hW).more hW.size
      have hl := lit1 (w := (w.alloc (.cells #[.int .i64 k, .slice A d.length c] 26)).alloc (.cells #[.int .i64 0, .slice none 0 0] 26)) (x := t) (t := 3) (g := w.heap.size + 1 + 1) (by rw [World.size_alloc, World.size_alloc])
      go_enter Try.func65, Try.ntmps65
      go_wp2_with fail
      refine (isRingWith_any _ _ ⟨k, d⟩ [t] _ ⟨_, rfl, h4⟩ hl hn (by simp)).mono ?_; rintro e w1 ⟨rfl, hb1⟩
      rw [okAll_one, hg]
      have T1 := hW.trans (hb1.mono hW.size)
      have B1 := hB0.step hb1
      have C1 := hC0.step hb1
      have R1 := (h4.step hb1 (Nat.le_refl _)).more hb1.size
      have q0 := B1.cell 0
      have q1 := B1.cell 1
      have c0 := C1.cell 0
      have c1 := C1.cell 1
      have f0 := C1.free 0
      have f1 := C1.free 1
      simp at q0 q1 c0 c1
      clear hB0 hC0 hW h4 hl hb1
      go_wp2_with fail
      refine (search_any _ d t _ R1 (by omega) hss).mono ?_; rintro e w' ⟨i, rfl, rfl, hcut⟩
      rw [hh]
      clear hcut R1 B1
      go_wp2_with fail
      refine bodyPost_ret (v := .tuple #[RgV RgZero (.slice none 0 0), .bool false]) (by simp [results, Try.results65, go_sem, RgV, RgZero, c0, c1]) rfl ⟨_, rfl, oRgZero _ _ _ _, ?_⟩
      exact rg_zeroed (by omega) T1 _ _
  · rw [breakLk_no (fun hk => by rw [hg] at hk; exact absurd hk.1 (by simp))]
    obtain ⟨sv, rfl, h⟩ := h
    obtain ⟨k, d⟩ := x
    have h3 := h
    obtain ⟨A, c, rfl, hlc, hc⟩ := h
    clear hc
    simp only [RgV] at hn h3 hlc hg ⊢
    have hC0 := (BK.made (w.alloc (.cells #[.int .i64 k, .slice A d.length c] 26)) 26 #[.int .i64 0, .slice none 0 0]).alloc (.cells #[.int .i64 t] 3)
    rw [World.size_alloc] at hC0
    have hW : Below w.heap.size w (((w.alloc (.cells #[.int .i64 k, .slice A d.length c] 26)).alloc (.cells #[.int .i64 0, .slice none 0 0] 26)).alloc (.cells #[.int .i64 t] 3)) := (((Below.refl _ _).alloc (Nat.le_refl _) _).alloc (by simp) _).alloc (by simp; omega) _
    have h4 := (h3.below hW).more hW.size
    have hl := lit1 (w := (w.alloc (.cells #[.int .i64 k, .slice A d.length c] 26)).alloc (.cells #[.int .i64 0, .slice none 0 0] 26)) (x := t) (t := 3) (g := w.heap.size + 1 + 1) (by rw [World.size_alloc, World.size_alloc])
    go_enter Try.func65, Try.ntmps65
    go_wp2_with fail
    refine (isRingWith_any _ _ ⟨k, d⟩ [t] _ ⟨_, rfl, h4⟩ hl hn (by simp)).mono ?_; rintro e w1 ⟨rfl, hb1⟩
    rw [okAll_one, hg]
    have T1 := hW.trans (hb1.mono hW.size)
    have C1 := hC0.step hb1
    have c0 := C1.cell 0
    have c1 := C1.cell 1
    have f0 := C1.free 0
    have f1 := C1.free 1
    simp at c0 c1
    clear hC0 hW h4 hl hb1
    go_wp2_with fail
    refine bodyPost_ret (v := .tuple #[RgV RgZero (.slice none 0 0), .bool false]) (by simp [results, Try.results65, go_sem, RgV, RgZero, c0, c1]) rfl ⟨_, rfl, oRgZero _ _ _ _, ?_⟩
    exact rg_zeroed (by omega) T1 _ _

set_option maxHeartbeats 2000000 in
theorem specBreakLink_any (v : Value) (x : Rg) (t : Int) (w : World) (h : RRg w w.heap.size v x) (hn : x.d.length ≤ 1048576) (hx : (Lit.int .i64 t).wf = true) :
    Calls Try.prog 64 #[v, .int .i64 t] w (RetRgB 3 w (breakLk x t).1 (breakLk x t).2) := by
  obtain ⟨sv, rfl, h⟩ := h
  obtain ⟨k, d⟩ := x
  have h3 := h
  obtain ⟨A, c, rfl, hlc, hc⟩ := h
  clear hc
  simp only [RgV] at hn h3 hlc ⊢
  have hB0 := (BK.made w 26 #[.int .i64 k, .slice A d.length c]).alloc (.cells #[.int .i64 0, .slice none 0 0] 26)
  have hC0 := BK.made (w.alloc (.cells #[.int .i64 k, .slice A d.length c] 26)) 26 #[.int .i64 0, .slice none 0 0]
  rw [World.size_alloc] at hC0
  have hW : Below w.heap.size w ((w.alloc (.cells #[.int .i64 k, .slice A d.length c] 26)).alloc (.cells #[.int .i64 0, .slice none 0 0] 26)) := ((Below.refl _ _).alloc (Nat.le_refl _) _).alloc (by simp) _
  have h4 := (h3.below hW).more hW.size
  cases hg : (isRg ⟨k, d⟩ && wi t 0 (k - 1))
  · rw [breakLk_no (fun hk => by simp only at hk; rw [hg] at hk; exact absurd hk.1 (by simp))]
    go_enter Try.func64, Try.ntmps64
    go_wp2_with fail
    refine (riHas_any _ ⟨k, d⟩ t _ ⟨_, rfl, h4⟩ hn).mono ?_; rintro e w1 ⟨rfl, hb1⟩
    rw [hg]
    have T1 := hW.trans (hb1.mono hW.size)
    have C1 := hC0.step hb1
    have c0 := C1.cell 0
    have c1 := C1.cell 1
    have f0 := C1.free 0
    have f1 := C1.free 1
    simp at c0 c1
    clear hC0 hW h4 hb1 hB0
    go_wp2_with fail
    refine bodyPost_ret (v := .tuple #[RgV RgZero (.slice none 0 0), .bool false]) (by simp [results, Try.results64, go_sem, RgV, RgZero, c0, c1]) rfl ⟨_, rfl, oRgZero _ _ _ _, ?_⟩
    exact rg_zeroed (by omega) T1 _ _
  have hg2 : isRg ⟨k, d⟩ = true := (Bool.and_eq_true _ _ ▸ hg).1
  have hlen := isRg_len hg2
  have hss : SS d := (isRg_d hg2).ss
  simp only at hlen
  cases hh : hasI d t
  rotate_left
  · rw [breakLk_no (fun hk => by simp only at hk; rw [hh] at hk; exact absurd hk.2 (by simp))]
    go_enter Try.func64, Try.ntmps64
    go_wp2_with fail
    refine (riHas_any _ ⟨k, d⟩ t _ ⟨_, rfl, h4⟩ hn).mono ?_; rintro e w1 ⟨rfl, hb1⟩
    rw [hg]
    have T1 := hW.trans (hb1.mono hW.size)
    have B1 := hB0.step hb1
    have C1 := hC0.step hb1
    have R1 := (h4.step hb1 (Nat.le_refl _)).more hb1.size
    have q0 := B1.cell 0
    have q1 := B1.cell 1
    have c0 := C1.cell 0
    have c1 := C1.cell 1
    have f0 := C1.free 0
    have f1 := C1.free 1
    simp at q0 q1 c0 c1
    clear hC0 hW h4 hb1 hB0 B1
    go_wp2_with fail
    refine (l1Has_any _ d t _ R1 hn).mono ?_; rintro e w' ⟨rfl, rfl⟩
    rw [hh]
    clear R1
    go_wp2_with fail
    refine bodyPost_ret (v := .tuple #[RgV RgZero (.slice none 0 0), .bool false]) (by simp [results, Try.results64, go_sem, RgV, RgZero, c0, c1]) rfl ⟨_, rfl, oRgZero _ _ _ _, ?_⟩
    exact rg_zeroed (by omega) T1 _ _
  rw [breakLk_yes (x := ⟨k, d⟩) hg hh]
  simp only
  have hplen := putI_len d t
  obtain ⟨D, hD⟩ : ∃ D, D = putI d t := ⟨_, rfl⟩
  rw [show ({ k := k, d := putI d t } : Rg) = ⟨k, D⟩ from by rw [hD]]
  have hDl : (D.length : Int) ≤ 1048576 := by rw [hD]; omega
  have HD := Lib.hid hD
  clear hD hplen
  go_enter Try.func64, Try.ntmps64
  go_wp2_with fail
  refine (riHas_any _ ⟨k, d⟩ t _ ⟨_, rfl, h4⟩ hn).mono ?_; rintro e w1 ⟨rfl, hb1⟩
  rw [hg]
  have T1 := hW.trans (hb1.mono hW.size)
  have B1 := hB0.step hb1
  have C1 := hC0.step hb1
  have R1 := (h4.step hb1 (Nat.le_refl _)).more hb1.size
  have q0 := B1.cell 0
  have q1 := B1.cell 1
  have c0 := C1.cell 0
  have c1 := C1.cell 1
  have f0 := C1.free 0
  have f1 := C1.free 1
  simp at q0 q1 c0 c1
  clear hC0 hW h4 hb1 hB0
  go_wp2_with fail
  refine (l1Has_any _ d t _ R1 hn).mono ?_; rintro e w' ⟨rfl, rfl⟩
  rw [hh]
  have HCC : Hid (Calls Try.prog 97 #[.slice A d.length c, .int .i64 t] w1.drew (RetL 3 w1.drew D)) := by
    show Calls _ _ _ _ _
    rw [HD.out]
    exact l1Put_new _ d t _ (R1.drewN 1) (by omega) hss hh
  have HB1 := Lib.hid B1
  have HC1 := Lib.hid C1
  have HT1 := Lib.hid T1
  clear B1 C1 T1 R1
  go_upto_region 3 with fail
  go_region_held3 (fun w' => w'.cell? ⟨w.heap.size, 0, none⟩ = some (.int .i64 k) ∧ w'.cell? ⟨w.heap.size, 1, none⟩ = some (.slice A d.length c)) (with_reducible first | exact ⟨q0, q1⟩ | (refine ⟨?_, ?_⟩ <;> assumption) | go_keep)
    (first | (go_at_call 97; (with_reducible refine HCC.out.mono ?_); rintro e w3 ⟨u, rfl, ho, hb3⟩; have t3 := (Below.refl w1.heap.size w1).drew.trans hb3; have y3 := HB1.out.step t3; have z3 := HC1.out.step t3; have d0 := y3.cell 0; have d1 := y3.cell 1; have e0 := z3.cell 0; have e1 := z3.cell 1; have r0 := z3.free 0; have r1 := z3.free 1; simp at d0 d1 e0 e1; obtain ⟨A3, c3, rfl, _, _⟩ := ho.ri))
  · go_wp2_with fail
    have hz1 := HC1.out.1
    have hs1 := HT1.out.size
    have hs3 := t3.size
    have ho2 : OI 3 w3 w1.heap.size w3.heap.size (.slice A3 D.length c3) D := ho
    refine bodyPost_ret (v := .tuple #[RgV ⟨k, D⟩ (.slice A3 D.length c3), .bool true]) (by simp [results, Try.results64, go_sem, RgV, e0, e1]) rfl ⟨_, rfl, ⟨_, rfl, ?_⟩, ?_⟩
    · have hwr := ((Wr.refl (w.heap.size + 1) (w.heap.size + 2) w3).setCell (p := ⟨w.heap.size + 1, 0, none⟩) (Nat.le_refl _) (Nat.lt_succ_self _) (.int .i64 k)).setCell (p := ⟨w.heap.size + 1, 1, none⟩) (Nat.le_refl _) (Nat.lt_succ_self _) (.slice A3 D.length c3)
      exact (ho2.far hwr (.inr (by omega))).wide (by omega) hwr.size
    · exact rg_zeroed (by omega) (HT1.out.trans (t3.mono (by omega))) _ _
end Go.Proofs.Ytifebadcfopfkaa
