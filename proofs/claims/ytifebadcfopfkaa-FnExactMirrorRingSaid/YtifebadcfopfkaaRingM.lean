/-
  The contracts of MendLink.
-/
import Derived.Test.YtifebadcfopfkaaPut
import Derived.Deep.RegionWith
namespace Go.Proofs.Ytifebadcfopfkaa
open Go.RowKit
set_option maxRecDepth 100000
set_option linter.unusedVariables false

/-- What MendLink says. -/
def mendLk (x : Rg) (t : Int) : Rg × Bool := if (isRg x && wi t 0 (x.k - 1)) = true ∧ hasI x.d t = true then (⟨x.k, outI x.d t⟩, true) else (RgZero, false)
theorem mendLk_len (x : Rg) (t : Int) : (mendLk x t).1.d.length ≤ 1048576 := by
  unfold mendLk
  split
  · next h =>
    have h1 : isRg x = true := by simpa using (Bool.and_eq_true _ _ ▸ h.1).1
    have := isRg_len h1
    have := outI_len x.d t
    show (outI x.d t).length ≤ _
    omega
  · simp [RgZero]
theorem mendLk_no {x : Rg} {t : Int} (h : ¬ ((isRg x && wi t 0 (x.k - 1)) = true ∧ hasI x.d t = true)) : mendLk x t = (RgZero, false) := by unfold mendLk; rw [if_neg h]
theorem mendLk_yes {x : Rg} {t : Int} (h : (isRg x && wi t 0 (x.k - 1)) = true) (h2 : hasI x.d t = true) : mendLk x t = (⟨x.k, outI x.d t⟩, true) := by unfold mendLk; rw [if_pos ⟨h, h2⟩]
theorem Acc.far {E : TypeId} {w w' : World} {lo a b : Nat} {v : Value} {l : List Int} (h : Acc E w lo v l) (hg : Wr a b w w') (hb : b ≤ lo) : Acc E w' lo v l := by
  have h0 := h
  rcases h.2 with ⟨rfl, hn⟩ | ⟨g, c, cur, rfl, hgl, _⟩
  · exact ⟨h.1, .inl ⟨rfl, hn⟩⟩
  · exact row_far h0 hg (by omega)
set_option maxHeartbeats 2000000 in
theorem implMendLink_yes (v : Value) (x : Rg) (t : Int) (w : World) (h : RRg w w.heap.size v x) (hn : x.d.length ≤ 1048576) (hx : (Lit.int .i64 t).wf = true) (hg : (isRg x && wi t 0 (x.k - 1)) = true) (hh : hasI x.d t = true) :
    Calls Try.prog 67 #[v, .int .i64 t] w (RetRgB 3 w ⟨x.k, outI x.d t⟩ true) := by
  obtain ⟨sv, rfl, h⟩ := h
  obtain ⟨k, d⟩ := x
  have h3 := h
  obtain ⟨A, c, rfl, hlc, hc⟩ := h
  clear hc
  simp only [RgV] at hn h3 hlc hg hh ⊢
  have hg2 : isRg ⟨k, d⟩ = true := (Bool.and_eq_true _ _ ▸ hg).1
  have hlen := isRg_len hg2
  have hss : SS d := (isRg_d hg2).ss
  simp only at hlen
  have hlen' : (d.length : Int) ≤ 12 := by omega
  have hB0 := ((BK.made w 26 #[.int .i64 k, .slice A d.length c]).alloc (.cells #[.int .i64 0, .slice none 0 0] 26)).alloc (.cells #[.int .i64 t] 3)
  have hC0 := (BK.made (w.alloc (.cells #[.int .i64 k, .slice A d.length c] 26)) 26 #[.int .i64 0, .slice none 0 0]).alloc (.cells #[.int .i64 t] 3)
  rw [World.size_alloc] at hC0
  have hW : Below w.heap.size w (((w.alloc (.cells #[.int .i64 k, .slice A d.length c] 26)).alloc (.cells #[.int .i64 0, .slice none 0 0] 26)).alloc (.cells #[.int .i64 t] 3)) := (((Below.refl _ _).alloc (Nat.le_refl _) _).alloc (by simp) _).alloc (by simp; omega) _
  have h4 := (h3.below hW).more hW.size
  have hl := lit1 (w := (w.alloc (.cells #[.int .i64 k, .slice A d.length c] 26)).alloc (.cells #[.int .i64 0, .slice none 0 0] 26)) (x := t) (t := 3) (g := w.heap.size + 1 + 1) (by rw [World.size_alloc, World.size_alloc])
  obtain ⟨D, hD⟩ : ∃ D, D = outI d t := ⟨_, rfl⟩
  rw [show ({ k := k, d := outI d t } : Rg) = ⟨k, D⟩ from by rw [hD]]
  have HD := Lib.hid hD
  clear hD
  go_enter Try.func67, Try.ntmps67
  go_wp2_with fail
  refine (isRingWith_any _ _ ⟨k, d⟩ [t] _ ⟨_, rfl, h4⟩ hl hn (by simp)).mono ?_; rintro e w1 ⟨rfl, hb1⟩
  rw [okAll_one, hg]
  have T1 := hW.trans (hb1.mono hW.size)
  have B1 := hB0.step hb1
  have C1 := hC0.step hb1
  have R1 := (h4.step hb1 (Nat.le_refl _)).more hb1.size
  have q0 := B1.cell 0
  have q1 := B1.cell 1
  simp at q0 q1
  clear hB0 hC0 hW h4 hl hb1
  go_wp2_with fail
  refine (search_any _ d t _ R1 (by omega) hss).mono ?_; rintro e w' ⟨i, rfl, rfl, hcut⟩
  rw [hh]
  have hi := hcut.le
  have hi' : (i : Int) ≤ 12 := by omega
  have hic : (i : Int) ≤ c := by omega
  have hid : (i : Int) ≤ d.length := by omega
  have c0 := C1.cell 0
  have c1 := C1.cell 1
  have f0 := C1.free 0
  have f1 := C1.free 1
  simp at c0 c1
  have hat : i < d.length ∧ d.getD i 0 = t := by
    have h5 := hcut.has hss.at
    rw [show d.contains t = true from hh] at h5
    simpa using h5.symm
  have hi1 : i + 1 ≤ d.length := hat.1
  have hi1' : (i : Int) + 1 ≤ 12 := by omega
  have hid1 : (i : Int) + 1 ≤ d.length := by omega
  have hw1 : IntKind.i64.wrap ((i : Int) + 1) = (i : Int) + 1 := IntWalk.i64_in _ (by omega)
  have hw2 : ((i : Int) + 1).toNat = i + 1 := by omega
  have hw3 : (0 : Int) ≤ (i : Int) + 1 := by omega
  have R1t := R1.tail (i + 1) hi1
  have hput : d.take i ++ (d.drop (i + 1) ++ []) = outI d t := by rw [outI_at hcut hss.at hat.1 hat.2]; simp
  have hVeq : (if c = i + 1 then A else Option.map (fun x => x.add (i + 1)) A) = (if c = i + 1 then A else Option.map (fun x => ({ block := x.block, off := x.off + (i + 1) } : Addr)) A) := by
    obtain ⟨A9, c9, he9, _, hc9⟩ := R1
    injection he9 with e1 _ _
    obtain ⟨bb, off, hA, _⟩ := hc9 (by omega)
    rw [e1, hA]
    simp [addr_add]
  rw [hVeq] at R1t
  obtain ⟨V, hV⟩ : ∃ V : Option Addr, (if c = i + 1 then A else Option.map (fun x => ({ block := x.block, off := x.off + (i + 1) } : Addr)) A) = V := ⟨_, rfl⟩
  rw [hV] at R1t
  clear hVeq
  have hplen := outI_len d t
  have hplen2 : D.length ≤ 12 := by rw [HD.out]; omega
  have hcc : Calls Try.prog 112 #[.slice (some ⟨w1.heap.size, 0, none⟩) 2 2]
      (w1.alloc (.cells #[.slice A i c, .slice V (d.length - (i + 1)) (c - (i + 1))] 24)).drew
      (RetL 3 (w1.alloc (.cells #[.slice A i c, .slice V (d.length - (i + 1)) (c - (i + 1))] 24)).drew D) := by
    have hbl : Below w1.heap.size w1 (w1.alloc (.cells #[.slice A i c, .slice V (d.length - (i + 1)) (c - (i + 1))] 24)).drew := ((Below.refl _ _).alloc (Nat.le_refl _) _).drew
    have hbs := BK.made w1 24 #[.slice A i c, .slice V (d.length - (i + 1)) (c - (i + 1))]
    have h5 := concat_any w1.heap.size 2 [(.slice A i c, d.take i), (.slice V (d.length - (i + 1)) (c - (i + 1)), d.drop (i + 1))]
      (w1.alloc (.cells #[.slice A i c, .slice V (d.length - (i + 1)) (c - (i + 1))] 24)).drew
      hbs.1 (fun j hj => by
        have := hbs.cell j
        obtain rfl | rfl : j = 0 ∨ j = 1 := by simp at hj; omega
        · exact this
        · exact this)
      (by
        intro p hp
        simp only [List.mem_cons, List.not_mem_nil, or_false] at hp
        rcases hp with rfl | rfl
        · exact ri_shape (((R1.front i hi).below hbl).more hbl.size)
        · exact ri_shape ((R1t.below hbl).more hbl.size))
      (by simp) (by
        have : cat [(.slice A i c, d.take i), (.slice V (d.length - (i + 1)) (c - (i + 1)), d.drop (i + 1))] = outI d t := hput
        rw [this]; omega)
    have e : cat [(.slice A i c, d.take i), (.slice V (d.length - (i + 1)) (c - (i + 1)), d.drop (i + 1))] = outI d t := hput
    rw [e, ← HD.out] at h5
    exact h5
  have HBL : Hid (Below w1.heap.size w1 (w1.alloc (.cells #[.slice A i c, .slice V (d.length - (i + 1)) (c - (i + 1))] 24)).drew) := ((Below.refl _ _).alloc (Nat.le_refl _) _).drew
  have HCC := Lib.hid hcc
  have HB1 := Lib.hid B1
  have HC1 := Lib.hid C1
  have HT1 := Lib.hid T1
  have hDl : (D.length : Int) ≤ 1048576 := by omega
  clear hat hplen2 hplen hcc hput B1 C1 T1 R1 R1t
  go_upto_region 6 with fail
  go_region_held3 (fun w' => w'.cell? ⟨w.heap.size, 0, none⟩ = some (.int .i64 k) ∧ w'.cell? ⟨w.heap.size, 1, none⟩ = some (.slice A d.length c)) (with_reducible first | exact ⟨q0, q1⟩ | (refine ⟨?_, ?_⟩ <;> assumption) | go_keep)
    (first | (go_at_call 112; (with_reducible refine HCC.out.mono ?_); rintro e w3 ⟨u, rfl, ho, hb3⟩; have t3 := HBL.out.trans (hb3.mono HBL.out.size); have y3 := HB1.out.step t3; have z3 := HC1.out.step t3; have d0 := y3.cell 0; have d1 := y3.cell 1; have e0 := z3.cell 0; have e1 := z3.cell 1; have r0 := z3.free 0; have r1 := z3.free 1; simp at d0 d1 e0 e1; obtain ⟨A3, c3, rfl, _, _⟩ := ho.ri))
  · go_wp2_with fail
    have hz1 := HC1.out.1
    have hs1 := HT1.out.size
    have hs2 := HBL.out.size
    have hs3 := hb3.size
    refine bodyPost_ret (v := .tuple #[RgV ⟨k, D⟩ (.slice A3 D.length c3), .bool true]) (by simp [results, Try.results67, go_sem, RgV, e0, e1]) rfl ⟨_, rfl, ⟨_, rfl, ?_⟩, ?_⟩
    · have hwr := ((Wr.refl (w.heap.size + 1) (w.heap.size + 2) w3).setCell (p := ⟨w.heap.size + 1, 0, none⟩) (Nat.le_refl _) (Nat.lt_succ_self _) (.int .i64 k)).setCell (p := ⟨w.heap.size + 1, 1, none⟩) (Nat.le_refl _) (Nat.lt_succ_self _) (.slice A3 D.length c3)
      exact (ho.far hwr (.inr (by omega))).wide (by omega) hwr.size
    · exact rg_zeroed (by omega) (HT1.out.trans (t3.mono (by omega))) _ _
set_option maxHeartbeats 2000000 in
theorem implMendLink_any (v : Value) (x : Rg) (t : Int) (w : World) (h : RRg w w.heap.size v x) (hn : x.d.length ≤ 1048576) (hx : (Lit.int .i64 t).wf = true) :
    Calls Try.prog 67 #[v, .int .i64 t] w (RetRgB 3 w (mendLk x t).1 (mendLk x t).2) := by
  cases hg : (isRg x && wi t 0 (x.k - 1))
  rotate_left
  · cases hh : hasI x.d t
    rotate_left
    · rw [mendLk_yes hg hh]
      exact implMendLink_yes v x t w h hn hx hg hh
    · rw [mendLk_no (fun hk => by rw [hh] at hk; exact absurd hk.2 (by simp))]
      obtain ⟨sv, rfl, h⟩ := h
      obtain ⟨k, d⟩ := x
      have h3 := h
      obtain ⟨A, c, rfl, hlc, hc⟩ := h
      clear hc
      simp only [RgV] at hn h3 hlc hg hh ⊢
      have hg2 : isRg ⟨k, d⟩ = true := (Bool.and_eq_true _ _ ▸ hg).1
      have hlen := isRg_len hg2
      have hss : SS d := (isRg_d hg2).ss
      simp only at hlen
      have hB0 := ((BK.made w 26 #[.int .i64 k, .slice A d.length c]).alloc (.cells #[.int .i64 0, .slice none 0 0] 26)).alloc (.cells #[.int .i64 t] 3)
      have hC0 := (BK.made (w.alloc (.cells #[.int .i64 k, .slice A d.length c] 26)) 26 #[.int .i64 0, .slice none 0 0]).alloc (.cells #[.int .i64 t] 3)
      rw [World.size_alloc] at hC0
      have hW : Below w.heap.size w (((w.alloc (.cells #[.int .i64 k, .slice A d.length c] 26)).alloc (.cells #[.int .i64 0, .slice none 0 0] 26)).alloc (.cells #[.int .i64 t] 3)) := (((Below.refl _ _).alloc (Nat.le_refl _) _).alloc (by simp) _).alloc (by simp; omega) _
      have h4 := (h3.below hW).more hW.size
      have hl := lit1 (w := (w.alloc (.cells #[.int .i64 k, .slice A d.length c] 26)).alloc (.cells #[.int .i64 0, .slice none 0 0] 26)) (x := t) (t := 3) (g := w.heap.size + 1 + 1) (by rw [World.size_alloc, World.size_alloc])
      go_enter Try.func67, Try.ntmps67
      go_wp2_with fail
      refine (isRingWith_any _ _ ⟨k, d⟩ [t] _ ⟨_, rfl, h4⟩ hl hn (by simp)).mono ?_; rintro e w1 ⟨rfl, hb1⟩
      rw [okAll_one, hg]
      have T1 := hW.trans (hb1.mono hW.size)
      have B1 := hB0.step hb1
      have C1 := hC0.step hb1
      have R1 := (h4.step hb1 (Nat.le_refl _)).more hb1.size
      have q0 := B1.cell 0
      have q1 := B1.cell 1
      have c0 := C1.cell 0
      have c1 := C1.cell 1
      have f0 := C1.free 0
      have f1 := C1.free 1
      simp at q0 q1 c0 c1
      clear hB0 hC0 hW h4 hl hb1
      go_wp2_with fail
      refine (search_any _ d t _ R1 (by omega) hss).mono ?_; rintro e w' ⟨i, rfl, rfl, hcut⟩
      rw [hh]
      clear hcut R1 B1
      go_wp2_with fail
      refine bodyPost_ret (v := .tuple #[RgV RgZero (.slice none 0 0), .bool false]) (by simp [results, Try.results67, go_sem, RgV, RgZero, c0, c1]) rfl ⟨_, rfl, oRgZero _ _ _ _, ?_⟩
      exact rg_zeroed (by omega) T1 _ _
  · rw [mendLk_no (fun hk => by rw [hg] at hk; exact absurd hk.1 (by simp))]
    obtain ⟨sv, rfl, h⟩ := h
    obtain ⟨k, d⟩ := x
    have h3 := h
    obtain ⟨A, c, rfl, hlc, hc⟩ := h
    clear hc
    simp only [RgV] at hn h3 hlc hg ⊢
    have hC0 := (BK.made (w.alloc (.cells #[.int .i64 k, .slice A d.length c] 26)) 26 #[.int .i64 0, .slice none 0 0]).alloc (.cells #[.int .i64 t] 3)
    rw [World.size_alloc] at hC0
    have hW : Below w.heap.size w (((w.alloc (.cells #[.int .i64 k, .slice A d.length c] 26)).alloc (.cells #[.int .i64 0, .slice none 0 0] 26)).alloc (.cells #[.int .i64 t] 3)) := (((Below.refl _ _).alloc (Nat.le_refl _) _).alloc (by simp) _).alloc (by simp; omega) _
    have h4 := (h3.below hW).more hW.size
    have hl := lit1 (w := (w.alloc (.cells #[.int .i64 k, .slice A d.length c] 26)).alloc (.cells #[.int .i64 0, .slice none 0 0] 26)) (x := t) (t := 3) (g := w.heap.size + 1 + 1) (by rw [World.size_alloc, World.size_alloc])
    go_enter Try.func67, Try.ntmps67
    go_wp2_with fail
    refine (isRingWith_any _ _ ⟨k, d⟩ [t] _ ⟨_, rfl, h4⟩ hl hn (by simp)).mono ?_; rintro e w1 ⟨rfl, hb1⟩
    rw [okAll_one, hg]
    have T1 := hW.trans (hb1.mono hW.size)
    have C1 := hC0.step hb1
    have c0 := C1.cell 0
    have c1 := C1.cell 1
    have f0 := C1.free 0
    have f1 := C1.free 1
    simp at c0 c1
    clear hC0 hW h4 hl hb1
    go_wp2_with fail
    refine bodyPost_ret (v := .tuple #[RgV RgZero (.slice none 0 0), .bool false]) (by simp [results, Try.results67, go_sem, RgV, RgZero, c0, c1]) rfl ⟨_, rfl, oRgZero _ _ _ _, ?_⟩
    exact rg_zeroed (by omega) T1 _ _

set_option maxHeartbeats 2000000 in
theorem specMendLink_any (v : Value) (x : Rg) (t : Int) (w : World) (h : RRg w w.heap.size v x) (hn : x.d.length ≤ 1048576) (hx : (Lit.int .i64 t).wf = true) :
    Calls Try.prog 66 #[v, .int .i64 t] w (RetRgB 3 w (mendLk x t).1 (mendLk x t).2) := by
  obtain ⟨sv, rfl, h⟩ := h
  obtain ⟨k, d⟩ := x
  have h3 := h
  obtain ⟨A, c, rfl, hlc, hc⟩ := h
  clear hc
  simp only [RgV] at hn h3 hlc ⊢
  have hB0 := (BK.made w 26 #[.int .i64 k, .slice A d.length c]).alloc (.cells #[.int .i64 0, .slice none 0 0] 26)
  have hC0 := BK.made (w.alloc (.cells #[.int .i64 k, .slice A d.length c] 26)) 26 #[.int .i64 0, .slice none 0 0]
  rw [World.size_alloc] at hC0
  have hW : Below w.heap.size w ((w.alloc (.cells #[.int .i64 k, .slice A d.length c] 26)).alloc (.cells #[.int .i64 0, .slice none 0 0] 26)) := ((Below.refl _ _).alloc (Nat.le_refl _) _).alloc (by simp) _
  have h4 := (h3.below hW).more hW.size
  cases hg : (isRg ⟨k, d⟩ && wi t 0 (k - 1))
  · rw [mendLk_no (fun hk => by simp only at hk; rw [hg] at hk; exact absurd hk.1 (by simp))]
    go_enter Try.func66, Try.ntmps66
    go_wp2_with fail
    refine (riHas_any _ ⟨k, d⟩ t _ ⟨_, rfl, h4⟩ hn).mono ?_; rintro e w1 ⟨rfl, hb1⟩
    rw [hg]
    have T1 := hW.trans (hb1.mono hW.size)
    have C1 := hC0.step hb1
    have c0 := C1.cell 0
    have c1 := C1.cell 1
    have f0 := C1.free 0
    have f1 := C1.free 1
    simp at c0 c1
    clear hC0 hW h4 hb1 hB0
    go_wp2_with fail
    refine bodyPost_ret (v := .tuple #[RgV RgZero (.slice none 0 0), .bool false]) (by simp [results, Try.results66, go_sem, RgV, RgZero, c0, c1]) rfl ⟨_, rfl, oRgZero _ _ _ _, ?_⟩
    exact rg_zeroed (by omega) T1 _ _
  have hg2 : isRg ⟨k, d⟩ = true := (Bool.and_eq_true _ _ ▸ hg).1
  have hlen := isRg_len hg2
  have hss : SS d := (isRg_d hg2).ss
  simp only at hlen
  cases hh : hasI d t
  · rw [mendLk_no (fun hk => by simp only at hk; rw [hh] at hk; exact absurd hk.2 (by simp))]
    go_enter Try.func66, Try.ntmps66
    go_wp2_with fail
    refine (riHas_any _ ⟨k, d⟩ t _ ⟨_, rfl, h4⟩ hn).mono ?_; rintro e w1 ⟨rfl, hb1⟩
    rw [hg]
    have T1 := hW.trans (hb1.mono hW.size)
    have B1 := hB0.step hb1
    have C1 := hC0.step hb1
    have R1 := (h4.step hb1 (Nat.le_refl _)).more hb1.size
    have q0 := B1.cell 0
    have q1 := B1.cell 1
    have c0 := C1.cell 0
    have c1 := C1.cell 1
    have f0 := C1.free 0
    have f1 := C1.free 1
    simp at q0 q1 c0 c1
    clear hC0 hW h4 hb1 hB0 B1
    go_wp2_with fail
    refine (l1Has_any _ d t _ R1 hn).mono ?_; rintro e w' ⟨rfl, rfl⟩
    rw [hh]
    clear R1
    go_wp2_with fail
    refine bodyPost_ret (v := .tuple #[RgV RgZero (.slice none 0 0), .bool false]) (by simp [results, Try.results66, go_sem, RgV, RgZero, c0, c1]) rfl ⟨_, rfl, oRgZero _ _ _ _, ?_⟩
    exact rg_zeroed (by omega) T1 _ _
  rw [mendLk_yes (x := ⟨k, d⟩) hg hh]
  simp only
  have hplen := outI_len d t
  obtain ⟨D, hD⟩ : ∃ D, D = outI d t := ⟨_, rfl⟩
  rw [show ({ k := k, d := outI d t } : Rg) = ⟨k, D⟩ from by rw [hD]]
  have HD := Lib.hid hD
  clear hD hplen
  have hz : (d.length : Int) ≤ 12 := by omega
  obtain ⟨i0, hi, hz0, hz1, hz2⟩ := info_parts int_info
  go_enter Try.func66, Try.ntmps66
  go_wp2_with fail
  refine (riHas_any _ ⟨k, d⟩ t _ ⟨_, rfl, h4⟩ hn).mono ?_; rintro e w1 ⟨rfl, hb1⟩
  rw [hg]
  have T1 := hW.trans (hb1.mono hW.size)
  have B1 := hB0.step hb1
  have C1 := hC0.step hb1
  have R1 := (h4.step hb1 (Nat.le_refl _)).more hb1.size
  have q0 := B1.cell 0
  have q1 := B1.cell 1
  simp at q0 q1
  clear hC0 hW h4 hb1 hB0
  go_wp2_with fail
  refine (l1Has_any _ d t _ R1 hn).mono ?_; rintro e w' ⟨rfl, rfl⟩
  rw [hh]
  have hz1' := C1.1
  have hs1' := T1.size
  have n1 := World.new_ne w1 _ q1
  have r1 := (B1.alloc (.cells #[.int .i64 k, .slice none 0 0] 26)).cell 1
  simp at r1
  go_wp2_with fail
  go_loopw [27] (fun i wr => ∃ (j : Nat) (u : Value), j ≤ d.length ∧ i = .int .i64 j ∧ BK wr w1.heap.size 26 #[.int .i64 k, u] ∧ Acc 3 wr (w1.heap.size + 1) u (outI (d.take j) t) ∧ Below w1.heap.size w1 wr) (fun i _ => d.length - (intOf i).toNat)
  case atStart => exact ⟨0, _, Nat.zero_le _, rfl, BK.made w1 _ _, by simpa [outI] using Acc.nil _ _ _, (Below.refl _ _).alloc (Nat.le_refl _) _⟩
  case round =>
    obtain ⟨j, u, hj, rfl, hbk, hacc, hbw⟩ := hrel
    have hsz := hbw.size
    have hgl := hbk.1
    have b0 := hbk.cell 0
    have b1 := hbk.cell 1
    have g0 := hbk.free 0
    have g1 := hbk.free 1
    simp at b0 b1
    have hr := R1.below hbw
    obtain ⟨A9, c9, he9, hlc9, hc9⟩ := hr
    by_cases hlt : j < d.length
    · obtain ⟨bb, off, hA, hbB, hcell⟩ := hc9 (by omega)
      injection he9 with e1 e2 e3
      subst e1
      subst hA
      have hcx : wr.cell? ⟨bb, off + j, none⟩ = some (.int .i64 (d.getD j 0)) := hcell j hlt
      have HT : Hid (outI (d.take (j + 1)) t = if d.getD j 0 = t then outI (d.take j) t else outI (d.take j) t ++ [d.getD j 0]) := by
        show _ = _
        have hg : d.getD j 0 = d[j] := by simp [hlt]
        rw [List.take_succ_eq_append_getElem hlt, hg]
        unfold outI
        rw [List.filter_append]
        by_cases e : d[j] = t
        · simp [e]
        · simp [e]
      have hol : (outI (d.take j) t).length ≤ 12 := by have := outI_len (d.take j) t; have := List.length_take_le j d; omega
      clear hcell hc9
      generalize outI (d.take j) t = acc at hacc HT hol
      obtain ⟨y, hy⟩ : ∃ y, y = d.getD j 0 := ⟨_, rfl⟩
      rw [← hy] at hcx HT
      clear hy
      by_cases hyt : y = t
      · have hb : (y != t) = false := by simp [hyt]
        have HT2 : Hid (outI (d.take (j + 1)) t = acc) := by show _ = _; rw [HT.out, if_pos hyt]
        clear hyt
        go_wp2_with fail
        go_roundw
        case rel => first | exact ⟨j + 1, u, by omega, by go_num, hbk, by rw [HT2.out]; exact hacc, hbw⟩ | exact ⟨j + 1, u, by omega, by omega, hbk, by rw [HT2.out]; exact hacc⟩
        case measure => simp [intOf]; omega
      · have hb : (y != t) = true := by simp [hyt]
        have HT2 : Hid (outI (d.take (j + 1)) t = acc ++ [y]) := by show _ = _; rw [HT.out, if_neg hyt]
        have HBK := Lib.hid hbk
        clear hyt hbk
        go_wp2_with (at_builtin; refine wpList_push rfl (.tmp 35) (.tmp 37) 24 rfl 3 i0 Try.underlying24 hi hz0 hz1 hz2 wr wr (w1.heap.size + 1) _ acc y rfl rfl hacc rfl (by omega) hgl (Below.refl _ _) ?_; intro v3 w3 hacc3 hb3; have k3 : BK w3 w1.heap.size 26 #[.int .i64 k, u] := ⟨Nat.lt_of_lt_of_le hgl hb3.size, (hb3.block _ (Nat.lt_succ_self _)).trans HBK.out.2⟩; have m0 := k3.cell 0; have m1 := k3.cell 1; have n0 := k3.free 0; have n1 := k3.free 1; simp at m0 m1; obtain ⟨A5, c5, rfl⟩ := acc_shape hacc3)
        have hl9 : (acc ++ [y]).length = acc.length + 1 := by simp
        rw [hl9] at hacc3
        have hput : BK (w3.setCell ⟨w1.heap.size, 1, none⟩ (.slice A5 (acc.length + 1) c5)) w1.heap.size 26 #[.int .i64 k, .slice A5 (acc.length + 1) c5] := k3.put 1 (.slice A5 (acc.length + 1) c5)
        have hwr := (Wr.refl w1.heap.size (w1.heap.size + 1) w3).setCell (p := ⟨w1.heap.size, 1, none⟩) (Nat.le_refl _) (Nat.lt_succ_self _) (.slice A5 (acc.length + 1) c5)
        have hac := hacc3.far hwr (Nat.le_refl _)
        have hbb := (hbw.trans (hb3.mono (by omega))).setCell (p := ⟨w1.heap.size, 1, none⟩) (Nat.le_refl _) (.slice A5 (acc.length + 1) c5)
        go_roundw
        case rel => first | exact ⟨j + 1, by omega, by omega, _, hput, by rw [HT2.out]; exact hac, hbb⟩ | exact ⟨j + 1, _, by omega, by go_num, hput, by rw [HT2.out]; exact hac, hbb⟩ | exact ⟨j + 1, _, by omega, by omega, hput, by rw [HT2.out]; exact hac⟩
        case measure => simp [intOf]; omega
    · obtain rfl : j = d.length := by omega
      rw [List.take_length, ← HD.out] at hacc
      obtain ⟨A5, c5, rfl⟩ := acc_shape hacc
      have C3 := C1.step hbw
      have c0 := C3.cell 0
      have c1 := C3.cell 1
      have f0 := C3.free 0
      have f1 := C3.free 1
      simp at c0 c1
      have hoi := hacc.oi
      have hlow := T1.trans (hbw.mono T1.size)
      have hwr := ((Wr.refl (w.heap.size + 1) (w.heap.size + 2) wr).setCell (p := ⟨w.heap.size + 1, 0, none⟩) (Nat.le_refl _) (Nat.lt_succ_self _) (.int .i64 k)).setCell (p := ⟨w.heap.size + 1, 1, none⟩) (Nat.le_refl _) (Nat.lt_succ_self _) (.slice A5 D.length c5)
      clear hbk hacc hbw B1 C1 C3
      go_wp2_with fail
      refine bodyPost_ret (v := .tuple #[RgV ⟨k, D⟩ (.slice A5 D.length c5), .bool true]) (by simp [results, Try.results66, go_sem, RgV, c0, c1]) rfl ⟨_, rfl, ⟨_, rfl, ?_⟩, ?_⟩
      · exact (hoi.far hwr (.inr (by omega))).wide (by omega) hwr.size
      · exact rg_zeroed (by omega) hlow _ _
end Go.Proofs.Ytifebadcfopfkaa
