/-
  The contracts of BreakLink.
-/
import Derived.Test.YtifebadcfopfkaaRStep
import Derived.Test.YtifebadcfopfkaaSearch
import Derived.Test.YtifebadcfopfkaaCat
import Derived.Test.YtifebadcfopfkaaAcc
import Derived.Deep.RegionHeld3
import Derived.Deep.DeepCutAuto
import Derived.RegionTactic
import Derived.BigRegion
namespace Go.Proofs.Ytifebadcfopfkaa
open Go.RowKit
set_option maxRecDepth 100000
set_option linter.unusedVariables false

theorem Rises.ss {hi : Int} {l : List Int} (h : Rises hi l l.length) : SS l := SS.of fun j h0 hj => (h j hj).2.2 h0
/-- What BreakLink says. -/
def breakLk (x : Rg) (t : Int) : Rg × Bool := if (isRg x && wi t 0 (x.k - 1)) = true ∧ hasI x.d t = false then (⟨x.k, putI x.d t⟩, true) else (RgZero, false)
theorem breakLk_len (x : Rg) (t : Int) : (breakLk x t).1.d.length ≤ 1048576 := by
  unfold breakLk
  split
  · next h =>
    have h1 : isRg x = true := by simpa using (Bool.and_eq_true _ _ ▸ h.1).1
    have := isRg_len h1
    simp only [putI_len]
    omega
  · simp [RgZero]
theorem rg_zeroed {w w5 : World} {g : Nat} (hg : w.heap.size ≤ g) (h : Below w.heap.size w w5) (u v : Value) : Below w.heap.size w ((w5.setCell ⟨g, 0, none⟩ u).setCell ⟨g, 1, none⟩ v) :=
  (h.setCell (p := ⟨g, 0, none⟩) hg _).setCell (p := ⟨g, 1, none⟩) hg _
theorem RI.tail {w : World} {B : Nat} {A : Option Addr} {n c : Nat} {l : List Int} (h : RI w B (.slice A n c) l) (k : Nat) (hk : k ≤ l.length) : RI w B (.slice (if c = k then A else Option.map (fun x => x.add k) A) (l.length - k) (c - k)) (l.drop k) := by
  obtain ⟨A', c', hv, hlc, hc⟩ := h
  injection hv with h1 h2 h3
  subst h1; subst h2; subst h3
  refine ⟨_, c - k, by rw [List.length_drop], ⟨by rw [List.length_drop]; omega, by omega, fun hA => ?_⟩, fun h0 => ?_⟩
  · have h5 : A = none := by
      split at hA
      · exact hA
      · cases A with
        | none => rfl
        | some a => cases hA
    have := hlc.2.2 h5
    omega
  · rw [List.length_drop] at h0
    obtain ⟨b, off, hA, hb, hcell⟩ := hc (by omega)
    refine ⟨b, off + k, ?_, hb, fun j hj => ?_⟩
    · rw [if_neg (by omega), hA]
      simp [addr_add]
    · rw [List.length_drop] at hj
      rw [Nat.add_assoc, hcell (k + j) (by omega)]
      congr 2
      simp [List.getD]
theorem ri_shape {w : World} {B : Nat} {v : Value} {l : List Int} (h : RI w B v l) : RI w B v l ∧ (v = .slice none 0 0 ∨ ∃ ad n c, v = .slice (some ad) n c) := ⟨h, h.shape⟩
set_option maxHeartbeats 2000000 in
theorem implBreakLink_yes (v : Value) (x : Rg) (t : Int) (w : World) (h : RRg w w.heap.size v x) (hn : x.d.length ≤ 1048576) (hx : (Lit.int .i64 t).wf = true) (hg : (isRg x && wi t 0 (x.k - 1)) = true) (hh : hasI x.d t = false) :
    Calls Try.prog 65 #[v, .int .i64 t] w (RetRgB 3 w ⟨x.k, putI x.d t⟩ true) := by
  obtain ⟨sv, rfl, h⟩ := h
  obtain ⟨k, d⟩ := x
  have h3 := h
  obtain ⟨A, c, rfl, hlc, hc⟩ := h
  clear hc
  simp only [RgV] at hn h3 hlc hg hh ⊢
  have hg2 : isRg ⟨k, d⟩ = true := (Bool.and_eq_true _ _ ▸ hg).1
  have hlen := isRg_len hg2
  have hss : SS d := (isRg_d hg2).ss
  simp only at hlen
  have hlen' : (d.length : Int) ≤ 12 := by omega
  have hB0 := ((BK.made w 26 #[.int .i64 k, .slice A d.length c]).alloc (.cells #[.int .i64 0, .slice none 0 0] 26)).alloc (.cells #[.int .i64 t] 3)
  have hC0 := (BK.made (w.alloc (.cells #[.int .i64 k, .slice A d.length c] 26)) 26 #[.int .i64 0, .slice none 0 0]).alloc (.cells #[.int .i64 t] 3)
  rw [World.size_alloc] at hC0
  have hW : Below w.heap.size w (((w.alloc (.cells #[.int .i64 k, .slice A d.length c] 26)).alloc (.cells #[.int .i64 0, .slice none 0 0] 26)).alloc (.cells #[.int .i64 t] 3)) := (((Below.refl _ _).alloc (Nat.le_refl _) _).alloc (by simp) _).alloc (by simp; omega) _
  have h4 := (h3.below hW).more hW.size
  have hl := lit1 (w := (w.alloc (.cells #[.int .i64 k, .slice A d.length c] 26)).alloc (.cells #[.int .i64 0, .slice none 0 0] 26)) (x := t) (t := 3) (g := w.heap.size + 1 + 1) (by rw [World.size_alloc, World.size_alloc])
  obtain ⟨D, hD⟩ : ∃ D, D = putI d t := ⟨_, rfl⟩
  rw [show ({ k := k, d := putI d t } : Rg) = ⟨k, D⟩ from by rw [hD]]
  have HD := Lib.hid hD
  clear hD
  go_enter Try.func65, Try.ntmps65
  go_wp2_with fail
  refine (isRingWith_any _ _ ⟨k, d⟩ [t] _ ⟨_, rfl, h4⟩ hl hn (by simp)).mono ?_; rintro e w1 ⟨rfl, hb1⟩
  rw [okAll_one, hg]
  have T1 := hW.trans (hb1.mono hW.size)
  have B1 := hB0.step hb1
  have C1 := hC0.step hb1
  have R1 := (h4.step hb1 (Nat.le_refl _)).more hb1.size
  have q0 := B1.cell 0
  have q1 := B1.cell 1
  simp at q0 q1
  clear hB0 hC0 hW h4 hl hb1
  go_wp2_with fail
  refine (search_any _ d t _ R1 (by omega) hss).mono ?_; rintro e w' ⟨i, rfl, rfl, hcut⟩
  rw [hh]
  have hi := hcut.le
  have hi' : (i : Int) ≤ 12 := by omega
  have hic : (i : Int) ≤ c := by omega
  have hid : (i : Int) ≤ d.length := by omega
  have c0 := C1.cell 0
  have c1 := C1.cell 1
  have f0 := C1.free 0
  have f1 := C1.free 1
  simp at c0 c1
  have R1t := R1.tail i hi
  obtain ⟨V, hV⟩ : ∃ V, (if c = i then A else Option.map (fun x => x.add i) A) = V := ⟨_, rfl⟩
  rw [hV] at R1t
  have hput : d.take i ++ ([t] ++ (d.drop i ++ [])) = putI d t := by rw [hcut.put]; simp
  have hplen := putI_len d t
  have hplen2 : D.length = d.length + 1 := by rw [HD.out]; exact hplen
  have hcc : Calls Try.prog 112 #[.slice (some ⟨w1.heap.size + 1, 0, none⟩) 3 3]
      ((w1.alloc (.cells #[.int .i64 t] 3)).alloc (.cells #[.slice A i c, .slice (some ⟨w1.heap.size, 0, none⟩) 1 1, .slice V (d.length - i) (c - i)] 24)).drew
      (RetL 3 ((w1.alloc (.cells #[.int .i64 t] 3)).alloc (.cells #[.slice A i c, .slice (some ⟨w1.heap.size, 0, none⟩) 1 1, .slice V (d.length - i) (c - i)] 24)).drew D) := by
    have hbl : Below w1.heap.size w1 ((w1.alloc (.cells #[.int .i64 t] 3)).alloc (.cells #[.slice A i c, .slice (some ⟨w1.heap.size, 0, none⟩) 1 1, .slice V (d.length - i) (c - i)] 24)).drew := (((Below.refl _ _).alloc (Nat.le_refl _) _).alloc (by simp) _).drew
    have hbk := (BK.made w1 3 #[.int .i64 t]).alloc (.cells #[.slice A i c, .slice (some ⟨w1.heap.size, 0, none⟩) 1 1, .slice V (d.length - i) (c - i)] 24)
    have hbs := BK.made (w1.alloc (.cells #[.int .i64 t] 3)) 24 #[.slice A i c, .slice (some ⟨w1.heap.size, 0, none⟩) 1 1, .slice V (d.length - i) (c - i)]
    rw [World.size_alloc] at hbs
    have h5 := concat_any (w1.heap.size + 1) 3 [(.slice A i c, d.take i), (.slice (some ⟨w1.heap.size, 0, none⟩) 1 1, [t]), (.slice V (d.length - i) (c - i), d.drop i)]
      ((w1.alloc (.cells #[.int .i64 t] 3)).alloc (.cells #[.slice A i c, .slice (some ⟨w1.heap.size, 0, none⟩) 1 1, .slice V (d.length - i) (c - i)] 24)).drew
      hbs.1 (fun j hj => by
        have := hbs.cell j
        obtain rfl | rfl | rfl : j = 0 ∨ j = 1 ∨ j = 2 := by simp at hj; omega
        · exact this
        · exact this
        · exact this)
      (by
        intro p hp
        simp only [List.mem_cons, List.not_mem_nil, or_false] at hp
        rcases hp with rfl | rfl | rfl
        · exact ri_shape (((R1.front i hi).below hbl).more hbl.size)
        · exact ri_shape hbk.ri1
        · exact ri_shape ((R1t.below hbl).more hbl.size))
      (by simp) (by
        have : cat [(.slice A i c, d.take i), (.slice (some ⟨w1.heap.size, 0, none⟩) 1 1, [t]), (.slice V (d.length - i) (c - i), d.drop i)] = putI d t := hput
        rw [this, hplen]; omega)
    have e : cat [(.slice A i c, d.take i), (.slice (some ⟨w1.heap.size, 0, none⟩) 1 1, [t]), (.slice V (d.length - i) (c - i), d.drop i)] = putI d t := hput
    rw [e, ← HD.out] at h5
    exact h5
  have HBL : Hid (Below w1.heap.size w1 ((w1.alloc (.cells #[.int .i64 t] 3)).alloc (.cells #[.slice A i c, .slice (some ⟨w1.heap.size, 0, none⟩) 1 1, .slice V (d.length - i) (c - i)] 24)).drew) := (((Below.refl _ _).alloc (Nat.le_refl _) _).alloc (by simp) _).drew
  have HCC := Lib.hid hcc
  have HB1 := Lib.hid B1
  have HC1 := Lib.hid C1
  have HT1 := Lib.hid T1
  have hDl : (D.length : Int) ≤ 1048576 := by omega
  clear hplen2 hplen hcc hput B1 C1 T1 R1 R1t
  go_upto_region 6 with fail
  go_region_held3 (fun w' => w'.cell? ⟨w.heap.size, 0, none⟩ = some (.int .i64 k) ∧ w'.cell? ⟨w.heap.size, 1, none⟩ = some (.slice A d.length c)) (with_reducible first | exact ⟨q0, q1⟩ | (refine ⟨?_, ?_⟩ <;> assumption) | go_keep)
    (first | (go_at_call 112; (with_reducible refine HCC.out.mono ?_); rintro e w3 ⟨u, rfl, ho, hb3⟩; have t3 := HBL.out.trans (hb3.mono HBL.out.size); have y3 := HB1.out.step t3; have z3 := HC1.out.step t3; have d0 := y3.cell 0; have d1 := y3.cell 1; have e0 := z3.cell 0; have e1 := z3.cell 1; have r0 := z3.free 0; have r1 := z3.free 1; simp at d0 d1 e0 e1; obtain ⟨A3, c3, rfl, _, _⟩ := ho.ri))
  · go_wp2_with fail
    have hz1 := HC1.out.1
    have hs1 := HT1.out.size
    have hs2 := HBL.out.size
    have hs3 := hb3.size
    refine bodyPost_ret (v := .tuple #[RgV ⟨k, D⟩ (.slice A3 D.length c3), .bool true]) (by simp [results, Try.results65, go_sem, RgV, e0, e1]) rfl ⟨_, rfl, ⟨_, rfl, ?_⟩, ?_⟩
    · have hwr := ((Wr.refl (w.heap.size + 1) (w.heap.size + 2) w3).setCell (p := ⟨w.heap.size + 1, 0, none⟩) (Nat.le_refl _) (Nat.lt_succ_self _) (.int .i64 k)).setCell (p := ⟨w.heap.size + 1, 1, none⟩) (Nat.le_refl _) (Nat.lt_succ_self _) (.slice A3 D.length c3)
      exact (ho.far hwr (.inr (by omega))).wide (by omega) hwr.size
    · exact rg_zeroed (by omega) (HT1.out.trans (t3.mono (by omega))) _ _
theorem breakLk_no {x : Rg} {t : Int} (h : ¬ ((isRg x && wi t 0 (x.k - 1)) = true ∧ hasI x.d t = false)) : breakLk x t = (RgZero, false) := by unfold breakLk; rw [if_neg h]
theorem breakLk_yes {x : Rg} {t : Int} (h : (isRg x && wi t 0 (x.k - 1)) = true) (h2 : hasI x.d t = false) : breakLk x t = (⟨x.k, putI x.d t⟩, true) := by unfold breakLk; rw [if_pos ⟨h, h2⟩]
end Go.Proofs.Ytifebadcfopfkaa
