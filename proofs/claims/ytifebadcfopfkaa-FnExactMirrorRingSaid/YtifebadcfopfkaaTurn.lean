/-
  The contracts of TurnRing.
-/
import Derived.Test.YtifebadcfopfkaaRenum
namespace Go.Proofs.Ytifebadcfopfkaa
open Go.RowKit
set_option maxRecDepth 100000
set_option linter.unusedVariables false

def turnF (k t y : Int) : Int := (y + t) % k
/-- What TurnRing says. -/
def turnRg (x : Rg) (t : Int) : Rg × Bool := if (isRg x && wi t 0 (x.k - 1)) = true then (⟨x.k, setL (x.d.map (turnF x.k t))⟩, true) else (RgZero, false)
theorem turnRg_no {x : Rg} {t : Int} (h : (isRg x && wi t 0 (x.k - 1)) = false) : turnRg x t = (RgZero, false) := by unfold turnRg; rw [if_neg (by rw [h]; simp)]
theorem turnRg_yes {x : Rg} {t : Int} (h : (isRg x && wi t 0 (x.k - 1)) = true) : turnRg x t = (⟨x.k, setL (x.d.map (turnF x.k t))⟩, true) := by unfold turnRg; rw [if_pos h]
theorem turnRg_len (x : Rg) (t : Int) : (turnRg x t).1.d.length ≤ 1048576 := by
  unfold turnRg
  split
  · next h =>
    have h1 : isRg x = true := (Bool.and_eq_true _ _ ▸ h).1
    have := isRg_len h1
    have := setL_len (x.d.map (turnF x.k t))
    rw [List.length_map] at this
    show (setL _).length ≤ _
    omega
  · simp [RgZero]
theorem isRg_mem {x : Rg} (h : isRg x = true) {y : Int} (hy : y ∈ x.d) : 0 ≤ y ∧ y < x.k := by
  obtain ⟨j, hj, e⟩ := List.getElem_of_mem hy
  have := isRg_d h j hj
  have e2 : x.d.getD j 0 = y := by simp [hj, e]
  omega
theorem turnF_in {k t y : Int} (hk : 2 ≤ k) : 0 ≤ turnF k t y ∧ turnF k t y < k := ⟨Int.emod_nonneg _ (by omega), Int.emod_lt_of_pos _ (by omega)⟩
theorem turnF_eq {k t y : Int} (ht : 0 ≤ t ∧ t < k) (hy : 0 ≤ y ∧ y < k) : turnF k t y = if y + t < k then y + t else y + t - k := by
  unfold turnF
  split
  · exact Int.emod_eq_of_lt (by omega) (by omega)
  · rw [← Int.emod_eq_of_lt (show 0 ≤ y + t - k by omega) (show y + t - k < k by omega), Int.sub_emod, Int.emod_self, Int.sub_zero, Int.emod_emod]
theorem turnF_inj {k t y z : Int} (ht : 0 ≤ t ∧ t < k) (hy : 0 ≤ y ∧ y < k) (hz : 0 ≤ z ∧ z < k) (h : turnF k t y = turnF k t z) : y = z := by
  rw [turnF_eq ht hy, turnF_eq ht hz] at h
  split at h <;> split at h <;> omega
/-- What comes next was not there before. -/
theorem map_new {d : List Int} (hs : SS d) (f : Int → Int) (hf : ∀ y ∈ d, ∀ z ∈ d, f y = f z → y = z) (j : Nat) (hj : j < d.length) : f (d.getD j 0) ∉ (d.take j).map f := by
  intro hm
  obtain ⟨y, hy, e⟩ := List.mem_map.1 hm
  obtain ⟨i, hi, e2⟩ := List.getElem_of_mem hy
  have hg : d.getD j 0 = d[j] := by simp [hj]
  rw [List.length_take] at hi
  rw [List.getElem_take] at e2
  have h1 := hf y (by rw [← e2]; exact List.getElem_mem _) (d.getD j 0) (by rw [hg]; exact List.getElem_mem hj) e
  have h2 := List.pairwise_iff_getElem.1 hs i j (by omega) hj (by omega)
  rw [e2, h1, hg] at h2
  omega

theorem turnClosure_any (y t k : Int) (g3 g2 : Nat) (w : World) (h3 : w.cell? ⟨g3, 0, none⟩ = some (.int .i64 t)) (h2 : w.cell? ⟨g2, 0, none⟩ = some (.int .i64 k)) (hk : 2 ≤ k ∧ k ≤ 12) (ht : 0 ≤ t ∧ t < k) (hy : 0 ≤ y ∧ y < k) :
    Calls Try.prog 94 #[.int .i64 y, .pointer (some ⟨g3, 0, none⟩), .pointer (some ⟨g2, 0, none⟩)] w (RetV w (.int .i64 (turnF k t y))) := by
  have e1 : (y + t).tmod k = turnF k t y := Int.tmod_eq_emod_of_nonneg (by omega)
  have e2 := turnF_in (t := t) (y := y) hk.1
  have e3 : IntKind.i64.wrap (turnF k t y) = turnF k t y := IntWalk.i64_in _ (by omega)
  have e4 : k ≠ 0 := by omega
  have e5 : IntKind.i64.wrap (y + t) = y + t := IntWalk.i64_in _ (by omega)
  generalize turnF k t y = z at e1 e2 e3 ⊢
  go_enter Try.func94, Try.ntmps94
  go_wp2
  go_ret
  exact ⟨rfl, Below.refl _ _⟩

theorem rg_boxed {w : World} {g : Nat} {A : Option Addr} {n c : Nat} {k : Int} {T : TypeId} {w5 : World} (h : BK w5 g T #[.int .i64 k, .slice A n c]) : w5.cell? ⟨g, 0, none⟩ = some (.int .i64 k) := h.cell 0

set_option maxHeartbeats 2000000 in
theorem implTurnRing_any (v : Value) (x : Rg) (t : Int) (w : World) (h : RRg w w.heap.size v x) (hn : x.d.length ≤ 1048576) (hx : (Lit.int .i64 t).wf = true) :
    Calls Try.prog 34 #[v, .int .i64 t] w (RetRgB 3 w (turnRg x t).1 (turnRg x t).2) := by
  obtain ⟨sv, rfl, h⟩ := h
  obtain ⟨k, d⟩ := x
  have h3 := h
  obtain ⟨A, c, rfl, hlc, hc⟩ := h
  clear hc
  simp only [RgV] at hn h3 hlc ⊢
  have hB0 := (((BK.made w 26 #[.int .i64 k, .slice A d.length c]).alloc (.cells #[.int .i64 t] 3)).alloc (.cells #[.int .i64 0, .slice none 0 0] 26)).alloc (.cells #[.int .i64 t] 3)
  have hT0 := ((BK.made (w.alloc (.cells #[.int .i64 k, .slice A d.length c] 26)) 3 #[.int .i64 t]).alloc (.cells #[.int .i64 0, .slice none 0 0] 26)).alloc (.cells #[.int .i64 t] 3)
  have hC0 := (BK.made ((w.alloc (.cells #[.int .i64 k, .slice A d.length c] 26)).alloc (.cells #[.int .i64 t] 3)) 26 #[.int .i64 0, .slice none 0 0]).alloc (.cells #[.int .i64 t] 3)
  rw [World.size_alloc] at hT0
  rw [World.size_alloc, World.size_alloc] at hC0
  have hW : Below w.heap.size w ((((w.alloc (.cells #[.int .i64 k, .slice A d.length c] 26)).alloc (.cells #[.int .i64 t] 3)).alloc (.cells #[.int .i64 0, .slice none 0 0] 26)).alloc (.cells #[.int .i64 t] 3)) := ((((Below.refl _ _).alloc (Nat.le_refl _) _).alloc (by simp) _).alloc (by simp; omega) _).alloc (by simp; omega) _
  have h4 := (h3.below hW).more hW.size
  have hl := lit1 (w := ((w.alloc (.cells #[.int .i64 k, .slice A d.length c] 26)).alloc (.cells #[.int .i64 t] 3)).alloc (.cells #[.int .i64 0, .slice none 0 0] 26)) (x := t) (t := 3) (g := w.heap.size + 1 + 1 + 1) (by rw [World.size_alloc, World.size_alloc, World.size_alloc])
  have hmf : ∀ (fn : Fn) (first cap : Array Value) (w : World), (Instr.makeFunc fn first cap).run Try.prog w = .ok (.func fn first cap) w := fun _ _ _ _ => rfl
  cases hg : (isRg ⟨k, d⟩ && wi t 0 (k - 1))
  · rw [turnRg_no hg]
    go_enter Try.func34, Try.ntmps34
    go_wp2_with fail
    refine (isRingWith_any _ _ ⟨k, d⟩ [t] _ ⟨_, rfl, h4⟩ hl hn (by simp)).mono ?_; rintro e w1 ⟨rfl, hb1⟩
    rw [okAll_one, hg]
    have T1 := hW.trans (hb1.mono hW.size)
    have C1 := hC0.step hb1
    have c0 := C1.cell 0
    have c1 := C1.cell 1
    have f0 := C1.free 0
    have f1 := C1.free 1
    simp at c0 c1
    clear hC0 hW h4 hl hb1 hB0 hT0
    go_wp2_with fail
    refine bodyPost_ret (v := .tuple #[RgV RgZero (.slice none 0 0), .bool false]) (by simp [results, Try.results34, go_sem, RgV, RgZero, c0, c1]) rfl ⟨_, rfl, oRgZero _ _ _ _, ?_⟩
    exact rg_zeroed (by omega) T1 _ _
  have hg2 : isRg ⟨k, d⟩ = true := (Bool.and_eq_true _ _ ▸ hg).1
  have hg3 : 0 ≤ t ∧ t < k := by
    have := (Bool.and_eq_true _ _ ▸ hg).2
    simp only [wi, decide_eq_true_eq] at this
    omega
  have hk := isRg_k hg2
  have hlen := isRg_len hg2
  simp only at hk hlen
  have hmem : ∀ y ∈ d, 0 ≤ y ∧ y < k := fun y hy => isRg_mem hg2 hy
  have HMEM := Lib.hid hmem
  clear hmem
  rw [turnRg_yes (x := ⟨k, d⟩) hg]
  simp only
  obtain ⟨D, hD⟩ : ∃ D, D = setL (d.map (turnF k t)) := ⟨_, rfl⟩
  rw [← hD]
  have HD := Lib.hid hD
  clear hD
  go_enter Try.func34, Try.ntmps34
  go_wp2_with fail
  refine (isRingWith_any _ _ ⟨k, d⟩ [t] _ ⟨_, rfl, h4⟩ hl hn (by simp)).mono ?_; rintro e w1 ⟨rfl, hb1⟩
  rw [okAll_one, hg]
  have T1 := hW.trans (hb1.mono hW.size)
  have B1 := hB0.step hb1
  have Y1 := hT0.step hb1
  have C1 := hC0.step hb1
  have R1 := (h4.step hb1 (Nat.le_refl _)).more hb1.size
  have q0 := B1.cell 0
  have q1 := B1.cell 1
  simp at q0 q1
  clear hC0 hW h4 hl hb1 hB0 hT0
  have HC1 := Lib.hid C1
  have HT1 := Lib.hid T1
  have HRN : Hid (Calls Try.prog 91 #[.agg #[.int .i64 k, .slice A d.length c], .int .i64 k, .func (.func 94) #[] #[.pointer (some ⟨w.heap.size + 1, 0, none⟩), .pointer (some ⟨w.heap.size, 0, none⟩)]] w1 (RetRg 3 w1 ⟨k, D⟩)) := by
    show Calls _ _ _ _ _
    rw [HD.out]
    refine renumTurn_any _ ⟨k, d⟩ k (w.heap.size + 1) w.heap.size (turnF k t) w1 ⟨_, rfl, R1⟩ (by simp only; omega) fun wr y hb hy => ?_
    exact turnClosure_any y t k _ _ wr ((Y1.step hb).cell 0) ((B1.step hb).cell 0) hk hg3 (HMEM.out y hy)
  clear B1 C1 T1 R1 Y1
  go_wp2_with fail
  refine HRN.out.mono ?_; rintro e w3 ⟨u, rfl, ⟨s, rfl, ho⟩, hb3⟩
  obtain ⟨A3, c3, rfl, _, _⟩ := ho.ri
  simp only [RgV]
  have z3 := HC1.out.step hb3
  have e0 := z3.cell 0
  have e1 := z3.cell 1
  have r0 := z3.free 0
  have r1 := z3.free 1
  simp at e0 e1
  have hz1 := HC1.out.1
  have hs1 := HT1.out.size
  have hs3 := hb3.size
  have hwr := ((Wr.refl (w.heap.size + 1 + 1) (w.heap.size + 1 + 2) w3).setCell (p := ⟨w.heap.size + 1 + 1, 0, none⟩) (Nat.le_refl _) (Nat.lt_succ_self _) (.int .i64 k)).setCell (p := ⟨w.heap.size + 1 + 1, 1, none⟩) (Nat.le_refl _) (Nat.lt_succ_self _) (.slice A3 D.length c3)
  have HO := Lib.hid ((ho.far hwr (.inr (by omega))).wide (lo' := w.heap.size) (by omega) hwr.size)
  have HR := Lib.hid (rg_zeroed (g := w.heap.size + 1 + 1) (by omega) (HT1.out.trans (hb3.mono hs1)) (.int .i64 k) (.slice A3 D.length c3))
  clear ho hwr hb3 z3
  go_wp2_with fail
  refine bodyPost_ret (v := .tuple #[RgV ⟨k, D⟩ (.slice A3 D.length c3), .bool true]) (by simp [results, Try.results34, go_sem, RgV, e0, e1]) rfl ⟨_, rfl, ⟨_, rfl, HO.out⟩, HR.out⟩
end Go.Proofs.Ytifebadcfopfkaa
