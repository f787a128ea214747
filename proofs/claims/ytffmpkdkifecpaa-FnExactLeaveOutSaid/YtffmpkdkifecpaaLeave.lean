/-
  The contracts of the program's LeaveOut.
-/
import Derived.Test.YtffmpkdkifecpaaTurn
import Derived.Test.YtffmpkdkifecpaaMathLeave
namespace Go.Proofs.Ytffmpkdkifecpaa
open Go.RowKit
set_option maxRecDepth 100000
set_option linter.unusedVariables false

def leaveRg (x : Rg) (t : Int) : Rg × Bool := if (isRg x && wi t 0 (x.k - 1)) = true ∧ x.k ≠ 2 then (⟨x.k - 1, setL (x.d.map (outF x.k t))⟩, true) else (RgZero, false)
theorem leaveClosure_any (y t k : Int) (d : List Int) (A : Option Addr) (c : Nat) (g3 g2 : Nat) (w : World) (h3 : w.cell? ⟨g3, 0, none⟩ = some (.int .i64 t)) (hg3 : g3 < w.heap.size) (hb : BK w g2 26 #[.int .i64 k, .slice A d.length c]) (hr : RI w w.heap.size (.slice A d.length c) d) (hk : 2 ≤ k ∧ k ≤ 12) (ht : 0 ≤ t ∧ t < k) (hy : 0 ≤ y ∧ y < k) :
    Calls Try.prog 34 #[.int .i64 y, .pointer (some ⟨g3, 0, none⟩), .pointer (some ⟨g2, 0, none⟩)] w (RetV w (.int .i64 (outF k t y))) := by
  have b0 := hb.cell 0
  have b1 := hb.cell 1
  simp at b0 b1
  have hbf := bf_in ht.1 ht.2
  have HB := before_any _ ⟨k, d⟩ t w ⟨_, rfl, hr⟩ hk ht
  simp only [RgV] at HB
  have HBF := Lib.hid HB
  have HSZ := Lib.hid hg3
  clear HB hr
  unfold outF
  by_cases hys : y = t
  · subst hys
    have hbeq : (y == y) = true := by simp
    simp only [if_true]
    generalize bf k y = z at hbf HBF ⊢
    have e5 : IntKind.i64.wrap (z - 1) = z - 1 := IntWalk.i64_in _ (by omega)
    by_cases hz : y < z
    · rw [if_pos hz]
      go_enter Try.func34, Try.ntmps34
      go_wp2_with fail
      refine HBF.out.mono ?_; rintro e w1 ⟨rfl, hb1⟩
      have h4 := (hb1.cell (p := ⟨g3, 0, none⟩) HSZ.out).trans h3
      go_wp2_with fail
      go_ret
      exact ⟨rfl, hb1⟩
    · rw [if_neg hz]
      have hz2 : z ≤ y := by omega
      go_enter Try.func34, Try.ntmps34
      go_wp2_with fail
      refine HBF.out.mono ?_; rintro e w1 ⟨rfl, hb1⟩
      have h4 := (hb1.cell (p := ⟨g3, 0, none⟩) HSZ.out).trans h3
      go_wp2_with fail
      go_ret
      exact ⟨rfl, hb1⟩
  · have hbeq : (y == t) = false := beq_eq_false_iff_ne.2 hys
    simp only [if_neg hys]
    have e5 : IntKind.i64.wrap (y - 1) = y - 1 := IntWalk.i64_in _ (by omega)
    clear hys
    by_cases hz : t < y
    · rw [if_pos hz]
      go_enter Try.func34, Try.ntmps34
      go_wp2_with fail
      go_ret
      exact ⟨rfl, Below.refl _ _⟩
    · rw [if_neg hz]
      have hz2 : y ≤ t := by omega
      go_enter Try.func34, Try.ntmps34
      go_wp2_with fail
      go_ret
      exact ⟨rfl, Below.refl _ _⟩
theorem leaveRg_no {x : Rg} {t : Int} (h : ¬ ((isRg x && wi t 0 (x.k - 1)) = true ∧ x.k ≠ 2)) : leaveRg x t = (RgZero, false) := by unfold leaveRg; rw [if_neg h]
theorem leaveRg_yes {x : Rg} {t : Int} (h : (isRg x && wi t 0 (x.k - 1)) = true) (h2 : x.k ≠ 2) : leaveRg x t = (⟨x.k - 1, setL (x.d.map (outF x.k t))⟩, true) := by unfold leaveRg; rw [if_pos ⟨h, h2⟩]
theorem leaveRg_len (x : Rg) (t : Int) : (leaveRg x t).1.d.length ≤ 1048576 := by
  unfold leaveRg
  split
  · next h =>
    have h1 : isRg x = true := (Bool.and_eq_true _ _ ▸ h.1).1
    have := isRg_len h1
    have := setL_len (x.d.map (outF x.k t))
    rw [List.length_map] at this
    show (setL _).length ≤ _
    omega
  · simp [RgZero]
set_option maxHeartbeats 2000000 in
theorem implLeaveOut_any (v : Value) (x : Rg) (t : Int) (w : World) (h : RRg w w.heap.size v x) (hn : x.d.length ≤ 1048576) (hx : (Lit.int .i64 t).wf = true) :
    Calls Try.prog 10 #[v, .int .i64 t] w (RetRgB 3 w (leaveRg x t).1 (leaveRg x t).2) := by
  obtain ⟨sv, rfl, h⟩ := h
  obtain ⟨k, d⟩ := x
  have h3 := h
  obtain ⟨A, c, rfl, hlc, hc⟩ := h
  clear hc
  simp only [RgV] at hn h3 hlc ⊢
  have hB0 := (((BK.made w 26 #[.int .i64 k, .slice A d.length c]).alloc (.cells #[.int .i64 t] 3)).alloc (.cells #[.int .i64 0, .slice none 0 0] 26)).alloc (.cells #[.int .i64 t] 3)
  have hT0 := ((BK.made (w.alloc (.cells #[.int .i64 k, .slice A d.length c] 26)) 3 #[.int .i64 t]).alloc (.cells #[.int .i64 0, .slice none 0 0] 26)).alloc (.cells #[.int .i64 t] 3)
  have hC0 := (BK.made ((w.alloc (.cells #[.int .i64 k, .slice A d.length c] 26)).alloc (.cells #[.int .i64 t] 3)) 26 #[.int .i64 0, .slice none 0 0]).alloc (.cells #[.int .i64 t] 3)
  rw [World.size_alloc] at hT0
  rw [World.size_alloc, World.size_alloc] at hC0
  have hW : Below w.heap.size w ((((w.alloc (.cells #[.int .i64 k, .slice A d.length c] 26)).alloc (.cells #[.int .i64 t] 3)).alloc (.cells #[.int .i64 0, .slice none 0 0] 26)).alloc (.cells #[.int .i64 t] 3)) := ((((Below.refl _ _).alloc (Nat.le_refl _) _).alloc (by simp) _).alloc (by simp; omega) _).alloc (by simp; omega) _
  have h4 := (h3.below hW).more hW.size
  have hl := lit1 (w := ((w.alloc (.cells #[.int .i64 k, .slice A d.length c] 26)).alloc (.cells #[.int .i64 t] 3)).alloc (.cells #[.int .i64 0, .slice none 0 0] 26)) (x := t) (t := 3) (g := w.heap.size + 1 + 1 + 1) (by rw [World.size_alloc, World.size_alloc, World.size_alloc])
  have hmf : ∀ (fn : Fn) (first cap : Array Value) (w : World), (Instr.makeFunc fn first cap).run Try.prog w = .ok (.func fn first cap) w := fun _ _ _ _ => rfl
  cases hg : (isRg ⟨k, d⟩ && wi t 0 (k - 1))
  · rw [leaveRg_no (fun hk => by simp only at hk; rw [hg] at hk; exact absurd hk.1 (by simp))]
    go_enter Try.func10, Try.ntmps10
    go_wp2_with fail
    refine (isRingWith_any _ _ ⟨k, d⟩ [t] _ ⟨_, rfl, h4⟩ hl hn (by simp)).mono ?_; rintro e w1 ⟨rfl, hb1⟩
    rw [okAll_one, hg]
    have T1 := hW.trans (hb1.mono hW.size)
    have C1 := hC0.step hb1
    have c0 := C1.cell 0
    have c1 := C1.cell 1
    have f0 := C1.free 0
    have f1 := C1.free 1
    simp at c0 c1
    clear hC0 hW h4 hl hb1 hB0 hT0
    go_wp2_with fail
    refine bodyPost_ret (v := .tuple #[RgV RgZero (.slice none 0 0), .bool false]) (by simp [results, Try.results10, go_sem, RgV, RgZero, c0, c1]) rfl ⟨_, rfl, oRgZero _ _ _ _, ?_⟩
    exact rg_zeroed (by omega) T1 _ _
  by_cases hk2 : k = 2
  · rw [leaveRg_no (fun hk => hk.2 hk2)]
    have hkb : (k == 2) = true := by simp [hk2]
    have HK2 := Lib.hid hk2
    clear hk2
    go_enter Try.func10, Try.ntmps10
    go_wp2_with fail
    refine (isRingWith_any _ _ ⟨k, d⟩ [t] _ ⟨_, rfl, h4⟩ hl hn (by simp)).mono ?_; rintro e w1 ⟨rfl, hb1⟩
    rw [okAll_one, hg]
    have T1 := hW.trans (hb1.mono hW.size)
    have B1 := hB0.step hb1
    have q0 := B1.cell 0
    have q1 := B1.cell 1
    have C1 := hC0.step hb1
    have c0 := C1.cell 0
    have c1 := C1.cell 1
    have f0 := C1.free 0
    have f1 := C1.free 1
    simp at c0 c1 q0 q1
    clear hC0 hW h4 hl hb1 hB0 hT0 B1
    go_wp2_with fail
    refine bodyPost_ret (v := .tuple #[RgV RgZero (.slice none 0 0), .bool false]) (by simp [results, Try.results10, go_sem, RgV, RgZero, c0, c1]) rfl ⟨_, rfl, oRgZero _ _ _ _, ?_⟩
    exact rg_zeroed (by omega) T1 _ _
  have hkb : (k == 2) = false := beq_eq_false_iff_ne.2 hk2
  have hg2 : isRg ⟨k, d⟩ = true := (Bool.and_eq_true _ _ ▸ hg).1
  have hg3 : 0 ≤ t ∧ t < k := by
    have := (Bool.and_eq_true _ _ ▸ hg).2
    simp only [wi, decide_eq_true_eq] at this
    omega
  have hk := isRg_k hg2
  have hlen := isRg_len hg2
  simp only at hk hlen
  have hmem : ∀ y ∈ d, 0 ≤ y ∧ y < k := fun y hy => isRg_mem hg2 hy
  have HMEM := Lib.hid hmem
  clear hmem
  rw [leaveRg_yes (x := ⟨k, d⟩) hg hk2]
  have hkw : IntKind.i64.wrap (k - 1) = k - 1 := IntWalk.i64_in _ (by omega)
  have HK2 := Lib.hid hk2
  clear hk2
  simp only
  obtain ⟨D, hD⟩ : ∃ D, D = setL (d.map (outF k t)) := ⟨_, rfl⟩
  rw [← hD]
  have HD := Lib.hid hD
  clear hD
  go_enter Try.func10, Try.ntmps10
  go_wp2_with fail
  refine (isRingWith_any _ _ ⟨k, d⟩ [t] _ ⟨_, rfl, h4⟩ hl hn (by simp)).mono ?_; rintro e w1 ⟨rfl, hb1⟩
  rw [okAll_one, hg]
  have T1 := hW.trans (hb1.mono hW.size)
  have B1 := hB0.step hb1
  have Y1 := hT0.step hb1
  have C1 := hC0.step hb1
  have R1 := (h4.step hb1 (Nat.le_refl _)).more hb1.size
  have q0 := B1.cell 0
  have q1 := B1.cell 1
  simp at q0 q1
  clear hC0 hW h4 hl hb1 hB0 hT0
  have HC1 := Lib.hid C1
  have HT1 := Lib.hid T1
  have HRN : Hid (Calls Try.prog 33 #[.agg #[.int .i64 k, .slice A d.length c], .int .i64 (k - 1), .func (.func 34) #[] #[.pointer (some ⟨w.heap.size + 1, 0, none⟩), .pointer (some ⟨w.heap.size, 0, none⟩)]] w1 (RetRg 3 w1 ⟨k - 1, D⟩)) := by
    show Calls _ _ _ _ _
    rw [HD.out]
    refine renumLeave_any _ ⟨k, d⟩ (k - 1) (w.heap.size + 1) w.heap.size (outF k t) w1 ⟨_, rfl, R1⟩ (by simp only; omega) fun wr y hb hy => ?_
    exact leaveClosure_any y t k d A c _ _ wr ((Y1.step hb).cell 0) (Y1.step hb).1 (B1.step hb) ((R1.step hb (Nat.le_refl _)).more hb.size) hk hg3 (HMEM.out y hy)
  clear B1 C1 T1 R1 Y1
  go_wp2_with fail
  refine HRN.out.mono ?_; rintro e w3 ⟨u, rfl, ⟨s, rfl, ho⟩, hb3⟩
  obtain ⟨A3, c3, rfl, _, _⟩ := ho.ri
  simp only [RgV]
  have z3 := HC1.out.step hb3
  have e0 := z3.cell 0
  have e1 := z3.cell 1
  have r0 := z3.free 0
  have r1 := z3.free 1
  simp at e0 e1
  have hz1 := HC1.out.1
  have hs1 := HT1.out.size
  have hs3 := hb3.size
  have hwr := ((Wr.refl (w.heap.size + 1 + 1) (w.heap.size + 1 + 2) w3).setCell (p := ⟨w.heap.size + 1 + 1, 0, none⟩) (Nat.le_refl _) (Nat.lt_succ_self _) (.int .i64 (k - 1))).setCell (p := ⟨w.heap.size + 1 + 1, 1, none⟩) (Nat.le_refl _) (Nat.lt_succ_self _) (.slice A3 D.length c3)
  have HO := Lib.hid ((ho.far hwr (.inr (by omega))).wide (lo' := w.heap.size) (by omega) hwr.size)
  have HR := Lib.hid (rg_zeroed (g := w.heap.size + 1 + 1) (by omega) (HT1.out.trans (hb3.mono hs1)) (.int .i64 (k - 1)) (.slice A3 D.length c3))
  clear ho hwr hb3 z3
  go_wp2_with fail
  refine bodyPost_ret (v := .tuple #[RgV ⟨k - 1, D⟩ (.slice A3 D.length c3), .bool true]) (by simp [results, Try.results10, go_sem, RgV, e0, e1]) rfl ⟨_, rfl, ⟨_, rfl, HO.out⟩, HR.out⟩
end Go.Proofs.Ytffmpkdkifecpaa
