/-
  The contract of the program's WrapFrom.
-/
import Derived.Test.YtffmpkdkifecpaaWrapI
import Derived.Test.YtffmpkdkifecpaaWrapT
namespace Go.Proofs.Ytffmpkdkifecpaa
open Go.RowKit
set_option maxRecDepth 100000
set_option linter.unusedVariables false

theorem implWrapFrom_any (v : Value) (x : Rg) (s : Int) (w : World) (h : RRg w w.heap.size v x) (hn : x.d.length ≤ 1048576) (hx : (Lit.int .i64 s).wf = true) :
    Calls Try.prog 20 #[v, .int .i64 s] w (RetLB 3 w (wrapRg x s).1 (wrapRg x s).2) := by
  obtain ⟨sv, rfl, h⟩ := h
  obtain ⟨k, d⟩ := x
  have h3 := h
  obtain ⟨A, c, rfl, hlc, hc⟩ := h
  clear hc
  simp only [RgV] at hn h3 hlc ⊢
  have hB0 := (BK.made w 26 #[.int .i64 k, .slice A d.length c]).alloc (.cells #[.int .i64 s] 3)
  have hW : Below w.heap.size w ((w.alloc (.cells #[.int .i64 k, .slice A d.length c] 26)).alloc (.cells #[.int .i64 s] 3)) := ((Below.refl _ _).alloc (Nat.le_refl _) _).alloc (by simp) _
  have h4 := (h3.below hW).more hW.size
  have hl := lit1 (w := w.alloc (.cells #[.int .i64 k, .slice A d.length c] 26)) (x := s) (t := 3) (g := w.heap.size + 1) (by rw [World.size_alloc])
  cases hg : (isRg ⟨k, d⟩ && wi s 0 (k - 1))
  · rw [wrapRg_no hg]
    go_enter Try.func20, Try.ntmps20
    go_wp2_with fail
    refine (isRingWith_any _ _ ⟨k, d⟩ [s] _ ⟨_, rfl, h4⟩ hl hn (by simp)).mono ?_; rintro e w1 ⟨rfl, hb1⟩
    rw [okAll_one, hg]
    have T1 := hW.trans (hb1.mono hW.size)
    clear hW h4 hl hb1 hB0
    go_wp2_with fail
    go_ret2
    exact ⟨_, rfl, .inl ⟨rfl, none, 0, rfl, by simp, fun _ => rfl⟩, T1⟩
  have hg2 : isRg ⟨k, d⟩ = true := (Bool.and_eq_true _ _ ▸ hg).1
  have hk := isRg_k hg2
  simp only at hk
  have hs : 0 ≤ s ∧ s < k := by
    have := (Bool.and_eq_true _ _ ▸ hg).2
    simp only [wi, decide_eq_true_eq] at this
    omega
  obtain ⟨K, rfl⟩ : ∃ K : Nat, k = (K : Int) := ⟨k.toNat, by omega⟩
  have HE : Hid (wrapRg ⟨K, d⟩ s = (if aloneW d K s then [s] else passW d K s (lenW d K s), true)) := by
    show _ = _
    unfold wrapRg
    simp only [hg, if_true, Int.toNat_natCast]
  rw [HE.out]
  simp only
  obtain ⟨L, hL⟩ : ∃ L, L = (if aloneW d K s then [s] else passW d K s (lenW d K s)) := ⟨_, rfl⟩
  have HWF := Lib.hid (fun wz h => wrapFrom_any (RgV ⟨K, d⟩ (.slice A d.length c)) d K s wz h hk hs hn)
  rw [← hL] at HWF ⊢
  simp only [RgV] at HWF
  clear hL HE
  go_enter Try.func20, Try.ntmps20
  go_wp2_with fail
  refine (isRingWith_any _ _ ⟨K, d⟩ [s] _ ⟨_, rfl, h4⟩ hl hn (by simp)).mono ?_; rintro e w1 ⟨rfl, hb1⟩
  rw [okAll_one, hg]
  have T1 := Lib.hid (hW.trans (hb1.mono hW.size))
  have B1 := hB0.step hb1
  have R1 := (h4.step hb1 (Nat.le_refl _)).more hb1.size
  have q0 := B1.cell 0
  have q1 := B1.cell 1
  simp at q0 q1
  have HQ := Lib.hid (HWF.out w1 ⟨_, rfl, R1⟩)
  clear hW h4 hl hb1 hB0 B1 R1 HWF
  go_wp2_with fail
  refine HQ.out.mono ?_; rintro e w2 ⟨u, rfl, ho, hb2⟩
  have HO := Lib.hid (ho.wide (lo' := w.heap.size) T1.out.size (Nat.le_refl _))
  have HT := Lib.hid (T1.out.trans (hb2.mono T1.out.size))
  clear q0 q1 ho hb2 HQ
  go_wp2_with fail
  go_ret2
  exact ⟨_, rfl, HO.out, HT.out⟩
end Go.Proofs.Ytffmpkdkifecpaa
