/-
  The program's walk until all cells are read.
-/
import Derived.Test.YtfphkgialmjfnaaBegin
import Derived.Test.YtfphkgialmjfnaaHasI
namespace Go.Proofs.Ytfphkgialmjfnaa
open Go.RowKit Go.Conc Go.Sort
set_option maxRecDepth 100000
set_option linter.unusedVariables false

theorem GP.low {w wa : World} {n : Nat} {p : GL} (hs : w.heap.size ≤ wa.heap.size) (h : GP wa n p) : GP w n p :=
  ⟨Nat.le_trans hs h.k0, Nat.le_trans hs h.b0, Nat.le_trans hs h.s0, Nat.le_trans hs h.i0, Nat.le_trans hs h.q0, h.kg, h.bg, h.sg, h.ig, h.qg, h.gr, h.rl, h.cl, h.d1, h.d2, h.d3, h.d4, h.d5, h.d6, h.d7, h.d8, h.d9, h.d0⟩
/-- The program's ring behind T ticks. -/
def GoP (w : World) (x : Ir) (l : List Ms) (A : Option Addr) (c T : Nat) (e : Ending) (w' : World) : Prop :=
  ∃ p : GL, e = .returned (.pointer (some ⟨p.g, 0, none⟩)) ∧ (p.A = A ∧ p.c = c) ∧ GP w x.n.toNat p ∧ GoS w w' x l p T ((iwOf x l).vg 0) ((iwOf x l).run T)
theorem GoP.low {w wa w' : World} {x : Ir} {l : List Ms} {A : Option Addr} {c T : Nat} {e : Ending} (hW : Below w.heap.size w wa) (h : GoP wa x l A c T e w') : GoP w x l A c T e w' := by
  obtain ⟨p, h1, h2, h3, h4⟩ := h
  exact ⟨p, h1, h2, h3.low hW.size, h4.low hW⟩
theorem run_vals {x : Ir} {l : List Ms} (hok : inOk x l = true) (t : Nat) : (∀ i, i < l.length → ((iwOf x l).run t).I i = -1 ∨ 0 ≤ ((iwOf x l).run t).I i) ∧ ∀ i, i < l.length → ((iwOf x l).run t).R i = -1 ∨ 0 ≤ ((iwOf x l).run t).R i := by
  refine ⟨fun i _ => ?_, fun i _ => ?_⟩
  · have := Iw.I_in (x := iwOf x l) t i; omega
  · have := Iw.R_in (iwOk hok) t i; omega
theorem goOn_run {x : Ir} {l : List Ms} {w0 : World} {p : GL} {t : Nat} {w : World} (hk : Kept x l w0 p) (hS : GoS w0 w x l p t ((iwOf x l).vg 0) ((iwOf x l).run t)) (ht : t ≤ 1000) :
    Calls Try.prog 51 #[.pointer (some ⟨p.g, 0, none⟩)] w (DoneTo w0 x l p (t + 1) ((iwOf x l).vg 0) ((iwOf x l).run (t + 1))) :=
  inGoOn_any x l w0 p t ((iwOf x l).run t) w hk hS (Iw.run_inv (iwOk hk.ok) t) (run_vals hk.ok t).1 (Iw.run_P (iwOk hk.ok) t) ht
theorem has_undone {x : Ir} {l : List Ms} (hok : inOk x l = true) (t : Nat) : hasI (tabl ((iwOf x l).run t).R l.length) (-1) = !(iwOf x l).done t := by
  have hv := (run_vals hok t).2
  cases hd : (iwOf x l).done t
  · have h1 : ¬ ∀ c, c < (iwOf x l).sw.len → 0 ≤ ((iwOf x l).run t).R c := fun h => by rw [Iw.done_iff.2 h] at hd; cases hd
    obtain ⟨i, hi⟩ := Classical.not_forall.1 h1
    obtain ⟨h2, h3⟩ := Classical.not_imp.1 hi
    have h2 : i < l.length := h2
    exact hasI_at (k := i) (by rw [tabl_len]; exact h2) (by rw [tabl_at _ _ _ h2]; have := hv i h2; omega)
  · have h1 := Iw.done_iff.1 hd
    refine hasI_no fun j hj => ?_
    rw [tabl_len] at hj
    rw [tabl_at _ _ _ hj]
    have : 0 ≤ ((iwOf x l).run t).R j := h1 j hj
    omega
set_option maxHeartbeats 4000000 in
theorem walkOfAll_any (v : Value) (x : Ir) (l : List Ms) (w : World) (h : RMsS w w.heap.size v l) (hok : inOk x l = true) :
    Calls Try.prog 36 #[IrV x, v] w fun e w' => ∃ A c, v = .slice A l.length c ∧ GoP w x l A c (iwOf x l).need e w' := by
  obtain ⟨hn400, hdone, hundone⟩ := iwNeed hok
  have hl20 := (areMs_in (inOk_in hok).2).1
  have hr := h
  obtain ⟨A, c, rfl, _, hlc, _⟩ := h
  have HBG := Lib.hid (fun w => begin_any x l A c w (inOk_in hok).1 hl20)
  have HGO := Lib.hid (fun (w0 : World) (p : GL) (t : Nat) (w : World) h1 h2 h3 => goOn_run (x := x) (l := l) (w0 := w0) (p := p) (t := t) (w := w) h1 h2 h3)
  have HHA := Lib.hid (fun t => has_undone hok t)
  have HLOW : Hid (∀ wa w' e, Below w.heap.size w wa → GoP wa x l A c (iwOf x l).need e w' → ∃ A' c', Value.slice A l.length c = .slice A' l.length c' ∧ GoP w x l A' c' (iwOf x l).need e w') := by
    show ∀ _, _
    intro wa w' e h1 h2
    exact ⟨A, c, rfl, h2.low h1⟩
  have HOK := Lib.hid hok
  obtain ⟨T, hT⟩ : ∃ T, T = (iwOf x l).need := ⟨_, rfl⟩
  rw [← hT] at hn400 hdone hundone HLOW ⊢
  have HDN := Lib.hid hdone
  have HUN := Lib.hid hundone
  clear hT hok hdone hundone
  have hW : Below w.heap.size w (w.alloc (.cells #[.int .i64 x.n, .int .i64 x.r, .bool x.h] 29)) := (Below.refl _ _).alloc (Nat.le_refl _) _
  have hB := BK.made w 29 #[.int .i64 x.n, .int .i64 x.r, .bool x.h]
  have b0 := hB.cell 0
  have b1 := hB.cell 1
  have b2 := hB.cell 2
  simp only [List.getElem?_toArray, List.getElem?_cons_zero, List.getElem?_cons_succ] at b0 b1 b2
  have HR := Lib.hid ((hr.step hW (Nat.le_refl _)).more hW.size)
  have HW := Lib.hid hW
  unfold IrV at HBG ⊢
  clear hB hW hr
  go_enter Try.func36, Try.ntmps36
  go_upto_region 1 with fail
  generalize w.alloc (.cells #[.int .i64 x.n, .int .i64 x.r, .bool x.h] 29) = wa at *
  go_wp2_with fail
  refine (HBG.out _).mono ?_; rintro e w1 ⟨p, rfl, hA, hc, hp, hS⟩
  have HK : Hid (Kept x l wa p) := ⟨hp, HOK.out, by rw [hA, hc]; exact HR.out⟩
  have HAC : Hid (p.A = A ∧ p.c = c) := ⟨hA, hc⟩
  have HS := Lib.hid hS
  clear hA hc hp hS b0 b1 b2
  have HS0 : Hid (GoS wa w1 x l p 0 ((iwOf x l).vg 0) ((iwOf x l).run 0)) := HS.out
  clear HS
  obtain ⟨g, hg⟩ : ∃ g, g = p.g := ⟨_, rfl⟩
  rw [← hg]
  have HGE := Lib.hid hg
  clear hg
  go_wp2_with fail
  go_loopw [9] (fun _ wr => ∃ t : Nat, t ≤ T ∧ GoS wa wr x l p t ((iwOf x l).vg 0) ((iwOf x l).run t))
    (fun _ wr => T - (match wr.cell? ⟨g, 4, none⟩ with | some (.int _ t) => t.toNat | _ => 0))
  case atStart => exact ⟨0, Nat.zero_le _, HS0.out⟩
  case round =>
    clear HS0
    obtain ⟨t, htT, hS⟩ := hrel
    have HS := Lib.hid hS
    have c9 := hS.run.cell 9
    have c4 := hS.run.cell 4
    simp only [List.getElem?_toArray, List.getElem?_cons_zero, List.getElem?_cons_succ] at c9 c4
    rw [← HGE.out] at c9 c4
    have hri : RI wr wr.heap.size p.vr (tabl ((iwOf x l).run t).R l.length) := hS.read.ri (by have := hS.run.1; have := HK.out.gp.qg; omega)
    have HCT := Lib.hid (contains_any p.vr (tabl ((iwOf x l).run t).R l.length) (-1) wr hri (by rw [tabl_len]; omega))
    rw [HHA.out] at HCT
    have HC4 := Lib.hid c4
    clear hS hri c4
    obtain ⟨A9, c9', hvr⟩ : ∃ A9 c9', p.vr = .slice A9 l.length c9' := by
      obtain ⟨A9, c9', h9, _⟩ := HS.out.read.form
      rw [tabl_len] at h9
      exact ⟨_, _, h9⟩
    rw [hvr] at HCT c9
    clear hvr
    cases hd : (iwOf x l).done t
    · rw [hd] at HCT
      have htlt : t < T := by
        rcases Nat.lt_or_eq_of_le htT with h | h
        · exact h
        · rw [h, HDN.out] at hd; cases hd
      have HGO1 := Lib.hid (HGO.out _ _ _ _ HK.out HS.out (by omega))
      rw [← HGE.out] at HGO1
      clear hd
      go_wp2_with fail
      refine HCT.out.mono ?_; rintro e w5 ⟨rfl, rfl⟩
      go_wp2_with fail
      refine HGO1.out.mono ?_; rintro e w6 ⟨rfl, hS2⟩
      have HS2 := Lib.hid hS2
      have HC5 : Hid (w6.cell? ⟨g, 4, none⟩ = some (.int .i64 ((t + 1 : Nat) : Int))) := by
        show _ = _
        have := hS2.run.cell 4
        rw [HGE.out]
        simpa using this
      clear hS2
      go_wp2_with fail
      go_roundw
      case rel => exact ⟨t + 1, by omega, HS2.out⟩
      case measure =>
        rw [HC4.out, HC5.out]
        simp only
        omega
    · rw [hd] at HCT
      have HE : Hid (t = T) := by
        show t = T
        rcases Nat.lt_or_eq_of_le htT with h | h
        · rw [HUN.out t h] at hd; cases hd
        · exact h
      have HFIN : Hid (GoP wa x l A c T (.returned (.pointer (some ⟨p.g, 0, none⟩))) wr) := by
        show GoP _ _ _ _ _ _ _ _
        rw [← HE.out]
        exact ⟨p, rfl, HAC.out, HK.out.gp, HS.out⟩
      rw [← HGE.out] at HFIN
      clear hd HS
      go_wp2_with fail
      refine HCT.out.mono ?_; rintro e w5 ⟨rfl, rfl⟩
      go_wp2_with fail
      go_ret
      exact HLOW.out _ _ _ HW.out HFIN.out
end Go.Proofs.Ytfphkgialmjfnaa
