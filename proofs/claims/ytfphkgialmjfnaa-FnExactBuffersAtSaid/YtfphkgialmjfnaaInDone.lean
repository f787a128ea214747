/-
  The model behind all messages.
-/
import Derived.Test.YtfphkgialmjfnaaInNew
import Derived.Test.YtfphkgialmjfnaaTick6
namespace Go.Proofs.Ytfphkgialmjfnaa
open Go.RowKit Go.Conc
set_option maxRecDepth 100000
set_option linter.unusedVariables false

/-- The model's ring behind T ticks. -/
def InP (w : World) (x : Ir) (l : List Ms) (A : Option Addr) (c T : Nat) (e : Ending) (w' : World) : Prop :=
  ∃ (p : IL) (vs : Nat → Value), e = .returned (.pointer (some ⟨p.g, 0, none⟩)) ∧ (p.A = A ∧ p.c = c) ∧ IP w p ∧ InS w w' x l p vs ((iwOf x l).run T)
theorem InP.low {w wa w' : World} {x : Ir} {l : List Ms} {A : Option Addr} {c T : Nat} {e : Ending} (hW : Below w.heap.size w wa) (h : InP wa x l A c T e w') : InP w x l A c T e w' := by
  obtain ⟨p, vs, h1, h2, h3, h4⟩ := h
  exact ⟨p, vs, h1, h2, h3.low hW.size, h4.low hW⟩
theorem inTick_run {x : Ir} {l : List Ms} {w0 : World} {p : IL} {vs : Nat → Value} {t : Nat} {w : World} (hok : inOk x l = true) (hp : IP w0 p) (hr : RMsS w0 w0.heap.size (.slice p.A l.length p.c) l) (hS : InS w0 w x l p vs ((iwOf x l).run t)) (ht : t ≤ 3000) :
    Calls Try.prog 55 #[.pointer (some ⟨p.g, 0, none⟩), .int .i64 (t : Nat)] w (TickP w0 x l p ((iwOf x l).run (t + 1))) :=
  inTick_any x l w0 p vs ((iwOf x l).run t) t w hok hp hS hr (Iw.run_inv (iwOk hok) t) (fun s hs => Nat.le_trans (Iw.D_le t s hs) (by omega)) ht
/-- All of the first j cells are read. -/
def readTo (R : Nat → Int) (j : Nat) : Bool := (List.range j).all fun c => decide (0 ≤ R c)
theorem readTo_succ (R : Nat → Int) (j : Nat) : readTo R (j + 1) = (readTo R j && decide (0 ≤ R j)) := by
  unfold readTo
  rw [List.range_succ, List.all_append]
  simp
set_option maxHeartbeats 4000000 in
theorem inDone_any (v : Value) (x : Ir) (l : List Ms) (w : World) (h : RMsS w w.heap.size v l) (hok : inOk x l = true) :
    Calls Try.prog 33 #[IrV x, v] w fun e w' => ∃ A c, v = .slice A l.length c ∧ InP w x l A c (iwOf x l).need e w' := by
  obtain ⟨hn400, hdone, hundone⟩ := iwNeed hok
  have hl20 := (areMs_in (inOk_in hok).2).1
  have hr := h
  obtain ⟨A, c, rfl, _, hlc, _⟩ := h
  have HNW := Lib.hid (fun w => inNew_any x l A c w (inOk_in hok).1 hl20)
  have HTI := Lib.hid (fun (w0 : World) (p : IL) (vs : Nat → Value) (t : Nat) (w : World) h1 h2 h3 h4 => inTick_run (x := x) (l := l) (w0 := w0) (p := p) (vs := vs) (t := t) (w := w) hok h1 h2 h3 h4)
  have HLOW : Hid (∀ wa w' e, Below w.heap.size w wa → InP wa x l A c (iwOf x l).need e w' → ∃ A' c', Value.slice A l.length c = .slice A' l.length c' ∧ InP w x l A' c' (iwOf x l).need e w') := by
    show ∀ _, _
    intro wa w' e h1 h2
    exact ⟨A, c, rfl, h2.low h1⟩
  have HDO : Hid (∀ t, readTo ((iwOf x l).run t).R l.length = (iwOf x l).done t) := fun t => rfl
  obtain ⟨T, hT⟩ : ∃ T, T = (iwOf x l).need := ⟨_, rfl⟩
  rw [← hT] at hn400 hdone hundone HLOW ⊢
  have HDN := Lib.hid hdone
  have HUN := Lib.hid hundone
  have hl2 : (l.length : Int) ≤ 20 := by omega
  clear hT hok hdone hundone
  have hW : Below w.heap.size w (w.alloc (.cells #[.int .i64 x.n, .int .i64 x.r, .bool x.h] 29)) := (Below.refl _ _).alloc (Nat.le_refl _) _
  have hB := BK.made w 29 #[.int .i64 x.n, .int .i64 x.r, .bool x.h]
  have b0 := hB.cell 0
  have b1 := hB.cell 1
  have b2 := hB.cell 2
  simp only [List.getElem?_toArray, List.getElem?_cons_zero, List.getElem?_cons_succ] at b0 b1 b2
  have HR := Lib.hid ((hr.step hW (Nat.le_refl _)).more hW.size)
  have HW := Lib.hid hW
  unfold IrV at HNW ⊢
  clear hB hW hr
  go_enter Try.func33, Try.ntmps33
  go_upto_region 1 with fail
  generalize w.alloc (.cells #[.int .i64 x.n, .int .i64 x.r, .bool x.h] 29) = wa at *
  go_wp2_with fail
  refine (HNW.out _).mono ?_; rintro e w1 ⟨p, vs, rfl, hA, hc, hp, hS⟩
  have HP := Lib.hid hp
  have HRP : Hid (RMsS wa wa.heap.size (.slice p.A l.length p.c) l) := by show RMsS _ _ _ _; rw [hA, hc]; exact HR.out
  have HAC : Hid (p.A = A ∧ p.c = c) := ⟨hA, hc⟩
  have HS0 : Hid (InS wa w1 x l p vs ((iwOf x l).run 0)) := hS
  clear hA hc hp hS b0 b1 b2
  obtain ⟨g, hg⟩ : ∃ g, g = p.g := ⟨_, rfl⟩
  rw [← hg]
  have HGE := Lib.hid hg
  clear hg
  go_wp2_with fail
  go_loopw [6] (fun i wr => ∃ (t : Nat) (vs : Nat → Value), t ≤ T ∧ i = .int .i64 t ∧ InS wa wr x l p vs ((iwOf x l).run t)) (fun i _ => 2001 - (intOf i).toNat)
  case atStart => exact ⟨0, _, Nat.zero_le _, rfl, HS0.out⟩
  case round =>
    clear HS0
    obtain ⟨t, vs, htT, rfl, hS⟩ := hrel
    have HS := Lib.hid hS
    have c7 := hS.run.cell 7
    simp only [List.getElem?_toArray, List.getElem?_cons_zero, List.getElem?_cons_succ] at c7
    rw [← HGE.out] at c7
    obtain ⟨VA, VC, hV, hVA⟩ := hS.read.form
    rw [tabl_len] at hV hVA
    rw [hV] at c7
    have ht2 : (t : Int) ≤ 2000 := by omega
    have ewt : IntKind.i64.wrap ((t : Int) + 1) = (t : Int) + 1 := IntWalk.i64_in _ (by omega)
    have HRC : Hid (∀ j, j < l.length → ∃ q, VA = some ⟨q, 0, none⟩ ∧ wr.cell? ⟨q, j, none⟩ = some (.int .i64 (((iwOf x l).run t).R j))) := by
      show ∀ _, _
      intro j hj
      obtain ⟨c3, h3, h4⟩ := hS.read.at_ j (by rw [tabl_len]; exact hj)
      have h5 := h4.cell j (by rw [tabl_len]; exact hj)
      rw [tabl_at _ _ _ hj] at h5
      exact ⟨_, hVA (by omega), h5⟩
    have HHD := HDO.out t
    have HHDX := Lib.hid HHD
    generalize ((iwOf x l).run t).R = R at HRC HHDX
    clear hS hV hVA HHD
    go_wp2_with fail
    go_loopw [7, 22] (fun d i wq => ∃ j : Nat, j ≤ l.length ∧ i = .int .i64 j ∧ d = .bool (readTo R j) ∧ wq = wr) (fun _ i _ => l.length - (intOf i).toNat)
    case atStart => exact ⟨0, Nat.zero_le _, rfl, rfl, rfl⟩
    case round =>
      obtain ⟨j, hj, rfl, rfl, rfl⟩ := hrel
      by_cases hlt : j < l.length
      · have hjI : (j : Int) < (l.length : Int) := by omega
        obtain ⟨q, hq, hcell⟩ := HRC.out j hlt
        rw [hq]
        have HSU := Lib.hid (readTo_succ R j)
        obtain ⟨y, hy⟩ : ∃ y, y = R j := ⟨_, rfl⟩
        rw [← hy] at hcell HSU
        clear hy hq
        cases hd : readTo R j
        · rw [hd] at HSU
          have HSV : Hid (readTo R (j + 1) = false) := HSU.out
          clear hd HSU
          go_wp2_with fail
          go_roundw
          case rel => exact ⟨j + 1, by omega, by go_num, by rw [HSV.out], trivial⟩
          case measure => simp [intOf]; omega
        · rw [hd] at HSU
          have HSV : Hid (readTo R (j + 1) = decide (0 ≤ y)) := HSU.out
          clear hd HSU
          go_wp2_with fail
          go_roundw
          case rel => exact ⟨j + 1, by omega, by go_num, by rw [HSV.out], trivial⟩
          case measure => simp [intOf]; omega
      · obtain rfl : j = l.length := by omega
        rw [HHDX.out]
        cases hd : (iwOf x l).done t
        · have htlt : t < T := by
            rcases Nat.lt_or_eq_of_le htT with h | h
            · exact h
            · rw [h, HDN.out] at hd; cases hd
          have HTI1 := Lib.hid (HTI.out _ _ _ _ _ HP.out HRP.out HS.out (by omega))
          rw [← HGE.out] at HTI1
          clear hd
          go_wp2_with fail
          refine HTI1.out.mono ?_; rintro e w6 ⟨rfl, vs2, hS2⟩
          have HS2 := Lib.hid hS2
          clear hS2
          go_wp2_with fail
          go_roundw
          case rel => exact ⟨t + 1, _, by omega, by go_num, HS2.out⟩
          case measure => simp [intOf]; omega
        · have HE : Hid (t = T) := by
            show t = T
            rcases Nat.lt_or_eq_of_le htT with h | h
            · rw [HUN.out t h] at hd; cases hd
            · exact h
          have HFIN : Hid (InP wa x l A c T (.returned (.pointer (some ⟨p.g, 0, none⟩))) wr) := by
            show InP _ _ _ _ _ _ _ _
            rw [← HE.out]
            exact ⟨p, vs, rfl, HAC.out, HP.out, HS.out⟩
          rw [← HGE.out] at HFIN
          clear hd HS
          go_wp2_with fail
          go_ret
          exact HLOW.out _ _ _ HW.out HFIN.out
end Go.Proofs.Ytfphkgialmjfnaa
