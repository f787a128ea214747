/-
  More mathematics of inserted cells: messages that are turned, cells underway at a tick. No dump is imported but for the small words. The walks of both sides through a told number of ticks.
-/
import Derived.Test.YtfphkgialmjfnaaIr
import Derived.Test.YtfphkgialmjfnaaInsX
import Derived.Deep.LoopGhost
namespace Go.Proofs.Ytfphkgialmjfnaa
section
open Go.RowKit
set_option maxRecDepth 100000
set_option linter.unusedVariables false

theorem turn_mod {k b f : Int} (hk : 2 ≤ k) (hb : 0 ≤ b ∧ b ≤ k - 1) (hf : 0 ≤ f ∧ f ≤ k - 1) : (f + b).tmod k = if f + b < k then f + b else f + b - k := by
  rw [Int.tmod_eq_emod_of_nonneg (by omega)]
  split
  · rw [Int.emod_eq_of_lt (by omega) (by omega)]
  · rw [← Int.sub_emod_right, Int.emod_eq_of_lt (by omega) (by omega)]
theorem turnMs_ok {k b : Int} (hk : 2 ≤ k) (hb : 0 ≤ b ∧ b ≤ k - 1) {y : Ms} (h : msOk k y = true) : msOk k (turnMs k b y) = true := by
  have h1 : (0 ≤ y.f ∧ y.f ≤ k - 1) ∧ (0 ≤ y.o ∧ y.o ≤ k - 1) ∧ y.f ≠ y.o := by simpa [msOk, wi] using h
  obtain ⟨h2, h3, h4⟩ := h1
  have e1 := turn_mod hk hb h2
  have e2 := turn_mod hk hb h3
  simp only [msOk, turnMs, wi, e1, e2, Bool.and_eq_true, decide_eq_true_eq]
  refine ⟨?_, ?_, ?_⟩
  · split <;> omega
  · split <;> omega
  · split <;> split <;> omega
theorem msFrom_turn {k b : Int} (hk : 2 ≤ k) (hb : 0 ≤ b ∧ b ≤ k - 1) {e : Int} {l : List Ms} (h : msFrom k e l = true) : msFrom k e (l.map (turnMs k b)) = true := by
  induction l generalizing e with
  | nil => rfl
  | cons y l ih =>
    have h1 : wi y.t e 100 = true ∧ msOk k y = true ∧ msFrom k y.t l = true := by simpa [msFrom] using h
    show (wi y.t e 100 && (msOk k (turnMs k b y) && msFrom k y.t (l.map (turnMs k b)))) = true
    rw [h1.1, turnMs_ok hk hb h1.2.1, ih h1.2.2]
    rfl
theorem inOk_turn {x : Ir} {l : List Ms} {b : Int} (h : inOk x l = true) (hb : wi b 0 (x.n - 1) = true) : inOk x (l.map (turnMs x.n b)) = true := by
  have h1 := inOk_in h
  have h2 := isIr_in h1.1
  have h3 : 0 ≤ b ∧ b ≤ x.n - 1 := by simpa [wi] using hb
  have h4 : l.length ≤ 20 ∧ msFrom x.n 0 l = true := by simpa [areMs] using h1.2
  simp only [inOk, h1.1, areMs, List.length_map, h4.1, msFrom_turn (by omega) h3 h4.2, decide_true, Bool.and_self]
/-- The state behind all messages. -/
def endO (x : Ir) (l : List Ms) : Ist := (iwOf x l).run (iwOf x l).need
theorem endO_read {x : Ir} {l : List Ms} (h : inOk x l = true) {c : Nat} (hc : c < l.length) : 0 ≤ (endO x l).R c ∧ 0 ≤ (endO x l).I c := by
  have h1 := iwNeed h
  have h2 := Iw.done_iff.1 h1.2.1 c hc
  exact ⟨h2, (Iw.run_inv (iwOk h) _).read_ins hc h2⟩
/-- A cell is underway behind the tick t just where it is inserted by then and read later. -/
theorem under_iff {x : Ir} {l : List Ms} (h : inOk x l = true) (t : Nat) {c : Nat} (hc : c < l.length) :
    (0 ≤ ((iwOf x l).run (t + 1)).I c ∧ ((iwOf x l).run (t + 1)).R c < 0) ↔ ((endO x l).I c ≤ (t : Int) ∧ (t : Int) ≤ (endO x l).R c - 1) := by
  have hE := endO_read h hc
  have hx := iwOk h
  rcases Nat.le_total (t + 1) (iwOf x l).need with hle | hle
  · obtain ⟨j, hj⟩ : ∃ j, (iwOf x l).need = t + 1 + j := ⟨_, (Nat.add_sub_cancel' hle).symm⟩
    have hI := Iw.run_I (x := iwOf x l) (t + 1) c j
    have hR := Iw.run_R hx (t + 1) c j
    have hIt := Iw.I_in (x := iwOf x l) (t + 1) c
    have hRt := Iw.R_in hx (t + 1) c
    rw [← hj] at hI hR
    unfold endO at hE ⊢
    omega
  · obtain ⟨j, hj⟩ : ∃ j, t + 1 = (iwOf x l).need + j := ⟨_, (Nat.add_sub_cancel' hle).symm⟩
    have hI := Iw.run_I (x := iwOf x l) (iwOf x l).need c j
    have hR := Iw.run_R hx (iwOf x l).need c j
    have hIt := Iw.I_in (x := iwOf x l) (iwOf x l).need c
    have hRt := Iw.R_in hx (iwOf x l).need c
    rw [← hj] at hI hR
    unfold endO at hE ⊢
    omega
/-- How many of the first j cells have it. -/
def cntU (f : Nat → Bool) : Nat → Nat
  | 0 => 0
  | j + 1 => cntU f j + if f j = true then 1 else 0
theorem cntU_le (f : Nat → Bool) (j : Nat) : cntU f j ≤ j := by
  induction j with
  | zero => exact Nat.le_refl _
  | succ j ih => simp only [cntU]; split <;> omega
theorem cntU_congr {f g : Nat → Bool} {j : Nat} (h : ∀ i, i < j → f i = g i) : cntU f j = cntU g j := by
  induction j with
  | zero => rfl
  | succ j ih => simp only [cntU, ih fun i hi => h i (by omega), h j (by omega)]
end
section
open Go.RowKit Go.Conc Go.Sort
set_option maxRecDepth 100000
set_option linter.unusedVariables false

set_option maxHeartbeats 4000000 in
theorem walkThrough_any (v : Value) (x : Ir) (l : List Ms) (tick : Nat) (w : World) (h : RMsS w w.heap.size v l) (hok : inOk x l = true) (ht : tick ≤ 600) :
    Calls Try.prog 48 #[IrV x, v, .int .i64 (tick : Int)] w fun e w' => ∃ A c, v = .slice A l.length c ∧ GoP w x l A c (tick + 1) e w' := by
  have hl20 := (areMs_in (inOk_in hok).2).1
  have hr := h
  obtain ⟨A, c, rfl, _, hlc, _⟩ := h
  have hW : Below w.heap.size w (w.alloc (.cells #[.int .i64 x.n, .int .i64 x.r, .bool x.h] 29)) := (Below.refl _ _).alloc (Nat.le_refl _) _
  have hB := BK.made w 29 #[.int .i64 x.n, .int .i64 x.r, .bool x.h]
  have b0 := hB.cell 0
  have b1 := hB.cell 1
  have b2 := hB.cell 2
  simp only [List.getElem?_toArray, List.getElem?_cons_zero, List.getElem?_cons_succ] at b0 b1 b2
  have HR := Lib.hid ((hr.step hW (Nat.le_refl _)).more hW.size)
  have HW := Lib.hid hW
  have HBG := Lib.hid (fun w => begin_any x l A c w (inOk_in hok).1 hl20)
  have HGO := Lib.hid (fun (w0 : World) (p : GL) (t : Nat) (w : World) h1 h2 h3 => goOn_run (x := x) (l := l) (w0 := w0) (p := p) (t := t) (w := w) h1 h2 h3)
  have HLOW : Hid (∀ wa w' e, Below w.heap.size w wa → GoP wa x l A c (tick + 1) e w' → ∃ A' c', Value.slice A l.length c = .slice A' l.length c' ∧ GoP w x l A' c' (tick + 1) e w') := by
    show ∀ _, _
    intro wa w' e h1 h2
    exact ⟨A, c, rfl, h2.low h1⟩
  have HOK := Lib.hid hok
  have htI : (tick : Int) ≤ 600 := by omega
  unfold IrV at HBG ⊢
  clear hB hW hr hok
  go_enter Try.func48, Try.ntmps48
  go_upto_region 1 with fail
  generalize w.alloc (.cells #[.int .i64 x.n, .int .i64 x.r, .bool x.h] 29) = wa at *
  go_wp2_with fail
  refine (HBG.out _).mono ?_; rintro e w1 ⟨p, rfl, hA, hc, hp, hS⟩
  have HK : Hid (Kept x l wa p) := ⟨hp, HOK.out, by rw [hA, hc]; exact HR.out⟩
  have HAC : Hid (p.A = A ∧ p.c = c) := ⟨hA, hc⟩
  have HS : Hid (GoS wa w1 x l p 0 ((iwOf x l).vg 0) ((iwOf x l).run 0)) := hS
  clear hA hc hp hS b0 b1 b2
  obtain ⟨g, hg⟩ : ∃ g, g = p.g := ⟨_, rfl⟩
  rw [← hg]
  have HGE := Lib.hid hg
  clear hg
  go_wp2_with fail
  go_loopg [13] (tick + 1) (fun gk s13 wx => ∃ t : Nat, t + gk = tick + 1 ∧ s13 = .int .i64 (t : Int) ∧ GoS wa wx x l p t ((iwOf x l).vg 0) ((iwOf x l).run t))
  case atStart => exact ⟨0, by omega, rfl, HS.out⟩
  case round =>
    clear HS
    obtain ⟨t, htg, rfl, hS⟩ := hrel
    have HS := Lib.hid hS
    clear hS
    cases gk with
    | zero =>
      have hte : t = tick + 1 := by omega
      have hz : ¬ ((t : Int) < (tick : Int) + 1) := by omega
      have HFIN : Hid (GoP wa x l A c (tick + 1) (.returned (.pointer (some ⟨g, 0, none⟩))) wr) := by
        show GoP _ _ _ _ _ _ _ _
        rw [HGE.out, ← hte]
        exact ⟨p, rfl, HAC.out, HK.out.gp, HS.out⟩
      clear HS hte htg
      go_wp2_with fail
      go_ret
      exact ⟨A, c, ⟨rfl, rfl⟩, HFIN.out.low HW.out⟩
    | succ gg =>
      have hz : (t : Int) < (tick : Int) + 1 := by omega
      have HGO1 := Lib.hid (HGO.out _ _ _ _ HK.out HS.out (by omega))
      rw [← HGE.out] at HGO1
      clear HS
      go_wp2_with fail
      refine HGO1.out.mono ?_; rintro e w6 ⟨rfl, hS2⟩
      have HS2 := Lib.hid hS2
      clear hS2
      go_wp2_with fail
      go_roundg gg
      case measure => omega
      case rel => exact ⟨t + 1, by omega, by go_num, HS2.out⟩
set_option maxHeartbeats 4000000 in
theorem inEnd_any (v : Value) (x : Ir) (l : List Ms) (T : Nat) (w : World) (h : RMsS w w.heap.size v l) (hok : inOk x l = true) (ht : T ≤ 601) :
    Calls Try.prog 46 #[IrV x, v, .int .i64 (T : Int)] w fun e w' => ∃ A c, v = .slice A l.length c ∧ InP w x l A c T e w' := by
  have hl20 := (areMs_in (inOk_in hok).2).1
  have hr := h
  obtain ⟨A, c, rfl, _, hlc, _⟩ := h
  have hW : Below w.heap.size w (w.alloc (.cells #[.int .i64 x.n, .int .i64 x.r, .bool x.h] 29)) := (Below.refl _ _).alloc (Nat.le_refl _) _
  have hB := BK.made w 29 #[.int .i64 x.n, .int .i64 x.r, .bool x.h]
  have b0 := hB.cell 0
  have b1 := hB.cell 1
  have b2 := hB.cell 2
  simp only [List.getElem?_toArray, List.getElem?_cons_zero, List.getElem?_cons_succ] at b0 b1 b2
  have HR := Lib.hid ((hr.step hW (Nat.le_refl _)).more hW.size)
  have HW := Lib.hid hW
  have HNW := Lib.hid (fun w => inNew_any x l A c w (inOk_in hok).1 hl20)
  have HTI := Lib.hid (fun (w0 : World) (p : IL) (vs : Nat → Value) (t : Nat) (w : World) h1 h2 h3 h4 => inTick_run (x := x) (l := l) (w0 := w0) (p := p) (vs := vs) (t := t) (w := w) hok h1 h2 h3 h4)
  have HLOW : Hid (∀ wa w' e, Below w.heap.size w wa → InP wa x l A c T e w' → ∃ A' c', Value.slice A l.length c = .slice A' l.length c' ∧ InP w x l A' c' T e w') := by
    show ∀ _, _
    intro wa w' e h1 h2
    exact ⟨A, c, rfl, h2.low h1⟩
  have htI : (T : Int) ≤ 601 := by omega
  unfold IrV at HNW ⊢
  clear hB hW hr hok
  go_enter Try.func46, Try.ntmps46
  go_upto_region 1 with fail
  generalize w.alloc (.cells #[.int .i64 x.n, .int .i64 x.r, .bool x.h] 29) = wa at *
  go_wp2_with fail
  refine (HNW.out _).mono ?_; rintro e w1 ⟨p, vs, rfl, hA, hc, hp, hS⟩
  have HP := Lib.hid hp
  have HRP : Hid (RMsS wa wa.heap.size (.slice p.A l.length p.c) l) := by show RMsS _ _ _ _; rw [hA, hc]; exact HR.out
  have HAC : Hid (p.A = A ∧ p.c = c) := ⟨hA, hc⟩
  have HS0 : Hid (InS wa w1 x l p vs ((iwOf x l).run 0)) := hS
  clear hA hc hp hS b0 b1 b2
  obtain ⟨g, hg⟩ : ∃ g, g = p.g := ⟨_, rfl⟩
  rw [← hg]
  have HGE := Lib.hid hg
  clear hg
  go_wp2_with fail
  go_loopg [8] T (fun gk s8 wx => ∃ (t : Nat) (vs : Nat → Value), t + gk = T ∧ s8 = .int .i64 (t : Int) ∧ InS wa wx x l p vs ((iwOf x l).run t))
  case atStart => exact ⟨0, _, by omega, rfl, HS0.out⟩
  case round =>
    clear HS0
    obtain ⟨t, vs, htg, rfl, hS⟩ := hrel
    have HS := Lib.hid hS
    clear hS
    cases gk with
    | zero =>
      have hte : t = T := by omega
      have hz : ¬ ((t : Int) < (T : Int)) := by omega
      have HFIN : Hid (InP wa x l A c T (.returned (.pointer (some ⟨g, 0, none⟩))) wr) := by
        show InP _ _ _ _ _ _ _ _
        rw [HGE.out, ← hte]
        exact ⟨p, vs, rfl, HAC.out, HP.out, HS.out⟩
      clear HS hte htg
      go_wp2_with fail
      go_ret
      exact ⟨A, c, ⟨rfl, rfl⟩, HFIN.out.low HW.out⟩
    | succ gg =>
      have hz : (t : Int) < (T : Int) := by omega
      have HTI1 := Lib.hid (HTI.out _ _ _ _ _ HP.out HRP.out HS.out (by omega))
      rw [← HGE.out] at HTI1
      clear HS
      go_wp2_with fail
      refine HTI1.out.mono ?_; rintro e w6 ⟨rfl, vs2, hS2⟩
      have HS2 := Lib.hid hS2
      clear hS2
      go_wp2_with fail
      go_roundg gg
      case measure => omega
      case rel => exact ⟨t + 1, _, by omega, by go_num, HS2.out⟩
end
end Go.Proofs.Ytfphkgialmjfnaa
