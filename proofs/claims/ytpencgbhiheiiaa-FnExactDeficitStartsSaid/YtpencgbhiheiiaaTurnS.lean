/-
  TurnStarts, the model's side; eight numbers.
-/
import Derived.Test.YtpencgbhiheiiaaTurnM
import Derived.Deep.LoopGhost
namespace Go.Proofs.Ytpencgbhiheiiaa
open Go.RowKit
set_option maxRecDepth 100000
set_option linter.unusedVariables false

theorem l1All_any (v : Value) (gr : List Int) (lo most : Int) (w : World) (h : RI w w.heap.size v gr) (hn : gr.length ≤ 1048576) :
    Calls Try.prog 60 #[v, .int .i64 lo, .int .i64 most] w fun e w' => e = .returned (.bool (okAll lo most gr)) ∧ w = w' := by
  obtain ⟨A, c, rfl, hlc, hc⟩ := h
  have hn' : (gr.length : Int) ≤ 1048576 := by omega
  go_enter Try.func60, Try.ntmps60
  go_wp2
  go_loop [11] (fun i => ∃ k : Nat, k ≤ gr.length ∧ i = .int .i64 k ∧ ∀ j, j < k → lo ≤ gr.getD j 0 ∧ gr.getD j 0 ≤ most) (fun i => gr.length - (intOf i).toNat)
  case atStart => exact ⟨0, Nat.zero_le _, rfl, fun j hj => absurd hj (by omega)⟩
  case round =>
    obtain ⟨k, hk, rfl, hall⟩ := hrel
    have HA := Lib.hid hall
    clear hall
    by_cases hlt : k < gr.length
    · obtain ⟨b, off, rfl, hbB, hcell⟩ := hc (by omega)
      have hcx : w.cell? ⟨b, off + k, none⟩ = some (.int .i64 (gr.getD k 0)) := hcell k hlt
      have HC := Lib.hid hcell
      clear hcell hc
      obtain ⟨x, hx⟩ : ∃ x, x = gr.getD k 0 := ⟨_, rfl⟩
      rw [← hx] at hcx
      have HX := Lib.hid hx
      clear hx
      by_cases hw : lo ≤ x ∧ x ≤ most
      · go_wp2_with (go_at_call 41; refine (l1In_is _ _ _ _ true (by simp [hw])).mono ?_; rintro e w' ⟨rfl, rfl⟩)
        go_round
        case rel =>
          refine ⟨k + 1, by omega, by go_num, fun j hj => ?_⟩
          by_cases hjk : j = k
          · subst hjk; rw [← HX.out]; exact hw
          · exact HA.out j (by omega)
        case measure => simp [intOf]; omega
      · have HN := Lib.hid hw
        clear hw
        go_wp2_with (go_at_call 41; refine (l1In_is _ _ _ _ false (by simpa using HN.out)).mono ?_; rintro e w' ⟨rfl, rfl⟩)
        go_ret
        exact ⟨ret_bool (okAll_no hlt (by rw [← HX.out]; exact HN.out)).symm, rfl⟩
    · obtain rfl : k = gr.length := by omega
      go_wp2
      go_ret
      exact ⟨ret_bool (okAll_of HA.out).symm, rfl⟩
theorem prEight_any (v : Value) (gr : List Int) (most : Int) (w : World) (h : RI w w.heap.size v gr) (hn : gr.length ≤ 1048576) :
    Calls Try.prog 43 #[v, .int .i64 most] w fun e w' => e = .returned (.bool (eightB gr most)) ∧ w = w' := by
  have HL := Lib.hid (l1All_any v gr 1 most w h hn)
  obtain ⟨A, c, rfl, _⟩ := h
  obtain ⟨R, hR⟩ : ∃ R, eightB gr most = R := ⟨_, rfl⟩
  rw [hR]
  have HR := Lib.hid hR
  clear hR
  obtain ⟨B, hB⟩ : ∃ B, okAll 1 most gr = B := ⟨_, rfl⟩
  rw [hB] at HL
  have HB : Hid (R = (decide (gr.length = 8) && B)) := by show _ = _; rw [← HR.out, ← hB]; rfl
  clear hB
  obtain ⟨n, hN⟩ : ∃ n, gr.length = n := ⟨_, rfl⟩
  rw [hN] at HL HB ⊢
  clear hN hn
  by_cases h8 : n = 8
  · subst h8
    have HX : Hid (R = B) := by show _ = _; rw [HB.out]; rfl
    go_enter Try.func43, Try.ntmps43
    go_wp2_with fail
    refine HL.out.mono ?_; rintro e w1 ⟨rfl, rfl⟩
    go_wp2_with fail
    go_ret
    exact ⟨ret_bool HX.out.symm, rfl⟩
  · have HX : Hid (R = false) := by show _ = _; rw [HB.out, decide_eq_false h8]; rfl
    have hq : ((n : Int) == 8) = false := by simp; omega
    go_enter Try.func43, Try.ntmps43
    go_wp2_with fail
    go_ret
    exact ⟨ret_bool HX.out.symm, rfl⟩
theorem eightB_in' {gr : List Int} {most : Int} (h : eightB gr most = true) : gr.length = 8 ∧ ∀ c, c < 8 → 1 ≤ gr.getD c 0 ∧ gr.getD c 0 ≤ most := by
  simp only [eightB, Bool.and_eq_true, decide_eq_true_eq] at h
  exact ⟨h.1, fun c hc => okAll_at h.2 c (by omega)⟩
/-- The credits that the model's count tells. -/
def CrT (gr : List Int) (tc : Nat) (tb : Bool) (cr : Nat → Int) (begun : Int) : Prop :=
  (∀ c, c < 8 → c ≠ tc → cr c = 0) ∧ 0 ≤ begun ∧ begun ≤ gr.getD tc 0 ∧ crB gr tc tb cr tc = gr.getD tc 0 - begun ∧ (tb = false → begun = 0)
theorem CrT.new {gr : List Int} {tc : Nat} {cr : Nat → Int} (hg : 1 ≤ gr.getD tc 0) (h : ∀ c, c < 8 → cr c = 0) (htc : tc < 8) : CrT gr tc false cr 0 := by
  refine ⟨fun c hc _ => h c hc, Int.le_refl _, by omega, ?_, fun _ => rfl⟩
  have e : crB gr tc false cr tc = cr tc + gr.getD tc 0 := by simp [crB, setC]
  rw [e, h tc htc]
  omega
theorem stepR_none {gr : List Int} {pr : Jb → Int} {K : Int → List Jb → List Int → Nat → Bool → (Nat → Int) → List Int} {T : Int} {l : List Jb} {out : List Int} {tc : Nat} {tb : Bool} {cr : Nat → Int} (h : firstC T tc l = none) :
    stepR gr pr K T l out tc tb cr = K T l out (nextC tc) false (setC (crB gr tc tb cr) tc 0) := by rw [stepR, h]
theorem stepR_on {gr : List Int} {pr : Jb → Int} {K : Int → List Jb → List Int → Nat → Bool → (Nat → Int) → List Int} {T : Int} {l : List Jb} {out : List Int} {tc : Nat} {tb : Bool} {cr : Nat → Int} {i : Nat} (h : firstC T tc l = some i) (h2 : crB gr tc tb cr tc < pr l[i]!) :
    stepR gr pr K T l out tc tb cr = K T l out (nextC tc) false (crB gr tc tb cr) := by rw [stepR, h]; simp only; rw [if_pos h2]
theorem stepR_go {gr : List Int} {pr : Jb → Int} {K : Int → List Jb → List Int → Nat → Bool → (Nat → Int) → List Int} {T : Int} {l : List Jb} {out : List Int} {tc : Nat} {tb : Bool} {cr : Nat → Int} {i : Nat} (h : firstC T tc l = some i) (h2 : pr l[i]! ≤ crB gr tc tb cr tc) :
    stepR gr pr K T l out tc tb cr = K (T + l[i]!.l) (l.set i jbZ) (out.set i T) tc true (setC (crB gr tc tb cr) tc (crB gr tc tb cr tc - pr l[i]!)) := by rw [stepR, h]; simp only; rw [if_neg (by omega)]
/-- The model's line was free. -/
theorem Mod.skipB {js l : List Jb} {sp out : List Int} (h : Mod js l sp out) (hA : areJb js = true) {now : Int} {f0 : Nat} (hf : Fst (tickOf now l) l f0) : (!someB js sp now js.length) = decide (now < tickOf now l) := by
  have hp := isW_cnt hf.1 hf.2.1
  have hk : f0 < js.length := by rw [← h.left.1]; exact hf.1
  obtain ⟨u, h1, h2, h3⟩ := cntJ_pos hp
  have e := tickOf_at (tick := now) h1 h2 h3
  cases hs : someB js sp now js.length
  · have hw := hf.2.1
    have : now < tickOf now l := by
      rcases Int.lt_or_le now (tickOf now l) with h9 | h9
      · exact h9
      · have e2 : tickOf now l = now := by
          rw [e] at h9 ⊢
          split at h9 <;> split <;> omega
        rw [e2, h.waits hA now hk] at hw
        have := someB_at hk hw
        rw [hs] at this; cases this
    rw [decide_eq_true this]; rfl
  · obtain ⟨h5, _⟩ := h.skip hA hp now (-1) (by omega)
    unfold skipT at h5
    rw [hs] at h5
    simp only [Bool.true_or, if_true] at h5
    rw [← h5, decide_eq_false (Int.lt_irrefl _)]
    rfl
theorem norm_yes {now : Int} {l : List Jb} (h : now < tickOf now l) (tc : Nat) (tb : Bool) (cr : Nat → Int) : nTc now l tc = 7 ∧ nTb now l tb = false ∧ nCr now l cr = fun _ => 0 := by
  unfold nTc nTb nCr; simp [h]
theorem norm_no {now : Int} {l : List Jb} (h : ¬ now < tickOf now l) (tc : Nat) (tb : Bool) (cr : Nat → Int) : nTc now l tc = tc ∧ nTb now l tb = tb ∧ nCr now l cr = cr := by
  unfold nTc nTb nCr; simp [h]
end Go.Proofs.Ytpencgbhiheiiaa
