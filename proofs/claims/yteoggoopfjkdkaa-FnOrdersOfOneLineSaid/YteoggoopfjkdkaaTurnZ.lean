/-
  Classes that take turns, the model's side: the first one of a class; eight numbers. TurnStarts, the model's side; eight numbers. TurnStarts, the model's side. A line of the model: what is turned by a skip and by a beginning, in which blocks. DeficitStarts, the model's side.
-/
import Derived.Test.YteoggoopfjkdkaaMathTurn
import Derived.Test.YteoggoopfjkdkaaByB
import Derived.Deep.LoopGhost
import Derived.Test.YteoggoopfjkdkaaTurnJ
namespace Go.Proofs.Yteoggoopfjkdkaa
section
open Go.RowKit
set_option maxRecDepth 100000
set_option linter.unusedVariables false

/-- The first one of a class in the model, or -1. -/
def fcI (js : List Jb) (sp : List Int) (now : Int) (cl : Int) : Option Nat := bestOf (fun i => wtB js sp now i && decide (js[i]!.c = cl)) (fun _ => 0) js.length
def RetFst (o : Option Nat) (w : World) (e : Ending) (w' : World) : Prop := e = .returned (.int .i64 (bI o)) ∧ Below w.heap.size w w'
theorem fcI_none {js : List Jb} {sp : List Int} {now cl : Int} (h : ∀ j, j < js.length → ¬ (wtB js sp now j = true ∧ js[j]!.c = cl)) : fcI js sp now cl = none := by
  cases h9 : fcI js sp now cl with
  | none => rfl
  | some i =>
    obtain ⟨h1, h2⟩ := bestOf_some h9
    simp only [Bool.and_eq_true, decide_eq_true_eq] at h2
    exact absurd h2 (h i h1)
theorem fcI_some {js : List Jb} {sp : List Int} {now cl : Int} {k : Nat} (hk : k < js.length) (h : wtB js sp now k = true ∧ js[k]!.c = cl) (hl : ∀ j, j < k → ¬ (wtB js sp now j = true ∧ js[j]!.c = cl)) : fcI js sp now cl = some k := by
  refine bestOf_first (w := fun i => wtB js sp now i && decide (js[i]!.c = cl)) hk (by show (wtB js sp now k && decide (js[k]!.c = cl)) = true; rw [h.1, decide_eq_true h.2]; rfl) (fun j hj => ?_)
  have := hl j hj
  cases h9 : (wtB js sp now j && decide (js[j]!.c = cl))
  · rfl
  · simp only [Bool.and_eq_true, decide_eq_true_eq] at h9
    exact absurd h9 this
/-- It is the program's. -/
theorem Mod.firstC {js l : List Jb} {sp out : List Int} (h : Mod js l sp out) (hA : areJb js = true) (T : Int) (tc : Nat) : Proofs.Yteoggoopfjkdkaa.firstC T tc l = fcI js sp T tc := by
  unfold Proofs.Yteoggoopfjkdkaa.firstC fcI
  rw [h.left.1]
  refine bestOf_congr (fun i hi => ?_) (fun i hi hw => rfl)
  have h1 := h.waits hA T hi
  rw [h1]
  cases hw : wtB js sp T i
  · rfl
  · rw [hw] at h1
    rw [h.left.is hi (isW_t.1 h1).1]
set_option maxHeartbeats 4000000 in
theorem prFirst_any (g : Nat) (vj vs : Value) (js : List Jb) (sp : List Int) (now done : Int) (cl : Int) (w : World) (h : PN w g vj js vs sp now done) (hl : sp.length = js.length) (hn : js.length ≤ 20) :
    Calls Try.prog 46 #[.pointer (some ⟨g, 0, none⟩), .int .i64 cl] w (RetFst (fcI js sp now cl) w) := by
  have hgs := h.lt
  have c0 := h.bk.cell 0
  simp at c0
  have HJ := Lib.hid (fun k (hk : k < js.length) => left_cells h.jobs k hk)
  have HPN := Lib.hid h
  have HNO := Lib.hid (fun h9 => fcI_none (js := js) (sp := sp) (now := now) (cl := cl) h9)
  have HYE := Lib.hid (fun (k : Nat) (hk : k < js.length) h9 h8 => fcI_some (js := js) (sp := sp) (now := now) (cl := cl) hk h9 h8)
  obtain ⟨O, hO⟩ : ∃ x, fcI js sp now cl = x := ⟨_, rfl⟩
  rw [hO] at HNO HYE ⊢
  clear hO
  obtain ⟨A, c, rfl, _⟩ := h.jobs
  have HWT := Lib.hid (fun (i : Nat) (wx : World) (hi : i < js.length) (hx : Below w.heap.size w wx) => prWaits_any g _ vs js sp now done i wx (HPN.out.step hx) hi hl hn)
  obtain ⟨n, hN⟩ : ∃ n, js.length = n := ⟨_, rfl⟩
  rw [hN] at HJ HNO HYE HWT c0 hn
  have hn' : (n : Int) ≤ 20 := by omega
  clear h hN hl
  go_enter Try.func46, Try.ntmps46
  go_wp2_with fail
  go_loopg [12] n (fun f i wq => ∃ m : Nat, m ≤ n ∧ f = n - m ∧ i = .int .i64 m ∧ (∀ q, q < m → ¬ (wtB js sp now q = true ∧ js[q]!.c = cl)) ∧ Below w.heap.size w wq)
  case atStart => exact ⟨0, Nat.zero_le _, rfl, rfl, fun q hq => absurd hq (by omega), Below.refl _ _⟩
  case round =>
    obtain ⟨m, hm, hgm, rfl, hno, hbm⟩ := hrel
    have HGM := Lib.hid hgm
    have HNQ := Lib.hid hno
    have HBM := Lib.hid hbm
    have hs2 := hbm.size
    clear hgm hno
    by_cases hlt : m < n
    · have hmi : (m : Int) < (n : Int) := by omega
      obtain ⟨b, off, c9, hv, hb, e0, e1, e2⟩ := HJ.out m hlt
      injection hv with hA _ hC
      subst hA; subst hC
      have hbw : b < w.heap.size := by omega
      have y0 := (hbm.cell (p := ⟨b, off + m * 3, none⟩) hbw).trans e0
      have y1 := (hbm.cell (p := ⟨b, off + m * 3 + 1, none⟩) hbw).trans e1
      have y2 := (hbm.cell (p := ⟨b, off + m * 3 + 2, none⟩) hbw).trans e2
      have HNX : Hid (¬ (wtB js sp now m = true ∧ js[m]!.c = cl) → ∀ q, q < m + 1 → ¬ (wtB js sp now q = true ∧ js[q]!.c = cl)) := fun h9 q hq => by
        by_cases e : q = m
        · rw [e]; exact h9
        · exact HNQ.out q (by omega)
      have HFI : Hid (wtB js sp now m = true → js[m]!.c = cl → O = some m) := fun h9 h8 => (HYE.out m hlt ⟨h9, h8⟩ HNQ.out)
      have HCY : Hid (∀ z, js[m]! = z → js[m]!.c = z.c) := fun z hz => by rw [hz]
      clear e0 e1 e2
      generalize js[m]! = y at y0 y1 y2 HNX HFI HCY
      obtain ⟨yt, yc, yl⟩ := y
      simp only at y0 y1 y2 HNX HFI
      have HBX := Lib.hid (HBM.out.alloc hs2 (.cells #[.int .i64 yt, .int .i64 yc, .int .i64 yl] 43))
      have hBX := BK.made wr 43 #[.int .i64 yt, .int .i64 yc, .int .i64 yl]
      have HWQ := Lib.hid (HWT.out m _ hlt HBX.out)
      clear hbm
      cases hw : wtB js sp now m
      · rw [hw] at HWQ
        have HX := Lib.hid (HNX.out (fun h9 => by rw [hw] at h9; cases h9.1))
        clear hw HNX HFI
        go_wp2_with fail
        refine HWQ.out.mono ?_; rintro e w3 ⟨rfl, m3, rfl⟩
        go_wp2_with fail
        go_roundg (n - (m + 1))
        case rel => exact ⟨m + 1, by omega, rfl, by go_num, HX.out, below_drewN HBX.out m3⟩
        case measure => have := HGM.out; omega
      · rw [hw] at HWQ
        by_cases hc : yc = cl
        · have hq : (yc == cl) = true := by simp [hc]
          have HF := Lib.hid (HFI.out hw hc)
          clear hw hc HNX HFI
          go_wp2_with fail
          refine HWQ.out.mono ?_; rintro e w3 ⟨rfl, m3, rfl⟩
          have z1 : ((wr.alloc (.cells #[.int .i64 yt, .int .i64 yc, .int .i64 yl] 43)).drewN m3).cell? ⟨wr.heap.size, 1, none⟩ = some (.int .i64 yc) := hBX.cell 1
          go_wp2_with fail
          go_ret
          exact ⟨by rw [HF.out]; rfl, below_drewN HBX.out m3⟩
        · have hq : (yc == cl) = false := by simp [hc]
          have HX := Lib.hid (HNX.out (fun h9 => hc h9.2))
          clear hw hc HNX HFI
          go_wp2_with fail
          refine HWQ.out.mono ?_; rintro e w3 ⟨rfl, m3, rfl⟩
          have z1 : ((wr.alloc (.cells #[.int .i64 yt, .int .i64 yc, .int .i64 yl] 43)).drewN m3).cell? ⟨wr.heap.size, 1, none⟩ = some (.int .i64 yc) := hBX.cell 1
          go_wp2_with fail
          go_roundg (n - (m + 1))
          case rel => exact ⟨m + 1, by omega, rfl, by go_num, HX.out, below_drewN HBX.out m3⟩
          case measure => have := HGM.out; omega
    · obtain rfl : n = m := by omega
      have HF := Lib.hid (HNO.out HNQ.out)
      go_wp2_with fail
      go_ret
      exact ⟨by rw [HF.out]; rfl, HBM.out⟩
end
section
open Go.RowKit
set_option maxRecDepth 100000
set_option linter.unusedVariables false

theorem l1AllT_any (v : Value) (gr : List Int) (lo most : Int) (w : World) (h : RI w w.heap.size v gr) (hn : gr.length ≤ 1048576) :
    Calls Try.prog 65 #[v, .int .i64 lo, .int .i64 most] w fun e w' => e = .returned (.bool (okAll lo most gr)) ∧ w = w' := by
  obtain ⟨A, c, rfl, hlc, hc⟩ := h
  have hn' : (gr.length : Int) ≤ 1048576 := by omega
  go_enter Try.func65, Try.ntmps65
  go_wp2
  go_loop [11] (fun i => ∃ k : Nat, k ≤ gr.length ∧ i = .int .i64 k ∧ ∀ j, j < k → lo ≤ gr.getD j 0 ∧ gr.getD j 0 ≤ most) (fun i => gr.length - (intOf i).toNat)
  case atStart => exact ⟨0, Nat.zero_le _, rfl, fun j hj => absurd hj (by omega)⟩
  case round =>
    obtain ⟨k, hk, rfl, hall⟩ := hrel
    have HA := Lib.hid hall
    clear hall
    by_cases hlt : k < gr.length
    · obtain ⟨b, off, rfl, hbB, hcell⟩ := hc (by omega)
      have hcx : w.cell? ⟨b, off + k, none⟩ = some (.int .i64 (gr.getD k 0)) := hcell k hlt
      have HC := Lib.hid hcell
      clear hcell hc
      obtain ⟨x, hx⟩ : ∃ x, x = gr.getD k 0 := ⟨_, rfl⟩
      rw [← hx] at hcx
      have HX := Lib.hid hx
      clear hx
      by_cases hw : lo ≤ x ∧ x ≤ most
      · go_wp2_with (go_at_call 38; refine (l1In_is _ _ _ _ true (by simp [hw])).mono ?_; rintro e w' ⟨rfl, rfl⟩)
        go_round
        case rel =>
          refine ⟨k + 1, by omega, by go_num, fun j hj => ?_⟩
          by_cases hjk : j = k
          · subst hjk; rw [← HX.out]; exact hw
          · exact HA.out j (by omega)
        case measure => simp [intOf]; omega
      · have HN := Lib.hid hw
        clear hw
        go_wp2_with (go_at_call 38; refine (l1In_is _ _ _ _ false (by simpa using HN.out)).mono ?_; rintro e w' ⟨rfl, rfl⟩)
        go_ret
        exact ⟨ret_bool (okAll_no hlt (by rw [← HX.out]; exact HN.out)).symm, rfl⟩
    · obtain rfl : k = gr.length := by omega
      go_wp2
      go_ret
      exact ⟨ret_bool (okAll_of HA.out).symm, rfl⟩
theorem prEight_any (v : Value) (gr : List Int) (most : Int) (w : World) (h : RI w w.heap.size v gr) (hn : gr.length ≤ 1048576) :
    Calls Try.prog 43 #[v, .int .i64 most] w fun e w' => e = .returned (.bool (eightB gr most)) ∧ w = w' := by
  have HL := Lib.hid (l1AllT_any v gr 1 most w h hn)
  obtain ⟨A, c, rfl, _⟩ := h
  obtain ⟨R, hR⟩ : ∃ R, eightB gr most = R := ⟨_, rfl⟩
  rw [hR]
  have HR := Lib.hid hR
  clear hR
  obtain ⟨B, hB⟩ : ∃ B, okAll 1 most gr = B := ⟨_, rfl⟩
  rw [hB] at HL
  have HB : Hid (R = (decide (gr.length = 8) && B)) := by show _ = _; rw [← HR.out, ← hB]; rfl
  clear hB
  obtain ⟨n, hN⟩ : ∃ n, gr.length = n := ⟨_, rfl⟩
  rw [hN] at HL HB ⊢
  clear hN hn
  by_cases h8 : n = 8
  · subst h8
    have HX : Hid (R = B) := by show _ = _; rw [HB.out]; rfl
    go_enter Try.func43, Try.ntmps43
    go_wp2_with fail
    refine HL.out.mono ?_; rintro e w1 ⟨rfl, rfl⟩
    go_wp2_with fail
    go_ret
    exact ⟨ret_bool HX.out.symm, rfl⟩
  · have HX : Hid (R = false) := by show _ = _; rw [HB.out, decide_eq_false h8]; rfl
    have hq : ((n : Int) == 8) = false := by simp; omega
    go_enter Try.func43, Try.ntmps43
    go_wp2_with fail
    go_ret
    exact ⟨ret_bool HX.out.symm, rfl⟩
theorem eightB_in' {gr : List Int} {most : Int} (h : eightB gr most = true) : gr.length = 8 ∧ ∀ c, c < 8 → 1 ≤ gr.getD c 0 ∧ gr.getD c 0 ≤ most := by
  simp only [eightB, Bool.and_eq_true, decide_eq_true_eq] at h
  exact ⟨h.1, fun c hc => okAll_at h.2 c (by omega)⟩
/-- The credits that the model's count tells. -/
def CrT (gr : List Int) (tc : Nat) (tb : Bool) (cr : Nat → Int) (begun : Int) : Prop :=
  (∀ c, c < 8 → c ≠ tc → cr c = 0) ∧ 0 ≤ begun ∧ begun ≤ gr.getD tc 0 ∧ crB gr tc tb cr tc = gr.getD tc 0 - begun ∧ (tb = false → begun = 0)
theorem CrT.new {gr : List Int} {tc : Nat} {cr : Nat → Int} (hg : 1 ≤ gr.getD tc 0) (h : ∀ c, c < 8 → cr c = 0) (htc : tc < 8) : CrT gr tc false cr 0 := by
  refine ⟨fun c hc _ => h c hc, Int.le_refl _, by omega, ?_, fun _ => rfl⟩
  have e : crB gr tc false cr tc = cr tc + gr.getD tc 0 := by simp [crB, setC]
  rw [e, h tc htc]
  omega
theorem stepR_none {gr : List Int} {pr : Jb → Int} {K : Int → List Jb → List Int → Nat → Bool → (Nat → Int) → List Int} {T : Int} {l : List Jb} {out : List Int} {tc : Nat} {tb : Bool} {cr : Nat → Int} (h : firstC T tc l = none) :
    stepR gr pr K T l out tc tb cr = K T l out (nextC tc) false (setC (crB gr tc tb cr) tc 0) := by rw [stepR, h]
theorem stepR_on {gr : List Int} {pr : Jb → Int} {K : Int → List Jb → List Int → Nat → Bool → (Nat → Int) → List Int} {T : Int} {l : List Jb} {out : List Int} {tc : Nat} {tb : Bool} {cr : Nat → Int} {i : Nat} (h : firstC T tc l = some i) (h2 : crB gr tc tb cr tc < pr l[i]!) :
    stepR gr pr K T l out tc tb cr = K T l out (nextC tc) false (crB gr tc tb cr) := by rw [stepR, h]; simp only; rw [if_pos h2]
theorem stepR_go {gr : List Int} {pr : Jb → Int} {K : Int → List Jb → List Int → Nat → Bool → (Nat → Int) → List Int} {T : Int} {l : List Jb} {out : List Int} {tc : Nat} {tb : Bool} {cr : Nat → Int} {i : Nat} (h : firstC T tc l = some i) (h2 : pr l[i]! ≤ crB gr tc tb cr tc) :
    stepR gr pr K T l out tc tb cr = K (T + l[i]!.l) (l.set i jbZ) (out.set i T) tc true (setC (crB gr tc tb cr) tc (crB gr tc tb cr tc - pr l[i]!)) := by rw [stepR, h]; simp only; rw [if_neg (by omega)]
/-- The model's line was free. -/
theorem Mod.skipB {js l : List Jb} {sp out : List Int} (h : Mod js l sp out) (hA : areJb js = true) {now : Int} {f0 : Nat} (hf : Fst (tickOf now l) l f0) : (!someB js sp now js.length) = decide (now < tickOf now l) := by
  have hp := isW_cnt hf.1 hf.2.1
  have hk : f0 < js.length := by rw [← h.left.1]; exact hf.1
  obtain ⟨u, h1, h2, h3⟩ := cntJ_pos hp
  have e := tickOf_at (tick := now) h1 h2 h3
  cases hs : someB js sp now js.length
  · have hw := hf.2.1
    have : now < tickOf now l := by
      rcases Int.lt_or_le now (tickOf now l) with h9 | h9
      · exact h9
      · have e2 : tickOf now l = now := by
          rw [e] at h9 ⊢
          split at h9 <;> split <;> omega
        rw [e2, h.waits hA now hk] at hw
        have := someB_at hk hw
        rw [hs] at this; cases this
    rw [decide_eq_true this]; rfl
  · obtain ⟨h5, _⟩ := h.skip hA hp now (-1) (by omega)
    unfold skipT at h5
    rw [hs] at h5
    simp only [Bool.true_or, if_true] at h5
    rw [← h5, decide_eq_false (Int.lt_irrefl _)]
    rfl
theorem norm_yes {now : Int} {l : List Jb} (h : now < tickOf now l) (tc : Nat) (tb : Bool) (cr : Nat → Int) : nTc now l tc = 7 ∧ nTb now l tb = false ∧ nCr now l cr = fun _ => 0 := by
  unfold nTc nTb nCr; simp [h]
theorem norm_no {now : Int} {l : List Jb} (h : ¬ now < tickOf now l) (tc : Nat) (tb : Bool) (cr : Nat → Int) : nTc now l tc = tc ∧ nTb now l tb = tb ∧ nCr now l cr = cr := by
  unfold nTc nTb nCr; simp [h]
end
section
open Go.RowKit
set_option maxRecDepth 100000
set_option linter.unusedVariables false

theorem LeftOf.ok' {js l : List Jb} (hA : areJb js = true) (h : LeftOf js l) : JbOk l := by
  intro k hk hj
  have hk' : k < js.length := by rw [← h.1]; exact hk
  rw [h.is hk' hj]
  have := tick_at hA hk'
  omega
theorem nTc_lt' {tick : Int} {l : List Jb} {tc : Nat} (h : tc < 8) : nTc tick l tc < 8 := by unfold nTc; split <;> omega
theorem Cb.norm' {f : Nat} {tick : Int} {l : List Jb} {cr : Nat → Int} (h : Cb f cr) (hf : f ≤ 4000) : Cb f (nCr tick l cr) := by
  unfold nCr
  split
  · exact Cb.zero hf
  · exact h
set_option maxHeartbeats 16000000 in
theorem specTurnStarts_any (v vg : Value) (js : List Jb) (gr : List Int) (w : World) (h : RJbS w w.heap.size v js) (h' : RI w w.heap.size vg gr) (hn : js.length ≤ 1048576) (hn2 : gr.length ≤ 1048576) :
    Calls Try.prog 18 #[v, vg] w (RetLB 3 w (turnOf js gr).1 (turnOf js gr).2) := by
  have HA := Lib.hid (prJobs_any v js w h hn)
  cases hg : areJb js
  · have HF : turnOf js gr = ([], false) := by simp [turnOf, hg]
    rw [HF]
    rw [hg] at HA
    clear hg HF
    go_enter Try.func18, Try.ntmps18
    go_wp2_with fail
    refine HA.out.mono ?_; rintro e w1 ⟨rfl, T⟩
    go_wp2_with fail
    go_ret2
    exact ⟨_, rfl, .inl ⟨rfl, none, 0, rfl, by simp, fun _ => rfl⟩, T⟩
  have HE := Lib.hid (fun (w' : World) (hb : Below w.heap.size w w') => prEight_any vg gr 20 w' ((h'.step hb (Nat.le_refl _)).more hb.size) hn2)
  cases hwa : eightB gr 20
  · have HF : turnOf js gr = ([], false) := by simp [turnOf, hwa]
    rw [HF]
    rw [hg] at HA
    rw [hwa] at HE
    clear hg HF hwa
    go_enter Try.func18, Try.ntmps18
    go_wp2_with fail
    refine HA.out.mono ?_; rintro e w1 ⟨rfl, T⟩
    go_wp2_with fail
    refine (HE.out _ T).mono ?_; rintro e w2 ⟨rfl, rfl⟩
    go_wp2_with fail
    go_ret2
    exact ⟨_, rfl, .inl ⟨rfl, none, 0, rfl, by simp, fun _ => rfl⟩, T⟩
  have HF : turnOf js gr = (inTurnOf pr1 js gr, true) := by simp [turnOf, hg, hwa]
  rw [HF]
  obtain ⟨hgl, hgb0⟩ := eightB_in' hwa
  have hgb : ∀ c, c < 8 → 1 ≤ gr.getD c 0 ∧ gr.getD c 0 ≤ 40 := fun c hc => by have := hgb0 c hc; omega
  have hnn := (areJb_in hg).1
  have HNEW := Lib.hid (fun (w' : World) (hb : Below w.heap.size w w') => prNew_any v js w' ((h.step hb (Nat.le_refl _)).more hb.size) hnn)
  have hisJ := cntJ_all (l := js) (fun y hy => isJ_ok ((areJb_in hg).2.1 y hy).2.2.2.2.1)
  have hv : ∃ A c, v = .slice A js.length c := by obtain ⟨A, c, hv, _⟩ := id h; exact ⟨A, c, hv⟩
  obtain ⟨A, c, rfl⟩ := hv
  have HTK := Lib.hid (fun k (hk : k < js.length) => tick_at hg hk)
  obtain ⟨R, hR⟩ : ∃ R, R = inTurnOf pr1 js gr := ⟨_, rfl⟩
  rw [← hR]
  have HR : Hid (R = runT gr pr1 4000 0 js (List.replicate js.length 0) 7 false (fun _ => 0)) := hR
  have HFU0 := Lib.hid (Fu.start js hg)
  have HMS := Lib.hid (Mod.start js)
  obtain ⟨n, hN⟩ : ∃ n, js.length = n := ⟨_, rfl⟩
  unfold RetNew at HNEW
  have HGX : Hid (∃ A2 c2, vg = .slice A2 8 c2 ∧ ∃ b off, A2 = some ⟨b, off, none⟩ ∧ b < w.heap.size ∧ ∀ k, k < 8 → w.cell? ⟨b, off + k, none⟩ = some (.int .i64 (gr.getD k 0))) := by
    obtain ⟨A2, c2, hv, _, hc⟩ := h'
    obtain ⟨b, off, hA2, hb, hcell⟩ := hc (by omega)
    exact ⟨A2, c2, by rw [hv, hgl], b, off, hA2, hb, fun k hk => hcell k (by omega)⟩
  obtain ⟨A2, c2, rfl, b2, off2, rfl, hb2, hgc⟩ := HGX.out
  rw [hg] at HA
  rw [hwa] at HE
  rw [hN] at hnn HA HNEW HR hisJ HTK HMS ⊢
  have hn' : (n : Int) ≤ 20 := by omega
  have HN := Lib.hid hN
  have HJ := Lib.hid hg
  have HCN := Lib.hid hisJ
  have HGC := Lib.hid hgc
  have HGB := Lib.hid hgb
  have HGL := Lib.hid hgl
  clear h h' hn hn2 hN hg hwa HF hisJ hR hgc hgb hgb0 hgl HGX
  go_enter Try.func18, Try.ntmps18
  go_wp2_with fail
  refine HA.out.mono ?_; rintro e w1 ⟨rfl, T1⟩
  have hT1 := T1.size
  have HT1 := Lib.hid T1
  go_wp2_with fail
  refine (HE.out _ T1).mono ?_; rintro e w2 ⟨rfl, rfl⟩
  go_wp2_with fail
  refine (HNEW.out _ T1).mono ?_; rintro e w3 ⟨vs1, rfl, hp1, hb1⟩
  have HP1 := Lib.hid hp1
  have HB1 := Lib.hid (T1.trans (hb1.mono hT1))
  clear hp1 hb1 T1
  obtain ⟨g, hgw⟩ : ∃ g, w1.heap.size = g := ⟨_, rfl⟩
  rw [hgw] at HP1 hT1 ⊢
  clear hgw
  go_wp2_with fail
  go_loopg [7, 8] 4000 (fun ff x y wr => ∃ (now : Int) (l : List Jb) (sp out : List Int) (vs : Value) (tx : Nat) (bx : Bool) (cx : Nat → Int) (bg : Int), x = .int .i64 tx ∧ y = .int .i64 bg ∧ Mod js l sp out ∧ Hid (R = runT gr pr1 ff now l out tx bx cx) ∧
    0 ≤ now ∧ now + 20 * cntJ l ≤ 1000 + 20 * n ∧ tx < 8 ∧ ff ≤ 4000 ∧ Cb ff cx ∧ Fu ff now l tx bx cx ∧ CrT gr tx bx cx bg ∧ PN wr g (.slice A n c) js vs sp now (n - cntJ l) ∧ Below w.heap.size w wr)
  case atStart => exact ⟨0, js, _, _, vs1, 7, false, fun _ => 0, 0, rfl, rfl, HMS.out, HR, by omega, by rw [HCN.out]; omega, by omega, Nat.le_refl _, Cb.zero (Nat.le_refl _), HFU0.out, CrT.new (HGB.out 7 (by omega)).1 (fun _ _ => rfl) (by omega), by rw [HCN.out, Int.sub_self]; exact HP1.out, HB1.out⟩
  case round =>
    obtain ⟨now, l, sp, out, vs, tx, bx, cx, bg, rfl, rfl, hmod, hr, ht0, ht1, htx, hff, hcb, hfu, hct, hpn, hbw⟩ := hrel
    have hcn : cntJ l ≤ n := by
      have h1 := cntJ_le l
      have h2 := hmod.left.1
      have h3 := HN.out
      omega
    have hgs := hpn.lt
    have c3 := hpn.bk.cell 3
    simp at c3
    have HPN := Lib.hid hpn
    have HBW := Lib.hid hbw
    have HMOD := Lib.hid hmod
    have HCB := Lib.hid hcb
    have HFU := Lib.hid hfu
    have HCT := Lib.hid hct
    have HTX := Lib.hid htx
    have HFF := Lib.hid hff
    have HSL : Hid (sp.length = js.length) := hmod.lsp
    obtain ⟨dn, hdn⟩ : ∃ x, (n : Int) - (cntJ l : Int) = x := ⟨_, rfl⟩
    rw [hdn] at c3
    have HDN := Lib.hid hdn
    have HPN2 : Hid (PN wr g (.slice A n c) js vs sp now dn) := by have := HPN.out; rw [hdn] at this; exact this
    have hdb : 0 ≤ dn ∧ dn ≤ n := by omega
    have hd0 : (cntJ l = 0 ↔ dn = n) := by omega
    clear hmod hcb hfu hct htx hff hpn hbw hdn HPN
    by_cases h0 : cntJ l = 0
    · have hdd : dn = n := hd0.1 h0
      have HOUT : Hid (sp = R) := by
        show _ = _
        rw [HMOD.out.done HJ.out h0]
        have h9 := hr.out
        rw [runT_off _ _ _ _ _ _ _ _ _ h0] at h9
        exact h9.symm
      have c1 := HPN2.out.bk.cell 1
      simp at c1
      have hro := Acc.oi HPN2.out.row
      obtain ⟨A3, c9, hv3, _⟩ := hro.ri
      subst hv3
      have HRO := Lib.hid hro
      subst hdd
      clear hr hro h0 hd0 hcn
      go_wp2_with fail
      go_ret2
      exact ⟨_, rfl, by rw [← HOUT.out]; exact HRO.out.wide (by omega) (Nat.le_refl _), HBW.out⟩
    · have hp : 0 < cntJ l := by omega
      have hdlt : dn < n := by omega
      obtain ⟨u, f0, k0, u1, u2, u3, hT, hfst, hpk, hkl0, hkj0, hT0, hT1b, hbd0⟩ := step_of (rk := rk0) HJ.out HMOD.out.left hp ht0
      have hdj : dn ≠ js.length := by rw [HN.out]; omega
      obtain ⟨hsk, hsb⟩ := HMOD.out.skip HJ.out hp now dn hdj
      have hsb2 := HMOD.out.skipB HJ.out hfst
      have HSKIP := Lib.hid (prSkip_any g _ vs js sp now dn wr HPN2.out HSL.out HJ.out (by rw [HN.out]; omega))
      unfold RetSkip at HSKIP
      rw [hsk, hsb, hsb2] at HSKIP
      obtain ⟨ff1, rfl⟩ := HFU.out.pos hfst
      have HEQ : Hid (R = stepR gr pr1 (runT gr pr1 ff1) (tickOf now l) l out (nTc now l tx) (nTb now l bx) (nCr now l cx)) := by
        show _ = _
        rw [hr.out, runT_on _ _ _ _ _ _ _ _ _ h0]
      have HFUN : Hid (FuN (ff1 + 1) (tickOf now l) l (nTc now l tx) (nTb now l bx) (nCr now l cx)) := HFU.out
      have HTX2 := Lib.hid (nTc_lt' (tick := now) (l := l) HTX.out)
      have HCB2 := Lib.hid (Cb.norm' (tick := now) (l := l) HCB.out HFF.out)
      have HIDM : Hid (tickOf (tickOf now l) l = tickOf now l) := tickOf_idem now
      have HFST := Lib.hid hfst
      have HNY := Lib.hid (fun h9 => norm_yes (now := now) (l := l) h9 tx bx cx)
      have HNNO := Lib.hid (fun h9 => norm_no (now := now) (l := l) h9 tx bx cx)
      have HOKJ := Lib.hid (HMOD.out.left.ok' HJ.out)
      clear hT hpk hkl0 hkj0 hbd0 u1 u2 u3 hsk hsb hsb2 hr hdj hd0 h0 hfst
      generalize tickOf now l = T at HSKIP HEQ HFUN HIDM HFST HNY HNNO hT0 hT1b
      generalize nTc now l tx = tn at HEQ HFUN HTX2 HNY HNNO
      generalize nTb now l bx = bn at HEQ HFUN HNY HNNO
      generalize nCr now l cx = cn at HEQ HFUN HCB2 HNY HNNO
      have hT2 : T + 20 * cntJ l ≤ 1000 + 20 * (n : Int) := by omega
      have HT2 := Lib.hid hT2
      by_cases hskp : now < T
      · have hdummy : True := trivial
        clear hdummy
        obtain ⟨rfl, rfl, rfl⟩ := HNY.out hskp
        have hsd : decide (now < T) = true := decide_eq_true hskp
        have HCT2 : Hid (CrT gr 7 false (fun _ => 0) 0) := CrT.new (HGB.out 7 (by omega)).1 (fun _ _ => rfl) (by omega)
        have htn : 7 < 8 := HTX2.out
        have htni : ((7 : Nat) : Int) < 8 := by omega
        rw [hsd] at HSKIP
        clear hskp hsd HNY HNNO HCT
        have gcell := HGC.out 7 htn
        have HGW := Lib.hid hb2
        have bgb : 0 ≤ (0 : Int) ∧ (0 : Int) ≤ gr.getD 7 0 ∧ gr.getD 7 0 ≤ 40 := ⟨HCT2.out.2.1, HCT2.out.2.2.1, (HGB.out 7 htn).2⟩
        have hm : (((7 : Nat) : Int) + 7).tmod 8 = ((nextC 7 : Nat) : Int) := by
          unfold nextC
          rw [Int.tmod_eq_emod_of_nonneg (by omega)]
          omega
        obtain ⟨X, hX⟩ : ∃ X : Nat, nextC 7 = X := ⟨_, rfl⟩
        have hX8 : X < 8 := by rw [← hX]; exact nextC_lt _
        rw [hX] at hm
        have HX := Lib.hid hX
        have e1 : IntKind.i64.wrap (((7 : Nat) : Int) + 7) = ((7 : Nat) : Int) + 7 := IntWalk.i64_in _ (by omega)
        have e2 : IntKind.i64.wrap (X : Int) = (X : Int) := IntWalk.i64_in _ (by omega)
        clear hX
        go_wp2_with fail
        refine HSKIP.out.mono ?_; rintro e w4 ⟨rfl, hp4, hb4⟩
        have HP4 := Lib.hid hp4
        have hgle : w.heap.size ≤ g := by omega
        have HB4 := Lib.hid (HBW.out.trans (hb4.mono hgle))
        have HFC := Lib.hid (prFirst_any g _ vs js sp T dn ((7 : Nat) : Int) w4 hp4 HSL.out (by rw [HN.out]; exact hnn))
        have HFE := Lib.hid (HMOD.out.firstC HJ.out T 7)
        rw [← HFE.out] at HFC
        clear hp4 hb4
        cases ho : firstC T 7 l with
        | none =>
          rw [ho] at HFC
          have HRN : Hid (R = runT gr pr1 ff1 T l out X false (setC (crB gr 7 false (fun _ => 0)) 7 0)) := by
            show _ = _
            rw [HEQ.out, stepR_none ho, HX.out]
          have HC1 := Lib.hid (crB_bd (gr := gr) (tb := false) HGB.out htn HCB2.out)
          have HFN : Hid (FuN ff1 T l X false (setC (crB gr 7 false (fun _ => 0)) 7 0)) := by
            have h9 := FuN.on (pr := pr1) (cr' := setC (crB gr 7 false (fun _ => 0)) 7 0) HFUN.out HGB.out htn (fun k hk hw => by have := HOKJ.out k hk (isW_t.1 hw).1; omega) (fun k hk hw => by simp [pr1]) (.inl ⟨ho, rfl⟩)
            rw [HX.out] at h9
            exact h9
          have HCT3 : Hid (CrT gr X false (setC (crB gr 7 false (fun _ => 0)) 7 0) 0) := by
            refine CrT.new (HGB.out X hX8).1 (fun c hc => ?_) hX8
            by_cases e : c = 7
            · subst e; exact setC_same _ _ _
            · rw [setC_ne _ _ e]
              have : crB gr 7 false (fun _ => 0) c = (fun _ => 0) c := by unfold crB; split <;> first | rfl | exact setC_ne _ _ e
              rw [this]
              try exact HCT2.out.1 c hc e
          have hbn : bI none = -1 := rfl
          unfold RetFst at HFC
          rw [hbn] at HFC
          clear ho hbn
          go_wp2_with fail
          refine HFC.out.mono ?_; rintro e w5 ⟨rfl, hb5⟩
          have HP5 := Lib.hid (HP4.out.step hb5)
          have HB5 := Lib.hid (HB4.out.trans (hb5.mono HB4.out.size))
          clear hb5
          go_wp2_with fail
          go_roundg ff1
          case rel => exact ⟨T, l, sp, out, vs, X, false, _, 0, by rw [← HX.out]; rfl, rfl, HMOD.out, HRN, hT0, HT2.out, hX8, by have := HFF.out; omega, HC1.out.set htn (Int.le_refl _) (HC1.out _ htn).1, Fu.norm HFN.out HIDM.out, HCT3.out, by rw [HDN.out]; exact HP5.out, HB5.out⟩
          case measure => omega
        | some i =>
          rw [ho] at HFC
          obtain ⟨i1, i2, i3⟩ := firstC_some ho
          have hin : i < n := by have := HMOD.out.left.1; have := HN.out; omega
          have hii : (i : Int) < (n : Int) := by omega
          have hi0 : ¬ ((i : Int) < 0) := by omega
          have hbn : bI (some i) = (i : Int) := rfl
          unfold RetFst at HFC
          rw [hbn] at HFC
          have HC1 := Lib.hid (crB_bd (gr := gr) (tb := false) HGB.out htn HCB2.out)
          have HCE : Hid (crB gr 7 false (fun _ => 0) 7 = gr.getD 7 0 - 0) := HCT2.out.2.2.2.1
          have HON : Hid (crB gr 7 false (fun _ => 0) 7 < 1 → FuN ff1 T l X false (crB gr 7 false (fun _ => 0)) ∧ R = runT gr pr1 ff1 T l out X false (crB gr 7 false (fun _ => 0))) := fun h9 => by
            have h8 := FuN.on (pr := pr1) (cr' := crB gr 7 false (fun _ => 0)) HFUN.out HGB.out htn (fun k hk hw => by have := HOKJ.out k hk (isW_t.1 hw).1; omega) (fun k hk hw => by simp [pr1]) (.inr ⟨i, ho, h9, rfl⟩)
            rw [HX.out] at h8
            refine ⟨h8, ?_⟩
            rw [HEQ.out, stepR_on ho h9, HX.out]
          have HCTN : Hid (crB gr 7 false (fun _ => 0) 7 < 1 → CrT gr X false (crB gr 7 false (fun _ => 0)) 0) := fun h9 => by
            refine CrT.new (HGB.out X hX8).1 (fun c hc => ?_) hX8
            by_cases e : c = 7
            · subst e
              have := (HC1.out _ htn).1
              omega
            · have : crB gr 7 false (fun _ => 0) c = (fun _ => 0) c := by unfold crB; split <;> first | rfl | exact setC_ne _ _ e
              rw [this]
              try exact HCT2.out.1 c hc e
          have HGO : Hid (1 ≤ crB gr 7 false (fun _ => 0) 7 → R = runT gr pr1 ff1 (T + l[i]!.l) (l.set i jbZ) (out.set i T) 7 true (setC (crB gr 7 false (fun _ => 0)) 7 (crB gr 7 false (fun _ => 0) 7 - 1))) := fun h9 => by
            rw [HEQ.out, stepR_go (pr := pr1) ho h9]
            rfl
          have HFG : Hid (1 ≤ crB gr 7 false (fun _ => 0) 7 → ∀ T', Fu ff1 T' (l.set i jbZ) 7 true (setC (crB gr 7 false (fun _ => 0)) 7 (crB gr 7 false (fun _ => 0) 7 - 1))) := fun h9 T' =>
            FuN.begin2 HFUN.out HFST.out i1 (isW_t.1 i2).1 (fun k hk hj => by have := (HOKJ.out.set i i1) k (by rw [List.length_set]; exact hk) hj; omega) (fun c hc => by
              by_cases e : c = 7
              · subst e; rw [setC_same]; omega
              · rw [setC_ne _ _ e]; exact (HC1.out c hc).1)
          have HLI : Hid (l[i]! = js[i]!) := HMOD.out.left.is (by rw [HN.out]; exact hin) (isW_t.1 i2).1
          have HCNT : Hid (cntJ l = cntJ (l.set i jbZ) + 1) := cntJ_set i1 (isW_t.1 i2).1
          have HMD := Lib.hid (HMOD.out.put i (by rw [HN.out]; exact hin) T hT0)
          have lb := HTK.out i hin
          clear ho hbn i1 i2 i3
          have HCEV := HCE.out
          generalize gr.getD 7 0 = G at gcell bgb HCE
          clear HCEV
          by_cases hq : 0 = G
          · have hqd : ((0 : Int) == G) = true := by simp [hq]
            have hlt1 : crB gr 7 false (fun _ => 0) 7 < 1 := by rw [HCE.out]; omega
            obtain ⟨hfn, hrn⟩ := HON.out hlt1
            have HFN := Lib.hid hfn
            have HRN := Lib.hid hrn
            have HCT3 := Lib.hid (HCTN.out hlt1)
            clear hq hlt1 hfn hrn
            go_wp2_with fail
            refine HFC.out.mono ?_; rintro e w5 ⟨rfl, hb5⟩
            have HP5 := Lib.hid (HP4.out.step hb5)
            have hB5 := HB4.out.trans (hb5.mono HB4.out.size)
            have HB5 := Lib.hid hB5
            have x5 := (hB5.cell (p := ⟨b2, off2 + 7, none⟩) HGW.out).trans gcell
            clear hb5 hB5
            go_wp2_with fail
            go_roundg ff1
            case rel => exact ⟨T, l, sp, out, vs, X, false, _, 0, by rw [← HX.out]; rfl, rfl, HMOD.out, HRN, hT0, HT2.out, hX8, by have := HFF.out; omega, HC1.out, Fu.norm HFN.out HIDM.out, HCT3.out, by rw [HDN.out]; exact HP5.out, HB5.out⟩
            case measure => omega
          · have hqd : ((0 : Int) == G) = false := by simp; omega
            have hge1 : 1 ≤ crB gr 7 false (fun _ => 0) 7 := by rw [HCE.out]; omega
            have HRN := Lib.hid (HGO.out hge1)
            have HFG2 := Lib.hid (HFG.out hge1)
            have HCE1 := Lib.hid hge1
            have HQ := Lib.hid hq
            clear hq hge1
            have e3 : IntKind.i64.wrap ((0 : Int) + 1) = (0 : Int) + 1 := IntWalk.i64_in _ (by omega)
            go_wp2_with fail
            refine HFC.out.mono ?_; rintro e w5 ⟨rfl, hb5⟩
            have HP5 := Lib.hid (HP4.out.step hb5)
            have hB5 := HB4.out.trans (hb5.mono HB4.out.size)
            have HB5 := Lib.hid hB5
            have x5 := (hB5.cell (p := ⟨b2, off2 + 7, none⟩) HGW.out).trans gcell
            have HBEG := Lib.hid (prBegin_any g _ vs js sp T dn i w5 HP5.out (by rw [HN.out]; exact hin) HSL.out (by rw [HN.out]; exact hnn) (by omega) (by omega) (by omega))
            clear hb5 hB5
            go_wp2_with fail
            refine HBEG.out.mono ?_; rintro e w6 ⟨rfl, hp6, hb6⟩
            have HP6 := Lib.hid hp6
            have HB6 := Lib.hid (HB5.out.trans (hb6.mono hgle))
            have hbg1 : (0 : Int) < G := by have := HQ.out; omega
            have HCT3 : Hid (CrT gr 7 true (setC (crB gr 7 false (fun _ => 0)) 7 (crB gr 7 false (fun _ => 0) 7 - 1)) (0 + 1)) := by
              have hG := HCE.out
              have h8 := HCT2.out.2.2.2.1
              refine ⟨fun c hc hne => ?_, by omega, by omega, ?_, fun h9 => by cases h9⟩
              · rw [setC_ne _ _ hne]
                have : crB gr 7 false (fun _ => 0) c = (fun _ => 0) c := by unfold crB; split <;> first | rfl | exact setC_ne _ _ hne
                rw [this]
                try exact HCT2.out.1 c hc hne
              · have e9 : crB gr 7 true (setC (crB gr 7 false (fun _ => 0)) 7 (crB gr 7 false (fun _ => 0) 7 - 1)) 7 = crB gr 7 false (fun _ => 0) 7 - 1 := by
                  have e10 : ∀ z, crB gr 7 true z = z := fun z => by simp [crB]
                  rw [e10]
                  exact setC_same _ _ _
                rw [e9]
                omega
            have HCB3 : Hid (Cb ff1 (setC (crB gr 7 false (fun _ => 0)) 7 (crB gr 7 false (fun _ => 0) 7 - 1))) := HC1.out.set htn (by have := HCE1.out; omega) (by omega)
            clear hp6 hb6 hbg1
            go_wp2_with fail
            go_roundg ff1
            case rel =>
              have hlI := HLI.out
              have hcI := HCNT.out
              have hdI := HDN.out
              refine ⟨T + js[i]!.l, l.set i jbZ, sp.set i T, out.set i T, vs, 7, true, _, 0 + 1, rfl, rfl, HMD.out, ?_, by omega, by omega, htn, by have := HFF.out; omega, HCB3.out, HFG2.out _, HCT3.out, ?_, HB6.out⟩
              · rw [← hlI]; exact HRN
              · have e9 : dn + 1 = (n : Int) - (cntJ (l.set i jbZ) : Int) := by omega
                rw [← e9]; exact HP6.out
            case measure => omega
      · have hdummy : True := trivial
        clear hdummy
        obtain ⟨rfl, rfl, rfl⟩ := HNNO.out hskp
        have hsd : decide (now < T) = false := decide_eq_false hskp
        have HCT2 : Hid (CrT gr tn bn cn bg) := HCT.out
        have htn : tn < 8 := HTX2.out
        have htni : ((tn : Nat) : Int) < 8 := by omega
        rw [hsd] at HSKIP
        clear hskp hsd HNY HNNO HCT
        have gcell := HGC.out tn htn
        have HGW := Lib.hid hb2
        have bgb : 0 ≤ (bg : Int) ∧ (bg : Int) ≤ gr.getD tn 0 ∧ gr.getD tn 0 ≤ 40 := ⟨HCT2.out.2.1, HCT2.out.2.2.1, (HGB.out tn htn).2⟩
        have hm : (((tn : Nat) : Int) + 7).tmod 8 = ((nextC tn : Nat) : Int) := by
          unfold nextC
          rw [Int.tmod_eq_emod_of_nonneg (by omega)]
          omega
        obtain ⟨X, hX⟩ : ∃ X : Nat, nextC tn = X := ⟨_, rfl⟩
        have hX8 : X < 8 := by rw [← hX]; exact nextC_lt _
        rw [hX] at hm
        have HX := Lib.hid hX
        have e1 : IntKind.i64.wrap (((tn : Nat) : Int) + 7) = ((tn : Nat) : Int) + 7 := IntWalk.i64_in _ (by omega)
        have e2 : IntKind.i64.wrap (X : Int) = (X : Int) := IntWalk.i64_in _ (by omega)
        clear hX
        go_wp2_with fail
        refine HSKIP.out.mono ?_; rintro e w4 ⟨rfl, hp4, hb4⟩
        have HP4 := Lib.hid hp4
        have hgle : w.heap.size ≤ g := by omega
        have HB4 := Lib.hid (HBW.out.trans (hb4.mono hgle))
        have HFC := Lib.hid (prFirst_any g _ vs js sp T dn ((tn : Nat) : Int) w4 hp4 HSL.out (by rw [HN.out]; exact hnn))
        have HFE := Lib.hid (HMOD.out.firstC HJ.out T tn)
        rw [← HFE.out] at HFC
        clear hp4 hb4
        cases ho : firstC T tn l with
        | none =>
          rw [ho] at HFC
          have HRN : Hid (R = runT gr pr1 ff1 T l out X false (setC (crB gr tn bn cn) tn 0)) := by
            show _ = _
            rw [HEQ.out, stepR_none ho, HX.out]
          have HC1 := Lib.hid (crB_bd (gr := gr) (tb := bn) HGB.out htn HCB2.out)
          have HFN : Hid (FuN ff1 T l X false (setC (crB gr tn bn cn) tn 0)) := by
            have h9 := FuN.on (pr := pr1) (cr' := setC (crB gr tn bn cn) tn 0) HFUN.out HGB.out htn (fun k hk hw => by have := HOKJ.out k hk (isW_t.1 hw).1; omega) (fun k hk hw => by simp [pr1]) (.inl ⟨ho, rfl⟩)
            rw [HX.out] at h9
            exact h9
          have HCT3 : Hid (CrT gr X false (setC (crB gr tn bn cn) tn 0) 0) := by
            refine CrT.new (HGB.out X hX8).1 (fun c hc => ?_) hX8
            by_cases e : c = tn
            · subst e; exact setC_same _ _ _
            · rw [setC_ne _ _ e]
              have : crB gr tn bn cn c = cn c := by unfold crB; split <;> first | rfl | exact setC_ne _ _ e
              rw [this]
              try exact HCT2.out.1 c hc e
          have hbn : bI none = -1 := rfl
          unfold RetFst at HFC
          rw [hbn] at HFC
          clear ho hbn
          go_wp2_with fail
          refine HFC.out.mono ?_; rintro e w5 ⟨rfl, hb5⟩
          have HP5 := Lib.hid (HP4.out.step hb5)
          have HB5 := Lib.hid (HB4.out.trans (hb5.mono HB4.out.size))
          clear hb5
          go_wp2_with fail
          go_roundg ff1
          case rel => exact ⟨T, l, sp, out, vs, X, false, _, 0, rfl, rfl, HMOD.out, HRN, hT0, HT2.out, hX8, by have := HFF.out; omega, HC1.out.set htn (Int.le_refl _) (HC1.out _ htn).1, Fu.norm HFN.out HIDM.out, HCT3.out, by rw [HDN.out]; exact HP5.out, HB5.out⟩
          case measure => omega
        | some i =>
          rw [ho] at HFC
          obtain ⟨i1, i2, i3⟩ := firstC_some ho
          have hin : i < n := by have := HMOD.out.left.1; have := HN.out; omega
          have hii : (i : Int) < (n : Int) := by omega
          have hi0 : ¬ ((i : Int) < 0) := by omega
          have hbn : bI (some i) = (i : Int) := rfl
          unfold RetFst at HFC
          rw [hbn] at HFC
          have HC1 := Lib.hid (crB_bd (gr := gr) (tb := bn) HGB.out htn HCB2.out)
          have HCE : Hid (crB gr tn bn cn tn = gr.getD tn 0 - bg) := HCT2.out.2.2.2.1
          have HON : Hid (crB gr tn bn cn tn < 1 → FuN ff1 T l X false (crB gr tn bn cn) ∧ R = runT gr pr1 ff1 T l out X false (crB gr tn bn cn)) := fun h9 => by
            have h8 := FuN.on (pr := pr1) (cr' := crB gr tn bn cn) HFUN.out HGB.out htn (fun k hk hw => by have := HOKJ.out k hk (isW_t.1 hw).1; omega) (fun k hk hw => by simp [pr1]) (.inr ⟨i, ho, h9, rfl⟩)
            rw [HX.out] at h8
            refine ⟨h8, ?_⟩
            rw [HEQ.out, stepR_on ho h9, HX.out]
          have HCTN : Hid (crB gr tn bn cn tn < 1 → CrT gr X false (crB gr tn bn cn) 0) := fun h9 => by
            refine CrT.new (HGB.out X hX8).1 (fun c hc => ?_) hX8
            by_cases e : c = tn
            · subst e
              have := (HC1.out _ htn).1
              omega
            · have : crB gr tn bn cn c = cn c := by unfold crB; split <;> first | rfl | exact setC_ne _ _ e
              rw [this]
              try exact HCT2.out.1 c hc e
          have HGO : Hid (1 ≤ crB gr tn bn cn tn → R = runT gr pr1 ff1 (T + l[i]!.l) (l.set i jbZ) (out.set i T) tn true (setC (crB gr tn bn cn) tn (crB gr tn bn cn tn - 1))) := fun h9 => by
            rw [HEQ.out, stepR_go (pr := pr1) ho h9]
            rfl
          have HFG : Hid (1 ≤ crB gr tn bn cn tn → ∀ T', Fu ff1 T' (l.set i jbZ) tn true (setC (crB gr tn bn cn) tn (crB gr tn bn cn tn - 1))) := fun h9 T' =>
            FuN.begin2 HFUN.out HFST.out i1 (isW_t.1 i2).1 (fun k hk hj => by have := (HOKJ.out.set i i1) k (by rw [List.length_set]; exact hk) hj; omega) (fun c hc => by
              by_cases e : c = tn
              · subst e; rw [setC_same]; omega
              · rw [setC_ne _ _ e]; exact (HC1.out c hc).1)
          have HLI : Hid (l[i]! = js[i]!) := HMOD.out.left.is (by rw [HN.out]; exact hin) (isW_t.1 i2).1
          have HCNT : Hid (cntJ l = cntJ (l.set i jbZ) + 1) := cntJ_set i1 (isW_t.1 i2).1
          have HMD := Lib.hid (HMOD.out.put i (by rw [HN.out]; exact hin) T hT0)
          have lb := HTK.out i hin
          clear ho hbn i1 i2 i3
          have HCEV := HCE.out
          generalize gr.getD tn 0 = G at gcell bgb HCE
          clear HCEV
          by_cases hq : bg = G
          · have hqd : ((bg : Int) == G) = true := by simp [hq]
            have hlt1 : crB gr tn bn cn tn < 1 := by rw [HCE.out]; omega
            obtain ⟨hfn, hrn⟩ := HON.out hlt1
            have HFN := Lib.hid hfn
            have HRN := Lib.hid hrn
            have HCT3 := Lib.hid (HCTN.out hlt1)
            clear hq hlt1 hfn hrn
            go_wp2_with fail
            refine HFC.out.mono ?_; rintro e w5 ⟨rfl, hb5⟩
            have HP5 := Lib.hid (HP4.out.step hb5)
            have hB5 := HB4.out.trans (hb5.mono HB4.out.size)
            have HB5 := Lib.hid hB5
            have x5 := (hB5.cell (p := ⟨b2, off2 + tn, none⟩) HGW.out).trans gcell
            clear hb5 hB5
            go_wp2_with fail
            go_roundg ff1
            case rel => exact ⟨T, l, sp, out, vs, X, false, _, 0, rfl, rfl, HMOD.out, HRN, hT0, HT2.out, hX8, by have := HFF.out; omega, HC1.out, Fu.norm HFN.out HIDM.out, HCT3.out, by rw [HDN.out]; exact HP5.out, HB5.out⟩
            case measure => omega
          · have hqd : ((bg : Int) == G) = false := by simp; omega
            have hge1 : 1 ≤ crB gr tn bn cn tn := by rw [HCE.out]; omega
            have HRN := Lib.hid (HGO.out hge1)
            have HFG2 := Lib.hid (HFG.out hge1)
            have HCE1 := Lib.hid hge1
            have HQ := Lib.hid hq
            clear hq hge1
            have e3 : IntKind.i64.wrap ((bg : Int) + 1) = (bg : Int) + 1 := IntWalk.i64_in _ (by omega)
            go_wp2_with fail
            refine HFC.out.mono ?_; rintro e w5 ⟨rfl, hb5⟩
            have HP5 := Lib.hid (HP4.out.step hb5)
            have hB5 := HB4.out.trans (hb5.mono HB4.out.size)
            have HB5 := Lib.hid hB5
            have x5 := (hB5.cell (p := ⟨b2, off2 + tn, none⟩) HGW.out).trans gcell
            have HBEG := Lib.hid (prBegin_any g _ vs js sp T dn i w5 HP5.out (by rw [HN.out]; exact hin) HSL.out (by rw [HN.out]; exact hnn) (by omega) (by omega) (by omega))
            clear hb5 hB5
            go_wp2_with fail
            refine HBEG.out.mono ?_; rintro e w6 ⟨rfl, hp6, hb6⟩
            have HP6 := Lib.hid hp6
            have HB6 := Lib.hid (HB5.out.trans (hb6.mono hgle))
            have hbg1 : (bg : Int) < G := by have := HQ.out; omega
            have HCT3 : Hid (CrT gr tn true (setC (crB gr tn bn cn) tn (crB gr tn bn cn tn - 1)) (bg + 1)) := by
              have hG := HCE.out
              have h8 := HCT2.out.2.2.2.1
              refine ⟨fun c hc hne => ?_, by omega, by omega, ?_, fun h9 => by cases h9⟩
              · rw [setC_ne _ _ hne]
                have : crB gr tn bn cn c = cn c := by unfold crB; split <;> first | rfl | exact setC_ne _ _ hne
                rw [this]
                try exact HCT2.out.1 c hc hne
              · have e9 : crB gr tn true (setC (crB gr tn bn cn) tn (crB gr tn bn cn tn - 1)) tn = crB gr tn bn cn tn - 1 := by
                  have e10 : ∀ z, crB gr tn true z = z := fun z => by simp [crB]
                  rw [e10]
                  exact setC_same _ _ _
                rw [e9]
                omega
            have HCB3 : Hid (Cb ff1 (setC (crB gr tn bn cn) tn (crB gr tn bn cn tn - 1))) := HC1.out.set htn (by have := HCE1.out; omega) (by omega)
            clear hp6 hb6 hbg1
            go_wp2_with fail
            go_roundg ff1
            case rel =>
              have hlI := HLI.out
              have hcI := HCNT.out
              have hdI := HDN.out
              refine ⟨T + js[i]!.l, l.set i jbZ, sp.set i T, out.set i T, vs, tn, true, _, bg + 1, rfl, rfl, HMD.out, ?_, by omega, by omega, htn, by have := HFF.out; omega, HCB3.out, HFG2.out _, HCT3.out, ?_, HB6.out⟩
              · rw [← hlI]; exact HRN
              · have e9 : dn + 1 = (n : Int) - (cntJ (l.set i jbZ) : Int) := by omega
                rw [← e9]; exact HP6.out
            case measure => omega
end
section
open Go.RowKit
set_option maxRecDepth 100000
set_option linter.unusedVariables false

def RetSkipW (g : Nat) (vj vs : Value) (js : List Jb) (sp : List Int) (now done : Int) (w : World) (e : Ending) (w' : World) : Prop :=
  e = .returned (.bool (!(someB js sp now js.length || decide (done = js.length)))) ∧ PN w' g vj js vs sp (skipT js sp now done) done ∧ Below g w w' ∧ Wr g (g + 1) w w'
set_option maxHeartbeats 2000000 in
theorem prSkipW_any (g : Nat) (vj vs : Value) (js : List Jb) (sp : List Int) (now done : Int) (w : World) (h : PN w g vj js vs sp now done) (hl : sp.length = js.length) (hA : areJb js = true) (hd : 0 ≤ done ∧ done ≤ js.length) :
    Calls Try.prog 45 #[.pointer (some ⟨g, 0, none⟩)] w (RetSkipW g vj vs js sp now done w) := by
  have hgs := h.lt
  have c0 := h.bk.cell 0
  have c1 := h.bk.cell 1
  have c3 := h.bk.cell 3
  simp at c0 c1 c3
  have hn := (areJb_in hA).1
  have hJ := fun k (hk : k < js.length) => left_cells h.jobs k hk
  have hRI := (Acc.oi h.row).ri
  obtain ⟨A, c, rfl, _⟩ := h.jobs
  obtain ⟨A2, c2, rfl, hlc2, hc2⟩ := hRI
  have hJB : ∀ i, i < js.length → 0 ≤ js[i]!.t ∧ js[i]!.t ≤ 1000 := fun i hi => by
    have := (areJb_in hA).2.1 _ (List.getElem_mem hi)
    rw [getElem!_pos js i hi]
    omega
  have hLB := leastT_le js sp hJB
  have HSO := Lib.hid (fun m => prSome_any g _ _ js sp now done (w.drewN m) (h.drewN m) hl hn)
  obtain ⟨SK, hSK⟩ : ∃ x, skipT js sp now done = x := ⟨_, rfl⟩
  unfold RetSkipW
  rw [hSK]
  obtain ⟨LE, hLE⟩ : ∃ x, leastT js sp js.length = x := ⟨_, rfl⟩
  have HLE := Lib.hid hLE
  have hskip : SK = if someB js sp now js.length || decide (done = js.length) then now else LE := by rw [← hSK, ← hLE]; rfl
  generalize someB js sp now js.length = SB at HSO hskip ⊢
  obtain ⟨n, hN⟩ : ∃ n, js.length = n := ⟨_, rfl⟩
  rw [hN] at h
  have HPN := Lib.hid h
  rw [hl] at c1 hc2
  rw [hN] at c0 c1 hn hJ hJB hLB HLE hd hskip hc2 ⊢
  have hn' : (n : Int) ≤ 20 := by omega
  have HJ := Lib.hid hJ
  have HJB := Lib.hid hJB
  have HLB := Lib.hid hLB
  have HC2 := Lib.hid hc2
  clear h hl hN hSK hJ hJB hLB hc2 hLE
  cases SB
  · by_cases hdn : done = n
    · have e1 : SK = now := by rw [hskip, decide_eq_true hdn]; rfl
      rw [e1, decide_eq_true hdn]
      have hq : (done == (n : Int)) = true := by simp [hdn]
      clear hskip e1 hdn
      go_enter Try.func45, Try.ntmps45
      go_wp2_with fail
      go_quiet ((go_at_call 66; exact Calls.quiet_of (HSO.out _)))
      go_wp2_with fail
      go_ret
      exact ⟨rfl, HPN.out.drewN _, below_drewN (Below.refl _ _) _, Wr.of_below (below_drewN (Below.refl _ _) _) _ _⟩
    · have e1 : SK = LE := by rw [hskip, decide_eq_false hdn]; rfl
      rw [e1, decide_eq_false hdn]
      have hq : (done == (n : Int)) = false := by simp [hdn]
      clear hskip e1 hdn
      go_enter Try.func45, Try.ntmps45
      go_wp2_with fail
      go_quiet ((go_at_call 66; exact Calls.quiet_of (HSO.out _)))
      go_wp2_with fail
      go_loopw [3, 25] (fun x i wr => ∃ j : Nat, j ≤ n ∧ i = .int .i64 j ∧ x = .int .i64 (leastT js sp j) ∧ Below w.heap.size w wr) (fun _ i _ => n - (intOf i).toNat)
      case atStart => exact ⟨0, Nat.zero_le _, rfl, rfl, below_drewN (Below.refl _ _) _⟩
      case round =>
        obtain ⟨j, hj, rfl, rfl, hbw⟩ := hrel
        have hs1 := hbw.size
        have HBW := Lib.hid hbw
        have d1 := (hbw.cell (p := ⟨g, 1, none⟩) hgs).trans c1
        have hlb := HLB.out j hj
        by_cases hlt : j < n
        · have hji : (j : Int) < (n : Int) := by omega
          obtain ⟨b, off, c9, hv, hb, e0, e1, e2⟩ := HJ.out j hlt
          injection hv with hA9 _ hC9
          subst hA9; subst hC9
          have y0 := (hbw.cell (p := ⟨b, off + j * 3, none⟩) (by simp; omega)).trans e0
          have y1 := (hbw.cell (p := ⟨b, off + j * 3 + 1, none⟩) (by simp; omega)).trans e1
          have y2 := (hbw.cell (p := ⟨b, off + j * 3 + 2, none⟩) (by simp; omega)).trans e2
          obtain ⟨b2, off2, hA2, hb2, hcell⟩ := HC2.out (by omega)
          subst hA2
          have x0 := (hbw.cell (p := ⟨b2, off2 + j, none⟩) hb2).trans (hcell j hlt)
          have HST : Hid (leastT js sp (j + 1) = if sp.getD j 0 < 0 then lsT (leastT js sp j) js[j]!.t else leastT js sp j) := rfl
          have jb := HJB.out j hlt
          clear e0 e1 e2 hcell hbw
          generalize leastT js sp j = L at HST hlb ⊢
          generalize js[j]! = y at y0 y1 y2 HST jb
          generalize sp.getD j 0 = s at x0 HST
          obtain ⟨yt, yc, yl⟩ := y
          simp only at y0 y1 y2 HST jb
          have q1 : (wr.alloc (.cells #[.int .i64 yt, .int .i64 yc, .int .i64 yl] 43)).cell? ⟨g, 1, none⟩ = _ := (World.cell?_alloc_lt wr _ ⟨g, 1, none⟩ (show g < wr.heap.size by omega)).trans d1
          have q2 : (wr.alloc (.cells #[.int .i64 yt, .int .i64 yc, .int .i64 yl] 43)).cell? ⟨b2, off2 + j, none⟩ = _ := (World.cell?_alloc_lt wr _ _ (show b2 < wr.heap.size by omega)).trans x0
          have HNB := Lib.hid (HBW.out.alloc hs1 (.cells #[.int .i64 yt, .int .i64 yc, .int .i64 yl] 43))
          by_cases hsn : s < 0
          · have HF : Hid (leastT js sp (j + 1) = lsT L yt) := by show _ = _; rw [HST.out, if_pos hsn]
            go_wp2_with (go_at_call 67; refine (l1Least_any _ _ _).mono ?_; rintro e w' ⟨rfl, rfl⟩)
            go_roundw
            case rel => exact ⟨j + 1, by omega, by go_num, by rw [HF.out], HNB.out⟩
            case measure => simp [intOf]; omega
          · have HF : Hid (leastT js sp (j + 1) = L) := by show _ = _; rw [HST.out, if_neg hsn]
            go_wp2_with fail
            go_roundw
            case rel => exact ⟨j + 1, by omega, by go_num, by rw [HF.out], HNB.out⟩
            case measure => simp [intOf]; omega
        · obtain rfl : j = n := by omega
          have hpn := HPN.out.step hbw
          have d2 := hpn.bk.cell 2
          have f2 := hpn.bk.free 2
          simp at d2
          have HP2 : Hid (PN (wr.setCell ⟨g, 2, none⟩ (.int .i64 LE)) g (.slice A j c) js (.slice A2 sp.length c2) sp LE done) := by
            have hk := hpn.bk.put 2 (.int .i64 LE)
            have hwr := (Wr.refl g (g + 1) wr).at 2 (.int .i64 LE)
            exact ⟨hk, RK.below hpn.jobs (hwr.below (Nat.le_refl _) (Nat.le_of_lt hpn.lt)), Acc.far hpn.row hwr (Nat.le_refl _)⟩
          have HB2 : Hid (Below g w (wr.setCell ⟨g, 2, none⟩ (.int .i64 LE))) := (HBW.out.mono (Nat.le_of_lt hgs)).setCell (p := ⟨g, 2, none⟩) (Nat.le_refl _) _
          rw [HLE.out]
          clear hpn hbw
          go_wp2_with fail
          go_ret
          exact ⟨rfl, HP2.out, HB2.out, (Wr.of_below HBW.out _ _).trans ((Wr.refl g (g + 1) wr).at 2 (.int .i64 LE))⟩
  · have e1 : SK = now := by rw [hskip]; rfl
    rw [e1]
    clear hskip e1
    go_enter Try.func45, Try.ntmps45
    go_wp2_with fail
    go_quiet ((go_at_call 66; exact Calls.quiet_of (HSO.out _)))
    go_wp2_with fail
    go_ret
    exact ⟨rfl, HPN.out.drewN _, below_drewN (Below.refl _ _) _, Wr.of_below (below_drewN (Below.refl _ _) _) _ _⟩
set_option maxHeartbeats 2000000 in
theorem prBeginW_any (g : Nat) (vj vs : Value) (js : List Jb) (sp : List Int) (now done : Int) (i : Nat) (w : World) (h : PN w g vj js vs sp now done) (hi : i < js.length) (hl : sp.length = js.length) (hn : js.length ≤ 20)
    (hb : 0 ≤ now ∧ now ≤ 100000) (hd : 0 ≤ done ∧ done ≤ 100) (hy : 1 ≤ js[i]!.l ∧ js[i]!.l ≤ 20) (hb2 : Nat) (hgb2 : g < hb2) (hvb : ∀ b o n c, vs = .slice (some ⟨b, o, none⟩) n c → b < hb2) :
    Calls Try.prog 47 #[.pointer (some ⟨g, 0, none⟩), .int .i64 i] w fun e w' => e = .returned (.tuple #[]) ∧ PN w' g vj js vs (sp.set i now) (now + js[i]!.l) (done + 1) ∧ Below g w w' ∧ Wr g hb2 w w' := by
  obtain ⟨b, c, rfl, hgb, hbs, x0, xf, hput⟩ := h.start_at i (by omega)
  obtain ⟨b4, off4, c4, rfl, hb4, _, _, e2⟩ := left_cells h.jobs i hi
  have hbb : b < hb2 := hvb b 0 _ _ rfl
  rw [hl] at h hput ⊢
  have H1 := Lib.hid (hput now)
  have hgs := h.lt
  have hii : (i : Int) < (js.length : Int) := by omega
  have HB1 : Hid (Below g w (w.setCell ⟨b, i, none⟩ (.int .i64 now))) := (Below.refl _ _).setCell (p := ⟨b, i, none⟩) (Nat.le_of_lt hgb) _
  have c0 := h.bk.cell 0
  have c1 := h.bk.cell 1
  have c2 := h.bk.cell 2
  simp at c0 c1 c2
  have d0 := H1.out.bk.cell 0
  have d2 := H1.out.bk.cell 2
  have f2 := H1.out.bk.free 2
  simp at d0 d2
  obtain ⟨b5, off5, c5, hv5, _, _, _, e5⟩ := left_cells H1.out.jobs i hi
  injection hv5 with hA5 _ hC5
  injection hA5 with hA5
  injection hA5 with hA5 hO5
  subst hA5; subst hO5; subst hC5
  obtain ⟨LL, hLL⟩ : ∃ x, js[i]!.l = x := ⟨_, rfl⟩
  rw [hLL] at e2 e5 hy ⊢
  have H2 := Lib.hid (H1.out.putNow (now + LL))
  have e1 : IntKind.i64.wrap (now + LL) = now + LL := IntWalk.i64_in _ (by omega)
  have e3 : IntKind.i64.wrap (done + 1) = done + 1 := IntWalk.i64_in _ (by omega)
  have a3 := H2.out.bk.cell 3
  have g3 := H2.out.bk.free 3
  simp at a3
  have H3 := Lib.hid (H2.out.putDone (done + 1))
  have HB3 : Hid (Below g w (((w.setCell ⟨b, i, none⟩ (.int .i64 now)).setCell ⟨g, 2, none⟩ (.int .i64 (now + LL))).setCell ⟨g, 3, none⟩ (.int .i64 (done + 1)))) := (HB1.out.setCell (p := ⟨g, 2, none⟩) (Nat.le_refl _) _).setCell (p := ⟨g, 3, none⟩) (Nat.le_refl _) _
  have HW3 : Hid (Wr g hb2 w (((w.setCell ⟨b, i, none⟩ (.int .i64 now)).setCell ⟨g, 2, none⟩ (.int .i64 (now + LL))).setCell ⟨g, 3, none⟩ (.int .i64 (done + 1)))) := (((Wr.refl g hb2 w).setCell (p := ⟨b, i, none⟩) (Nat.le_of_lt hgb) hbb _).setCell (p := ⟨g, 2, none⟩) (Nat.le_refl _) hgb2 _).setCell (p := ⟨g, 3, none⟩) (Nat.le_refl _) hgb2 _
  clear h hput hLL hvb
  go_enter Try.func47, Try.ntmps47
  go_wp2_with fail
  go_region
  all_goals
    go_wp2_with fail
    go_region
    all_goals
      go_wp2_with fail
      go_end0
      exact ⟨rfl, ⟨H3.out.bk, H3.out.jobs, H3.out.row⟩, HB3.out.drew.drew, ⟨HW3.out.os, HW3.out.tape, HW3.out.output, HW3.out.size, HW3.out.block⟩⟩
/-- The model's credits. -/
def CrD (gr : List Int) (tc : Nat) (tb : Bool) (cr : Nat → Int) (C : List Int) : Prop := C.length = 8 ∧ ∀ c, c < 8 → C.getD c 0 = crB gr tc tb cr c
theorem CrD.new {gr : List Int} {tc : Nat} (htc : tc < 8) : CrD gr tc false (fun _ => 0) ((List.replicate 8 0).set tc (gr.getD tc 0)) := by
  refine ⟨by simp, fun c hc => ?_⟩
  rw [getD_set _ _ _ _ (by simp; exact htc)]
  have e : crB gr tc false (fun _ => 0) c = if c = tc then 0 + gr.getD tc 0 else 0 := by simp [crB, setC]
  rw [e]
  split
  · omega
  · rw [List.getD_eq_getElem?_getD, List.getElem?_replicate, if_pos hc]; rfl
theorem CrD.take {gr : List Int} {tc : Nat} {tb : Bool} {cr : Nat → Int} {C : List Int} (h : CrD gr tc tb cr C) (htc : tc < 8) (x : Int) : CrD gr tc true (setC (crB gr tc tb cr) tc (crB gr tc tb cr tc - x)) (C.set tc (C.getD tc 0 - x)) := by
  refine ⟨by rw [List.length_set]; exact h.1, fun c hc => ?_⟩
  rw [getD_set _ _ _ _ (by rw [h.1]; exact htc)]
  have e10 : ∀ z, crB gr tc true z = z := fun z => by simp [crB]
  rw [e10]
  unfold setC
  by_cases e : c = tc
  · simp only [e, if_true]; rw [h.2 tc htc]
  · simp only [e, if_false]; exact h.2 c hc
theorem CrD.on {gr : List Int} {tc X : Nat} {tb : Bool} {cr : Nat → Int} {C : List Int} (h : CrD gr tc tb cr C) (hX : X < 8) : CrD gr X false (crB gr tc tb cr) (C.set X (C.getD X 0 + gr.getD X 0)) := by
  refine ⟨by rw [List.length_set]; exact h.1, fun c hc => ?_⟩
  rw [getD_set _ _ _ _ (by rw [h.1]; exact hX)]
  have e : crB gr X false (crB gr tc tb cr) c = if c = X then crB gr tc tb cr X + gr.getD X 0 else crB gr tc tb cr c := by
    simp [crB, setC]
  rw [e]
  split
  · rw [h.2 X hX]
  · exact h.2 c hc
theorem CrD.none {gr : List Int} {tc X : Nat} {tb : Bool} {cr : Nat → Int} {C : List Int} (h : CrD gr tc tb cr C) (htc : tc < 8) (hX : X < 8) :
    CrD gr X false (setC (crB gr tc tb cr) tc 0) ((C.set tc 0).set X ((C.set tc 0).getD X 0 + gr.getD X 0)) := by
  refine ⟨by rw [List.length_set, List.length_set]; exact h.1, fun c hc => ?_⟩
  rw [getD_set _ _ _ _ (by rw [List.length_set, h.1]; exact hX), getD_set C tc X 0 (by rw [h.1]; exact htc), getD_set C tc c 0 (by rw [h.1]; exact htc)]
  have e : crB gr X false (setC (crB gr tc tb cr) tc 0) c = if c = X then setC (crB gr tc tb cr) tc 0 X + gr.getD X 0 else setC (crB gr tc tb cr) tc 0 c := by
    simp [crB, setC]
  rw [e]
  unfold setC
  rw [h.2 X hX, h.2 c hc]
theorem out_row8 {w : World} {E : TypeId} {lo g c : Nat} {out : List Int} {k : Nat} {x : Int} {n : Nat} (h : w.ownsRow lo E 1 (.slice (some ⟨g, 0, none⟩) n c) n (ics out)) : (w.setCell ⟨g, k, none⟩ (.int .i64 x)).ownsRow lo E 1 (.slice (some ⟨g, 0, none⟩) n c) n (ics (out.set k x)) := by
  have h1 := (World.ownsRow.stored h k (.int .i64 x)).1
  have e : (ics out).set k (.int .i64 x) = ics (out.set k x) := by simp [ics, List.map_set]
  rw [e] at h1
  exact h1
theorem row_cell {w : World} {E : TypeId} {lo g c : Nat} {out : List Int} {n : Nat} (h : w.ownsRow lo E 1 (.slice (some ⟨g, 0, none⟩) n c) n (ics out)) (hl : out.length = n) (k : Nat) (hk : k < n) : w.cell? ⟨g, k, none⟩ = some (.int .i64 (out.getD k 0)) := by
  rw [World.ownsRow.cellAt h k (by omega), ics_get out k (by omega)]
theorem made_row {w : World} {E : TypeId} {lo b c : Nat} (n : Nat) (h : w.ownsRow lo E 1 (.slice (some ⟨b, 0, none⟩) n c) n (madeCells (Value.int IntKind.i64 0).cells (n * 1)).toList) : w.ownsRow lo E 1 (.slice (some ⟨b, 0, none⟩) n c) n (ics (List.replicate n 0)) := by
  have h1 : (Value.int IntKind.i64 0).cells = #[Value.int IntKind.i64 0] := rfl
  rw [Nat.mul_one, h1, toList_madeCells_one] at h
  simpa [ics] using h
theorem row_lt {w : World} {E : TypeId} {lo : Nat} {v : Value} {l : List Int} (h : Acc E w lo v l) : ∀ b o n c, v = .slice (some ⟨b, o, none⟩) n c → b < w.heap.size := by
  intro b o n c hv
  rcases h.2 with ⟨h9, _⟩ | ⟨b9, c9, cur, h9, _, hh, _⟩
  · rw [hv] at h9; cases h9
  · rw [hv] at h9
    injection h9 with h9
    injection h9 with h9
    injection h9 with h9
    rw [h9]
    exact (Array.getElem?_eq_some_iff.1 hh).1
/-- What is turned lies behind the line's own row, or beside it. -/
theorem PN.far5 {w w' : World} {g : Nat} {vj vs : Value} {js : List Jb} {sp : List Int} {now done : Int} {a b : Nat} (h : PN w g vj js vs sp now done) (hw : Wr a b w w') (ha : g < a) (hv : ∀ b' o n c, vs = .slice (some ⟨b', o, none⟩) n c → b' < a := by assumption) : PN w' g vj js vs sp now done := by
  refine ⟨h.bk.far hw (.inl ha), RK.below h.jobs (hw.below (Nat.le_of_lt ha) (Nat.le_of_lt h.lt)), ?_⟩
  have h0 := h.row
  rcases h.row.2 with ⟨hv1, hn⟩ | ⟨g', c, cur, hv1, hgl, _⟩
  · exact ⟨h0.1, .inl ⟨hv1, hn⟩⟩
  · rw [hv1] at h0 ⊢
    exact row_far h0 hw (.inl (hv _ _ _ _ hv1))
end
section
open Go.RowKit
set_option maxRecDepth 100000
set_option linter.unusedVariables false

theorem LeftOf.ok2 {js l : List Jb} (hA : areJb js = true) (h : LeftOf js l) : JbOk l := by
  intro k hk hj
  have hk' : k < js.length := by rw [← h.1]; exact hk
  rw [h.is hk' hj]
  have := tick_at hA hk'
  omega
theorem nTc_lt2 {tick : Int} {l : List Jb} {tc : Nat} (h : tc < 8) : nTc tick l tc < 8 := by unfold nTc; split <;> omega
theorem Cb.norm2 {f : Nat} {tick : Int} {l : List Jb} {cr : Nat → Int} (h : Cb f cr) (hf : f ≤ 4000) : Cb f (nCr tick l cr) := by
  unfold nCr
  split
  · exact Cb.zero hf
  · exact h
set_option maxHeartbeats 16000000 in
theorem specDeficitStarts_any (v vg : Value) (js : List Jb) (gr : List Int) (w : World) (h : RJbS w w.heap.size v js) (h' : RI w w.heap.size vg gr) (hn : js.length ≤ 1048576) (hn2 : gr.length ≤ 1048576) :
    Calls Try.prog 21 #[v, vg] w (RetLB 3 w (defOf js gr).1 (defOf js gr).2) := by
  have HA := Lib.hid (prJobs_any v js w h hn)
  cases hg : areJb js
  · have HF : defOf js gr = ([], false) := by simp [defOf, hg]
    rw [HF]
    rw [hg] at HA
    clear hg HF
    go_enter Try.func21, Try.ntmps21
    go_wp2_with fail
    refine HA.out.mono ?_; rintro e w1 ⟨rfl, T⟩
    go_wp2_with fail
    go_ret2
    exact ⟨_, rfl, .inl ⟨rfl, none, 0, rfl, by simp, fun _ => rfl⟩, T⟩
  have HE := Lib.hid (fun (w' : World) (hb : Below w.heap.size w w') => prEight_any vg gr 40 w' ((h'.step hb (Nat.le_refl _)).more hb.size) hn2)
  cases hwa : eightB gr 40
  · have HF : defOf js gr = ([], false) := by simp [defOf, hwa]
    rw [HF]
    rw [hg] at HA
    rw [hwa] at HE
    clear hg HF hwa
    go_enter Try.func21, Try.ntmps21
    go_wp2_with fail
    refine HA.out.mono ?_; rintro e w1 ⟨rfl, T⟩
    go_wp2_with fail
    refine (HE.out _ T).mono ?_; rintro e w2 ⟨rfl, rfl⟩
    go_wp2_with fail
    go_ret2
    exact ⟨_, rfl, .inl ⟨rfl, none, 0, rfl, by simp, fun _ => rfl⟩, T⟩
  have HF : defOf js gr = (inTurnOf prL js gr, true) := by simp [defOf, hg, hwa]
  rw [HF]
  obtain ⟨hgl, hgb0⟩ := eightB_in' hwa
  have hgb : ∀ c, c < 8 → 1 ≤ gr.getD c 0 ∧ gr.getD c 0 ≤ 40 := fun c hc => by have := hgb0 c hc; omega
  have hnn := (areJb_in hg).1
  have HNEW := Lib.hid (fun (w' : World) (hb : Below w.heap.size w w') => prNew_any v js w' ((h.step hb (Nat.le_refl _)).more hb.size) hnn)
  have hisJ := cntJ_all (l := js) (fun y hy => isJ_ok ((areJb_in hg).2.1 y hy).2.2.2.2.1)
  obtain ⟨i0, hi, hz0, hz1, hz2⟩ := info_parts int_info
  have hjc : ∃ A c, v = .slice A js.length c ∧ ∀ k, k < js.length → ∃ b off, A = some ⟨b, off, none⟩ ∧ b < w.heap.size ∧ w.cell? ⟨b, off + k * 3, none⟩ = some (.int .i64 js[k]!.t) ∧ w.cell? ⟨b, off + k * 3 + 1, none⟩ = some (.int .i64 js[k]!.c) ∧ w.cell? ⟨b, off + k * 3 + 2, none⟩ = some (.int .i64 js[k]!.l) := by
    obtain ⟨A, c, hv, _⟩ := id h
    refine ⟨A, c, hv, fun k hk => ?_⟩
    obtain ⟨b, off, c9, hv9, hb, e0, e1, e2⟩ := left_cells h k hk
    rw [hv] at hv9
    injection hv9 with hA9
    exact ⟨b, off, hA9, hb, e0, e1, e2⟩
  obtain ⟨A, c, rfl, hjc⟩ := hjc
  have HTK := Lib.hid (fun k (hk : k < js.length) => tick_at hg hk)
  obtain ⟨R, hR⟩ : ∃ R, R = inTurnOf prL js gr := ⟨_, rfl⟩
  rw [← hR]
  have HR : Hid (R = runT gr prL 4000 0 js (List.replicate js.length 0) 7 false (fun _ => 0)) := hR
  have HFU0 := Lib.hid (Fu.start js hg)
  have HMS := Lib.hid (Mod.start js)
  obtain ⟨n, hN⟩ : ∃ n, js.length = n := ⟨_, rfl⟩
  unfold RetNew at HNEW
  have HGX : Hid (∃ A2 c2, vg = .slice A2 8 c2 ∧ ∃ b off, A2 = some ⟨b, off, none⟩ ∧ b < w.heap.size ∧ ∀ k, k < 8 → w.cell? ⟨b, off + k, none⟩ = some (.int .i64 (gr.getD k 0))) := by
    obtain ⟨A2, c2, hv, _, hc⟩ := h'
    obtain ⟨b, off, hA2, hb, hcell⟩ := hc (by omega)
    exact ⟨A2, c2, by rw [hv, hgl], b, off, hA2, hb, fun k hk => hcell k (by omega)⟩
  obtain ⟨A2, c2, rfl, b2, off2, rfl, hb2, hgc⟩ := HGX.out
  rw [hg] at HA
  rw [hwa] at HE
  rw [hN] at hnn HA HNEW HR hisJ HTK HMS hjc ⊢
  have HJC := Lib.hid hjc
  clear hjc
  have hn' : (n : Int) ≤ 20 := by omega
  have HN := Lib.hid hN
  have HJ := Lib.hid hg
  have HCN := Lib.hid hisJ
  have HGC := Lib.hid hgc
  have HGB := Lib.hid hgb
  have HGL := Lib.hid hgl
  clear h h' hn hn2 hN hg hwa HF hisJ hR hgc hgb hgb0 hgl HGX
  go_enter Try.func21, Try.ntmps21
  go_wp2_with fail
  refine HA.out.mono ?_; rintro e w1 ⟨rfl, T1⟩
  have hT1 := T1.size
  have HT1 := Lib.hid T1
  go_wp2_with fail
  refine (HE.out _ T1).mono ?_; rintro e w2 ⟨rfl, rfl⟩
  go_wp2_with fail
  refine (HNEW.out _ T1).mono ?_; rintro e w3 ⟨vs1, rfl, hp1, hb1⟩
  have HP1 := Lib.hid hp1
  have HB1 := Lib.hid (T1.trans (hb1.mono hT1))
  clear hp1 hb1 T1
  obtain ⟨g, hgw⟩ : ∃ g, w1.heap.size = g := ⟨_, rfl⟩
  rw [hgw] at HP1 hT1 ⊢
  clear hgw
  have hgs3 := HP1.out.lt
  have HVX := Lib.hid (row_lt HP1.out.row)
  have q7 := HGC.out 7 (by omega)
  obtain ⟨G7, hG7⟩ : ∃ x, gr.getD 7 0 = x := ⟨_, rfl⟩
  rw [hG7] at q7
  have HG7 := Lib.hid hG7
  clear hG7
  have HGW := Lib.hid hb2
  go_wp2_with (at_make; refine wpList_make_full _ rfl _ _ 26 rfl w3.heap.size 3 i0 _ 1 Try.underlying26 hi hz0 hz1 _ _ _ _ 8 rfl rfl rfl rfl (by rw [hz2]; omega) (by unfold maxLen; omega) (Nat.le_refl _) ?_; intro w4 hown hg4; have hown1 := made_row 8 hown; have hb4 : Below w3.heap.size w3 w4 := (Below.refl _ _).grown hg4 (Nat.le_refl _) (by intro k hk; cases hk); have HO1 := Lib.hid hown1; have HB4 := Lib.hid hb4; have hx4 := (((HB1.out.trans (hb4.mono HB1.out.size))).cell (p := ⟨b2, off2 + 7, none⟩) HGW.out).trans q7; have hc4 := row_cell hown1 rfl 7 (by omega); have hf4 := World.ownsRow.frozenAt hown1 7; clear hown hg4 hown1 hb4)
  have hw5 := (Wr.refl w3.heap.size (w3.heap.size + 1) w4).at 7 (.int .i64 G7)
  have HO5 := Lib.hid (out_row8 (k := 7) (x := G7) HO1.out)
  have HP5 := Lib.hid (PN.far5 (HP1.out.step HB4.out) hw5 (by omega) HVX.out)
  have HB5 : Hid (Below w.heap.size w (w4.setCell ⟨w3.heap.size, 7, none⟩ (.int .i64 G7))) := (HB1.out.trans (HB4.out.mono HB1.out.size)).trans (hw5.below (by have := HB1.out.size; omega) (by have := HB1.out.size; have := HB4.out.size; omega))
  clear hw5
  generalize w4.setCell ⟨w3.heap.size, 7, none⟩ (.int .i64 G7) = w5 at HO5 HP5 HB5 ⊢
  obtain ⟨C0, hC0⟩ : ∃ C0, (List.replicate 8 (0 : Int)).set 7 G7 = C0 := ⟨_, rfl⟩
  have HC0 : Hid (CrD gr 7 false (fun _ => 0) C0) := by show CrD _ _ _ _ _; rw [← hC0, ← HG7.out]; exact CrD.new (by omega)
  rw [hC0] at HO5
  clear hC0 hx4 hc4 hf4 q7 HO1 HB4 HB1 HP1
  have hb3g : g < w3.heap.size := hgs3
  generalize w3.heap.size = hb at HO5 HVX hb3g ⊢
  clear hgs3
  go_loopg [7, 8] 4000 (fun ff z x wr => ∃ (now : Int) (l : List Jb) (sp out : List Int) (tx : Nat) (bx : Bool) (cx : Nat → Int) (C : List Int) (b8 c8 : Nat), z = .slice (some ⟨b8, 0, none⟩) 8 c8 ∧ x = .int .i64 tx ∧ Mod js l sp out ∧ Hid (R = runT gr prL ff now l out tx bx cx) ∧
    0 ≤ now ∧ now + 20 * cntJ l ≤ 1000 + 20 * n ∧ tx < 8 ∧ ff ≤ 4000 ∧ Cb ff cx ∧ Fu ff now l tx bx cx ∧ CrD gr tx bx cx C ∧ hb ≤ b8 ∧ wr.ownsRow hb 3 1 (.slice (some ⟨b8, 0, none⟩) 8 c8) 8 (ics C) ∧ PN wr g (.slice A n c) js vs1 sp now (n - cntJ l) ∧ Below w.heap.size w wr)
  case atStart => exact ⟨0, js, _, _, 7, false, fun _ => 0, C0, hb, 8, rfl, rfl, HMS.out, HR, by omega, by rw [HCN.out]; omega, by omega, Nat.le_refl _, Cb.zero (Nat.le_refl _), HFU0.out, HC0.out, Nat.le_refl _, HO5.out, by rw [HCN.out, Int.sub_self]; exact HP5.out, HB5.out⟩
  case round =>
    obtain ⟨now, l, sp, out, tx, bx, cx, C, b8, c8, rfl, rfl, hmod, hr, ht0, ht1, htx, hff, hcb, hfu, hct, hb8, hrow, hpn, hbw⟩ := hrel
    have HRW := Lib.hid hrow
    clear hrow
    have hcn : cntJ l ≤ n := by
      have h1 := cntJ_le l
      have h2 := hmod.left.1
      have h3 := HN.out
      omega
    have hgs := hpn.lt
    have c3 := hpn.bk.cell 3
    simp at c3
    have HPN := Lib.hid hpn
    have HBW := Lib.hid hbw
    have HMOD := Lib.hid hmod
    have HCB := Lib.hid hcb
    have HFU := Lib.hid hfu
    have HCT := Lib.hid hct
    have HTX := Lib.hid htx
    have HFF := Lib.hid hff
    have HSL : Hid (sp.length = js.length) := hmod.lsp
    obtain ⟨dn, hdn⟩ : ∃ x, (n : Int) - (cntJ l : Int) = x := ⟨_, rfl⟩
    rw [hdn] at c3
    have HDN := Lib.hid hdn
    have HPN2 : Hid (PN wr g (.slice A n c) js vs1 sp now dn) := by have := HPN.out; rw [hdn] at this; exact this
    have hdb : 0 ≤ dn ∧ dn ≤ n := by omega
    have hd0 : (cntJ l = 0 ↔ dn = n) := by omega
    clear hmod hcb hfu hct htx hff hpn hbw hdn HPN
    by_cases h0 : cntJ l = 0
    · have hdd : dn = n := hd0.1 h0
      have HOUT : Hid (sp = R) := by
        show _ = _
        rw [HMOD.out.done HJ.out h0]
        have h9 := hr.out
        rw [runT_off _ _ _ _ _ _ _ _ _ h0] at h9
        exact h9.symm
      have c1 := HPN2.out.bk.cell 1
      simp at c1
      have hro := Acc.oi HPN2.out.row
      obtain ⟨A3, c9, hv3, _⟩ := hro.ri
      subst hv3
      have HRO := Lib.hid hro
      subst hdd
      clear hr hro h0 hd0 hcn
      go_wp2_with fail
      go_ret2
      exact ⟨_, rfl, by rw [← HOUT.out]; exact HRO.out.wide (by omega) (Nat.le_refl _), HBW.out⟩
    · have hp : 0 < cntJ l := by omega
      have hdlt : dn < n := by omega
      obtain ⟨u, f0, k0, u1, u2, u3, hT, hfst, hpk, hkl0, hkj0, hT0, hT1b, hbd0⟩ := step_of (rk := rk0) HJ.out HMOD.out.left hp ht0
      have hdj : dn ≠ js.length := by rw [HN.out]; omega
      obtain ⟨hsk, hsb⟩ := HMOD.out.skip HJ.out hp now dn hdj
      have hsb2 := HMOD.out.skipB HJ.out hfst
      have HSKIP := Lib.hid (prSkipW_any g _ vs1 js sp now dn wr HPN2.out HSL.out HJ.out (by rw [HN.out]; omega))
      unfold RetSkipW at HSKIP
      rw [hsk, hsb, hsb2] at HSKIP
      obtain ⟨ff1, rfl⟩ := HFU.out.pos hfst
      have HEQ : Hid (R = stepR gr prL (runT gr prL ff1) (tickOf now l) l out (nTc now l tx) (nTb now l bx) (nCr now l cx)) := by
        show _ = _
        rw [hr.out, runT_on _ _ _ _ _ _ _ _ _ h0]
      have HFUN : Hid (FuN (ff1 + 1) (tickOf now l) l (nTc now l tx) (nTb now l bx) (nCr now l cx)) := HFU.out
      have HTX2 := Lib.hid (nTc_lt2 (tick := now) (l := l) HTX.out)
      have HCB2 := Lib.hid (Cb.norm2 (tick := now) (l := l) HCB.out HFF.out)
      have HIDM : Hid (tickOf (tickOf now l) l = tickOf now l) := tickOf_idem now
      have HFST := Lib.hid hfst
      have HNY := Lib.hid (fun h9 => norm_yes (now := now) (l := l) h9 tx bx cx)
      have HNNO := Lib.hid (fun h9 => norm_no (now := now) (l := l) h9 tx bx cx)
      have HOKJ := Lib.hid (HMOD.out.left.ok2 HJ.out)
      clear hT hpk hkl0 hkj0 hbd0 u1 u2 u3 hsk hsb hsb2 hr hdj hd0 h0 hfst
      generalize tickOf now l = T at HSKIP HEQ HFUN HIDM HFST HNY HNNO hT0 hT1b
      generalize nTc now l tx = tn at HEQ HFUN HTX2 HNY HNNO
      generalize nTb now l bx = bn at HEQ HFUN HNY HNNO
      generalize nCr now l cx = cn at HEQ HFUN HCB2 HNY HNNO
      have hT2 : T + 20 * cntJ l ≤ 1000 + 20 * (n : Int) := by omega
      have HT2 := Lib.hid hT2
      by_cases hskp : now < T
      · have hdummy : True := trivial
        clear hdummy
        obtain ⟨rfl, rfl, rfl⟩ := HNY.out hskp
        have hsd : decide (now < T) = true := decide_eq_true hskp
        have htn : 7 < 8 := HTX2.out
        have htni : ((7 : Nat) : Int) < 8 := by omega
        rw [hsd] at HSKIP
        clear hskp hsd HNY HNNO HCT
        have hgle : w.heap.size ≤ g := by omega
        have HX : Hid (nextC 7 = 6) := rfl
        have hX8 : (6 : Nat) < 8 := by omega
        have q7 := HGC.out 7 (by omega)
        rw [HG7.out] at q7
        go_wp2_with fail
        refine HSKIP.out.mono ?_; rintro e w6 ⟨rfl, hp6, hb6b, hw6⟩
        have HP6 := Lib.hid hp6
        have HB6 := Lib.hid (HBW.out.trans (hb6b.mono hgle))
        have hsz6 : hb ≤ w6.heap.size := by
          have := (row_parts HRW.out).2.1
          have := hw6.size
          omega
        clear hp6 hb6b hw6
        go_wp2_with (at_make; refine wpList_make_full _ rfl _ _ 26 rfl w6.heap.size 3 i0 _ 1 Try.underlying26 hi hz0 hz1 _ _ _ _ 8 rfl rfl rfl rfl (by rw [hz2]; omega) (by unfold maxLen; omega) (Nat.le_refl _) ?_; intro w7 hown hg7; have hown1 := made_row 8 hown; have hb7 : Below w6.heap.size w6 w7 := (Below.refl _ _).grown hg7 (Nat.le_refl _) (by intro k hk; cases hk); have HO1 := Lib.hid hown1; have HB7 := Lib.hid hb7; have hx7 := (((HB6.out.trans (hb7.mono HB6.out.size))).cell (p := ⟨b2, off2 + 7, none⟩) HGW.out).trans q7; have hc7 := row_cell hown1 rfl 7 (by omega); have hf7 := World.ownsRow.frozenAt hown1 7; clear hown hg7 hown1 hb7)
        have hw8 := (Wr.refl w6.heap.size (w6.heap.size + 1) w7).at 7 (.int .i64 G7)
        have HO8 := Lib.hid (row_lower (out_row8 (k := 7) (x := G7) HO1.out) hsz6)
        have HP8 := Lib.hid (PN.far5 (HP6.out.step HB7.out) hw8 (by omega) (fun b o n' c' hv => Nat.lt_of_lt_of_le (HVX.out b o n' c' hv) hsz6))
        have HB8 : Hid (Below w.heap.size w (w7.setCell ⟨w6.heap.size, 7, none⟩ (.int .i64 G7))) := (HB6.out.trans (HB7.out.mono HB6.out.size)).trans (hw8.below HB6.out.size (Nat.le_trans HB6.out.size HB7.out.size))
        clear hw8
        generalize w7.setCell ⟨w6.heap.size, 7, none⟩ (.int .i64 G7) = w8 at HO8 HP8 HB8 ⊢
        obtain ⟨C2, hC2⟩ : ∃ C2, (List.replicate 8 (0 : Int)).set 7 G7 = C2 := ⟨_, rfl⟩
        have HCT2 : Hid (CrD gr 7 false (fun _ => 0) C2) := by show CrD _ _ _ _ _; rw [← hC2, ← HG7.out]; exact CrD.new (by omega)
        rw [hC2] at HO8
        clear hC2 hx7 hc7 hf7 q7 HO1 HB7
        clear HRW hb8
        generalize w6.heap.size = b8 at HO8 hsz6 ⊢
        obtain ⟨c8, hc8⟩ : ∃ x : Nat, 8 = x := ⟨8, rfl⟩
        have hb8 : hb ≤ b8 := hsz6
        clear hc8 c8
        have HFC := Lib.hid (prFirst_any g _ vs1 js sp T dn ((7 : Nat) : Int) w8 HP8.out HSL.out (by rw [HN.out]; exact hnn))
        have HFE := Lib.hid (HMOD.out.firstC HJ.out T 7)
        rw [← HFE.out] at HFC
        have HC1 := Lib.hid (crB_bd (gr := gr) (tb := false) HGB.out htn HCB2.out)
        have ct := HCT2.out.2 7 htn
        have cX := HCT2.out.2 6 hX8
        have c1t := HC1.out 7 htn
        have c1X := HC1.out 6 hX8
        have gX := HGB.out 6 hX8
        have gcX := HGC.out 6 hX8
        have HCL := HCT2.out.1
        cases ho : firstC T 7 l with
        | none =>
          rw [ho] at HFC
          have HRN : Hid (R = runT gr prL ff1 T l out 6 false (setC (crB gr 7 false (fun _ => 0)) 7 0)) := by
            show _ = _
            rw [HEQ.out, stepR_none ho, HX.out]
          have HFN : Hid (FuN ff1 T l 6 false (setC (crB gr 7 false (fun _ => 0)) 7 0)) := by
            have h9 := FuN.on (pr := prL) (cr' := setC (crB gr 7 false (fun _ => 0)) 7 0) HFUN.out HGB.out htn (fun k hk hw => by have := HOKJ.out k hk (isW_t.1 hw).1; omega) (fun k hk hw => by have := HOKJ.out k hk (isW_t.1 hw).1; show l[k]!.l ≤ 20; omega) (.inl ⟨ho, rfl⟩)
            rw [HX.out] at h9
            exact h9
          have HCT3 := Lib.hid (HCT2.out.none htn hX8)
          have hbn : bI none = -1 := rfl
          unfold RetFst at HFC
          rw [hbn] at HFC
          clear ho hbn
          go_wp2_with fail
          refine HFC.out.mono ?_; rintro e w9a ⟨rfl, hb9a⟩
          go_wp2_with fail
          go_quiet (fail)
          obtain ⟨w9, hw9⟩ : ∃ w9, w9a.drewN nq = w9 := ⟨_, rfl⟩
          have hb9 : Below w8.heap.size w8 w9 := by rw [← hw9]; exact below_drewN hb9a _
          rw [hw9]
          clear hw9 hb9a
          have hs9 := (row_parts HO8.out).2.1
          have ho9 := row_far HO8.out (Wr.of_below hb9 w8.heap.size w8.heap.size) (.inl hs9)
          have hp9 := HP8.out.step hb9
          have hB9 := HB8.out.trans (hb9.mono HB8.out.size)
          have fz9 := World.ownsRow.frozenAt ho9 7
          have cc9 := row_cell ho9 HCL 7 htn
          have hwa := (Wr.refl b8 (b8 + 1) w9).at 7 (.int .i64 0)
          have hoa := out_row8 (k := 7) (x := 0) ho9
          have hpa := PN.far5 hp9 hwa (by omega) (fun b o n' c' hv => Nat.lt_of_lt_of_le (HVX.out b o n' c' hv) hb8)
          have hBa := hB9.setCell (p := ⟨b8, 7, none⟩) (by show w.heap.size ≤ b8; omega) (.int .i64 0)
          have fza := World.ownsRow.frozenAt hoa 6
          have cca := row_cell hoa (by rw [List.length_set]; exact HCL) 6 hX8
          have xca := (hBa.cell (p := ⟨b2, off2 + 6, none⟩) HGW.out).trans gcX
          have cXb : 0 ≤ (C2.set 7 0).getD 6 0 ∧ (C2.set 7 0).getD 6 0 ≤ 200000 := by
            rw [getD_set _ _ _ _ (by rw [HCL]; exact htn)]
            split
            · omega
            · rw [cX]; omega
          obtain ⟨VX, hVX⟩ : ∃ x, (C2.set 7 0).getD 6 0 = x := ⟨_, rfl⟩
          obtain ⟨GX, hGX⟩ : ∃ x, gr.getD 6 0 = x := ⟨_, rfl⟩
          rw [hVX] at cca cXb HCT3
          rw [hGX] at xca gX HCT3
          have eS : IntKind.i64.wrap (VX + GX) = VX + GX := IntWalk.i64_in _ (by omega)
          have HOA := Lib.hid (out_row8 (k := 6) (x := VX + GX) hoa)
          have HPA := Lib.hid (PN.far5 hpa ((Wr.refl b8 (b8 + 1) _).at 6 (.int .i64 (VX + GX))) (by omega) (fun b o n' c' hv => Nat.lt_of_lt_of_le (HVX.out b o n' c' hv) hb8))
          have HBA := Lib.hid (hBa.setCell (p := ⟨b8, 6, none⟩) (by show w.heap.size ≤ b8; omega) (.int .i64 (VX + GX)))
          clear hb9 hs9 ho9 hp9 hB9 hwa hoa hpa hBa hVX hGX ct cX c1t c1X gcX HCL
          go_wp2_with fail
          go_region
          all_goals
            go_wp2_with fail
            go_roundg ff1
            case rel => exact ⟨T, l, sp, out, 6, false, _, _, b8, 8, rfl, rfl, HMOD.out, HRN, hT0, HT2.out, hX8, by have := HFF.out; omega, HC1.out.set htn (Int.le_refl _) (HC1.out _ htn).1, Fu.norm HFN.out HIDM.out, HCT3.out, hb8, HOA.out, by rw [HDN.out]; exact HPA.out.drewN 1, HBA.out.drew⟩
            case measure => omega
        | some i =>
          rw [ho] at HFC
          obtain ⟨i1, i2, i3⟩ := firstC_some ho
          have hin : i < n := by have := HMOD.out.left.1; have := HN.out; omega
          have hii : (i : Int) < (n : Int) := by omega
          have hi0 : ¬ ((i : Int) < 0) := by omega
          have hi1 : (0 : Int) ≤ (i : Int) := by omega
          have hbn : bI (some i) = (i : Int) := rfl
          unfold RetFst at HFC
          rw [hbn] at HFC
          have HON : Hid (crB gr 7 false (fun _ => 0) 7 < prL l[i]! → FuN ff1 T l 6 false (crB gr 7 false (fun _ => 0)) ∧ R = runT gr prL ff1 T l out 6 false (crB gr 7 false (fun _ => 0))) := fun h9 => by
            have h8 := FuN.on (pr := prL) (cr' := crB gr 7 false (fun _ => 0)) HFUN.out HGB.out htn (fun k hk hw => by have := HOKJ.out k hk (isW_t.1 hw).1; omega) (fun k hk hw => by have := HOKJ.out k hk (isW_t.1 hw).1; show l[k]!.l ≤ 20; omega) (.inr ⟨i, ho, h9, rfl⟩)
            rw [HX.out] at h8
            refine ⟨h8, ?_⟩
            rw [HEQ.out, stepR_on ho h9, HX.out]
          have HGO : Hid (prL l[i]! ≤ crB gr 7 false (fun _ => 0) 7 → R = runT gr prL ff1 (T + l[i]!.l) (l.set i jbZ) (out.set i T) 7 true (setC (crB gr 7 false (fun _ => 0)) 7 (crB gr 7 false (fun _ => 0) 7 - prL l[i]!))) := fun h9 => by
            rw [HEQ.out, stepR_go (pr := prL) ho h9]
          have hlpos : 1 ≤ l[i]!.l := by have := HOKJ.out i i1 (isW_t.1 i2).1; omega
          have HFG : Hid (prL l[i]! ≤ crB gr 7 false (fun _ => 0) 7 → ∀ T', Fu ff1 T' (l.set i jbZ) 7 true (setC (crB gr 7 false (fun _ => 0)) 7 (crB gr 7 false (fun _ => 0) 7 - prL l[i]!))) := fun h9 T' =>
            FuN.begin2 HFUN.out HFST.out i1 (isW_t.1 i2).1 (fun k hk hj => by have := (HOKJ.out.set i i1) k (by rw [List.length_set]; exact hk) hj; omega) (fun c hc => by
              by_cases e : c = 7
              · subst e; rw [setC_same]; omega
              · rw [setC_ne _ _ e]; exact (HC1.out c hc).1)
          have HLI : Hid (l[i]! = js[i]!) := HMOD.out.left.is (by rw [HN.out]; exact hin) (isW_t.1 i2).1
          have HPL : Hid (prL l[i]! = js[i]!.l) := by show _ = _; rw [HLI.out]; rfl
          have HCNT : Hid (cntJ l = cntJ (l.set i jbZ) + 1) := cntJ_set i1 (isW_t.1 i2).1
          have HMD := Lib.hid (HMOD.out.put i (by rw [HN.out]; exact hin) T hT0)
          have lb := HTK.out i hin
          obtain ⟨bj, offj, hAA, hbj, _, _, j2⟩ := HJC.out i hin
          subst hAA
          clear ho hbn i1 i2 i3 hlpos
          obtain ⟨LL, hLL⟩ : ∃ x, js[i]!.l = x := ⟨_, rfl⟩
          have HLL2 := Lib.hid hLL
          rw [hLL] at lb j2
          obtain ⟨CT, hCT⟩ : ∃ x, C2.getD 7 0 = x := ⟨_, rfl⟩
          have HCTE : Hid (CT = crB gr 7 false (fun _ => 0) 7) := by show _ = _; rw [← hCT]; exact ct
          have HCTV := Lib.hid hCT
          have ctb : 0 ≤ CT ∧ CT ≤ 200000 := by rw [← hCT, ct]; omega
          clear hLL
          go_wp2_with fail
          refine HFC.out.mono ?_; rintro e w9a ⟨rfl, hb9a⟩
          have hs9a := (row_parts HO8.out).2.1
          have ho9a := row_far HO8.out (Wr.of_below hb9a w8.heap.size w8.heap.size) (.inl hs9a)
          have cc9a := row_cell ho9a HCL 7 htn
          rw [hCT] at cc9a
          have cj9a := ((HB8.out.trans (hb9a.mono HB8.out.size)).cell (p := ⟨bj, offj + i * 3 + 2, none⟩) hbj).trans j2
          clear ho9a hCT
          go_wp2_with fail
          by_cases hle : LL ≤ CT
          · have HRN := Lib.hid (HGO.out (by rw [HPL.out, HLL2.out, ← HCTE.out]; exact hle))
            have HFG2 := Lib.hid (HFG.out (by rw [HPL.out, HLL2.out, ← HCTE.out]; exact hle))
            have HPV : Hid (prL l[i]! = LL) := HPL.out.trans HLL2.out
            rw [HPV.out] at HRN HFG2
            have HLE := Lib.hid hle
            go_quiet (fail)
            obtain ⟨w9, hw9⟩ : ∃ w9, w9a.drewN nq = w9 := ⟨_, rfl⟩
            have hb9 : Below w8.heap.size w8 w9 := by rw [← hw9]; exact below_drewN hb9a _
            rw [hw9]
            clear hw9 hb9a cc9a cj9a
            have ho9 := row_far HO8.out (Wr.of_below hb9 w8.heap.size w8.heap.size) (.inl hs9a)
            have hp9 := HP8.out.step hb9
            have hB9 := HB8.out.trans (hb9.mono HB8.out.size)
            have fz9 := World.ownsRow.frozenAt ho9 7
            have cc9 := row_cell ho9 HCL 7 htn
            rw [HCTV.out] at cc9
            have cj9 := (hB9.cell (p := ⟨bj, offj + i * 3 + 2, none⟩) hbj).trans j2
            have eS : IntKind.i64.wrap (CT - LL) = CT - LL := IntWalk.i64_in _ (by omega)
            have hwa := (Wr.refl b8 (b8 + 1) w9).at 7 (.int .i64 (CT - LL))
            have HOA := Lib.hid (out_row8 (k := 7) (x := CT - LL) ho9)
            have HPA := Lib.hid (PN.far5 hp9 hwa (by omega) (fun b o n' c' hv => Nat.lt_of_lt_of_le (HVX.out b o n' c' hv) hb8))
            have HBA := Lib.hid (hB9.setCell (p := ⟨b8, 7, none⟩) (by show w.heap.size ≤ b8; omega) (.int .i64 (CT - LL)))
            clear hb9 ho9 hp9 hB9 hwa
            have HBEG := Lib.hid (prBeginW_any g _ vs1 js sp T dn i (w9.setCell ⟨b8, 7, none⟩ (.int .i64 (CT - LL))).drew (HPA.out.drewN 1) (by rw [HN.out]; exact hin) HSL.out (by rw [HN.out]; exact hnn) (by omega) (by omega) (by rw [HLL2.out]; omega) hb hb3g HVX.out)
            have hxb : crB gr 7 false (fun _ => 0) 7 = CT := HCTE.out.symm
            have HCB3 : Hid (Cb ff1 (setC (crB gr 7 false (fun _ => 0)) 7 (crB gr 7 false (fun _ => 0) 7 - LL))) := HC1.out.set htn (by rw [hxb]; omega) (by omega)
            have HCT3 : Hid (CrD gr 7 true (setC (crB gr 7 false (fun _ => 0)) 7 (crB gr 7 false (fun _ => 0) 7 - LL)) (C2.set 7 (CT - LL))) := by
              have h9 := HCT2.out.take htn LL
              rw [HCTV.out] at h9
              exact h9
            clear hxb ct cX c1t c1X gcX HCL hs9a
            go_wp2_with fail
            go_region
            all_goals
              go_wp2_with fail
              refine HBEG.out.mono ?_; rintro e w10 ⟨rfl, hp10, hb10, hw10⟩
              have HP10 := Lib.hid hp10
              have HB10 : Hid (Below w.heap.size w w10) := HBA.out.drew.trans (hb10.mono hgle)
              have HO10 : Hid (w10.ownsRow hb 3 1 (.slice (some ⟨b8, 0, none⟩) 8 8) 8 (ics (C2.set 7 (CT - LL)))) := row_far (show World.ownsRow (w9.setCell ⟨b8, 7, none⟩ (.int .i64 (CT - LL))).drew hb 3 1 (.slice (some ⟨b8, 0, none⟩) 8 8) 8 (ics (C2.set 7 (CT - LL))) from HOA.out) hw10 (.inr hb8)
              clear hp10 hb10 hw10
              go_wp2_with fail
              go_roundg ff1
              case rel =>
                have hlI := HLI.out
                have hcI := HCNT.out
                have hdI := HDN.out
                have hLI := HLL2.out
                refine ⟨T + js[i]!.l, l.set i jbZ, sp.set i T, out.set i T, 7, true, _, _, b8, 8, rfl, rfl, HMD.out, ?_, by omega, by omega, htn, by have := HFF.out; omega, HCB3.out, HFG2.out _, HCT3.out, hb8, HO10.out, ?_, HB10.out⟩
                · rw [← hlI]; exact HRN
                · have e9 : dn + 1 = (n : Int) - (cntJ (l.set i jbZ) : Int) := by omega
                  rw [← e9]; exact HP10.out
              case measure => omega
          · obtain ⟨hfn, hrn⟩ := HON.out (by rw [HPL.out, HLL2.out, ← HCTE.out]; omega)
            have HFN := Lib.hid hfn
            have HRN := Lib.hid hrn
            have hled : decide (LL ≤ CT) = false := decide_eq_false hle
            have HCT3 := Lib.hid (HCT2.out.on hX8)
            clear hfn hrn
            go_quiet (fail)
            obtain ⟨w9, hw9⟩ : ∃ w9, w9a.drewN nq = w9 := ⟨_, rfl⟩
            have hb9 : Below w8.heap.size w8 w9 := by rw [← hw9]; exact below_drewN hb9a _
            rw [hw9]
            clear hw9 hb9a cc9a cj9a hle hled
            have ho9 := row_far HO8.out (Wr.of_below hb9 w8.heap.size w8.heap.size) (.inl hs9a)
            have hp9 := HP8.out.step hb9
            have hB9 := HB8.out.trans (hb9.mono HB8.out.size)
            have fza := World.ownsRow.frozenAt ho9 6
            have cca := row_cell ho9 HCL 6 hX8
            have xca := (hB9.cell (p := ⟨b2, off2 + 6, none⟩) HGW.out).trans gcX
            have cXb : 0 ≤ C2.getD 6 0 ∧ C2.getD 6 0 ≤ 200000 := by rw [cX]; omega
            obtain ⟨VX, hVX⟩ : ∃ x, C2.getD 6 0 = x := ⟨_, rfl⟩
            obtain ⟨GX, hGX⟩ : ∃ x, gr.getD 6 0 = x := ⟨_, rfl⟩
            rw [hVX] at cca cXb HCT3
            rw [hGX] at xca gX HCT3
            have eS : IntKind.i64.wrap (VX + GX) = VX + GX := IntWalk.i64_in _ (by omega)
            have HOA := Lib.hid (out_row8 (k := 6) (x := VX + GX) ho9)
            have HPA := Lib.hid (PN.far5 hp9 ((Wr.refl b8 (b8 + 1) w9).at 6 (.int .i64 (VX + GX))) (by omega) (fun b o n' c' hv => Nat.lt_of_lt_of_le (HVX.out b o n' c' hv) hb8))
            have HBA := Lib.hid (hB9.setCell (p := ⟨b8, 6, none⟩) (by show w.heap.size ≤ b8; omega) (.int .i64 (VX + GX)))
            clear hb9 ho9 hp9 hB9 hVX hGX ct cX c1t c1X gcX HCL hs9a
            go_wp2_with fail
            go_region
            all_goals
              go_wp2_with fail
              go_roundg ff1
              case rel => exact ⟨T, l, sp, out, 6, false, _, _, b8, 8, rfl, rfl, HMOD.out, HRN, hT0, HT2.out, hX8, by have := HFF.out; omega, HC1.out, Fu.norm HFN.out HIDM.out, HCT3.out, hb8, HOA.out, by rw [HDN.out]; exact HPA.out.drewN 1, HBA.out.drew⟩
              case measure => omega
      · have hdummy : True := trivial
        clear hdummy
        obtain ⟨rfl, rfl, rfl⟩ := HNNO.out hskp
        have hsd : decide (now < T) = false := decide_eq_false hskp
        have HCT2 : Hid (CrD gr tn bn cn C) := HCT.out
        have htn : tn < 8 := HTX2.out
        have htni : ((tn : Nat) : Int) < 8 := by omega
        rw [hsd] at HSKIP
        clear hskp hsd HNY HNNO HCT
        have hgle : w.heap.size ≤ g := by omega
        have hm : ((tn : Int) + 7).tmod 8 = ((nextC tn : Nat) : Int) := by
          unfold nextC
          rw [Int.tmod_eq_emod_of_nonneg (by omega)]
          omega
        obtain ⟨X, hX⟩ : ∃ X : Nat, nextC tn = X := ⟨_, rfl⟩
        have hX8 : X < 8 := by rw [← hX]; exact nextC_lt _
        rw [hX] at hm
        have HX := Lib.hid hX
        have e1 : IntKind.i64.wrap ((tn : Int) + 7) = (tn : Int) + 7 := IntWalk.i64_in _ (by omega)
        have e2 : IntKind.i64.wrap (X : Int) = (X : Int) := IntWalk.i64_in _ (by omega)
        have hXi : (X : Int) < 8 := by omega
        clear hX
        go_wp2_with fail
        refine HSKIP.out.mono ?_; rintro e w8 ⟨rfl, hp8, hb8b, hw8⟩
        have HP8 := Lib.hid hp8
        have HB8 := Lib.hid (HBW.out.trans (hb8b.mono hgle))
        have HO8 := Lib.hid (row_far HRW.out hw8 (.inr (by omega)))
        clear hp8 hb8b hw8
        have HFC := Lib.hid (prFirst_any g _ vs1 js sp T dn ((tn : Nat) : Int) w8 HP8.out HSL.out (by rw [HN.out]; exact hnn))
        have HFE := Lib.hid (HMOD.out.firstC HJ.out T tn)
        rw [← HFE.out] at HFC
        have HC1 := Lib.hid (crB_bd (gr := gr) (tb := bn) HGB.out htn HCB2.out)
        have ct := HCT2.out.2 tn htn
        have cX := HCT2.out.2 X hX8
        have c1t := HC1.out tn htn
        have c1X := HC1.out X hX8
        have gX := HGB.out X hX8
        have gcX := HGC.out X hX8
        have HCL := HCT2.out.1
        cases ho : firstC T tn l with
        | none =>
          rw [ho] at HFC
          have HRN : Hid (R = runT gr prL ff1 T l out X false (setC (crB gr tn bn cn) tn 0)) := by
            show _ = _
            rw [HEQ.out, stepR_none ho, HX.out]
          have HFN : Hid (FuN ff1 T l X false (setC (crB gr tn bn cn) tn 0)) := by
            have h9 := FuN.on (pr := prL) (cr' := setC (crB gr tn bn cn) tn 0) HFUN.out HGB.out htn (fun k hk hw => by have := HOKJ.out k hk (isW_t.1 hw).1; omega) (fun k hk hw => by have := HOKJ.out k hk (isW_t.1 hw).1; show l[k]!.l ≤ 20; omega) (.inl ⟨ho, rfl⟩)
            rw [HX.out] at h9
            exact h9
          have HCT3 := Lib.hid (HCT2.out.none htn hX8)
          have hbn : bI none = -1 := rfl
          unfold RetFst at HFC
          rw [hbn] at HFC
          clear ho hbn
          go_wp2_with fail
          refine HFC.out.mono ?_; rintro e w9a ⟨rfl, hb9a⟩
          go_wp2_with fail
          go_quiet (fail)
          obtain ⟨w9, hw9⟩ : ∃ w9, w9a.drewN nq = w9 := ⟨_, rfl⟩
          have hb9 : Below w8.heap.size w8 w9 := by rw [← hw9]; exact below_drewN hb9a _
          rw [hw9]
          clear hw9 hb9a
          have hs9 := (row_parts HO8.out).2.1
          have ho9 := row_far HO8.out (Wr.of_below hb9 w8.heap.size w8.heap.size) (.inl hs9)
          have hp9 := HP8.out.step hb9
          have hB9 := HB8.out.trans (hb9.mono HB8.out.size)
          have fz9 := World.ownsRow.frozenAt ho9 tn
          have cc9 := row_cell ho9 HCL tn htn
          have hwa := (Wr.refl b8 (b8 + 1) w9).at tn (.int .i64 0)
          have hoa := out_row8 (k := tn) (x := 0) ho9
          have hpa := PN.far5 hp9 hwa (by omega) (fun b o n' c' hv => Nat.lt_of_lt_of_le (HVX.out b o n' c' hv) hb8)
          have hBa := hB9.setCell (p := ⟨b8, tn, none⟩) (by show w.heap.size ≤ b8; omega) (.int .i64 0)
          have fza := World.ownsRow.frozenAt hoa X
          have cca := row_cell hoa (by rw [List.length_set]; exact HCL) X hX8
          have xca := (hBa.cell (p := ⟨b2, off2 + X, none⟩) HGW.out).trans gcX
          have cXb : 0 ≤ (C.set tn 0).getD X 0 ∧ (C.set tn 0).getD X 0 ≤ 200000 := by
            rw [getD_set _ _ _ _ (by rw [HCL]; exact htn)]
            split
            · omega
            · rw [cX]; omega
          obtain ⟨VX, hVX⟩ : ∃ x, (C.set tn 0).getD X 0 = x := ⟨_, rfl⟩
          obtain ⟨GX, hGX⟩ : ∃ x, gr.getD X 0 = x := ⟨_, rfl⟩
          rw [hVX] at cca cXb HCT3
          rw [hGX] at xca gX HCT3
          have eS : IntKind.i64.wrap (VX + GX) = VX + GX := IntWalk.i64_in _ (by omega)
          have HOA := Lib.hid (out_row8 (k := X) (x := VX + GX) hoa)
          have HPA := Lib.hid (PN.far5 hpa ((Wr.refl b8 (b8 + 1) _).at X (.int .i64 (VX + GX))) (by omega) (fun b o n' c' hv => Nat.lt_of_lt_of_le (HVX.out b o n' c' hv) hb8))
          have HBA := Lib.hid (hBa.setCell (p := ⟨b8, X, none⟩) (by show w.heap.size ≤ b8; omega) (.int .i64 (VX + GX)))
          clear hb9 hs9 ho9 hp9 hB9 hwa hoa hpa hBa hVX hGX ct cX c1t c1X gcX HCL
          go_wp2_with fail
          go_region
          all_goals
            go_wp2_with fail
            go_roundg ff1
            case rel => exact ⟨T, l, sp, out, X, false, _, _, b8, c8, rfl, rfl, HMOD.out, HRN, hT0, HT2.out, hX8, by have := HFF.out; omega, HC1.out.set htn (Int.le_refl _) (HC1.out _ htn).1, Fu.norm HFN.out HIDM.out, HCT3.out, hb8, HOA.out, by rw [HDN.out]; exact HPA.out.drewN 1, HBA.out.drew⟩
            case measure => omega
        | some i =>
          rw [ho] at HFC
          obtain ⟨i1, i2, i3⟩ := firstC_some ho
          have hin : i < n := by have := HMOD.out.left.1; have := HN.out; omega
          have hii : (i : Int) < (n : Int) := by omega
          have hi0 : ¬ ((i : Int) < 0) := by omega
          have hi1 : (0 : Int) ≤ (i : Int) := by omega
          have hbn : bI (some i) = (i : Int) := rfl
          unfold RetFst at HFC
          rw [hbn] at HFC
          have HON : Hid (crB gr tn bn cn tn < prL l[i]! → FuN ff1 T l X false (crB gr tn bn cn) ∧ R = runT gr prL ff1 T l out X false (crB gr tn bn cn)) := fun h9 => by
            have h8 := FuN.on (pr := prL) (cr' := crB gr tn bn cn) HFUN.out HGB.out htn (fun k hk hw => by have := HOKJ.out k hk (isW_t.1 hw).1; omega) (fun k hk hw => by have := HOKJ.out k hk (isW_t.1 hw).1; show l[k]!.l ≤ 20; omega) (.inr ⟨i, ho, h9, rfl⟩)
            rw [HX.out] at h8
            refine ⟨h8, ?_⟩
            rw [HEQ.out, stepR_on ho h9, HX.out]
          have HGO : Hid (prL l[i]! ≤ crB gr tn bn cn tn → R = runT gr prL ff1 (T + l[i]!.l) (l.set i jbZ) (out.set i T) tn true (setC (crB gr tn bn cn) tn (crB gr tn bn cn tn - prL l[i]!))) := fun h9 => by
            rw [HEQ.out, stepR_go (pr := prL) ho h9]
          have hlpos : 1 ≤ l[i]!.l := by have := HOKJ.out i i1 (isW_t.1 i2).1; omega
          have HFG : Hid (prL l[i]! ≤ crB gr tn bn cn tn → ∀ T', Fu ff1 T' (l.set i jbZ) tn true (setC (crB gr tn bn cn) tn (crB gr tn bn cn tn - prL l[i]!))) := fun h9 T' =>
            FuN.begin2 HFUN.out HFST.out i1 (isW_t.1 i2).1 (fun k hk hj => by have := (HOKJ.out.set i i1) k (by rw [List.length_set]; exact hk) hj; omega) (fun c hc => by
              by_cases e : c = tn
              · subst e; rw [setC_same]; omega
              · rw [setC_ne _ _ e]; exact (HC1.out c hc).1)
          have HLI : Hid (l[i]! = js[i]!) := HMOD.out.left.is (by rw [HN.out]; exact hin) (isW_t.1 i2).1
          have HPL : Hid (prL l[i]! = js[i]!.l) := by show _ = _; rw [HLI.out]; rfl
          have HCNT : Hid (cntJ l = cntJ (l.set i jbZ) + 1) := cntJ_set i1 (isW_t.1 i2).1
          have HMD := Lib.hid (HMOD.out.put i (by rw [HN.out]; exact hin) T hT0)
          have lb := HTK.out i hin
          obtain ⟨bj, offj, hAA, hbj, _, _, j2⟩ := HJC.out i hin
          subst hAA
          clear ho hbn i1 i2 i3 hlpos
          obtain ⟨LL, hLL⟩ : ∃ x, js[i]!.l = x := ⟨_, rfl⟩
          have HLL2 := Lib.hid hLL
          rw [hLL] at lb j2
          obtain ⟨CT, hCT⟩ : ∃ x, C.getD tn 0 = x := ⟨_, rfl⟩
          have HCTE : Hid (CT = crB gr tn bn cn tn) := by show _ = _; rw [← hCT]; exact ct
          have HCTV := Lib.hid hCT
          have ctb : 0 ≤ CT ∧ CT ≤ 200000 := by rw [← hCT, ct]; omega
          clear hLL
          go_wp2_with fail
          refine HFC.out.mono ?_; rintro e w9a ⟨rfl, hb9a⟩
          have hs9a := (row_parts HO8.out).2.1
          have ho9a := row_far HO8.out (Wr.of_below hb9a w8.heap.size w8.heap.size) (.inl hs9a)
          have cc9a := row_cell ho9a HCL tn htn
          rw [hCT] at cc9a
          have cj9a := ((HB8.out.trans (hb9a.mono HB8.out.size)).cell (p := ⟨bj, offj + i * 3 + 2, none⟩) hbj).trans j2
          clear ho9a hCT
          go_wp2_with fail
          by_cases hle : LL ≤ CT
          · have HRN := Lib.hid (HGO.out (by rw [HPL.out, HLL2.out, ← HCTE.out]; exact hle))
            have HFG2 := Lib.hid (HFG.out (by rw [HPL.out, HLL2.out, ← HCTE.out]; exact hle))
            have HPV : Hid (prL l[i]! = LL) := HPL.out.trans HLL2.out
            rw [HPV.out] at HRN HFG2
            have HLE := Lib.hid hle
            go_quiet (fail)
            obtain ⟨w9, hw9⟩ : ∃ w9, w9a.drewN nq = w9 := ⟨_, rfl⟩
            have hb9 : Below w8.heap.size w8 w9 := by rw [← hw9]; exact below_drewN hb9a _
            rw [hw9]
            clear hw9 hb9a cc9a cj9a
            have ho9 := row_far HO8.out (Wr.of_below hb9 w8.heap.size w8.heap.size) (.inl hs9a)
            have hp9 := HP8.out.step hb9
            have hB9 := HB8.out.trans (hb9.mono HB8.out.size)
            have fz9 := World.ownsRow.frozenAt ho9 tn
            have cc9 := row_cell ho9 HCL tn htn
            rw [HCTV.out] at cc9
            have cj9 := (hB9.cell (p := ⟨bj, offj + i * 3 + 2, none⟩) hbj).trans j2
            have eS : IntKind.i64.wrap (CT - LL) = CT - LL := IntWalk.i64_in _ (by omega)
            have hwa := (Wr.refl b8 (b8 + 1) w9).at tn (.int .i64 (CT - LL))
            have HOA := Lib.hid (out_row8 (k := tn) (x := CT - LL) ho9)
            have HPA := Lib.hid (PN.far5 hp9 hwa (by omega) (fun b o n' c' hv => Nat.lt_of_lt_of_le (HVX.out b o n' c' hv) hb8))
            have HBA := Lib.hid (hB9.setCell (p := ⟨b8, tn, none⟩) (by show w.heap.size ≤ b8; omega) (.int .i64 (CT - LL)))
            clear hb9 ho9 hp9 hB9 hwa
            have HBEG := Lib.hid (prBeginW_any g _ vs1 js sp T dn i (w9.setCell ⟨b8, tn, none⟩ (.int .i64 (CT - LL))).drew (HPA.out.drewN 1) (by rw [HN.out]; exact hin) HSL.out (by rw [HN.out]; exact hnn) (by omega) (by omega) (by rw [HLL2.out]; omega) hb hb3g HVX.out)
            have hxb : crB gr tn bn cn tn = CT := HCTE.out.symm
            have HCB3 : Hid (Cb ff1 (setC (crB gr tn bn cn) tn (crB gr tn bn cn tn - LL))) := HC1.out.set htn (by rw [hxb]; omega) (by omega)
            have HCT3 : Hid (CrD gr tn true (setC (crB gr tn bn cn) tn (crB gr tn bn cn tn - LL)) (C.set tn (CT - LL))) := by
              have h9 := HCT2.out.take htn LL
              rw [HCTV.out] at h9
              exact h9
            clear hxb ct cX c1t c1X gcX HCL hs9a
            go_wp2_with fail
            go_region
            all_goals
              go_wp2_with fail
              refine HBEG.out.mono ?_; rintro e w10 ⟨rfl, hp10, hb10, hw10⟩
              have HP10 := Lib.hid hp10
              have HB10 : Hid (Below w.heap.size w w10) := HBA.out.drew.trans (hb10.mono hgle)
              have HO10 : Hid (w10.ownsRow hb 3 1 (.slice (some ⟨b8, 0, none⟩) 8 c8) 8 (ics (C.set tn (CT - LL)))) := row_far (show World.ownsRow (w9.setCell ⟨b8, tn, none⟩ (.int .i64 (CT - LL))).drew hb 3 1 (.slice (some ⟨b8, 0, none⟩) 8 c8) 8 (ics (C.set tn (CT - LL))) from HOA.out) hw10 (.inr hb8)
              clear hp10 hb10 hw10
              go_wp2_with fail
              go_roundg ff1
              case rel =>
                have hlI := HLI.out
                have hcI := HCNT.out
                have hdI := HDN.out
                have hLI := HLL2.out
                refine ⟨T + js[i]!.l, l.set i jbZ, sp.set i T, out.set i T, tn, true, _, _, b8, c8, rfl, rfl, HMD.out, ?_, by omega, by omega, htn, by have := HFF.out; omega, HCB3.out, HFG2.out _, HCT3.out, hb8, HO10.out, ?_, HB10.out⟩
                · rw [← hlI]; exact HRN
                · have e9 : dn + 1 = (n : Int) - (cntJ (l.set i jbZ) : Int) := by omega
                  rw [← e9]; exact HP10.out
              case measure => omega
          · obtain ⟨hfn, hrn⟩ := HON.out (by rw [HPL.out, HLL2.out, ← HCTE.out]; omega)
            have HFN := Lib.hid hfn
            have HRN := Lib.hid hrn
            have hled : decide (LL ≤ CT) = false := decide_eq_false hle
            have HCT3 := Lib.hid (HCT2.out.on hX8)
            clear hfn hrn
            go_quiet (fail)
            obtain ⟨w9, hw9⟩ : ∃ w9, w9a.drewN nq = w9 := ⟨_, rfl⟩
            have hb9 : Below w8.heap.size w8 w9 := by rw [← hw9]; exact below_drewN hb9a _
            rw [hw9]
            clear hw9 hb9a cc9a cj9a hle hled
            have ho9 := row_far HO8.out (Wr.of_below hb9 w8.heap.size w8.heap.size) (.inl hs9a)
            have hp9 := HP8.out.step hb9
            have hB9 := HB8.out.trans (hb9.mono HB8.out.size)
            have fza := World.ownsRow.frozenAt ho9 X
            have cca := row_cell ho9 HCL X hX8
            have xca := (hB9.cell (p := ⟨b2, off2 + X, none⟩) HGW.out).trans gcX
            have cXb : 0 ≤ C.getD X 0 ∧ C.getD X 0 ≤ 200000 := by rw [cX]; omega
            obtain ⟨VX, hVX⟩ : ∃ x, C.getD X 0 = x := ⟨_, rfl⟩
            obtain ⟨GX, hGX⟩ : ∃ x, gr.getD X 0 = x := ⟨_, rfl⟩
            rw [hVX] at cca cXb HCT3
            rw [hGX] at xca gX HCT3
            have eS : IntKind.i64.wrap (VX + GX) = VX + GX := IntWalk.i64_in _ (by omega)
            have HOA := Lib.hid (out_row8 (k := X) (x := VX + GX) ho9)
            have HPA := Lib.hid (PN.far5 hp9 ((Wr.refl b8 (b8 + 1) w9).at X (.int .i64 (VX + GX))) (by omega) (fun b o n' c' hv => Nat.lt_of_lt_of_le (HVX.out b o n' c' hv) hb8))
            have HBA := Lib.hid (hB9.setCell (p := ⟨b8, X, none⟩) (by show w.heap.size ≤ b8; omega) (.int .i64 (VX + GX)))
            clear hb9 ho9 hp9 hB9 hVX hGX ct cX c1t c1X gcX HCL hs9a
            go_wp2_with fail
            go_region
            all_goals
              go_wp2_with fail
              go_roundg ff1
              case rel => exact ⟨T, l, sp, out, X, false, _, _, b8, c8, rfl, rfl, HMOD.out, HRN, hT0, HT2.out, hX8, by have := HFF.out; omega, HC1.out, Fu.norm HFN.out HIDM.out, HCT3.out, hb8, HOA.out, by rw [HDN.out]; exact HPA.out.drewN 1, HBA.out.drew⟩
              case measure => omega
end
end Go.Proofs.Yteoggoopfjkdkaa
