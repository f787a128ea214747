/-
  Classes that take turns, the model's side: the first one of a class; eight numbers.
-/
import Derived.Test.YtpencgbhiheiiaaMathTurn
import Derived.Test.YtpencgbhiheiiaaByB
namespace Go.Proofs.Ytpencgbhiheiiaa
open Go.RowKit
set_option maxRecDepth 100000
set_option linter.unusedVariables false

/-- The first one of a class in the model, or -1. -/
def fcI (js : List Jb) (sp : List Int) (now : Int) (cl : Int) : Option Nat := bestOf (fun i => wtB js sp now i && decide (js[i]!.c = cl)) (fun _ => 0) js.length
def RetFst (o : Option Nat) (w : World) (e : Ending) (w' : World) : Prop := e = .returned (.int .i64 (bI o)) ∧ Below w.heap.size w w'
theorem fcI_none {js : List Jb} {sp : List Int} {now cl : Int} (h : ∀ j, j < js.length → ¬ (wtB js sp now j = true ∧ js[j]!.c = cl)) : fcI js sp now cl = none := by
  cases h9 : fcI js sp now cl with
  | none => rfl
  | some i =>
    obtain ⟨h1, h2⟩ := bestOf_some h9
    simp only [Bool.and_eq_true, decide_eq_true_eq] at h2
    exact absurd h2 (h i h1)
theorem fcI_some {js : List Jb} {sp : List Int} {now cl : Int} {k : Nat} (hk : k < js.length) (h : wtB js sp now k = true ∧ js[k]!.c = cl) (hl : ∀ j, j < k → ¬ (wtB js sp now j = true ∧ js[j]!.c = cl)) : fcI js sp now cl = some k := by
  refine bestOf_first (w := fun i => wtB js sp now i && decide (js[i]!.c = cl)) hk (by show (wtB js sp now k && decide (js[k]!.c = cl)) = true; rw [h.1, decide_eq_true h.2]; rfl) (fun j hj => ?_)
  have := hl j hj
  cases h9 : (wtB js sp now j && decide (js[j]!.c = cl))
  · rfl
  · simp only [Bool.and_eq_true, decide_eq_true_eq] at h9
    exact absurd h9 this
/-- It is the program's. -/
theorem Mod.firstC {js l : List Jb} {sp out : List Int} (h : Mod js l sp out) (hA : areJb js = true) (T : Int) (tc : Nat) : Proofs.Ytpencgbhiheiiaa.firstC T tc l = fcI js sp T tc := by
  unfold Proofs.Ytpencgbhiheiiaa.firstC fcI
  rw [h.left.1]
  refine bestOf_congr (fun i hi => ?_) (fun i hi hw => rfl)
  have h1 := h.waits hA T hi
  rw [h1]
  cases hw : wtB js sp T i
  · rfl
  · rw [hw] at h1
    rw [h.left.is hi (isW_t.1 h1).1]
set_option maxHeartbeats 4000000 in
theorem prFirst_any (g : Nat) (vj vs : Value) (js : List Jb) (sp : List Int) (now done : Int) (cl : Int) (w : World) (h : PN w g vj js vs sp now done) (hl : sp.length = js.length) (hn : js.length ≤ 20) :
    Calls Try.prog 46 #[.pointer (some ⟨g, 0, none⟩), .int .i64 cl] w (RetFst (fcI js sp now cl) w) := by
  have hgs := h.lt
  have c0 := h.bk.cell 0
  simp at c0
  have HJ := Lib.hid (fun k (hk : k < js.length) => left_cells h.jobs k hk)
  have HPN := Lib.hid h
  have HNO := Lib.hid (fun h9 => fcI_none (js := js) (sp := sp) (now := now) (cl := cl) h9)
  have HYE := Lib.hid (fun (k : Nat) (hk : k < js.length) h9 h8 => fcI_some (js := js) (sp := sp) (now := now) (cl := cl) hk h9 h8)
  obtain ⟨O, hO⟩ : ∃ x, fcI js sp now cl = x := ⟨_, rfl⟩
  rw [hO] at HNO HYE ⊢
  clear hO
  obtain ⟨A, c, rfl, _⟩ := h.jobs
  have HWT := Lib.hid (fun (i : Nat) (wx : World) (hi : i < js.length) (hx : Below w.heap.size w wx) => prWaits_any g _ vs js sp now done i wx (HPN.out.step hx) hi hl hn)
  obtain ⟨n, hN⟩ : ∃ n, js.length = n := ⟨_, rfl⟩
  rw [hN] at HJ HNO HYE HWT c0 hn
  have hn' : (n : Int) ≤ 20 := by omega
  clear h hN hl
  go_enter Try.func46, Try.ntmps46
  go_wp2_with fail
  go_loopg [12] n (fun f i wq => ∃ m : Nat, m ≤ n ∧ f = n - m ∧ i = .int .i64 m ∧ (∀ q, q < m → ¬ (wtB js sp now q = true ∧ js[q]!.c = cl)) ∧ Below w.heap.size w wq)
  case atStart => exact ⟨0, Nat.zero_le _, rfl, rfl, fun q hq => absurd hq (by omega), Below.refl _ _⟩
  case round =>
    obtain ⟨m, hm, hgm, rfl, hno, hbm⟩ := hrel
    have HGM := Lib.hid hgm
    have HNQ := Lib.hid hno
    have HBM := Lib.hid hbm
    have hs2 := hbm.size
    clear hgm hno
    by_cases hlt : m < n
    · have hmi : (m : Int) < (n : Int) := by omega
      obtain ⟨b, off, c9, hv, hb, e0, e1, e2⟩ := HJ.out m hlt
      injection hv with hA _ hC
      subst hA; subst hC
      have hbw : b < w.heap.size := by omega
      have y0 := (hbm.cell (p := ⟨b, off + m * 3, none⟩) hbw).trans e0
      have y1 := (hbm.cell (p := ⟨b, off + m * 3 + 1, none⟩) hbw).trans e1
      have y2 := (hbm.cell (p := ⟨b, off + m * 3 + 2, none⟩) hbw).trans e2
      have HNX : Hid (¬ (wtB js sp now m = true ∧ js[m]!.c = cl) → ∀ q, q < m + 1 → ¬ (wtB js sp now q = true ∧ js[q]!.c = cl)) := fun h9 q hq => by
        by_cases e : q = m
        · rw [e]; exact h9
        · exact HNQ.out q (by omega)
      have HFI : Hid (wtB js sp now m = true → js[m]!.c = cl → O = some m) := fun h9 h8 => (HYE.out m hlt ⟨h9, h8⟩ HNQ.out)
      have HCY : Hid (∀ z, js[m]! = z → js[m]!.c = z.c) := fun z hz => by rw [hz]
      clear e0 e1 e2
      generalize js[m]! = y at y0 y1 y2 HNX HFI HCY
      obtain ⟨yt, yc, yl⟩ := y
      simp only at y0 y1 y2 HNX HFI
      have HBX := Lib.hid (HBM.out.alloc hs2 (.cells #[.int .i64 yt, .int .i64 yc, .int .i64 yl] 41))
      have hBX := BK.made wr 41 #[.int .i64 yt, .int .i64 yc, .int .i64 yl]
      have HWQ := Lib.hid (HWT.out m _ hlt HBX.out)
      clear hbm
      cases hw : wtB js sp now m
      · rw [hw] at HWQ
        have HX := Lib.hid (HNX.out (fun h9 => by rw [hw] at h9; cases h9.1))
        clear hw HNX HFI
        go_wp2_with fail
        refine HWQ.out.mono ?_; rintro e w3 ⟨rfl, m3, rfl⟩
        go_wp2_with fail
        go_roundg (n - (m + 1))
        case rel => exact ⟨m + 1, by omega, rfl, by go_num, HX.out, below_drewN HBX.out m3⟩
        case measure => have := HGM.out; omega
      · rw [hw] at HWQ
        by_cases hc : yc = cl
        · have hq : (yc == cl) = true := by simp [hc]
          have HF := Lib.hid (HFI.out hw hc)
          clear hw hc HNX HFI
          go_wp2_with fail
          refine HWQ.out.mono ?_; rintro e w3 ⟨rfl, m3, rfl⟩
          have z1 : ((wr.alloc (.cells #[.int .i64 yt, .int .i64 yc, .int .i64 yl] 41)).drewN m3).cell? ⟨wr.heap.size, 1, none⟩ = some (.int .i64 yc) := hBX.cell 1
          go_wp2_with fail
          go_ret
          exact ⟨by rw [HF.out]; rfl, below_drewN HBX.out m3⟩
        · have hq : (yc == cl) = false := by simp [hc]
          have HX := Lib.hid (HNX.out (fun h9 => hc h9.2))
          clear hw hc HNX HFI
          go_wp2_with fail
          refine HWQ.out.mono ?_; rintro e w3 ⟨rfl, m3, rfl⟩
          have z1 : ((wr.alloc (.cells #[.int .i64 yt, .int .i64 yc, .int .i64 yl] 41)).drewN m3).cell? ⟨wr.heap.size, 1, none⟩ = some (.int .i64 yc) := hBX.cell 1
          go_wp2_with fail
          go_roundg (n - (m + 1))
          case rel => exact ⟨m + 1, by omega, rfl, by go_num, HX.out, below_drewN HBX.out m3⟩
          case measure => have := HGM.out; omega
    · obtain rfl : n = m := by omega
      have HF := Lib.hid (HNO.out HNQ.out)
      go_wp2_with fail
      go_ret
      exact ⟨by rw [HF.out]; rfl, HBM.out⟩
end Go.Proofs.Ytpencgbhiheiiaa
