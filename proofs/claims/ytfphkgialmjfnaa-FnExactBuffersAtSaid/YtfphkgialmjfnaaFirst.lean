/-
  The program's search for the first own cell of a station.
-/
import Derived.Test.YtfphkgialmjfnaaGoS
import Derived.Test.YtfphkgialmjfnaaFirst0
import Derived.Test.YtfphkgialmjfnaaInA
import Derived.Test.YtfphkgialmjfnaaHeld
import Derived.Deep.QuietTactic
import Derived.BigQuiet
namespace Go.Proofs.Ytfphkgialmjfnaa
open Go.RowKit Go.Conc
set_option maxRecDepth 100000
set_option linter.unusedVariables false

/-- What the search answers. -/
def firstV : Option Nat → Value
  | some i => .tuple #[.int .i64 (i : Int), .bool true]
  | none => .tuple #[.int .i64 0, .bool false]
set_option maxHeartbeats 4000000 in
theorem firstOwn_any (x : Ir) (l : List Ms) (w0 : World) (p : GL) (t : Nat) (v : Nat → Bool) (a : Ist) (s : Nat) (w : World) (hall : ∀ y ∈ l, MsIn x.n y) (hl20 : l.length ≤ 20)
    (hS : GoS w0 w x l p t v a) (hr : RMsS w0 w0.heap.size (.slice p.A l.length p.c) l) (hI : ∀ i, i < l.length → a.I i = -1 ∨ 0 ≤ a.I i) (hs : s ≤ 12) :
    Calls Try.prog 71 #[.pointer (some ⟨p.g, 0, none⟩), .int .i64 s] w (RetV w (firstV ((iwOf x l).sw.next a.I s t))) := by
  obtain ⟨_, _, _, hc⟩ := hr.parts
  have HN1 := Lib.hid (fun j hj hw hno => nextI_some (x := x) (l := l) (F := a.I) (s := s) (t := t) (j := j) hall hj hw hno)
  have HN0 := Lib.hid (fun hno => nextI_none (x := x) (l := l) (F := a.I) (s := s) (t := t) hall hno)
  obtain ⟨N, hN⟩ : ∃ N, N = (iwOf x l).sw.next a.I s t := ⟨_, rfl⟩
  rw [← hN] at HN1 HN0 ⊢
  clear hN
  have hl2 : (l.length : Int) ≤ 20 := by omega
  have hx3 := hS.run.cell 3
  simp only [List.getElem?_toArray, List.getElem?_cons_zero, List.getElem?_cons_succ] at hx3
  have HC := Lib.hid hc
  have HS := Lib.hid hS
  have HI := Lib.hid hI
  clear hc hr hall hI
  obtain ⟨g, hg⟩ : ∃ g, g = p.g := ⟨_, rfl⟩
  rw [← hg] at hx3 ⊢
  have HG := Lib.hid hg
  clear hg hS
  go_enter Try.func71, Try.ntmps71
  go_wp2_with fail
  go_loopw [13] (fun i wr => ∃ j : Nat, j ≤ l.length ∧ i = .int .i64 j ∧ (∀ i', i' < j → ¬ waitsC l a.I s t i') ∧ Below w.heap.size w wr) (fun i _ => l.length - (intOf i).toNat)
  case atStart => exact ⟨0, Nat.zero_le _, rfl, fun i' h => absurd h (Nat.not_lt_zero _), Below.refl _ _⟩
  case round =>
    clear hx3
    obtain ⟨j, hj, rfl, hno, hb⟩ := hrel
    have HNO := Lib.hid hno
    have HB := Lib.hid hb
    have hS1 := HS.out.step hb
    clear hno
    by_cases hlt : j < l.length
    · have hjI : (j : Int) < (l.length : Int) := by omega
      obtain ⟨b, off, hA, hbB, hcell⟩ := HC.out (by omega)
      obtain ⟨hd0, hd1, hd2⟩ := hcell j hlt
      have hc0 := (hS1.bel.cell (p := ⟨b, off + j * 3, none⟩) hbB).trans hd0
      have hc1 := (hS1.bel.cell (p := ⟨b, off + j * 3 + 1, none⟩) hbB).trans hd1
      have hc2 := (hS1.bel.cell (p := ⟨b, off + j * 3 + 2, none⟩) hbB).trans hd2
      clear hd0 hd1 hd2 hcell
      obtain ⟨cf, hvf, hrc⟩ := hS1.ins.at_ j (by rw [tabl_len]; exact hlt)
      rw [tabl_len] at hvf
      have HSN : Hid (¬ waitsC l a.I s t j → ∀ i', i' < j + 1 → ¬ waitsC l a.I s t i') := fun h i' hi' => by
        by_cases e : i' = j
        · rw [e]; exact h
        · exact HNO.out i' (by omega)
      have HWE : Hid (waitsC l a.I s t j ↔ (l[j]!.f = (s : Int) ∧ l[j]!.t ≤ (t : Int) ∧ a.I j < 0)) := Iff.rfl
      generalize l[j]! = y at hc0 hc1 hc2 HWE
      obtain ⟨yt, yf, yo⟩ := y
      simp only at hc0 hc1 hc2 HWE
      have hM := BK.made wr 53 #[.int .i64 yt, .int .i64 yf, .int .i64 yo]
      have hS2 := hS1.step ((Below.refl _ _).alloc (Nat.le_refl _) (.cells #[.int .i64 yt, .int .i64 yf, .int .i64 yo] 53))
      have HB2 := Lib.hid (hb.alloc hb.size (.cells #[.int .i64 yt, .int .i64 yf, .int .i64 yo] 53))
      have hrc2 := hrc.alloc (.cells #[.int .i64 yt, .int .i64 yf, .int .i64 yo] 53)
      have q0 := hM.cell 0
      have q1 := hM.cell 1
      have x4 := hS2.run.cell 4
      have x8 := hS2.run.cell 8
      rw [hvf, ← HG.out] at x8
      rw [← HG.out] at x4
      have r0 := hrc2.cell j (by rw [tabl_len]; exact hlt)
      rw [tabl_at _ _ _ hlt] at r0
      simp only [List.getElem?_toArray, List.getElem?_cons_zero, List.getElem?_cons_succ] at q0 q1 x4 x8
      have hij := HI.out j hlt
      obtain ⟨ib, hib⟩ : ∃ ib, ib = p.ib := ⟨_, rfl⟩
      rw [← hib] at x8 r0
      obtain ⟨fj, hfj⟩ : ∃ fj, fj = a.I j := ⟨_, rfl⟩
      rw [← hfj] at r0 HWE hij
      rw [hA]
      have hgl : g < wr.heap.size := by have := hS1.run.1; rw [HG.out]; exact this
      have hil : ib < wr.heap.size := by have := hrc.lt; rw [hib]; exact this
      have hz : (wr.alloc (.cells #[.int .i64 yt, .int .i64 yf, .int .i64 yo] 53)).heap.size = wr.heap.size + 1 := by simp
      clear hfj hM hS2 hrc hrc2 hS1 hb hvf hib hA
      obtain ⟨ub, hub⟩ : ∃ ub, ub = wr.heap.size := ⟨_, rfl⟩
      have HU : Hid (∀ (s : HW (wr.alloc (.cells #[.int .i64 yt, .int .i64 yf, .int .i64 yo] 53))), Below w.heap.size w s.W) := by
        show ∀ _, _
        intro s
        exact HB2.out.trans (s.bel.mono HB2.out.size)
      obtain ⟨w2, hw2⟩ : ∃ w2, w2 = wr.alloc (.cells #[.int .i64 yt, .int .i64 yf, .int .i64 yo] 53) := ⟨_, rfl⟩
      rw [← hw2] at q0 q1 x4 x8 r0 hz HU
      have HW2 := Lib.hid hw2
      clear hw2
      by_cases h1 : yf = (s : Int)
      · subst h1
        by_cases h2 : yt ≤ (t : Int)
        · by_cases h3 : fj = -1
          · subst h3
            have HR := Lib.hid (HN1.out j hlt (HWE.out.2 ⟨rfl, h2, by omega⟩) HNO.out)
            clear hij
            go_upto_region 4 with fail
            rw [← HW2.out, ← hub]
            rw [← hub] at q0 q1
            have lz0 : ub < w2.heap.size := by omega
            have lz1 : g < w2.heap.size := by omega
            have lz2 : ib < w2.heap.size := by omega
            clear hub hz hgl hil
            have a0 := fun (s : HW w2) => HW.cellIs (p := ⟨ub, 0, none⟩) q0 lz0 s
            have a1 := fun (s : HW w2) => HW.cellIs (p := ⟨ub, 1, none⟩) q1 lz0 s
            have a2 := fun (s : HW w2) => HW.cellIs (p := ⟨g, 4, none⟩) x4 lz1 s
            have a3 := fun (s : HW w2) => HW.cellIs (p := ⟨g, 8, none⟩) x8 lz1 s
            have a4 := fun (s : HW w2) => HW.cellIs (p := ⟨ib, j, none⟩) r0 lz2 s
            clear q0 q1 x4 x8 r0
            refine wp_region_held_lit (by kernel_rfl) (by kernel_rfl) ?_
            repeat (go_big_quiet_step (fail))
            refine wpQuiet_nil ?_
            intro _ hw'
            obtain ⟨s5, hw''⟩ := hw'
            subst hw''
            have HB5 := Lib.hid (HU.out s5)
            go_wp2_with fail
            go_ret2
            exact ⟨by rw [HR.out]; rfl, HB5.out⟩
          · have HS2 := Lib.hid (HSN.out (fun h => h3 (by have := (HWE.out.1 h).2.2; omega)))
            have h3' : ¬ fj = (-1 : Int) := h3
            clear hij
            go_upto_region 4 with fail
            rw [← HW2.out, ← hub]
            rw [← hub] at q0 q1
            have lz0 : ub < w2.heap.size := by omega
            have lz1 : g < w2.heap.size := by omega
            have lz2 : ib < w2.heap.size := by omega
            clear hub hz hgl hil
            have a0 := fun (s : HW w2) => HW.cellIs (p := ⟨ub, 0, none⟩) q0 lz0 s
            have a1 := fun (s : HW w2) => HW.cellIs (p := ⟨ub, 1, none⟩) q1 lz0 s
            have a2 := fun (s : HW w2) => HW.cellIs (p := ⟨g, 4, none⟩) x4 lz1 s
            have a3 := fun (s : HW w2) => HW.cellIs (p := ⟨g, 8, none⟩) x8 lz1 s
            have a4 := fun (s : HW w2) => HW.cellIs (p := ⟨ib, j, none⟩) r0 lz2 s
            clear q0 q1 x4 x8 r0
            refine wp_region_held_lit (by kernel_rfl) (by kernel_rfl) ?_
            repeat (go_big_quiet_step (fail))
            refine wpQuiet_nil ?_
            intro _ hw'
            obtain ⟨s5, hw''⟩ := hw'
            subst hw''
            have HB5 := Lib.hid (HU.out s5)
            go_wp2_with fail
            go_roundw
            case rel => exact ⟨j + 1, by omega, by go_num, HS2.out, HB5.out⟩
            case measure => simp [intOf]; omega
        · have HS2 := Lib.hid (HSN.out (fun h => h2 (HWE.out.1 h).2.1))
          clear hij
          go_upto_region 4 with fail
          rw [← HW2.out, ← hub]
          rw [← hub] at q0 q1
          have lz0 : ub < w2.heap.size := by omega
          have lz1 : g < w2.heap.size := by omega
          have lz2 : ib < w2.heap.size := by omega
          clear hub hz hgl hil
          have a0 := fun (s : HW w2) => HW.cellIs (p := ⟨ub, 0, none⟩) q0 lz0 s
          have a1 := fun (s : HW w2) => HW.cellIs (p := ⟨ub, 1, none⟩) q1 lz0 s
          have a2 := fun (s : HW w2) => HW.cellIs (p := ⟨g, 4, none⟩) x4 lz1 s
          have a3 := fun (s : HW w2) => HW.cellIs (p := ⟨g, 8, none⟩) x8 lz1 s
          have a4 := fun (s : HW w2) => HW.cellIs (p := ⟨ib, j, none⟩) r0 lz2 s
          clear q0 q1 x4 x8 r0
          refine wp_region_held_lit (by kernel_rfl) (by kernel_rfl) ?_
          repeat (go_big_quiet_step (fail))
          refine wpQuiet_nil ?_
          intro _ hw'
          obtain ⟨s5, hw''⟩ := hw'
          subst hw''
          have HB5 := Lib.hid (HU.out s5)
          go_wp2_with fail
          go_roundw
          case rel => exact ⟨j + 1, by omega, by go_num, HS2.out, HB5.out⟩
          case measure => simp [intOf]; omega
      · have HS2 := Lib.hid (HSN.out (fun h => h1 (HWE.out.1 h).1))
        have h1b : (yf == (s : Int)) = false := by simpa using h1
        have h1d : decide (yf = (s : Int)) = false := by simpa using h1
        clear hij
        go_upto_region 4 with fail
        rw [← HW2.out, ← hub]
        rw [← hub] at q0 q1
        have lz0 : ub < w2.heap.size := by omega
        have lz1 : g < w2.heap.size := by omega
        have lz2 : ib < w2.heap.size := by omega
        clear hub hz hgl hil
        have a0 := fun (s : HW w2) => HW.cellIs (p := ⟨ub, 0, none⟩) q0 lz0 s
        have a1 := fun (s : HW w2) => HW.cellIs (p := ⟨ub, 1, none⟩) q1 lz0 s
        have a2 := fun (s : HW w2) => HW.cellIs (p := ⟨g, 4, none⟩) x4 lz1 s
        have a3 := fun (s : HW w2) => HW.cellIs (p := ⟨g, 8, none⟩) x8 lz1 s
        have a4 := fun (s : HW w2) => HW.cellIs (p := ⟨ib, j, none⟩) r0 lz2 s
        clear q0 q1 x4 x8 r0
        refine wp_region_held_lit (by kernel_rfl) (by kernel_rfl) ?_
        repeat (go_big_quiet_step (fail))
        refine wpQuiet_nil ?_
        intro _ hw'
        obtain ⟨s5, hw''⟩ := hw'
        subst hw''
        have HB5 := Lib.hid (HU.out s5)
        go_wp2_with fail
        go_roundw
        case rel => exact ⟨j + 1, by omega, by go_num, HS2.out, HB5.out⟩
        case measure => simp [intOf]; omega
    · obtain rfl : j = l.length := by omega
      have HRN := Lib.hid (HN0.out (fun i hi => HNO.out i hi))
      clear hS1
      go_wp2_with fail
      go_ret2
      exact ⟨by rw [HRN.out]; rfl, HB.out⟩
end Go.Proofs.Ytfphkgialmjfnaa
