/-
  The model's search for the first own cell of a station, and what it takes out of a buffer.
-/
import Derived.Test.YthgnflcdpmedlaaInS
import Derived.Test.YthgnflcdpmedlaaOwnA
import Derived.Deep.RegionLaw
namespace Go.Proofs.Ythgnflcdpmedlaa
open Go.RowKit Go.Conc
set_option maxRecDepth 100000
set_option linter.unusedVariables false

/-- The first cell that waits, or -1. -/
def ownI (r : Option Nat) : Int := match r with | some i => (i : Int) | none => -1
set_option maxHeartbeats 2000000 in
theorem own_any (x : Ir) (l : List Ms) (w0 : World) (p : IL) (vs : Nat → Value) (a : Ist) (s t : Nat) (w : World) (hall : ∀ y ∈ l, MsIn x.n y) (hl20 : l.length ≤ 20)
    (hS : InS w0 w x l p vs a) (hr : RMsS w0 w0.heap.size (.slice p.A l.length p.c) l) (ht : t ≤ 10000) (hs : s ≤ 12) :
    Calls Try.prog 59 #[.pointer (some ⟨p.g, 0, none⟩), .int .i64 s, .int .i64 t] w (RetV w (.int .i64 (ownI ((iwOf x l).sw.next a.I s t)))) := by
  obtain ⟨_, _, _, hc⟩ := hr.parts
  have HN1 := Lib.hid (fun j hj hw hno => nextI_some (x := x) (l := l) (F := a.I) (s := s) (t := t) (j := j) hall hj hw hno)
  have HN0 := Lib.hid (fun hno => nextI_none (x := x) (l := l) (F := a.I) (s := s) (t := t) hall hno)
  obtain ⟨N, hN⟩ : ∃ N, N = (iwOf x l).sw.next a.I s t := ⟨_, rfl⟩
  rw [← hN] at HN1 HN0 ⊢
  clear hN
  have hl2 : (l.length : Int) ≤ 20 := by omega
  have hx3 := hS.run.cell 3
  simp only [List.getElem?_toArray, List.getElem?_cons_zero, List.getElem?_cons_succ] at hx3
  have HC := Lib.hid hc
  have HS := Lib.hid hS
  have HALL := Lib.hid hall
  clear hc hr hall
  obtain ⟨g, hg⟩ : ∃ g, g = p.g := ⟨_, rfl⟩
  rw [← hg] at hx3 ⊢
  have HG := Lib.hid hg
  clear hg hS
  go_enter Try.func59, Try.ntmps59
  go_wp2_with fail
  go_loopw [14] (fun i wr => ∃ j : Nat, j ≤ l.length ∧ i = .int .i64 j ∧ (∀ i', i' < j → ¬ waitsC l a.I s t i') ∧ Below w.heap.size w wr) (fun i _ => l.length - (intOf i).toNat)
  case atStart => exact ⟨0, Nat.zero_le _, rfl, fun i' h => absurd h (Nat.not_lt_zero _), Below.refl _ _⟩
  case round =>
    clear hx3
    obtain ⟨j, hj, rfl, hno, hb⟩ := hrel
    have HNO := Lib.hid hno
    have HB := Lib.hid hb
    have hS1 := HS.out.step hb
    clear hno
    by_cases hlt : j < l.length
    · have hjI : (j : Int) < (l.length : Int) := by omega
      obtain ⟨b, off, hA, hbB, hcell⟩ := HC.out (by omega)
      obtain ⟨hd0, hd1, hd2⟩ := hcell j hlt
      have hc0 := (hS1.bel.cell (p := ⟨b, off + j * 3, none⟩) hbB).trans hd0
      have hc1 := (hS1.bel.cell (p := ⟨b, off + j * 3 + 1, none⟩) hbB).trans hd1
      have hc2 := (hS1.bel.cell (p := ⟨b, off + j * 3 + 2, none⟩) hbB).trans hd2
      clear hd0 hd1 hd2 hcell
      obtain ⟨cf, hvf, hrc⟩ := hS1.ins.at_ j (by rw [tabl_len]; exact hlt)
      rw [tabl_len] at hvf
      have HSN : Hid (¬ waitsC l a.I s t j → ∀ i', i' < j + 1 → ¬ waitsC l a.I s t i') := fun h i' hi' => by
        by_cases e : i' = j
        · rw [e]; exact h
        · exact HNO.out i' (by omega)
      have HWE : Hid (waitsC l a.I s t j ↔ (l[j]!.f = (s : Int) ∧ l[j]!.t ≤ (t : Int) ∧ a.I j < 0)) := Iff.rfl
      generalize l[j]! = y at hc0 hc1 hc2 HWE
      obtain ⟨yt, yf, yo⟩ := y
      simp only at hc0 hc1 hc2 HWE
      have hM := BK.made wr 52 #[.int .i64 yt, .int .i64 yf, .int .i64 yo]
      have hS2 := hS1.step ((Below.refl _ _).alloc (Nat.le_refl _) (.cells #[.int .i64 yt, .int .i64 yf, .int .i64 yo] 52))
      have HB2 := Lib.hid (hb.alloc hb.size (.cells #[.int .i64 yt, .int .i64 yf, .int .i64 yo] 52))
      have hrc2 := hrc.alloc (.cells #[.int .i64 yt, .int .i64 yf, .int .i64 yo] 52)
      have q0 := hM.cell 0
      have q1 := hM.cell 1
      have x6 := hS2.run.cell 6
      rw [hvf, ← HG.out] at x6
      have r0 := hrc2.cell j (by rw [tabl_len]; exact hlt)
      rw [tabl_at _ _ _ hlt] at r0
      simp only [List.getElem?_toArray, List.getElem?_cons_zero, List.getElem?_cons_succ] at q0 q1 x6
      obtain ⟨ib, hib⟩ : ∃ ib, ib = p.ib := ⟨_, rfl⟩
      rw [← hib] at x6 r0
      obtain ⟨fj, hfj⟩ : ∃ fj, fj = a.I j := ⟨_, rfl⟩
      rw [← hfj] at r0 HWE
      rw [hA]
      clear hfj hM hS2 hrc hrc2 hS1 hb hvf hib hA
      by_cases h1 : yf = (s : Int)
      · subst h1
        by_cases h2 : yt ≤ (t : Int)
        · by_cases h3 : fj < 0
          · have HR := Lib.hid (HN1.out j hlt (HWE.out.2 ⟨rfl, h2, h3⟩) HNO.out)
            go_wp2_with fail
            go_ret
            exact ⟨by rw [HR.out]; rfl, HB2.out⟩
          · have HS2 := Lib.hid (HSN.out (fun h => h3 (HWE.out.1 h).2.2))
            go_wp2_with fail
            go_roundw
            case rel => exact ⟨j + 1, by omega, by go_num, HS2.out, HB2.out⟩
            case measure => simp [intOf]; omega
        · have HS2 := Lib.hid (HSN.out (fun h => h2 (HWE.out.1 h).2.1))
          go_wp2_with fail
          go_roundw
          case rel => exact ⟨j + 1, by omega, by go_num, HS2.out, HB2.out⟩
          case measure => simp [intOf]; omega
      · have HS2 := Lib.hid (HSN.out (fun h => h1 (HWE.out.1 h).1))
        go_wp2_with fail
        go_roundw
        case rel => exact ⟨j + 1, by omega, by go_num, HS2.out, HB2.out⟩
        case measure => simp [intOf]; omega
    · obtain rfl : j = l.length := by omega
      have HRN := Lib.hid (HN0.out (fun i hi => HNO.out i hi))
      clear hS1
      go_wp2_with fail
      go_ret
      exact ⟨by rw [HRN.out]; rfl, HB.out⟩
end Go.Proofs.Ythgnflcdpmedlaa
