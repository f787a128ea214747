/-
  The model's ring that goes round: what it has in memory, and its search for a message.
-/
import Derived.Test.YtehmhkbiofndaaaMathSp
import Derived.Test.YtehmhkbiofndaaaSlotF
import Derived.Test.YtehmhkbiofndaaaFill
import Derived.Test.YtehmhkbiofndaaaFree
import Derived.Test.YtehmhkbiofndaaaFilled
namespace Go.Proofs.Ytehmhkbiofndaaa
open Go.RowKit Go.Maps
set_option maxRecDepth 100000
set_option linter.unusedVariables false

/-- A slice value that the call has gathered: nil, or block b. -/
def GV (w : World) (v : Value) (b : Nat) (L : List Int) : Prop := (L = [] ∧ v = .slice none 0 0) ∨ ∃ c, v = .slice (some ⟨b, 0, none⟩) L.length c ∧ RC w b c L
theorem GV.keep {w w' : World} {v : Value} {b : Nat} {L : List Int} (h : GV w v b L) (hr : ∀ c, RC w b c L → RC w' b c L) : GV w' v b L := by
  rcases h with ⟨h1, h2⟩ | ⟨c, h1, h2⟩
  · exact .inl ⟨h1, h2⟩
  · exact .inr ⟨c, h1, hr c h2⟩
theorem GV.step {w w' : World} {v : Value} {b : Nat} {L : List Int} (h : GV w v b L) (hb : Below w.heap.size w w') : GV w' v b L := h.keep fun c hc => hc.step hb
theorem GV.at_ {w : World} {v : Value} {b : Nat} {L : List Int} (h : GV w v b L) (i : Nat) (hi : i < L.length) : ∃ c, v = .slice (some ⟨b, 0, none⟩) L.length c ∧ RC w b c L := by
  rcases h with ⟨rfl, _⟩ | h
  · simp at hi
  · exact h
/-- A list of the first n values. -/
def tab (F : Nat → Int) (n : Nat) : List Int := (List.range n).map F
theorem tab_len (F : Nat → Int) (n : Nat) : (tab F n).length = n := by simp [tab]
theorem tab_at (F : Nat → Int) (n i : Nat) (hi : i < n) : (tab F n).getD i 0 = F i := by simp [tab, hi]
theorem tab_congr {F G : Nat → Int} {n : Nat} (h : ∀ i, i < n → F i = G i) : tab F n = tab G n := by
  unfold tab
  apply List.map_congr_left
  intro i hi
  exact h i (by simpa using hi)
theorem tab_set (F : Nat → Int) (n j : Nat) (v : Int) : (tab F n).set j v = tab (fun i => if i = j then v else F i) n := by
  apply List.ext_getElem (by simp [tab])
  intro i h1 h2
  rw [List.getElem_set]
  simp only [tab, List.getElem_map, List.getElem_range]
  by_cases e : j = i
  · subst e; simp
  · have e2 : ¬ i = j := fun h => e h.symm
    simp only [e, e2, if_false]
/-- The model's ring in memory: at block g; its slots, and the ticks of filling and reading, in blocks of their own. -/
structure RunS (w0 w : World) (x : Sr) (l : List Ms) (A : Option Addr) (c g sb fb qb : Nat) (vf vr : Value) (S : Nat → Nat) (F R : Nat → Int) : Prop where
  run : BK w g 56 #[.int .i64 x.n, .bool x.h, .slice A l.length c, .slice (some ⟨sb, 0, none⟩) x.n.toNat x.n.toNat, vf, vr]
  slots : RC w sb x.n.toNat (tab (fun k => (S k : Int)) x.n.toNat)
  filled : GV w vf fb (tab F l.length)
  read : GV w vr qb (tab R l.length)
  bel : Below w0.heap.size w0 w
/-- The blocks' places. -/
structure RP (w0 : World) (g sb fb qb : Nat) : Prop where
  g0 : w0.heap.size ≤ g
  s0 : w0.heap.size ≤ sb
  f0 : w0.heap.size ≤ fb
  q0 : w0.heap.size ≤ qb
  gs : g ≠ sb
  gf : g ≠ fb
  gq : g ≠ qb
  sf : sb ≠ fb
  sq : sb ≠ qb
  fq : fb ≠ qb
theorem RunS.step {w0 w w' : World} {x : Sr} {l : List Ms} {A : Option Addr} {c g sb fb qb : Nat} {vf vr : Value} {S : Nat → Nat} {F R : Nat → Int} (h : RunS w0 w x l A c g sb fb qb vf vr S F R) (hb : Below w.heap.size w w') : RunS w0 w' x l A c g sb fb qb vf vr S F R :=
  ⟨h.run.step hb, h.slots.step hb, h.filled.step hb, h.read.step hb, h.bel.trans (hb.mono h.bel.size)⟩
theorem RunS.congr {w0 w : World} {x : Sr} {l : List Ms} {A : Option Addr} {c g sb fb qb : Nat} {vf vr : Value} {S S' : Nat → Nat} {F F' R R' : Nat → Int} (h : RunS w0 w x l A c g sb fb qb vf vr S F R) (hS : ∀ k, k < x.n.toNat → S k = S' k) (hF : ∀ i, i < l.length → F i = F' i) (hR : ∀ i, i < l.length → R i = R' i) : RunS w0 w x l A c g sb fb qb vf vr S' F' R' := by
  refine ⟨h.run, ?_, ?_, ?_, h.bel⟩
  · rw [← tab_congr (F := fun k => (S k : Int)) (G := fun k => (S' k : Int)) (fun k hk => by rw [hS k hk])]; exact h.slots
  · rw [← tab_congr hF]; exact h.filled
  · rw [← tab_congr hR]; exact h.read
/-- A slot is written. -/
theorem RunS.setS {w0 w : World} {x : Sr} {l : List Ms} {A : Option Addr} {c g sb fb qb : Nat} {vf vr : Value} {S : Nat → Nat} {F R : Nat → Int} (h : RunS w0 w x l A c g sb fb qb vf vr S F R) (hp : RP w0 g sb fb qb) (k v : Nat) : RunS w0 (w.setCell ⟨sb, k, none⟩ (.int .i64 (v : Int))) x l A c g sb fb qb vf vr (fun j => if j = k then v else S j) F R := by
  have hw : Wr sb (sb + 1) w (w.setCell ⟨sb, k, none⟩ (.int .i64 (v : Int))) := (Wr.refl _ _ _).setCell (p := ⟨sb, k, none⟩) (Nat.le_refl _) (Nat.lt_succ_self _) _
  refine ⟨h.run.far hw (by have := hp.gs; omega), ?_, h.filled.keep (fun c hc => hc.far hw (by have := hp.sf; omega)), h.read.keep (fun c hc => hc.far hw (by have := hp.sq; omega)), h.bel.trans (hw.below hp.s0 h.bel.size)⟩
  have h1 := h.slots.set k (v : Int)
  rw [tab_set] at h1
  have h2 : tab (fun i => if i = k then (v : Int) else (S i : Int)) x.n.toNat = tab (fun j => (((if j = k then v else S j : Nat)) : Int)) x.n.toNat := tab_congr fun i _ => by split <;> rfl
  rw [h2] at h1
  exact h1
theorem RunS.setF {w0 w : World} {x : Sr} {l : List Ms} {A : Option Addr} {c g sb fb qb : Nat} {vf vr : Value} {S : Nat → Nat} {F R : Nat → Int} (h : RunS w0 w x l A c g sb fb qb vf vr S F R) (hp : RP w0 g sb fb qb) (i : Nat) (v : Int) : RunS w0 (w.setCell ⟨fb, i, none⟩ (.int .i64 v)) x l A c g sb fb qb vf vr S (fun j => if j = i then v else F j) R := by
  have hw : Wr fb (fb + 1) w (w.setCell ⟨fb, i, none⟩ (.int .i64 v)) := (Wr.refl _ _ _).setCell (p := ⟨fb, i, none⟩) (Nat.le_refl _) (Nat.lt_succ_self _) _
  refine ⟨h.run.far hw (by have := hp.gf; omega), h.slots.far hw (by have := hp.sf; omega), ?_, h.read.keep (fun c hc => hc.far hw (by have := hp.fq; omega)), h.bel.trans (hw.below hp.f0 h.bel.size)⟩
  rcases h.filled with ⟨h1, h2⟩ | ⟨c, h1, h2⟩
  · have hl : l.length = 0 := by have := congrArg List.length h1; rw [tab_len] at this; exact this
    refine .inl ⟨?_, h2⟩
    rw [hl]
    rfl
  · have h3 := h2.set i v
    rw [tab_set] at h3
    refine .inr ⟨c, ?_, h3⟩
    rw [tab_len] at h1 ⊢
    exact h1
theorem RunS.setR {w0 w : World} {x : Sr} {l : List Ms} {A : Option Addr} {c g sb fb qb : Nat} {vf vr : Value} {S : Nat → Nat} {F R : Nat → Int} (h : RunS w0 w x l A c g sb fb qb vf vr S F R) (hp : RP w0 g sb fb qb) (i : Nat) (v : Int) : RunS w0 (w.setCell ⟨qb, i, none⟩ (.int .i64 v)) x l A c g sb fb qb vf vr S F (fun j => if j = i then v else R j) := by
  have hw : Wr qb (qb + 1) w (w.setCell ⟨qb, i, none⟩ (.int .i64 v)) := (Wr.refl _ _ _).setCell (p := ⟨qb, i, none⟩) (Nat.le_refl _) (Nat.lt_succ_self _) _
  refine ⟨h.run.far hw (by have := hp.gq; omega), h.slots.far hw (by have := hp.sq; omega), h.filled.keep (fun c hc => hc.far hw (by have := hp.fq; omega)), ?_, h.bel.trans (hw.below hp.q0 h.bel.size)⟩
  rcases h.read with ⟨h1, h2⟩ | ⟨c, h1, h2⟩
  · have hl : l.length = 0 := by have := congrArg List.length h1; rw [tab_len] at this; exact this
    refine .inl ⟨?_, h2⟩
    rw [hl]
    rfl
  · have h3 := h2.set i v
    rw [tab_set] at h3
    refine .inr ⟨c, ?_, h3⟩
    rw [tab_len] at h1 ⊢
    exact h1

/-- The first message that waits, or -1. -/
def nextI (r : Option Nat) : Int := match r with | some i => (i : Int) | none => -1
set_option maxHeartbeats 2000000 in
theorem slNext_any (x : Sr) (l : List Ms) (w0 : World) (A : Option Addr) (c g sb fb qb : Nat) (vf vr : Value) (S : Nat → Nat) (F R : Nat → Int) (s t : Nat) (w : World) (hall : ∀ y ∈ l, MsIn x.n y) (hl20 : l.length ≤ 20)
    (hS : RunS w0 w x l A c g sb fb qb vf vr S F R) (hr : RMsS w0 w0.heap.size (.slice A l.length c) l) (ht : t ≤ 1000) (hs : s ≤ 12) :
    Calls Try.prog 53 #[.pointer (some ⟨g, 0, none⟩), .int .i64 s, .int .i64 t] w (RetV w (.int .i64 (nextI ((swOf x l).next F s t)))) := by
  obtain ⟨_, _, _, hc⟩ := hr.parts
  have HN1 := Lib.hid (fun j hj hw hno => next_at_some (x := x) (l := l) (F := F) (s := s) (t := t) (j := j) hall hj hw hno)
  have HN0 := Lib.hid (fun hno => next_at_none (x := x) (l := l) (F := F) (s := s) (t := t) hall hno)
  obtain ⟨N, hN⟩ : ∃ N, N = (swOf x l).next F s t := ⟨_, rfl⟩
  rw [← hN] at HN1 HN0 ⊢
  clear hN
  have hl2 : (l.length : Int) ≤ 20 := by omega
  have hx2 := hS.run.cell 2
  have hx4 := hS.run.cell 4
  simp only [List.getElem?_toArray, List.getElem?_cons_zero, List.getElem?_cons_succ] at hx2 hx4
  have HC := Lib.hid hc
  have HS := Lib.hid hS
  have HALL := Lib.hid hall
  clear hc hr hall
  go_enter Try.func53, Try.ntmps53
  go_wp2_with fail
  go_loopw [14] (fun i wr => ∃ j : Nat, j ≤ l.length ∧ i = .int .i64 j ∧ (∀ i', i' < j → ¬ waitsI l F s t i') ∧ Below w.heap.size w wr) (fun i _ => l.length - (intOf i).toNat)
  case atStart => exact ⟨0, Nat.zero_le _, rfl, fun i' h => absurd h (Nat.not_lt_zero _), Below.refl _ _⟩
  case round =>
    clear hx2 hx4
    obtain ⟨j, hj, rfl, hno, hb⟩ := hrel
    have HNO := Lib.hid hno
    have HB := Lib.hid hb
    have hS1 := HS.out.step hb
    clear hno
    by_cases hlt : j < l.length
    · have hjI : (j : Int) < (l.length : Int) := by omega
      obtain ⟨b, off, rfl, hbB, hcell⟩ := HC.out (by omega)
      obtain ⟨hd0, hd1, hd2⟩ := hcell j hlt
      have hc0 := (hS1.bel.cell (p := ⟨b, off + j * 3, none⟩) hbB).trans hd0
      have hc1 := (hS1.bel.cell (p := ⟨b, off + j * 3 + 1, none⟩) hbB).trans hd1
      have hc2 := (hS1.bel.cell (p := ⟨b, off + j * 3 + 2, none⟩) hbB).trans hd2
      clear hd0 hd1 hd2 hcell
      obtain ⟨cf, hvf, hrc⟩ := hS1.filled.at_ j (by rw [tab_len]; exact hlt)
      rw [tab_len] at hvf
      have HSN : Hid (¬ waitsI l F s t j → ∀ i', i' < j + 1 → ¬ waitsI l F s t i') := fun h i' hi' => by
        by_cases e : i' = j
        · rw [e]; exact h
        · exact HNO.out i' (by omega)
      have HWE : Hid (waitsI l F s t j ↔ (l[j]!.f = (s : Int) ∧ l[j]!.t ≤ (t : Int) ∧ F j < 0)) := Iff.rfl
      generalize l[j]! = y at hc0 hc1 hc2 HWE
      obtain ⟨yt, yf, yo⟩ := y
      simp only at hc0 hc1 hc2 HWE
      have hM := BK.made wr 35 #[.int .i64 yt, .int .i64 yf, .int .i64 yo]
      have hS2 := hS1.step ((Below.refl _ _).alloc (Nat.le_refl _) (.cells #[.int .i64 yt, .int .i64 yf, .int .i64 yo] 35))
      have HB2 := Lib.hid (hb.alloc hb.size (.cells #[.int .i64 yt, .int .i64 yf, .int .i64 yo] 35))
      have hrc2 := hrc.alloc (.cells #[.int .i64 yt, .int .i64 yf, .int .i64 yo] 35)
      have q0 := hM.cell 0
      have q1 := hM.cell 1
      have x4 := hS2.run.cell 4
      have r0 := hrc2.cell j (by rw [tab_len]; exact hlt)
      rw [tab_at _ _ _ hlt] at r0
      simp only [List.getElem?_toArray, List.getElem?_cons_zero, List.getElem?_cons_succ] at q0 q1 x4
      subst hvf
      obtain ⟨fj, hfj⟩ : ∃ fj, fj = F j := ⟨_, rfl⟩
      rw [← hfj] at r0 HWE
      clear hfj hM hS2 hrc hrc2 hS1 hb
      by_cases h1 : yf = (s : Int)
      · subst h1
        by_cases h2 : yt ≤ (t : Int)
        · by_cases h3 : fj < 0
          · have HR := Lib.hid (HN1.out j hlt (HWE.out.2 ⟨rfl, h2, h3⟩) HNO.out)
            go_wp2_with fail
            go_ret
            exact ⟨by rw [HR.out]; rfl, HB2.out⟩
          · have HS2 := Lib.hid (HSN.out (fun h => h3 (HWE.out.1 h).2.2))
            go_wp2_with fail
            go_roundw
            case rel => exact ⟨j + 1, by omega, by go_num, HS2.out, HB2.out⟩
            case measure => simp [intOf]; omega
        · have HS2 := Lib.hid (HSN.out (fun h => h2 (HWE.out.1 h).2.1))
          go_wp2_with fail
          go_roundw
          case rel => exact ⟨j + 1, by omega, by go_num, HS2.out, HB2.out⟩
          case measure => simp [intOf]; omega
      · have HS2 := Lib.hid (HSN.out (fun h => h1 (HWE.out.1 h).1))
        go_wp2_with fail
        go_roundw
        case rel => exact ⟨j + 1, by omega, by go_num, HS2.out, HB2.out⟩
        case measure => simp [intOf]; omega
    · obtain rfl : j = l.length := by omega
      have HRN := Lib.hid (HN0.out (fun i hi => HNO.out i hi))
      go_wp2_with fail
      go_ret
      exact ⟨by rw [HRN.out]; rfl, HB.out⟩
end Go.Proofs.Ytehmhkbiofndaaa
