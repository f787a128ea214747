/-
  The library's search by a predicate, at jobs; the first job that waits; a line that awaits a job.
-/
import Derived.Test.YteoggoopfjkdkaaWait
namespace Go.Proofs.Yteoggoopfjkdkaa
open Go.RowKit
set_option maxRecDepth 100000
set_option linter.unusedVariables false

/-- The first of a list, or -1. -/
def IdxIs (p : Jb → Bool) (l : List Jb) (x : Int) : Prop := (∃ k : Nat, k < l.length ∧ p l[k]! = true ∧ (∀ j, j < k → p l[j]! = false) ∧ x = k) ∨ ((∀ j, j < l.length → p l[j]! = false) ∧ x = -1)
def RetIdx (p : Jb → Bool) (l : List Jb) (w : World) (e : Ending) (w' : World) : Prop := ∃ x, IdxIs p l x ∧ e = .returned (.int .i64 x) ∧ Below w.heap.size w w'
theorem IdxIs.bd {p : Jb → Bool} {l : List Jb} {x : Int} (h : IdxIs p l x) : -1 ≤ x ∧ x < l.length := by
  rcases h with ⟨k, hk, _, _, rfl⟩ | ⟨_, rfl⟩ <;> omega

set_option maxHeartbeats 1000000 in
theorem idxAwait_any (p : Jb → Bool) (v : Value) (l : List Jb) (w : World) (h : RJbS w w.heap.size v l) (hn : l.length ≤ 1048576)
    (hp : ∀ y wx, Below w.heap.size w wx → Calls Try.prog 72 #[JbV y] wx (RetV wx (.bool (p y)))) :
    Calls Try.prog 70 #[v, .func (.func 72) #[] #[]] w (RetIdx p l w) := by
  have h0 := h
  obtain ⟨A, c, rfl, hfl, hlc, hc⟩ := h
  clear hc hfl
  obtain ⟨_, _, _, hc⟩ := h0.parts
  clear h0
  have hn' : (l.length : Int) ≤ 1048576 := by omega
  have HP := Lib.hid hp
  clear hp
  go_enter Try.func70, Try.ntmps70
  go_wp2_with fail
  go_loopw [8] (fun i wr => ∃ j : Nat, j ≤ l.length ∧ i = .int .i64 j ∧ (∀ q, q < j → p l[q]! = false) ∧ Below w.heap.size w wr) (fun i _ => l.length - (intOf i).toNat)
  case atStart => exact ⟨0, Nat.zero_le _, rfl, fun q hq => absurd hq (by omega), Below.refl _ _⟩
  case round =>
    obtain ⟨j, hj, rfl, hrj, hT⟩ := hrel
    have HT := Lib.hid hT
    have HR := Lib.hid hrj
    have hs1 := hT.size
    clear hrj
    by_cases hlt : j < l.length
    · have hji : (j : Int) < (l.length : Int) := by omega
      obtain ⟨b, off, hA, hbB, hcell⟩ := hc (by omega)
      subst hA
      obtain ⟨hd0, hd1, hd2⟩ := hcell j hlt
      have hc0 := (hT.cell (p := ⟨b, off + j * 3, none⟩) hbB).trans hd0
      have hc1 := (hT.cell (p := ⟨b, off + j * 3 + 1, none⟩) hbB).trans hd1
      have hc2 := (hT.cell (p := ⟨b, off + j * 3 + 2, none⟩) hbB).trans hd2
      have HC := Lib.hid hcell
      clear hd0 hd1 hd2 hcell hc
      have HQ := Lib.hid (HP.out l[j]! wr hT)
      have HY : Hid (∀ b, p l[j]! = b → p l[j]! = b) := fun b h => h
      cases hb : p l[j]!
      · have HN : Hid (∀ q, q < j + 1 → p l[q]! = false) := fun q hq => by
          by_cases e : q = j
          · rw [e]; exact hb
          · exact HR.out q (by omega)
        rw [hb] at HQ
        clear hb HY
        generalize l[j]! = y at hc0 hc1 hc2 HQ
        obtain ⟨yt, yc, yl⟩ := y
        simp only [JbV] at hc0 hc1 hc2 HQ
        clear hT
        go_wp2_with fail
        refine HQ.out.mono ?_; rintro e w2 ⟨rfl, hb2⟩
        have HB2 := Lib.hid (HT.out.trans (hb2.mono hs1))
        clear hb2
        go_wp2_with fail
        go_roundw
        case rel => exact ⟨j + 1, by omega, by go_num, HN.out, HB2.out⟩
        case measure => simp [intOf]; omega
      · have HX : Hid (IdxIs p l j) := .inl ⟨j, hlt, hb, HR.out, rfl⟩
        rw [hb] at HQ
        clear hb HY
        generalize l[j]! = y at hc0 hc1 hc2 HQ
        obtain ⟨yt, yc, yl⟩ := y
        simp only [JbV] at hc0 hc1 hc2 HQ
        clear hT
        go_wp2_with fail
        refine HQ.out.mono ?_; rintro e w2 ⟨rfl, hb2⟩
        have HB2 := Lib.hid (HT.out.trans (hb2.mono hs1))
        clear hb2
        go_wp2_with fail
        go_ret
        exact ⟨j, HX.out, rfl, HB2.out⟩
    · obtain rfl : j = l.length := by omega
      have HX : Hid (IdxIs p l (-1)) := .inr ⟨HR.out, rfl⟩
      go_wp2_with fail
      go_ret
      exact ⟨-1, HX.out, rfl, HT.out⟩
set_option maxHeartbeats 1000000 in
theorem idxWaits_any (g : Nat) (p : Jb → Bool) (v : Value) (l : List Jb) (w : World) (h : RJbS w w.heap.size v l) (hn : l.length ≤ 1048576)
    (hp : ∀ y wx, Below w.heap.size w wx → Calls Try.prog 71 #[.pointer (some ⟨g, 0, none⟩), JbV y] wx (RetV wx (.bool (p y)))) :
    Calls Try.prog 70 #[v, .func (.func 71) #[.pointer (some ⟨g, 0, none⟩)] #[]] w (RetIdx p l w) := by
  have h0 := h
  obtain ⟨A, c, rfl, hfl, hlc, hc⟩ := h
  clear hc hfl
  obtain ⟨_, _, _, hc⟩ := h0.parts
  clear h0
  have hn' : (l.length : Int) ≤ 1048576 := by omega
  have HP := Lib.hid hp
  clear hp
  go_enter Try.func70, Try.ntmps70
  go_wp2_with fail
  go_loopw [8] (fun i wr => ∃ j : Nat, j ≤ l.length ∧ i = .int .i64 j ∧ (∀ q, q < j → p l[q]! = false) ∧ Below w.heap.size w wr) (fun i _ => l.length - (intOf i).toNat)
  case atStart => exact ⟨0, Nat.zero_le _, rfl, fun q hq => absurd hq (by omega), Below.refl _ _⟩
  case round =>
    obtain ⟨j, hj, rfl, hrj, hT⟩ := hrel
    have HT := Lib.hid hT
    have HR := Lib.hid hrj
    have hs1 := hT.size
    clear hrj
    by_cases hlt : j < l.length
    · have hji : (j : Int) < (l.length : Int) := by omega
      obtain ⟨b, off, hA, hbB, hcell⟩ := hc (by omega)
      subst hA
      obtain ⟨hd0, hd1, hd2⟩ := hcell j hlt
      have hc0 := (hT.cell (p := ⟨b, off + j * 3, none⟩) hbB).trans hd0
      have hc1 := (hT.cell (p := ⟨b, off + j * 3 + 1, none⟩) hbB).trans hd1
      have hc2 := (hT.cell (p := ⟨b, off + j * 3 + 2, none⟩) hbB).trans hd2
      have HC := Lib.hid hcell
      clear hd0 hd1 hd2 hcell hc
      have HQ := Lib.hid (HP.out l[j]! wr hT)
      have HY : Hid (∀ b, p l[j]! = b → p l[j]! = b) := fun b h => h
      cases hb : p l[j]!
      · have HN : Hid (∀ q, q < j + 1 → p l[q]! = false) := fun q hq => by
          by_cases e : q = j
          · rw [e]; exact hb
          · exact HR.out q (by omega)
        rw [hb] at HQ
        clear hb HY
        generalize l[j]! = y at hc0 hc1 hc2 HQ
        obtain ⟨yt, yc, yl⟩ := y
        simp only [JbV] at hc0 hc1 hc2 HQ
        clear hT
        go_wp2_with fail
        refine HQ.out.mono ?_; rintro e w2 ⟨rfl, hb2⟩
        have HB2 := Lib.hid (HT.out.trans (hb2.mono hs1))
        clear hb2
        go_wp2_with fail
        go_roundw
        case rel => exact ⟨j + 1, by omega, by go_num, HN.out, HB2.out⟩
        case measure => simp [intOf]; omega
      · have HX : Hid (IdxIs p l j) := .inl ⟨j, hlt, hb, HR.out, rfl⟩
        rw [hb] at HQ
        clear hb HY
        generalize l[j]! = y at hc0 hc1 hc2 HQ
        obtain ⟨yt, yc, yl⟩ := y
        simp only [JbV] at hc0 hc1 hc2 HQ
        clear hT
        go_wp2_with fail
        refine HQ.out.mono ?_; rintro e w2 ⟨rfl, hb2⟩
        have HB2 := Lib.hid (HT.out.trans (hb2.mono hs1))
        clear hb2
        go_wp2_with fail
        go_ret
        exact ⟨j, HX.out, rfl, HB2.out⟩
    · obtain rfl : j = l.length := by omega
      have HX : Hid (IdxIs p l (-1)) := .inr ⟨HR.out, rfl⟩
      go_wp2_with fail
      go_ret
      exact ⟨-1, HX.out, rfl, HT.out⟩
set_option maxHeartbeats 1000000 in
theorem first_any (lo g : Nat) (tick step tc : Int) (tb : Bool) (gr pr : Value) (cr : Nat → Int) (l : List Jb) (w : World) (h : LN w lo g tick step tc tb gr pr cr l) (hn : l.length ≤ 20) :
    Calls Try.prog 55 #[.pointer (some ⟨g, 0, none⟩)] w (RetIdx (isW tick) l w) := by
  obtain ⟨cs, v, hbk, hlc, hol⟩ := h.cells
  have hgs := hbk.1
  have c0 := (hbk.cell 0).trans hlc.tick
  have c1 := (hbk.cell 1).trans hlc.left
  have HP := Lib.hid (idxWaits_any g (isW tick) v l w (hol.rk.more (by omega)) (by omega) (fun y wx hb => waits_any g tick y wx ((hb.cell (p := ⟨g, 0, none⟩) hgs).trans c0) (Nat.lt_of_lt_of_le hgs hb.size)))
  obtain ⟨A, c, rfl, _⟩ := hol.rk
  clear hbk hlc hol h
  go_enter Try.func55, Try.ntmps55
  go_wp2_with fail
  refine HP.out.mono ?_; rintro e w1 ⟨x, hx, rfl, hb⟩
  have HX := Lib.hid hx
  clear hx
  go_wp2_with fail
  go_ret
  exact ⟨x, HX.out, rfl, hb⟩
end Go.Proofs.Yteoggoopfjkdkaa
