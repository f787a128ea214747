/-
  The helpers of the drawn laws: the sum of the lengths, rows that are the same.
-/
import Derived.Test.YtdggaeipfbacmaaCurD
namespace Go.Proofs.Ytdggaeipfbacmaa
open Go.RowKit
set_option maxRecDepth 100000
set_option linter.unusedVariables false

theorem sumJ_take (l : List Jb) (k : Nat) (hk : k < l.length) : sumJ (l.take (k + 1)) = sumJ (l.take k) + l[k]!.l := by
  unfold sumJ
  rw [List.take_succ_eq_append_getElem hk, List.foldl_append, getElem!_pos l k hk]
  rfl
set_option maxHeartbeats 1000000 in
theorem kWork_any (v : Value) (l : List Jb) (w : World) (h : RJbS w w.heap.size v l) (hn : l.length ≤ 1048576) (hl : ∀ x ∈ l, 0 ≤ x.l ∧ x.l ≤ 20) :
    Calls Try.prog 13 #[v] w (RetV w (.int .i64 (sumJ l))) := by
  have h0 := h
  obtain ⟨A, c, rfl, hfl, hlc, hc⟩ := h
  clear hc hfl
  obtain ⟨_, _, _, hc⟩ := h0.parts
  clear h0
  have hn' : (l.length : Int) ≤ 1048576 := by omega
  have HL := Lib.hid hl
  go_enter Try.func13, Try.ntmps13
  go_wp2_with fail
  go_loopw [3, 8] (fun u i wr => ∃ (j : Nat) (s : Int), j ≤ l.length ∧ i = .int .i64 j ∧ u = .int .i64 s ∧ s = sumJ (l.take j) ∧ 0 ≤ s ∧ s ≤ 20 * (j : Int) ∧ Below w.heap.size w wr) (fun _ i _ => l.length - (intOf i).toNat)
  case atStart => exact ⟨0, 0, Nat.zero_le _, rfl, rfl, rfl, by omega, by omega, Below.refl _ _⟩
  case round =>
    obtain ⟨j, s, hj, rfl, rfl, hs, s0, s1, hT⟩ := hrel
    have HT := Lib.hid hT
    have hs1 := hT.size
    by_cases hlt : j < l.length
    · obtain ⟨b, off, rfl, hbB, hcell⟩ := hc (by omega)
      obtain ⟨hd0, hd1, hd2⟩ := hcell j hlt
      have hc0 := (hT.cell (p := ⟨b, off + j * 3, none⟩) hbB).trans hd0
      have hc1 := (hT.cell (p := ⟨b, off + j * 3 + 1, none⟩) hbB).trans hd1
      have hc2 := (hT.cell (p := ⟨b, off + j * 3 + 2, none⟩) hbB).trans hd2
      have hx := HL.out l[j]! (by rw [getElem!_pos l j hlt]; exact List.getElem_mem hlt)
      have hw := sumJ_take l j hlt
      rw [← hs] at hw
      have HW := Lib.hid hw
      clear hd0 hd1 hd2 hcell hc hT hw hs
      generalize l[j]! = y at hc0 hc1 hc2 hx HW
      obtain ⟨yt, yc, yl⟩ := y
      simp only at hc0 hc1 hc2 hx
      obtain ⟨x0, x1⟩ := hx
      go_wp2_with fail
      go_roundw
      case rel => exact ⟨j + 1, s + yl, by omega, by go_num, rfl, HW.out.symm, by omega, by omega, HT.out.alloc hs1 _⟩
      case measure => simp [intOf]; omega
    · obtain rfl : j = l.length := by omega
      have HS : Hid (s = sumJ l) := by show _ = _; rw [hs, List.take_length]
      clear hs hT hc
      go_wp2_with fail
      go_ret
      exact ⟨by rw [HS.out]; rfl, HT.out⟩
end Go.Proofs.Ytdggaeipfbacmaa
