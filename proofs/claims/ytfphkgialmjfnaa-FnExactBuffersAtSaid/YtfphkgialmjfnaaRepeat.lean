/-
  slices.Repeat of one int: the library's own text is walked.
-/
import Derived.Test.YtfphkgialmjfnaaTabl
import Derived.Test.YtfphkgialmjfnaaShelf
import Derived.Laws.CopyOwn
import Derived.Deep.RegionLaw
namespace Go.Proofs.Ytfphkgialmjfnaa
open Go.RowKit Go.Conc Go.Sort
set_option maxRecDepth 100000
set_option linter.unusedVariables false

theorem RC.heap {w : World} {g : Nat} {L : List Int} (h : RC w g L.length L) : w.heap[g]? = some (.cells (ics L).toArray 3 (0, 0)) := by
  obtain ⟨_, _, _, _, cur, h1, h2, h3⟩ := row_parts h
  rw [h1]
  congr 2
  apply Array.ext'
  rw [List.take_of_length_le (by simp [h2])] at h3
  simpa using h3
theorem RC.of_heap {w : World} {g : Nat} {L : List Int} (h : w.heap[g]? = some (.cells (ics L).toArray 3 (0, 0))) (hl : L.length ≤ maxLen) : RC w g L.length L :=
  ⟨by simp [ics], .inr ⟨g, L.length, (ics L).toArray, rfl, Nat.le_refl _, h, Nat.le_refl _, hl, by simp [ics], by rw [Nat.mul_one, ← ics_length L]; exact List.take_length⟩⟩
/-- m times v, then zeros. -/
def repL (v : Int) (c m : Nat) : List Int := List.replicate m v ++ List.replicate (c - m) 0
theorem repL_len {v : Int} {c m : Nat} (h : m ≤ c) : (repL v c m).length = c := by simp [repL]; omega
theorem repL_splice {v : Int} {c m k : Nat} (h : m + k ≤ c) : splice (ics (repL v c m)) m (ics (List.replicate k v)) = ics (repL v c (m + k)) := by
  unfold splice repL ics
  simp only [List.map_append, List.map_replicate, List.length_replicate]
  rw [List.take_append_of_le_length (by simp), List.take_of_length_le (by simp), List.drop_append]
  simp only [List.length_replicate, List.drop_replicate]
  rw [show m - (m + k) = 0 by omega, List.replicate_zero, List.nil_append, show c - m - (m + k - m) = c - (m + k) by omega, ← List.append_assoc, List.replicate_append_replicate]
set_option maxHeartbeats 4000000 in
theorem repeat_any (v : Int) (c b : Nat) (w : World) (hc : c ≤ 20) (hb : w.cell? ⟨b, 0, none⟩ = some (.int .i64 v)) (hbl : b < w.heap.size) :
    Calls Try.prog 59 #[.slice (some ⟨b, 0, none⟩) 1 1, .int .i64 (c : Nat)] w fun e w' => ∃ rb, e = .returned (.slice (some ⟨rb, 0, none⟩) c c) ∧ w.heap.size ≤ rb ∧ RC w' rb c (List.replicate c v) ∧ Below w.heap.size w w' := by
  have HMU : Hid (∀ w, Calls Try.prog 70 #[.int .u64 1, .int .u64 (c : Nat)] w fun e w' => e = .returned (.tuple #[.int .u64 0, .int .u64 (c : Nat)]) ∧ w' = w) := by
    show ∀ _, _
    intro w
    have h := Try.bits_Mul 1 c (by omega) (by omega) w
    have e1 : 1 * c / 18446744073709551616 = 0 := by omega
    have e2 : 1 * c % 18446744073709551616 = c := by omega
    rw [e1, e2] at h
    exact h
  have hcI : (c : Int) ≤ 20 := by omega
  have hc0 : ¬ (c : Int) < 0 := by omega
  have hcm : ¬ (9223372036854775807 : Int) < (c : Int) := by omega
  have eu : IntKind.u64.wrap (c : Int) = (c : Int) := by unfold IntKind.wrap; simp [IntKind.bits]; omega
  have ei : IntKind.i64.wrap (c : Int) = (c : Int) := IntWalk.i64_in _ (by omega)
  obtain ⟨i0, hi, hz0, hz1', hz2⟩ := info_parts int_info
  have hsz : (Try.prog.info? 3).map (·.size) = some 1 := by rw [hi]; simp [hz1']
  go_enter Try.func59, Try.ntmps59
  go_wp2_with fail
  refine (HMU.out _).mono ?_; rintro e w1 ⟨rfl, rfl⟩
  go_upto_region 6 with fail
  go_upto_region 7 with (at_make; refine wpList_make_full _ rfl _ _ 26 rfl w1.heap.size 3 i0 _ 1 Try.underlying26 hi hz0 hz1' _ _ _ _ c rfl rfl rfl rfl (by rw [hz2]; omega) (by unfold maxLen; omega) (Nat.le_refl _) ?_; intro w2 hown hg2)
  have hR0 : RC w2 w1.heap.size c (repL v c 0) := by
    have e : repL v c 0 = List.replicate c 0 := by simp [repL]
    rw [e]
    exact RC.made hown
  have hb2 : Below w1.heap.size w1 w2 := (Below.refl _ _).grown hg2 (Nat.le_refl _) (by intro k hk; cases hk)
  have hc2 := (hb2.cell (p := ⟨b, 0, none⟩) hbl).trans hb
  have hH0 : w2.heap[w1.heap.size]? = some (.cells (ics (repL v c 0)).toArray 3 (0, 0)) := by
    have h9 := repL_len (v := v) (c := c) (m := 0) (Nat.zero_le _)
    have := RC.heap (w := w2) (g := w1.heap.size) (L := repL v c 0) (by rw [h9]; exact hR0)
    exact this
  obtain ⟨tb, htb⟩ : ∃ tb, tb = w1.heap.size := ⟨_, rfl⟩
  rw [← htb] at hH0 hb2 ⊢
  obtain ⟨k0, hk0⟩ : ∃ k0, k0 = Nat.min 1 c := ⟨_, rfl⟩
  have hk0c : k0 ≤ c ∧ k0 ≤ 1 ∧ (0 < c → 0 < k0) := by rw [hk0]; have : Nat.min 1 c = min 1 c := rfl; omega
  obtain ⟨X0, hX0⟩ : ∃ X0, X0 = ics (List.replicate k0 v) := ⟨_, rfl⟩
  have hX0l : X0.length = k0 := by rw [hX0]; simp [ics]
  have hX0c : ∀ u ∈ X0, u.oneCell' = true := by rw [hX0]; exact ics_oneCell _
  have hsrc : ∀ j u, X0[j]? = some u → w2.cell? ((⟨b, 0, none⟩ : Addr).add j) = some u := by
    intro j u hu
    have hj : j < X0.length := (List.getElem?_eq_some_iff.1 hu).1
    have e : j = 0 := by omega
    subst e
    rw [addr_add, hc2]
    rw [hX0, ics_get _ _ (by rw [hX0] at hj; simpa [ics] using hj)] at hu
    rw [← hu]
    congr 2
    rw [hX0] at hj
    simp [ics] at hj
    simp [hj]
  have HF0 : Hid (0 + X0.length ≤ (ics (repL v c 0)).length) := by show _ ≤ _; rw [hX0l, ics_length, repL_len (Nat.zero_le _)]; omega
  have hcp := run_copy_row (P := Try.prog) w2 26 26 3 3 tb 0 c c ⟨b, 0, none⟩ 1 1 (ics (repL v c 0)).toArray 3 X0 Try.underlying26 hsz hH0 (by rw [hX0l]; exact hk0) hsrc (by rw [hX0l]; simp only [List.size_toArray]; rw [ics_length, repL_len (Nat.zero_le _)]; omega) hX0c
  have hsp : (ics (repL v c 0)).toArray.toList.take 0 ++ X0 ++ (ics (repL v c 0)).toArray.toList.drop (0 + X0.length) = ics (repL v c k0) := by
    rw [List.append_assoc]
    have := repL_splice (v := v) (c := c) (m := 0) (k := k0) (by omega)
    rw [Nat.zero_add] at this
    rw [← this, hX0]
    rfl
  rw [hsp, hX0l] at hcp
  simp only [goInt] at hcp
  have hh3 := setRow_heap w2 tb (ics (repL v c 0)).toArray (ics (repL v c k0)).toArray 3 (0, 0) hH0
  have hb3 : Below tb w1 (w2.setRow tb (ics (repL v c k0)).toArray) := below_setRow hb2 (Nat.le_refl _) _
  obtain ⟨w3, hw3⟩ : ∃ w3, w3 = w2.setRow tb (ics (repL v c k0)).toArray := ⟨_, rfl⟩
  rw [← hw3] at hcp hh3 hb3
  have HH3 : Hid (w3.heap[tb]? = some (Obj.cells (ics (repL v c k0)).toArray 3 (0, 0))) := hh3
  have HB3 := Lib.hid hb3
  have HTB := Lib.hid htb
  clear hown hg2 hR0 hb hc2 hbl HMU hX0 hH0 hb2 hk0 htb hsp hh3 hb3 hw3 hsrc hX0l hX0c
  go_wp2_with fail
  go_loopw [8] (fun i wr => ∃ m : Nat, m ≤ c ∧ (0 < c → 0 < m) ∧ i = .int .i64 m ∧ Hid (wr.heap[tb]? = some (Obj.cells (ics (repL v c m)).toArray 3 (0, 0))) ∧ Below tb w1 wr) (fun i _ => c - (intOf i).toNat)
  case atStart => exact ⟨k0, hk0c.1, hk0c.2.2, rfl, HH3, HB3.out⟩
  case round =>
    obtain ⟨m, hm, hm0, rfl, HH, hbm⟩ := hrel
    have HBM := Lib.hid hbm
    clear hbm HH3 HB3 hcp
    by_cases hlt : m < c
    · have hm1 : 0 < m := hm0 (by omega)
      have hmI : (m : Int) < (c : Int) := by omega
      have hne : ¬ c = m := by omega
      have hmc : m ≤ c := hm
      obtain ⟨k, hk⟩ : ∃ k, k = Nat.min m (c - m) := ⟨_, rfl⟩
      have hkc : k ≤ m ∧ k ≤ c - m ∧ 0 < k := by rw [hk]; have : Nat.min m (c - m) = min m (c - m) := rfl; omega
      obtain ⟨X, hX⟩ : ∃ X, X = ics (List.replicate k v) := ⟨_, rfl⟩
      have hXl : X.length = k := by rw [hX]; simp [ics]
      have hXc : ∀ u ∈ X, u.oneCell' = true := by rw [hX]; exact ics_oneCell _
      have hHd : wr.drew.heap[tb]? = some (Obj.cells (ics (repL v c m)).toArray 3 (0, 0)) := HH.out
      have hsrc : ∀ j u, X[j]? = some u → wr.drew.cell? ((⟨tb, 0, none⟩ : Addr).add j) = some u := by
        intro j u hu
        have hj : j < X.length := (List.getElem?_eq_some_iff.1 hu).1
        rw [addr_add, Nat.zero_add, cell_of_row wr.drew tb j _ 3 (0, 0) hHd, ← hu, hX, List.getElem?_toArray, ics_get _ _ (by rw [repL_len hm]; omega), ics_get _ _ (by simp; omega)]
        congr 2
        unfold repL
        rw [List.getD_eq_getElem?_getD, List.getD_eq_getElem?_getD, List.getElem?_append_left (by simp; omega)]
        simp [show j < m by omega, show j < k by omega]
      have hcp := run_copy_row (P := Try.prog) wr.drew 26 26 3 3 tb m (c - m) (c - m) ⟨tb, 0, none⟩ m c (ics (repL v c m)).toArray 3 X Try.underlying26 hsz hHd (by rw [hXl]; exact hk) hsrc (by rw [hXl]; simp only [List.size_toArray]; rw [ics_length, repL_len hm]; omega) hXc
      have hsp : (ics (repL v c m)).toArray.toList.take m ++ X ++ (ics (repL v c m)).toArray.toList.drop (m + X.length) = ics (repL v c (m + k)) := by
        rw [List.append_assoc]
        have := repL_splice (v := v) (c := c) (m := m) (k := k) (by omega)
        rw [← this, hX]
        rfl
      rw [hsp, hXl] at hcp
      simp only [goInt] at hcp
      have HH4 : Hid ((wr.drew.setRow tb (ics (repL v c (m + k))).toArray).heap[tb]? = some (Obj.cells (ics (repL v c (m + k))).toArray 3 (0, 0))) := setRow_heap wr.drew tb (ics (repL v c m)).toArray (ics (repL v c (m + k))).toArray 3 (0, 0) hHd
      have HB4 : Hid (Below tb w1 (wr.drew.setRow tb (ics (repL v c (m + k))).toArray)) := below_setRow HBM.out.drew (Nat.le_refl _) _
      have HW4 := Lib.hid hcp
      generalize wr.drew.setRow tb (ics (repL v c (m + k))).toArray = w4 at *
      have ew : IntKind.i64.wrap ((m : Int) + (k : Int)) = (m : Int) + (k : Int) := IntWalk.i64_in _ (by omega)
      clear hsrc hsp hX hXl hXc hHd HW4 HH HBM hk
      go_wp2_with fail
      go_upto_region 9 with fail
      go_region
      go_wp2_with fail
      go_roundw
      case rel => exact ⟨m + k, by omega, fun _ => by omega, by go_num, HH4, HB4.out⟩
      case measure => simp [intOf]; omega
    · obtain rfl : m = c := by omega
      have HRC : Hid (RC wr tb m (List.replicate m v)) := by
        show RC _ _ _ _
        have e : repL v m m = List.replicate m v := by simp [repL]
        have h1 := HH.out
        rw [e] at h1
        have := RC.of_heap (L := List.replicate m v) h1 (by simp; unfold maxLen; omega)
        rw [List.length_replicate] at this
        exact this
      go_wp2_with fail
      go_ret
      exact ⟨tb, rfl, Nat.le_of_eq HTB.out.symm, HRC.out, by rw [← HTB.out]; exact HBM.out⟩
end Go.Proofs.Ytfphkgialmjfnaa
