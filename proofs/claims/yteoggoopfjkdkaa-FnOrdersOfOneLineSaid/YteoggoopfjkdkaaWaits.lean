/-
  Waits, weights and overtaken jobs: the contracts, both sides.
-/
import Derived.Test.YteoggoopfjkdkaaSchedI
import Derived.Test.YteoggoopfjkdkaaSchedS
namespace Go.Proofs.Yteoggoopfjkdkaa
open Go.RowKit
set_option maxRecDepth 100000
set_option linter.unusedVariables false

theorem schd_t {js : List Jb} {ss : List Int} (h : schd js ss = true) : givenB js ss = true ∧ schedB js ss = true := by simpa [schd] using h
theorem mulW_in {a b A B : Int} (ha : 0 ≤ a) (hA : a ≤ A) (hb : 0 ≤ b) (hB : b ≤ B) : 0 ≤ a * b ∧ a * b ≤ A * B :=
  ⟨Int.mul_nonneg ha hb, Int.le_trans (Int.mul_le_mul_of_nonneg_right hA hb) (Int.mul_le_mul_of_nonneg_left hB (by omega))⟩
/-- The waits so far. -/
def partWait (js : List Jb) (ss : List Int) (n k : Nat) : List Int := waitL js ss k ++ List.replicate (n - k) 0
theorem waitL_len (js : List Jb) (ss : List Int) (k : Nat) : (waitL js ss k).length = k := by simp [waitL]
theorem waitL_succ (js : List Jb) (ss : List Int) (k : Nat) : waitL js ss (k + 1) = waitL js ss k ++ [ss.getD k 0 - js[k]!.t] := by simp [waitL, List.range_succ]
theorem partWait_len (js : List Jb) (ss : List Int) (n k : Nat) (h : k ≤ n) : (partWait js ss n k).length = n := by simp [partWait, waitL_len]; omega
theorem partWait_succ (js : List Jb) (ss : List Int) (n k : Nat) (h : k < n) : (ics (partWait js ss n k)).set k (.int .i64 (ss.getD k 0 - js[k]!.t)) = ics (partWait js ss n (k + 1)) := by
  unfold partWait ics
  rw [← List.map_set]
  congr 1
  have e : n - k = (n - (k + 1)) + 1 := by omega
  rw [e, List.replicate_succ, List.set_append_right k _ (by rw [waitL_len]; omega), waitL_len, Nat.sub_self, List.set_cons_zero, waitL_succ, List.append_assoc]
  rfl
theorem weighL_bd {js : List Jb} {ss : List Int} (h : schd js ss = true) (k : Nat) (hk : k ≤ ss.length) : 0 ≤ weighL js ss k ∧ weighL js ss k ≤ k * 100000 := by
  obtain ⟨hg, hb⟩ := schd_t h
  obtain ⟨h1, h2, h3, h4⟩ := givenB_in hg
  induction k with
  | zero => simp [weighL]
  | succ k ih =>
    have a := ih (by omega)
    have b := (schedB_t.1 hb k (by omega)).1
    have c := h3 k (by omega)
    have d := h4 k (by omega)
    have e := mulW_in (a := ss.getD k 0 - js[k]!.t) (b := js[k]!.l) (A := 5000) (B := 20) (by omega) (by omega) (by omega) (by omega)
    have f : weighL js ss (k + 1) = weighL js ss k + (ss.getD k 0 - js[k]!.t) * js[k]!.l := rfl
    rw [f]
    push_cast
    omega
theorem overL_bd (js : List Jb) (ss : List Int) (i : Nat) : 0 ≤ overL js ss i ∧ overL js ss i ≤ i * (ss.length : Int) := by
  induction i with
  | zero => simp [overL]
  | succ i ih =>
    have a := overRow_bd js ss i ss.length
    have e : overL js ss (i + 1) = overL js ss i + overRow js ss i ss.length := rfl
    rw [e]
    push_cast
    rw [Int.add_mul, Int.one_mul]
    omega

set_option maxHeartbeats 2000000 in
theorem implWeightedWait_any (v u : Value) (js : List Jb) (ss : List Int) (w : World) (h : RJbS w w.heap.size v js) (h' : RI w w.heap.size u ss) (hn : js.length ≤ 1048576) (hn2 : ss.length ≤ 1048576) :
    Calls Try.prog 22 #[v, u] w (RetV w (.tuple #[.int .i64 (weighted js ss).1, .bool (weighted js ss).2])) := by
  have HA := Lib.hid (implScheduled_any v u js ss w h h' hn hn2)
  cases hg : schd js ss
  · have HF : weighted js ss = (0, false) := by simp [weighted, hg]
    rw [HF]
    rw [hg] at HA
    clear hg HF
    go_enter Try.func22, Try.ntmps22
    go_wp2_with fail
    refine HA.out.mono ?_; rintro e w1 ⟨rfl, T⟩
    go_wp2_with fail
    go_ret2
    exact ⟨rfl, T⟩
  have hgs := schd_t hg
  rw [hg] at HA
  have HF : weighted js ss = (weighL js ss ss.length, true) := by simp [weighted, hg]
  rw [HF]
  obtain ⟨hjl, hn3, hsb, hjb⟩ := givenB_in hgs.1
  have hst := fun i hi => (schedB_t.1 hgs.2 i hi).1
  have h0 := h
  obtain ⟨A, c, rfl, _⟩ := h
  obtain ⟨_, _, _, hc⟩ := h0.parts
  obtain ⟨A', c', rfl, hlc', hc'⟩ := h'
  have HBD := Lib.hid (fun k hk => weighL_bd hg k hk)
  obtain ⟨n, hN⟩ : ∃ n, ss.length = n := ⟨_, rfl⟩
  rw [hjl] at hc HA ⊢
  rw [hN] at hc hc' HA hlc' hn3 hsb hjb hst HBD ⊢
  have HN := Lib.hid hN
  have hn' : (n : Int) ≤ 20 := by omega
  have HSB := Lib.hid hsb
  have HJB := Lib.hid hjb
  have HST := Lib.hid hst
  have HC := Lib.hid hc
  have HC' := Lib.hid hc'
  clear HF hg hgs hjl hsb hjb hst hc hc' hN h0 hn2 hn
  go_enter Try.func22, Try.ntmps22
  go_wp2_with fail
  refine HA.out.mono ?_; rintro e w1 ⟨rfl, T1⟩
  have T := T1
  have hT := T.size
  have HT := Lib.hid T
  clear T T1
  go_wp2_with fail
  go_loopw [6, 15] (fun u i wr => ∃ k : Nat, k ≤ n ∧ i = .int .i64 k ∧ u = .int .i64 (weighL js ss k) ∧ Below w1.heap.size w1 wr) (fun _ i _ => n - (intOf i).toNat)
  case atStart => exact ⟨0, Nat.zero_le _, rfl, rfl, Below.refl _ _⟩
  case round =>
    obtain ⟨k, hk, rfl, rfl, hbw⟩ := hrel
    have HTW := Lib.hid (HT.out.trans (hbw.mono hT))
    have hsw := hbw.size
    have hbd := HBD.out k hk
    by_cases hlt : k < n
    · have hlt' : (k : Int) < (n : Int) := by omega
      obtain ⟨b2, off2, hA2, hb2, hcell2⟩ := HC'.out (by omega)
      obtain ⟨b4, off4, hA4, hb4, hcell4⟩ := HC.out (by omega)
      subst hA2; subst hA4
      have hc1 := (HTW.out.cell (p := ⟨b2, off2 + k, none⟩) hb2).trans (hcell2 k hlt)
      obtain ⟨hd1, hd2, hd3⟩ := hcell4 k hlt
      have hc2 := (HTW.out.cell (p := ⟨b4, off4 + k * 3, none⟩) hb4).trans hd1
      have hc3 := (HTW.out.cell (p := ⟨b4, off4 + k * 3 + 1, none⟩) hb4).trans hd2
      have hc4 := (HTW.out.cell (p := ⟨b4, off4 + k * 3 + 2, none⟩) hb4).trans hd3
      have s1 := HSB.out k hlt
      have j1 := HJB.out k hlt
      have t1 := HST.out k hlt
      clear hd1 hd2 hd3
      have HWS : Hid (weighL js ss (k + 1) = weighL js ss k + (ss.getD k 0 - js[k]!.t) * js[k]!.l) := rfl
      generalize weighL js ss k = S at hbd HWS ⊢
      generalize ss.getD k 0 = sx at hc1 s1 t1 HWS
      generalize js[k]! = y at hc2 hc3 hc4 j1 t1 HWS
      obtain ⟨yt, yc, yl⟩ := y
      simp only at hc2 hc3 hc4 j1 t1 HWS
      have hm := mulW_in (a := sx - yt) (b := yl) (A := 5000) (B := 20) (by omega) (by omega) (by omega) (by omega)
      have e0 : IntKind.i64.wrap ((sx - yt) * yl) = (sx - yt) * yl := IntWalk.i64_in _ (by omega)
      obtain ⟨V, hV⟩ : ∃ V, (sx - yt) * yl = V := ⟨_, rfl⟩
      rw [hV] at e0 hm HWS
      have e1 : IntKind.i64.wrap (S + V) = S + V := IntWalk.i64_in _ (by omega)
      have e2 : IntKind.i64.wrap (sx - yt) = sx - yt := IntWalk.i64_in _ (by omega)
      have HVV := Lib.hid hV
      clear hV
      have hq1 : (wr.alloc (.cells #[.int .i64 yt, .int .i64 yc, .int .i64 yl] 43)).cell? ⟨b2, off2 + k, none⟩ = some (.int .i64 sx) := (World.cell?_alloc_lt wr _ _ (show b2 < wr.heap.size by omega)).trans hc1
      have HBN := Lib.hid (hbw.alloc hsw (.cells #[.int .i64 yt, .int .i64 yc, .int .i64 yl] 43))
      clear hbw
      go_wp2_with fail
      go_quiet (fail)
      go_wp2_with fail
      go_roundw
      case rel => exact ⟨k + 1, by omega, by go_num, by rw [HWS.out]; congr 1; rw [HVV.out]; unfold wrap64; omega, below_drewN HBN.out _⟩
      case measure => simp [intOf]; omega
    · obtain rfl : k = n := by omega
      clear hbw
      go_wp2_with fail
      go_ret2
      exact ⟨rfl, HTW.out⟩
end Go.Proofs.Yteoggoopfjkdkaa
