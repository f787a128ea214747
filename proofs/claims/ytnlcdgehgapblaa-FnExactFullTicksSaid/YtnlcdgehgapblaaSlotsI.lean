/-
  The program's slots behind a tick.
-/
import Derived.Test.YtnlcdgehgapblaaReadX
import Derived.Test.YtnlcdgehgapblaaIn
import Derived.Test.YtnlcdgehgapblaaChanJ
namespace Go.Proofs.Ytnlcdgehgapblaa
open Go.RowKit Go.Maps
set_option maxRecDepth 100000
set_option linter.unusedVariables false

/-- Message i has its slot behind tick T. -/
def hasS (x : Sr) (l : List Ms) (T i : Nat) : Prop := (swOf x l).fin (lastT l) i ≤ (T : Int) ∧ (T : Int) ≤ (swOf x l).fin (lastT l) i + ((swOf x l).dur i : Int) - 1
def ownS (x : Sr) (l : List Ms) (i : Nat) : Nat := (swOf x l).kof ((swOf x l).fr i) ((swOf x l).fin (lastT l) i).toNat
theorem S_yes {x : Sr} {l : List Ms} (hg : slOk x l = true) (T i : Nat) (hi : i < l.length) (h : hasS x l T i) : ownS x l i < x.n.toNat ∧ (swOf x l).S (T + 1) (ownS x l i) = i + 1 := by
  have hin := isSr_in (slOk_in hg).1
  obtain ⟨hl20, hall, _⟩ := areMs_in (slOk_in hg).2
  have hok := swOk hin hall
  have hI := Sw.inv_run hok (T + 1)
  have h3 := Sw.F_of_fin hok (lastT l) (fun i hi => (lastT_le (slOk_in hg).2 i hi).1) (T + 1) i hi
  have h4 := (F_need hg i hi).2.1
  obtain ⟨ha, hb⟩ := h
  rw [if_pos (by omega)] at h3
  refine ⟨Sw.kof_lt hok _ _, hI.holds i _ hi (show (swOf x l).F (T + 1) i = _ by rw [h3, Int.toNat_of_nonneg h4]) (by omega)⟩
theorem S_only {x : Sr} {l : List Ms} (hg : slOk x l = true) (T i k : Nat) (hi : i < l.length) (hk : k < x.n.toNat) (h : (swOf x l).S (T + 1) k = i + 1) : hasS x l T i ∧ ownS x l i = k := by
  have hin := isSr_in (slOk_in hg).1
  obtain ⟨hl20, hall, _⟩ := areMs_in (slOk_in hg).2
  have hok := swOk hin hall
  have hI := Sw.inv_run hok (T + 1)
  have h3 := Sw.F_of_fin hok (lastT l) (fun i hi => (lastT_le (slOk_in hg).2 i hi).1) (T + 1) i hi
  have h4 := (F_need hg i hi).2.1
  obtain ⟨i2, f, e1, e2, e3, e4, e5, e6⟩ := hI.slot k hk (by show (swOf x l).S (T + 1) k ≠ 0; omega)
  have e7 : i2 = i := by have : (swOf x l).S (T + 1) k = i2 + 1 := e1; omega
  subst e7
  have e8 : (swOf x l).F (T + 1) i2 = (f : Int) := e3
  rw [h3] at e8
  have e9 : (swOf x l).fin (lastT l) i2 = (f : Int) := by
    split at e8
    · exact e8
    · omega
  unfold hasS ownS
  rw [e9]
  refine ⟨⟨by omega, by omega⟩, by simpa using e6⟩
theorem S_le {x : Sr} {l : List Ms} (hg : slOk x l = true) (T k : Nat) (hk : k < x.n.toNat) : (swOf x l).S (T + 1) k ≤ l.length := by
  have hin := isSr_in (slOk_in hg).1
  obtain ⟨hl20, hall, _⟩ := areMs_in (slOk_in hg).2
  have hok := swOk hin hall
  have hI := Sw.inv_run hok (T + 1)
  by_cases h0 : (swOf x l).S (T + 1) k = 0
  · omega
  · obtain ⟨i2, f, e1, e2, _⟩ := hI.slot k hk h0
    have e3 : (swOf x l).S (T + 1) k = i2 + 1 := e1
    have e4 : i2 < l.length := e2
    omega
/-- The slots of the first j messages. -/
def upS (x : Sr) (l : List Ms) (T j : Nat) : List Int := tab (fun k => ((if (swOf x l).S (T + 1) k ≤ j then (swOf x l).S (T + 1) k else 0 : Nat) : Int)) x.n.toNat
theorem upS_len (x : Sr) (l : List Ms) (T j : Nat) : (upS x l T j).length = x.n.toNat := tab_len _ _
theorem upS_zero (x : Sr) (l : List Ms) (T : Nat) : upS x l T 0 = List.replicate x.n.toNat 0 := by
  rw [← tab_const]
  exact tab_congr fun k hk => by split <;> omega
theorem upS_all {x : Sr} {l : List Ms} (hg : slOk x l = true) (T : Nat) : upS x l T l.length = tab (fun k => ((swOf x l).S (T + 1) k : Int)) x.n.toNat := tab_congr fun k hk => by rw [if_pos (S_le hg T k hk)]
theorem upS_yes {x : Sr} {l : List Ms} (hg : slOk x l = true) (T j : Nat) (hj : j < l.length) (h : hasS x l T j) : (upS x l T j).set (ownS x l j) ((j : Int) + 1) = upS x l T (j + 1) := by
  unfold upS
  rw [tab_set]
  refine tab_congr fun k hk => ?_
  obtain ⟨_, h2⟩ := S_yes hg T j hj h
  by_cases e : k = ownS x l j
  · rw [if_pos e, e, h2, if_pos (Nat.le_refl _)]; push_cast; rfl
  · rw [if_neg e]
    have h3 : (swOf x l).S (T + 1) k ≠ j + 1 := fun h4 => e (S_only hg T j k hj hk h4).2.symm
    by_cases h5 : (swOf x l).S (T + 1) k ≤ j
    · rw [if_pos h5, if_pos (by omega)]
    · rw [if_neg h5, if_neg (by omega)]
theorem upS_no {x : Sr} {l : List Ms} (hg : slOk x l = true) (T j : Nat) (hj : j < l.length) (h : ¬ hasS x l T j) : upS x l T j = upS x l T (j + 1) := by
  refine tab_congr fun k hk => ?_
  have h3 : (swOf x l).S (T + 1) k ≠ j + 1 := fun h4 => h (S_only hg T j k hj hk h4).1
  by_cases h5 : (swOf x l).S (T + 1) k ≤ j
  · rw [if_pos h5, if_pos (by omega)]
  · rw [if_neg h5, if_neg (by omega)]
set_option maxHeartbeats 1000000 in
theorem ticksInSlot_any (x : Sr) (y : Ms) (w : World) (hin : 2 ≤ x.n ∧ x.n ≤ 12) (hy : MsIn x.n y) : Calls Try.prog 55 #[SrV x, MsV y] w (RetV w (.int .i64 (if x.h then x.n else hopsI x.n y))) := by
  have HH := Lib.hid (fun w => slHops_any x y w hin hy)
  obtain ⟨k, hh⟩ := x
  obtain ⟨t, f, o⟩ := y
  simp only [SrV, MsV] at HH ⊢
  have hW : Below w.heap.size w ((w.alloc (.cells #[.int .i64 k, .bool hh] 29)).alloc (.cells #[.int .i64 t, .int .i64 f, .int .i64 o] 51)) := ((Below.refl _ _).alloc (Nat.le_refl _) _).alloc (by simp) _
  cases hh
  · simp only [Bool.false_eq_true, if_false]
    go_enter Try.func55, Try.ntmps55
    go_wp2_with fail
    refine (HH.out _).mono ?_; rintro e w2 ⟨rfl, hb2⟩
    go_wp2_with fail
    go_ret
    exact ⟨rfl, hW.trans (hb2.mono hW.size)⟩
  · simp only [if_true]
    go_enter Try.func55, Try.ntmps55
    go_wp2_with fail
    go_ret
    exact ⟨rfl, hW⟩
set_option maxHeartbeats 1000000 in
theorem slotAt_any (x : Sr) (s t : Nat) (w : World) (hin : 2 ≤ x.n ∧ x.n ≤ 12) (hs : s < x.n.toNat) (ht : t ≤ 1000) : Calls Try.prog 56 #[SrV x, .int .i64 (s : Nat), .int .i64 (t : Nat)] w (RetV w (.int .i64 (((s + x.n.toNat - t % x.n.toNat) % x.n.toNat : Nat) : Int))) := by
  obtain ⟨k, hh⟩ := x
  simp only [SrV] at hin hs ⊢
  obtain ⟨n, hN⟩ : ∃ n : Nat, n = k.toNat := ⟨_, rfl⟩
  have hk : k = (n : Int) := by omega
  subst hk
  simp only [Int.toNat_natCast] at hs ⊢
  clear hN
  obtain ⟨r, hr⟩ : ∃ r, r = t % n := ⟨_, rfl⟩
  have hrn : r < n := by rw [hr]; exact Nat.mod_lt _ (by omega)
  have m1 : (t : Int) % (n : Int) = (r : Int) := by rw [hr]; push_cast; rfl
  have m2 : (t : Int).tmod (n : Int) = (r : Int) := by rw [Int.tmod_eq_emod_of_nonneg (by omega)]; exact m1
  rw [← hr]
  clear hr
  have e0 : ((s + n - r : Nat) : Int) = (s : Int) - (r : Int) + (n : Int) := by omega
  obtain ⟨q, hq⟩ : ∃ q, q = (s + n - r) % n := ⟨_, rfl⟩
  have m3 : ((s : Int) - (r : Int) + (n : Int)) % (n : Int) = (q : Int) := by rw [hq, ← e0]; push_cast; rfl
  have m4 : ((s : Int) - (r : Int) + (n : Int)).tmod (n : Int) = (q : Int) := by rw [Int.tmod_eq_emod_of_nonneg (by omega)]; exact m3
  have m5 : ((s : Int) - (r : Int)) % (n : Int) = (q : Int) := by rw [← m3, Int.add_emod_right]
  rw [← hq]
  clear hq e0
  have w1 : IntKind.i64.wrap ((s : Int) - (r : Int)) = (s : Int) - (r : Int) := IntWalk.i64_in _ (by omega)
  have w2 : IntKind.i64.wrap ((s : Int) - (r : Int) + (n : Int)) = (s : Int) - (r : Int) + (n : Int) := IntWalk.i64_in _ (by omega)
  have hn0 : (n : Int) ≠ 0 := by omega
  have hW : Below w.heap.size w (w.alloc (.cells #[.int .i64 (n : Int), .bool hh] 29)) := (Below.refl _ _).alloc (Nat.le_refl _) _
  have c0 : (w.alloc (.cells #[.int .i64 (n : Int), .bool hh] 29)).cell? ⟨w.heap.size, 0, none⟩ = some (.int .i64 (n : Int)) := by simp
  go_enter Try.func56, Try.ntmps56
  go_upto_region 1 with fail
  go_quiet (fail)
  go_wp2_with fail
  go_ret
  exact ⟨rfl, below_drewN hW _⟩
end Go.Proofs.Ytnlcdgehgapblaa
