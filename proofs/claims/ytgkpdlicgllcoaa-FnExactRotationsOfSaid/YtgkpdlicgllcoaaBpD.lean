/-
  Chapter 9: the program's visits: those ahead of the first round, and all of them.
-/
import Derived.Test.YtgkpdlicgllcoaaBpC
import Derived.Test.YtgkpdlicgllcoaaWordsK
namespace Go.Proofs.Ytgkpdlicgllcoaa
open Go.RowKit
set_option maxRecDepth 100000
set_option linter.unusedVariables false
/-- The numbers so far, and noughts behind them. -/
def ptI (l : List Int) (k : Nat) : List Int := l.take k ++ List.replicate (l.length - k) 0
theorem ptI_zero (l : List Int) : ptI l 0 = List.replicate l.length 0 := by simp [ptI]
theorem ptI_all (l : List Int) : ptI l l.length = l := by simp [ptI]
theorem ptI_length (l : List Int) (k : Nat) (hk : k ≤ l.length) : (ptI l k).length = l.length := by simp [ptI]; omega
theorem ptI_set (l : List Int) (k : Nat) (hk : k < l.length) : (ptI l k).set k (l.getD k 0) = ptI l (k + 1) := by
  have e : l.length - k = (l.length - (k + 1)) + 1 := by omega
  have e2 : l.take (k + 1) = l.take k ++ [l[k]] := by rw [List.take_add_one]; simp [hk]
  have e3 : l.getD k 0 = l[k] := by simp [List.getD, hk]
  unfold ptI
  rw [e, List.replicate_succ, List.set_append_right k _ (by simp; omega), List.length_take, show k - min k l.length = 0 by omega, List.set_cons_zero, e2, e3, List.append_assoc]
  rfl
theorem aheadT_len (x : Tm) : (aheadT x).length = x.d.length := by simp [aheadT]
theorem ahead_val (x : Tm) (j : Nat) (hj : j < x.d.length) : (aheadT x).getD j 0 = (j : Int) * x.k - x.k * x.d.length := by
  rw [aheadT_at x j hj, Int.sub_mul, Int.mul_comm (x.d.length : Int) x.k]
set_option maxHeartbeats 1000000 in
theorem visitsAhead_any (s : Value) (x : Tm) (w : World) (h : RI w w.heap.size s x.d) (hx : tmPre x = true) :
    Calls Try.prog 88 #[TmV x s] w fun e w' => ∃ g c, e = .returned (.slice (some ⟨g, 0, none⟩) x.d.length c) ∧ RC w' g c (aheadT x) ∧ w.heap.size ≤ g ∧ Below w.heap.size w w' := by
  have hin := tmPre_in hx
  have hu := usedT_in hx
  have HT := Lib.hid fun W (hb : Below w.heap.size w W) => ticksOfWalks_any s x W ((h.below hb).more hb.size) hx
  have HAL := Lib.hid (aheadT_len x)
  have HAV := Lib.hid fun j hj => ahead_val x j hj
  generalize aheadT x = AH at *
  obtain ⟨i0, hi, hz0, hz1, hz2⟩ := info_parts int_info
  obtain ⟨t, k, d⟩ := x
  simp only [TmV] at *
  obtain ⟨A, c, rfl, hlc, hc⟩ := h
  clear hc
  have hn' : (d.length : Int) ≤ 12 := by omega
  generalize hM : k * (d.length : Int) = M at *
  have p0 := BK.made w 27 #[.int .i64 t, .int .i64 k, .slice A d.length c]
  have hW : Below w.heap.size w (w.alloc (.cells #[.int .i64 t, .int .i64 k, .slice A d.length c] 27)) := (Below.refl _ _).alloc (Nat.le_refl _) _
  obtain ⟨w0, hw0⟩ : ∃ w0, w0 = (w.alloc (.cells #[.int .i64 t, .int .i64 k, .slice A d.length c] 27)) := ⟨_, rfl⟩
  rw [← hw0] at p0 hW
  have HCL : Hid (∀ W, Below w0.heap.size w0 W → W.cell? ⟨w.heap.size, 0, none⟩ = some (.int .i64 t) ∧ W.cell? ⟨w.heap.size, 1, none⟩ = some (.int .i64 k) ∧ W.cell? ⟨w.heap.size, 2, none⟩ = some (.slice A d.length c)) := by
    show ∀ W, _
    intro W hb
    have p1 := p0.step hb
    have c0 := p1.cell 0
    have c1 := p1.cell 1
    have c2 := p1.cell 2
    simp at c0 c1 c2
    exact ⟨c0, c1, c2⟩
  have HW := Lib.hid hW
  have HW0 := Lib.hid hw0
  obtain ⟨c0, c1, c2⟩ := HCL.out w0 (Below.refl _ _)
  have hd9 : Below w0.heap.size w0 w0 := Below.refl _ _
  have hd : Below w0.heap.size w0 w0.drew := (Below.refl _ _).drew
  clear p0 hW hw0
  have HA1 : Hid (∀ W, Below w0.heap.size w0 W → Calls Try.prog 85 #[.agg #[.int .i64 t, .int .i64 k, .slice A d.length c]] W fun e W' => e = .returned (.int .i64 M) ∧ Below w0.heap.size w0 W') := fun W hb => (HT.out W (HW.out.trans (hb.mono HW.out.size))).mono fun _ _ ⟨he, hb'⟩ => ⟨he, hb.trans (hb'.mono hb.size)⟩
  have HT9 := Lib.hid fun W (hb : Below w0.heap.size w0 W) => HT.out W (HW.out.trans (hb.mono HW.out.size))
  clear hx HT hM
  go_enter Try.func88, Try.ntmps88
  go_upto_region 1 with fail
  rw [← HW0.out]
  go_wp2_with (at_make; refine wpList_make_full _ rfl _ _ 22 rfl w0.heap.size 3 i0 _ 1 Try.underlying22 hi hz0 hz1 _ _ _ _ d.length rfl rfl rfl rfl (by rw [hz2]; omega) (by unfold maxLen; omega) (Nat.le_refl _) ?_; intro w2 hown hg)
  have hrc : RC w2 w0.heap.size d.length (ptI AH 0) := by
    have h1 := RC.made hown
    rw [ptI_zero, HAL.out]
    exact h1
  have hb2 : Below w0.heap.size w0 w2 := (Below.refl _ _).grown hg (Nat.le_refl _) (by intro k hk; cases hk)
  have HRC := Lib.hid hrc
  have HB2 := Lib.hid hb2
  clear hown hg hrc hb2 c0 c1 c2 hd9 hd
  go_wp2_with fail
  go_loopg [11] d.length (fun g s11 wx => ∃ j : Nat, j + g = d.length ∧ s11 = .int .i64 (j : Int) ∧ RC wx w0.heap.size d.length (ptI AH j) ∧ Below w0.heap.size w0 wx)
  case atStart => exact ⟨0, by omega, rfl, HRC.out, HB2.out⟩
  case round =>
    clear HRC HB2
    obtain ⟨j, hjg, rfl, hrc, hb⟩ := hrel
    have HRC := Lib.hid hrc
    have HB := Lib.hid hb
    clear hrc hb
    cases gk with
    | zero =>
      have hje : j = d.length := by omega
      have hz : ¬ ((d.length : Int) < (d.length : Int)) := by omega
      have HPA : Hid (ptI AH d.length = AH) := by show _ = _; have := ptI_all AH; rw [HAL.out] at this; exact this
      rw [hje, HPA.out] at HRC
      rw [hje]
      clear hje hjg
      go_wp2_with fail
      go_ret
      exact ⟨_, _, rfl, HRC.out, HW.out.size, HW.out.trans (HB.out.mono HW.out.size)⟩
    | succ g =>
      have hj : j < d.length := by omega
      have hj' : (j : Int) < (d.length : Int) := by omega
      obtain ⟨c0, c1, c2⟩ := HCL.out wr HB.out
      have hd9 := HB.out
      have hd : Below w0.heap.size w0 wr.drew := HB.out.drew
      have HLN := Lib.hid (ptI_length AH j (by rw [HAL.out]; omega))
      have hcy : wr.cell? ⟨w0.heap.size, j, none⟩ = some (.int .i64 ((ptI AH j).getD j 0)) := HRC.out.cell j (by rw [HLN.out, HAL.out]; exact hj)
      have hfz : wr.frozen? ⟨w0.heap.size, j, none⟩ = false := HRC.out.free j
      have HLT := Lib.hid HRC.out.lt
      generalize (ptI AH j).getD j 0 = u0 at hcy
      have hP := mul_in9 (a := (j : Int)) (b := k) (A := 12) (B := 20) (by omega) (by omega)
      have e1 : IntKind.i64.wrap ((j : Int) * k) = (j : Int) * k := IntWalk.i64_in _ (by omega)
      have e2 : IntKind.i64.wrap ((j : Int) * k - M) = (j : Int) * k - M := IntWalk.i64_in _ (by omega)
      have HVAL := Lib.hid (HAV.out j hj)
      have HSET := Lib.hid (ptI_set AH j (by rw [HAL.out]; exact hj))
      have HA2 : Hid (∀ W, Below wr.heap.size wr W → Calls Try.prog 85 #[.agg #[.int .i64 t, .int .i64 k, .slice A d.length c]] W fun e W' => e = .returned (.int .i64 M) ∧ Below wr.heap.size wr W') := fun W hb => (HT9.out W (HB.out.trans (hb.mono HB.out.size))).mono fun _ _ ⟨he, hb'⟩ => ⟨he, hb.trans (hb'.mono hb.size)⟩
      have HST : Hid (∀ W u, Below wr.heap.size wr W → (W.setCell ⟨w0.heap.size, j, none⟩ u).cell? ⟨w.heap.size, 0, none⟩ = some (.int .i64 t) ∧ (W.setCell ⟨w0.heap.size, j, none⟩ u).cell? ⟨w.heap.size, 1, none⟩ = some (.int .i64 k) ∧ (W.setCell ⟨w0.heap.size, j, none⟩ u).cell? ⟨w.heap.size, 2, none⟩ = some (.slice A d.length c)) := by
        show ∀ W u, _
        intro W u hb
        exact HCL.out _ ((HB.out.trans (hb.mono HB.out.size)).setCell (p := ⟨w0.heap.size, j, none⟩) (Nat.le_refl _) u)
      have hr9 : Below wr.heap.size wr wr := Below.refl _ _
      have hrd : Below wr.heap.size wr wr.drew := (Below.refl _ _).drew
      go_upto_region 5 with fail
      go_region_held3 (fun w' => w'.cell? ⟨w.heap.size, 0, none⟩ = some (.int .i64 t) ∧ w'.cell? ⟨w.heap.size, 1, none⟩ = some (.int .i64 k) ∧ w'.cell? ⟨w.heap.size, 2, none⟩ = some (.slice A d.length c)) (with_reducible first | exact ⟨c0, c1, c2⟩ | (refine ⟨?_, ?_, ?_⟩ <;> assumption) | exact HST.out _ _ (by assumption) | go_keep) (first
        | (go_at_call 85; (with_reducible refine (HA2.out _ (by first | assumption)).mono ?_); rintro e w7 ⟨rfl, hb7⟩; obtain ⟨d0, d1, d2⟩ := HCL.out _ (HB.out.trans (hb7.mono HB.out.size)); have y7 := (hb7.cell (p := ⟨w0.heap.size, j, none⟩) HLT.out).trans hcy; have z7 := (hb7.frozen (p := ⟨w0.heap.size, j, none⟩) HLT.out).trans hfz))
      · have hs := (HRC.out.step hb7).set j ((j : Int) * k - M)
        have HS : Hid (RC (w7.setCell ⟨w0.heap.size, j, none⟩ (.int .i64 ((j : Int) * k - M))) w0.heap.size d.length (ptI AH (j + 1))) := by
          show RC _ _ _ _
          rw [← HSET.out, HVAL.out]
          exact hs
        have HB7 := Lib.hid ((HB.out.trans (hb7.mono HB.out.size)).setCell (p := ⟨w0.heap.size, j, none⟩) (Nat.le_refl _) (.int .i64 ((j : Int) * k - M)))
        clear hs
        go_wp2_with fail
        go_roundg g
        case measure => omega
        case rel => exact ⟨j + 1, by omega, by go_num, HS.out, HB7.out⟩
end Go.Proofs.Ytgkpdlicgllcoaa
