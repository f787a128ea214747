/-
  Chapter 9: timed rings: the contracts of IsTimedRing, RotationBound, FreeShare, FixedWithin, both sides.
-/
import Derived.Test.YtgkpdlicgllcoaaMathTm
import Derived.Test.YtgkpdlicgllcoaaShA
import Derived.Test.YtgkpdlicgllcoaaAcc
import Derived.Test.YtgkpdlicgllcoaaSTimedRing
import Derived.Deep.RegionHeld3
import Derived.Deep.RegionWith
import Derived.Deep.DeepCutAuto
import Derived.Deep.LoopGhost
namespace Go.Proofs.Ytgkpdlicgllcoaa
open Go.RowKit
set_option maxRecDepth 100000
set_option linter.unusedVariables false
/-- All but the last condition. -/
def tmPre (x : Tm) : Bool := decide (1 ≤ x.d.length ∧ x.d.length ≤ 12) && (wi x.t 1 200 && (wi x.k 1 20 && okAll 0 200 x.d))
theorem tmPre_in {x : Tm} (h : tmPre x = true) : (1 ≤ x.d.length ∧ x.d.length ≤ 12) ∧ (1 ≤ x.t ∧ x.t ≤ 200) ∧ (1 ≤ x.k ∧ x.k ≤ 20) ∧ okAll 0 200 x.d = true := by simpa [tmPre, wi] using h
theorem tmOk_is (x : Tm) : tmOk x = (tmPre x && decide (usedT x ≤ x.t)) := by simp only [tmOk, tmPre, usedT, Bool.and_assoc] <;> rfl
theorem okAll_mem {l : List Int} (h : okAll 0 200 l = true) : ∀ x ∈ l, 0 ≤ x ∧ x ≤ 200 := by
  intro x hx
  obtain ⟨j, hj, rfl⟩ := List.getElem_of_mem hx
  have := okAll_at h j hj
  simpa [List.getD, hj] using this
theorem usedT_in {x : Tm} (h : tmPre x = true) : (0 ≤ x.k * x.d.length ∧ x.k * x.d.length ≤ 240) ∧ (0 ≤ sumL x.d ∧ sumL x.d ≤ 2400) := by
  have hin := tmPre_in h
  have h1 := sumL_bound x.d 200 (okAll_mem hin.2.2.2) x.d.length (Nat.le_refl _)
  rw [List.take_length] at h1
  have p := Int.mul_nonneg (show (0 : Int) ≤ x.k by omega) (show (0 : Int) ≤ x.d.length by omega)
  have q := Int.mul_le_mul (show x.k ≤ 20 by omega) (show (x.d.length : Int) ≤ 12 by omega) (show (0 : Int) ≤ x.d.length by omega) (show (0 : Int) ≤ 20 by omega)
  omega
theorem tmSum_any (v : Value) (l : List Int) (w : World) (h : RI w w.heap.size v l) (hn : l.length ≤ 1000) (hl : ∀ x ∈ l, 0 ≤ x ∧ x ≤ 1000000) :
    Calls Try.prog 84 #[v] w (RetV w (.int .i64 (sumL l))) := by
  obtain ⟨A, c, rfl, hlc, hc⟩ := h
  have hn' : (l.length : Int) ≤ 1000 := by omega
  have HS := Lib.hid (sumL_bound l 1000000 hl)
  have HL := Lib.hid hl
  clear hl
  go_enter Try.func84, Try.ntmps84
  go_wp2
  go_loop [3, 8] (fun u i => ∃ k : Nat, k ≤ l.length ∧ u = .int .i64 (sumL (l.take k)) ∧ i = .int .i64 k) (fun _ i => l.length - (intOf i).toNat)
  case atStart => exact ⟨0, Nat.zero_le _, rfl, rfl⟩
  case round =>
    obtain ⟨k, hk, rfl, rfl⟩ := hrel
    have hs := HS.out k hk
    by_cases hlt : k < l.length
    · obtain ⟨b, off, rfl, hbB, hcell⟩ := hc (by omega)
      have hcx : w.cell? ⟨b, off + k, none⟩ = some (.int .i64 (l.getD k 0)) := hcell k hlt
      have hx := HL.out (l.getD k 0) (by simp [hlt])
      have HT := Lib.hid (sumL_take l k hlt)
      clear hcell hc
      have hb2 : (1000000 : Int) * (k : Int) ≤ 1000000000 := by omega
      generalize sumL (l.take k) = s at hs HT ⊢
      generalize l.getD k 0 = x at hcx hx HT
      have hs2 : s ≤ 1000000000 := by omega
      clear hb2
      go_wp2
      go_round
      case rel => exact ⟨k + 1, by omega, by rw [HT.out] <;> go_num, by go_num⟩
      case measure => simp [intOf]; omega
    · obtain rfl : k = l.length := by omega
      rw [List.take_length] at hs ⊢
      go_wp2
      go_ret
      exact ⟨rfl, Below.refl _ _⟩
set_option maxHeartbeats 1000000 in
theorem ticksOfWalks_any (s : Value) (x : Tm) (w : World) (h : RI w w.heap.size s x.d) (hx : tmPre x = true) :
    Calls Try.prog 85 #[TmV x s] w (RetV w (.int .i64 (x.k * x.d.length))) := by
  have hu := usedT_in hx
  have hin := tmPre_in hx
  obtain ⟨t, k, d⟩ := x
  simp only [TmV] at *
  obtain ⟨A, c, rfl, hlc, hc⟩ := h
  clear hc
  have hW : Below w.heap.size w (w.alloc (.cells #[.int .i64 t, .int .i64 k, .slice A d.length c] 27)) := (Below.refl _ _).alloc (Nat.le_refl _) _
  have hn' : (d.length : Int) ≤ 12 := by omega
  clear hx
  go_enter Try.func85, Try.ntmps85
  go_wp2_with fail
  go_ret
  exact ⟨rfl, hW⟩
set_option maxHeartbeats 1000000 in
theorem freeShare_any (s : Value) (x : Tm) (w : World) (h : RI w w.heap.size s x.d) (hx : tmPre x = true) :
    Calls Try.prog 63 #[TmV x s] w (RetV w (.int .i64 (x.t - usedT x))) := by
  have hu := usedT_in hx
  have hin := tmPre_in hx
  have H1 := Lib.hid fun W (hb : Below w.heap.size w W) => tmSum_any s x.d W ((h.below hb).more hb.size) (by omega) (fun y hy => by have := okAll_mem hin.2.2.2 y hy; omega)
  have H2 := Lib.hid fun W (hb : Below w.heap.size w W) => ticksOfWalks_any s x W ((h.below hb).more hb.size) hx
  have hV : x.t - usedT x = x.t - sumL x.d - x.k * x.d.length := by unfold usedT; omega
  rw [hV]
  clear hV
  obtain ⟨t, k, d⟩ := x
  simp only [TmV] at *
  obtain ⟨A, c, rfl, hlc, hc⟩ := h
  clear hc
  generalize sumL d = S at *
  generalize k * (d.length : Int) = M at *
  have p0 := BK.made w 27 #[.int .i64 t, .int .i64 k, .slice A d.length c]
  have hW : Below w.heap.size w (w.alloc (.cells #[.int .i64 t, .int .i64 k, .slice A d.length c] 27)) := (Below.refl _ _).alloc (Nat.le_refl _) _
  obtain ⟨w0, hw0⟩ : ∃ w0, w0 = (w.alloc (.cells #[.int .i64 t, .int .i64 k, .slice A d.length c] 27)) := ⟨_, rfl⟩
  rw [← hw0] at p0 hW
  have HCL : Hid (∀ W, Below w0.heap.size w0 W → W.cell? ⟨w.heap.size, 0, none⟩ = some (.int .i64 t) ∧ W.cell? ⟨w.heap.size, 1, none⟩ = some (.int .i64 k) ∧ W.cell? ⟨w.heap.size, 2, none⟩ = some (.slice A d.length c)) := by
    show ∀ W, _
    intro W hb
    have p1 := p0.step hb
    have c0 := p1.cell 0
    have c1 := p1.cell 1
    have c2 := p1.cell 2
    simp at c0 c1 c2
    exact ⟨c0, c1, c2⟩
  have HW := Lib.hid hW
  have HW0 := Lib.hid hw0
  obtain ⟨c0, c1, c2⟩ := HCL.out w0 (Below.refl _ _)
  have hd9 : Below w0.heap.size w0 w0 := Below.refl _ _
  have hd : Below w0.heap.size w0 w0.drew := (Below.refl _ _).drew
  clear p0 hW hw0
  have HA1 : Hid (∀ W, Below w0.heap.size w0 W → Calls Try.prog 84 #[.slice A d.length c] W fun e W' => e = .returned (.int .i64 S) ∧ Below w0.heap.size w0 W') := fun W hb => (H1.out W (HW.out.trans (hb.mono HW.out.size))).mono fun _ _ ⟨he, hb'⟩ => ⟨he, hb.trans (hb'.mono hb.size)⟩
  have HA2 : Hid (∀ W, Below w0.heap.size w0 W → Calls Try.prog 85 #[.agg #[.int .i64 t, .int .i64 k, .slice A d.length c]] W fun e W' => e = .returned (.int .i64 M) ∧ Below w0.heap.size w0 W') := fun W hb => (H2.out W (HW.out.trans (hb.mono HW.out.size))).mono fun _ _ ⟨he, hb'⟩ => ⟨he, hb.trans (hb'.mono hb.size)⟩
  have e1 : IntKind.i64.wrap (t - S) = t - S := IntWalk.i64_in _ (by omega)
  have e2 : IntKind.i64.wrap (t - S - M) = t - S - M := IntWalk.i64_in _ (by omega)
  clear hx H1 H2
  go_enter Try.func63, Try.ntmps63
  go_upto_region 1 with fail
  rw [← HW0.out]
  go_region_held3 (fun w' => w'.cell? ⟨w.heap.size, 0, none⟩ = some (.int .i64 t) ∧ w'.cell? ⟨w.heap.size, 1, none⟩ = some (.int .i64 k) ∧ w'.cell? ⟨w.heap.size, 2, none⟩ = some (.slice A d.length c)) (with_reducible first | exact ⟨c0, c1, c2⟩ | (refine ⟨?_, ?_, ?_⟩ <;> assumption) | go_keep) (first
    | (go_at_call 84; (with_reducible refine (HA1.out _ (by first | assumption)).mono ?_); rintro e w7 ⟨rfl, hb7⟩; obtain ⟨d0, d1, d2⟩ := HCL.out _ hb7)
    | (go_at_call 85; (with_reducible refine (HA2.out _ (by first | assumption)).mono ?_); rintro e w8 ⟨rfl, hb8⟩; obtain ⟨e0, e1, e2⟩ := HCL.out _ hb8))
  all_goals
    go_wp2_with fail
    go_ret
    first
      | exact ⟨rfl, HW.out.trans (hb8.mono HW.out.size)⟩
      | exact ⟨rfl, HW.out.trans (hb7.mono HW.out.size)⟩
      | exact ⟨rfl, (HW.out.trans (hb8.mono HW.out.size)).drew⟩
      | exact ⟨rfl, (HW.out.trans (hb7.mono HW.out.size)).drew⟩
set_option maxHeartbeats 1000000 in
theorem boUsed_any (s : Value) (x : Tm) (w : World) (h : RI w w.heap.size s x.d) (hx : tmPre x = true) :
    Calls Try.prog 65 #[TmV x s] w (RetV w (.int .i64 (usedT x))) := by
  have hu := usedT_in hx
  have hin := tmPre_in hx
  have HS := Lib.hid (sumL_bound x.d 200 (okAll_mem hin.2.2.2))
  have HL := Lib.hid (okAll_mem hin.2.2.2)
  have HU : Hid (usedT x = x.k * x.d.length + sumL x.d) := rfl
  obtain ⟨U, hU⟩ : ∃ U, U = usedT x := ⟨_, rfl⟩
  rw [← hU] at HU ⊢
  clear hU
  obtain ⟨t, k, d⟩ := x
  simp only [TmV] at *
  obtain ⟨A, c, rfl, hlc, hc⟩ := h
  have HC := Lib.hid hc
  have hn' : (d.length : Int) ≤ 12 := by omega
  have hW : Below w.heap.size w (w.alloc (.cells #[.int .i64 t, .int .i64 k, .slice A d.length c] 27)) := (Below.refl _ _).alloc (Nat.le_refl _) _
  have hum : 0 ≤ k * (d.length : Int) ∧ k * (d.length : Int) ≤ 240 := hu.1
  have hwm : IntKind.i64.wrap (k * (d.length : Int)) = k * (d.length : Int) := IntWalk.i64_in _ (by omega)
  obtain ⟨M, hM⟩ : ∃ M, M = k * (d.length : Int) := ⟨_, rfl⟩
  have HM : Hid (k * (d.length : Int) = M) := hM.symm
  rw [← hM] at hum hwm HU
  have HW := Lib.hid hW
  clear hx hc hM hu hW
  go_enter Try.func65, Try.ntmps65
  go_wp2_with fail
  go_loopg [15, 3] d.length (fun g s15 s3 wx => ∃ j : Nat, j + g = d.length ∧ s15 = .int .i64 (j : Int) ∧ s3 = .int .i64 (M + sumL (d.take j)) ∧ wx = (w.alloc (.cells #[.int .i64 t, .int .i64 k, .slice A d.length c] 27)))
  case atStart => exact ⟨0, by omega, rfl, (by simp [sumL]; rw [HM.out]; first | exact hwm | (simp at hwm; exact hwm) | (unfold wrap64; omega)), rfl⟩
  case round =>
    obtain ⟨j, hjg, rfl, rfl, rfl⟩ := hrel
    cases gk with
    | zero =>
      have hje : j = d.length := by omega
      have hz : ¬ ((d.length : Int) < (d.length : Int)) := by omega
      rw [hje, List.take_length, ← HU.out]
      clear hje hjg
      go_wp2_with fail
      go_ret
      exact ⟨rfl, HW.out⟩
    | succ g =>
      have hj : j < d.length := by omega
      have hj' : (j : Int) < (d.length : Int) := by omega
      obtain ⟨b, off, rfl, hbB, hcell⟩ := HC.out (by omega)
      have hcx := (HW.out.cell (p := ⟨b, off + j, none⟩) hbB).trans (hcell j hj)
      have hs := HS.out j (by omega)
      have hx9 := HL.out (d.getD j 0) (by simp [hj])
      have HT := Lib.hid (sumL_take d j hj)
      generalize sumL (d.take j) = S at hs HT ⊢
      generalize d.getD j 0 = y at hcx hx9 HT
      have hs2 : S ≤ 2400 := by omega
      clear hcell
      go_wp2_with fail
      go_roundg g
      case measure => omega
      case rel => exact ⟨j + 1, by omega, by go_num, (by rw [HT.out]; go_num), rfl⟩
set_option maxHeartbeats 1000000 in
theorem implTimed_any (s : Value) (x : Tm) (w : World) (h : RI w w.heap.size s x.d) (hn : x.d.length ≤ 1048576) :
    Calls Try.prog 19 #[TmV x s] w (RetV w (.bool (tmOk x))) := by
  have hnI : (x.d.length : Int) ≤ 1048576 := by omega
  have HL := Lib.hid fun w => isWithin_wi (x.d.length : Int) 1 12 w
  have HT := Lib.hid fun w => isWithin_wi x.t 1 200 w
  have HK := Lib.hid fun w => isWithin_wi x.k 1 20 w
  have HO := Lib.hid fun W (hb : Below w.heap.size w W) => (have h' := (h.below hb).more hb.size; areAllUpTo_any s x.d 200 W h' (by omega) : Calls Try.prog 62 #[s, .int .i64 200] W fun e w' => e = .returned (.bool (okAll 0 200 x.d)) ∧ W = w')
  have HF := Lib.hid fun (hp : tmPre x = true) W (hb : Below w.heap.size w W) => freeShare_any s x W ((h.below hb).more hb.size) hp
  cases hL : wi (x.d.length : Int) 1 12
  · have e : tmOk x = false := by
      have : ¬ (1 ≤ x.d.length ∧ x.d.length ≤ 12) := by simp [wi] at hL; omega
      simp [tmOk, this]
    rw [e]
    rw [hL] at HL
    clear HT HK HO HF hL e
    obtain ⟨t, k, d⟩ := x
    simp only [TmV] at *
    obtain ⟨A, c, rfl, hlc, hc⟩ := h
    clear hc
    have hW : Below w.heap.size w (w.alloc (.cells #[.int .i64 t, .int .i64 k, .slice A d.length c] 27)) := (Below.refl _ _).alloc (Nat.le_refl _) _
    go_enter Try.func19, Try.ntmps19
    go_wp2_with fail
    refine (HL.out _).mono ?_; rintro e w_ ⟨rfl, rfl⟩
    go_wp2_with fail
    go_ret
    exact ⟨rfl, hW⟩
  have hL2 : 1 ≤ x.d.length ∧ x.d.length ≤ 12 := by simp [wi] at hL; omega
  rw [hL] at HL
  cases hT : wi x.t 1 200
  · rw [show tmOk x = false from by simp [tmOk, hT]]
    rw [hT] at HT
    clear HK HO HF hL hT
    obtain ⟨t, k, d⟩ := x
    simp only [TmV] at *
    obtain ⟨A, c, rfl, hlc, hc⟩ := h
    clear hc
    have hW : Below w.heap.size w (w.alloc (.cells #[.int .i64 t, .int .i64 k, .slice A d.length c] 27)) := (Below.refl _ _).alloc (Nat.le_refl _) _
    go_enter Try.func19, Try.ntmps19
    go_wp2_with fail
    refine (HL.out _).mono ?_; rintro e w_ ⟨rfl, rfl⟩
    go_wp2_with fail
    refine (HT.out _).mono ?_; rintro e w_ ⟨rfl, rfl⟩
    go_wp2_with fail
    go_ret
    exact ⟨rfl, hW⟩
  rw [hT] at HT
  cases hK : wi x.k 1 20
  · rw [show tmOk x = false from by simp [tmOk, hK]]
    rw [hK] at HK
    clear HO HF hL hT hK
    obtain ⟨t, k, d⟩ := x
    simp only [TmV] at *
    obtain ⟨A, c, rfl, hlc, hc⟩ := h
    clear hc
    have hW : Below w.heap.size w (w.alloc (.cells #[.int .i64 t, .int .i64 k, .slice A d.length c] 27)) := (Below.refl _ _).alloc (Nat.le_refl _) _
    go_enter Try.func19, Try.ntmps19
    go_wp2_with fail
    refine (HL.out _).mono ?_; rintro e w_ ⟨rfl, rfl⟩
    go_wp2_with fail
    refine (HT.out _).mono ?_; rintro e w_ ⟨rfl, rfl⟩
    go_wp2_with fail
    refine (HK.out _).mono ?_; rintro e w_ ⟨rfl, rfl⟩
    go_wp2_with fail
    go_ret
    exact ⟨rfl, hW⟩
  rw [hK] at HK
  cases hO : okAll 0 200 x.d
  · rw [show tmOk x = false from by simp [tmOk, hO]]
    rw [hO] at HO
    clear HF hL hT hK hO
    obtain ⟨t, k, d⟩ := x
    simp only [TmV] at *
    obtain ⟨A, c, rfl, hlc, hc⟩ := h
    clear hc
    have hW : Below w.heap.size w (w.alloc (.cells #[.int .i64 t, .int .i64 k, .slice A d.length c] 27)) := (Below.refl _ _).alloc (Nat.le_refl _) _
    go_enter Try.func19, Try.ntmps19
    go_wp2_with fail
    refine (HL.out _).mono ?_; rintro e w_ ⟨rfl, rfl⟩
    go_wp2_with fail
    refine (HT.out _).mono ?_; rintro e w_ ⟨rfl, rfl⟩
    go_wp2_with fail
    refine (HK.out _).mono ?_; rintro e w_ ⟨rfl, rfl⟩
    go_wp2_with fail
    refine (HO.out _ hW).mono ?_; rintro e w_ ⟨rfl, rfl⟩
    go_wp2_with fail
    go_ret
    exact ⟨rfl, hW⟩
  rw [hO] at HO
  have hpre : tmPre x = true := by simp [tmPre, hL2, hT, hK, hO]
  have hu := usedT_in hpre
  have hin := tmPre_in hpre
  have HF := Lib.hid (HF.out hpre)
  rw [show tmOk x = decide (usedT x ≤ x.t) from by simp [tmOk_is, hpre]]
  have hU0 : 0 ≤ usedT x ∧ usedT x ≤ 2640 := by unfold usedT; omega
  generalize usedT x = U at *
  clear hL hT hK hO hpre
  by_cases hle : U ≤ x.t
  · rw [show decide (U ≤ x.t) = true from by simp [hle]]
    obtain ⟨t, k, d⟩ := x
    simp only [TmV] at *
    obtain ⟨A, c, rfl, hlc, hc⟩ := h
    clear hc
    have hW : Below w.heap.size w (w.alloc (.cells #[.int .i64 t, .int .i64 k, .slice A d.length c] 27)) := (Below.refl _ _).alloc (Nat.le_refl _) _
    go_enter Try.func19, Try.ntmps19
    go_wp2_with fail
    refine (HL.out _).mono ?_; rintro e w_ ⟨rfl, rfl⟩
    go_wp2_with fail
    refine (HT.out _).mono ?_; rintro e w_ ⟨rfl, rfl⟩
    go_wp2_with fail
    refine (HK.out _).mono ?_; rintro e w_ ⟨rfl, rfl⟩
    go_wp2_with fail
    refine (HO.out _ hW).mono ?_; rintro e w_ ⟨rfl, rfl⟩
    go_wp2_with fail
    refine (HF.out _ hW).mono ?_; rintro e w1 ⟨rfl, hb⟩
    go_wp2_with fail
    go_ret
    exact ⟨by first | rfl | (simp; done) | (simp; omega), hW.trans (hb.mono hW.size)⟩
  · rw [show decide (U ≤ x.t) = false from by simp [hle]]
    have hle2 : x.t < U := by omega
    clear hle
    obtain ⟨t, k, d⟩ := x
    simp only [TmV] at *
    obtain ⟨A, c, rfl, hlc, hc⟩ := h
    clear hc
    have hW : Below w.heap.size w (w.alloc (.cells #[.int .i64 t, .int .i64 k, .slice A d.length c] 27)) := (Below.refl _ _).alloc (Nat.le_refl _) _
    go_enter Try.func19, Try.ntmps19
    go_wp2_with fail
    refine (HL.out _).mono ?_; rintro e w_ ⟨rfl, rfl⟩
    go_wp2_with fail
    refine (HT.out _).mono ?_; rintro e w_ ⟨rfl, rfl⟩
    go_wp2_with fail
    refine (HK.out _).mono ?_; rintro e w_ ⟨rfl, rfl⟩
    go_wp2_with fail
    refine (HO.out _ hW).mono ?_; rintro e w_ ⟨rfl, rfl⟩
    go_wp2_with fail
    refine (HF.out _ hW).mono ?_; rintro e w1 ⟨rfl, hb⟩
    go_wp2_with fail
    go_ret
    exact ⟨by first | rfl | (simp; done) | (simp; omega), hW.trans (hb.mono hW.size)⟩
set_option maxHeartbeats 1000000 in
theorem boTimed_any (s : Value) (x : Tm) (w : World) (h : RI w w.heap.size s x.d) (hn : x.d.length ≤ 1048576) :
    Calls Try.prog 59 #[TmV x s] w (RetV w (.bool (tmOk x))) := by
  have hnI : (x.d.length : Int) ≤ 1048576 := by omega
  have HL := Lib.hid fun w => l1In_wi (x.d.length : Int) 1 12 w
  have HT := Lib.hid fun w => l1In_wi x.t 1 200 w
  have HK := Lib.hid fun w => l1In_wi x.k 1 20 w
  have HO := Lib.hid fun W (hb : Below w.heap.size w W) => (have h' := (h.below hb).more hb.size; shAll_any s x.d 0 200 W h' (by omega) : Calls Try.prog 83 #[s, .int .i64 0, .int .i64 200] W fun e w' => e = .returned (.bool (okAll 0 200 x.d)) ∧ W = w')
  have HF := Lib.hid fun (hp : tmPre x = true) W (hb : Below w.heap.size w W) => boUsed_any s x W ((h.below hb).more hb.size) hp
  cases hL : wi (x.d.length : Int) 1 12
  · have e : tmOk x = false := by
      have : ¬ (1 ≤ x.d.length ∧ x.d.length ≤ 12) := by simp [wi] at hL; omega
      simp [tmOk, this]
    rw [e]
    rw [hL] at HL
    clear HT HK HO HF hL e
    obtain ⟨t, k, d⟩ := x
    simp only [TmV] at *
    obtain ⟨A, c, rfl, hlc, hc⟩ := h
    clear hc
    have hW : Below w.heap.size w (w.alloc (.cells #[.int .i64 t, .int .i64 k, .slice A d.length c] 27)) := (Below.refl _ _).alloc (Nat.le_refl _) _
    go_enter Try.func59, Try.ntmps59
    go_wp2_with fail
    refine (HL.out _).mono ?_; rintro e w_ ⟨rfl, rfl⟩
    go_wp2_with fail
    go_ret
    exact ⟨rfl, hW⟩
  have hL2 : 1 ≤ x.d.length ∧ x.d.length ≤ 12 := by simp [wi] at hL; omega
  rw [hL] at HL
  cases hT : wi x.t 1 200
  · rw [show tmOk x = false from by simp [tmOk, hT]]
    rw [hT] at HT
    clear HK HO HF hL hT
    obtain ⟨t, k, d⟩ := x
    simp only [TmV] at *
    obtain ⟨A, c, rfl, hlc, hc⟩ := h
    clear hc
    have hW : Below w.heap.size w (w.alloc (.cells #[.int .i64 t, .int .i64 k, .slice A d.length c] 27)) := (Below.refl _ _).alloc (Nat.le_refl _) _
    go_enter Try.func59, Try.ntmps59
    go_wp2_with fail
    refine (HL.out _).mono ?_; rintro e w_ ⟨rfl, rfl⟩
    go_wp2_with fail
    refine (HT.out _).mono ?_; rintro e w_ ⟨rfl, rfl⟩
    go_wp2_with fail
    go_ret
    exact ⟨rfl, hW⟩
  rw [hT] at HT
  cases hK : wi x.k 1 20
  · rw [show tmOk x = false from by simp [tmOk, hK]]
    rw [hK] at HK
    clear HO HF hL hT hK
    obtain ⟨t, k, d⟩ := x
    simp only [TmV] at *
    obtain ⟨A, c, rfl, hlc, hc⟩ := h
    clear hc
    have hW : Below w.heap.size w (w.alloc (.cells #[.int .i64 t, .int .i64 k, .slice A d.length c] 27)) := (Below.refl _ _).alloc (Nat.le_refl _) _
    go_enter Try.func59, Try.ntmps59
    go_wp2_with fail
    refine (HL.out _).mono ?_; rintro e w_ ⟨rfl, rfl⟩
    go_wp2_with fail
    refine (HT.out _).mono ?_; rintro e w_ ⟨rfl, rfl⟩
    go_wp2_with fail
    refine (HK.out _).mono ?_; rintro e w_ ⟨rfl, rfl⟩
    go_wp2_with fail
    go_ret
    exact ⟨rfl, hW⟩
  rw [hK] at HK
  cases hO : okAll 0 200 x.d
  · rw [show tmOk x = false from by simp [tmOk, hO]]
    rw [hO] at HO
    clear HF hL hT hK hO
    obtain ⟨t, k, d⟩ := x
    simp only [TmV] at *
    obtain ⟨A, c, rfl, hlc, hc⟩ := h
    clear hc
    have hW : Below w.heap.size w (w.alloc (.cells #[.int .i64 t, .int .i64 k, .slice A d.length c] 27)) := (Below.refl _ _).alloc (Nat.le_refl _) _
    go_enter Try.func59, Try.ntmps59
    go_wp2_with fail
    refine (HL.out _).mono ?_; rintro e w_ ⟨rfl, rfl⟩
    go_wp2_with fail
    refine (HT.out _).mono ?_; rintro e w_ ⟨rfl, rfl⟩
    go_wp2_with fail
    refine (HK.out _).mono ?_; rintro e w_ ⟨rfl, rfl⟩
    go_wp2_with fail
    refine (HO.out _ hW).mono ?_; rintro e w_ ⟨rfl, rfl⟩
    go_wp2_with fail
    go_ret
    exact ⟨rfl, hW⟩
  rw [hO] at HO
  have hpre : tmPre x = true := by simp [tmPre, hL2, hT, hK, hO]
  have hu := usedT_in hpre
  have hin := tmPre_in hpre
  have HF := Lib.hid (HF.out hpre)
  rw [show tmOk x = decide (usedT x ≤ x.t) from by simp [tmOk_is, hpre]]
  have hU0 : 0 ≤ usedT x ∧ usedT x ≤ 2640 := by unfold usedT; omega
  generalize usedT x = U at *
  clear hL hT hK hO hpre
  by_cases hle : U ≤ x.t
  · rw [show decide (U ≤ x.t) = true from by simp [hle]]
    obtain ⟨t, k, d⟩ := x
    simp only [TmV] at *
    obtain ⟨A, c, rfl, hlc, hc⟩ := h
    clear hc
    have p0 := BK.made w 27 #[.int .i64 t, .int .i64 k, .slice A d.length c]
    have hW : Below w.heap.size w (w.alloc (.cells #[.int .i64 t, .int .i64 k, .slice A d.length c] 27)) := (Below.refl _ _).alloc (Nat.le_refl _) _
    obtain ⟨w0, hw0⟩ : ∃ w0, w0 = (w.alloc (.cells #[.int .i64 t, .int .i64 k, .slice A d.length c] 27)) := ⟨_, rfl⟩
    rw [← hw0] at p0 hW
    have HCL : Hid (∀ W, Below w0.heap.size w0 W → W.cell? ⟨w.heap.size, 0, none⟩ = some (.int .i64 t) ∧ W.cell? ⟨w.heap.size, 1, none⟩ = some (.int .i64 k) ∧ W.cell? ⟨w.heap.size, 2, none⟩ = some (.slice A d.length c)) := by
      show ∀ W, _
      intro W hb
      have p1 := p0.step hb
      have c0 := p1.cell 0
      have c1 := p1.cell 1
      have c2 := p1.cell 2
      simp at c0 c1 c2
      exact ⟨c0, c1, c2⟩
    have HW := Lib.hid hW
    have HW0 := Lib.hid hw0
    obtain ⟨c0, c1, c2⟩ := HCL.out w0 (Below.refl _ _)
    have hd9 : Below w0.heap.size w0 w0 := Below.refl _ _
    have hd : Below w0.heap.size w0 w0.drew := (Below.refl _ _).drew
    clear p0 hW hw0
    have HA1 : Hid (∀ W, Below w0.heap.size w0 W → Calls Try.prog 65 #[.agg #[.int .i64 t, .int .i64 k, .slice A d.length c]] W fun e W' => e = .returned (.int .i64 U) ∧ Below w0.heap.size w0 W') := fun W hb => (HF.out W (HW.out.trans (hb.mono HW.out.size))).mono fun _ _ ⟨he, hb'⟩ => ⟨he, hb.trans (hb'.mono hb.size)⟩
    go_enter Try.func59, Try.ntmps59
    go_wp2_with fail
    refine (HL.out _).mono ?_; rintro e w_ ⟨rfl, rfl⟩
    go_wp2_with fail
    refine (HT.out _).mono ?_; rintro e w_ ⟨rfl, rfl⟩
    go_wp2_with fail
    refine (HK.out _).mono ?_; rintro e w_ ⟨rfl, rfl⟩
    go_wp2_with fail
    refine (HO.out _ (by rw [← HW0.out]; exact HW.out)).mono ?_; rintro e w_ ⟨rfl, rfl⟩
    go_upto_region 3 with fail
    rw [← HW0.out]
    go_region_held3 (fun w' => w'.cell? ⟨w.heap.size, 0, none⟩ = some (.int .i64 t) ∧ w'.cell? ⟨w.heap.size, 1, none⟩ = some (.int .i64 k) ∧ w'.cell? ⟨w.heap.size, 2, none⟩ = some (.slice A d.length c)) (with_reducible first | exact ⟨c0, c1, c2⟩ | (refine ⟨?_, ?_, ?_⟩ <;> assumption) | go_keep) (first
      | (go_at_call 65; (with_reducible refine (HA1.out _ (by first | assumption)).mono ?_); rintro e w7 ⟨rfl, hb7⟩; obtain ⟨d0, d1, d2⟩ := HCL.out _ hb7))
    · go_wp2_with fail
      go_ret
      exact ⟨by first | rfl | (simp; done) | (simp; omega), HW.out.trans (hb7.mono HW.out.size)⟩
  · rw [show decide (U ≤ x.t) = false from by simp [hle]]
    have hle2 : x.t < U := by omega
    clear hle
    obtain ⟨t, k, d⟩ := x
    simp only [TmV] at *
    obtain ⟨A, c, rfl, hlc, hc⟩ := h
    clear hc
    have p0 := BK.made w 27 #[.int .i64 t, .int .i64 k, .slice A d.length c]
    have hW : Below w.heap.size w (w.alloc (.cells #[.int .i64 t, .int .i64 k, .slice A d.length c] 27)) := (Below.refl _ _).alloc (Nat.le_refl _) _
    obtain ⟨w0, hw0⟩ : ∃ w0, w0 = (w.alloc (.cells #[.int .i64 t, .int .i64 k, .slice A d.length c] 27)) := ⟨_, rfl⟩
    rw [← hw0] at p0 hW
    have HCL : Hid (∀ W, Below w0.heap.size w0 W → W.cell? ⟨w.heap.size, 0, none⟩ = some (.int .i64 t) ∧ W.cell? ⟨w.heap.size, 1, none⟩ = some (.int .i64 k) ∧ W.cell? ⟨w.heap.size, 2, none⟩ = some (.slice A d.length c)) := by
      show ∀ W, _
      intro W hb
      have p1 := p0.step hb
      have c0 := p1.cell 0
      have c1 := p1.cell 1
      have c2 := p1.cell 2
      simp at c0 c1 c2
      exact ⟨c0, c1, c2⟩
    have HW := Lib.hid hW
    have HW0 := Lib.hid hw0
    obtain ⟨c0, c1, c2⟩ := HCL.out w0 (Below.refl _ _)
    have hd9 : Below w0.heap.size w0 w0 := Below.refl _ _
    have hd : Below w0.heap.size w0 w0.drew := (Below.refl _ _).drew
    clear p0 hW hw0
    have HA1 : Hid (∀ W, Below w0.heap.size w0 W → Calls Try.prog 65 #[.agg #[.int .i64 t, .int .i64 k, .slice A d.length c]] W fun e W' => e = .returned (.int .i64 U) ∧ Below w0.heap.size w0 W') := fun W hb => (HF.out W (HW.out.trans (hb.mono HW.out.size))).mono fun _ _ ⟨he, hb'⟩ => ⟨he, hb.trans (hb'.mono hb.size)⟩
    go_enter Try.func59, Try.ntmps59
    go_wp2_with fail
    refine (HL.out _).mono ?_; rintro e w_ ⟨rfl, rfl⟩
    go_wp2_with fail
    refine (HT.out _).mono ?_; rintro e w_ ⟨rfl, rfl⟩
    go_wp2_with fail
    refine (HK.out _).mono ?_; rintro e w_ ⟨rfl, rfl⟩
    go_wp2_with fail
    refine (HO.out _ (by rw [← HW0.out]; exact HW.out)).mono ?_; rintro e w_ ⟨rfl, rfl⟩
    go_upto_region 3 with fail
    rw [← HW0.out]
    go_region_held3 (fun w' => w'.cell? ⟨w.heap.size, 0, none⟩ = some (.int .i64 t) ∧ w'.cell? ⟨w.heap.size, 1, none⟩ = some (.int .i64 k) ∧ w'.cell? ⟨w.heap.size, 2, none⟩ = some (.slice A d.length c)) (with_reducible first | exact ⟨c0, c1, c2⟩ | (refine ⟨?_, ?_, ?_⟩ <;> assumption) | go_keep) (first
      | (go_at_call 65; (with_reducible refine (HA1.out _ (by first | assumption)).mono ?_); rintro e w7 ⟨rfl, hb7⟩; obtain ⟨d0, d1, d2⟩ := HCL.out _ hb7))
    · go_wp2_with fail
      go_ret
      exact ⟨by first | rfl | (simp; done) | (simp; omega), HW.out.trans (hb7.mono HW.out.size)⟩
end Go.Proofs.Ytgkpdlicgllcoaa
