/-
  Chapter 8: the contracts of BacklogOfShape, both sides.
-/
import Derived.Test.YtlanpfcjcafapaaShN
namespace Go.Proofs.Ytlanpfcjcafapaa
open Go.RowKit
set_option maxRecDepth 100000
set_option linter.unusedVariables false

set_option maxHeartbeats 1000000 in
theorem greatestBacklog_any (v u : Value) (x : Bu) (l : List Int) (n : Nat) (w : World) (h : RI w w.heap.size v l) (h' : RI w w.heap.size u (snT x l n)) (hx : buOk x = true) (hl : trOk l = true) (hn : n ≤ 100) :
    Calls Try.prog 66 #[v, u] w (RetV w (.int .i64 (snM x l n))) := by
  have HRI := Lib.hid h
  have hlen := trOk_len hl
  have HIN := Lib.hid fun t => snS_in hx hl t
  have HGI := Lib.hid fun t => snG_in hx hl t
  have HAT := Lib.hid fun t => trOk_at hl t
  have HMI := Lib.hid fun k hk => snM_in hx hl k hk
  obtain ⟨A, c, rfl, hlc, hc⟩ := h
  obtain ⟨A', c', rfl, hlc', hc'⟩ := h'
  rw [snT_length] at hlc' hc' ⊢
  have HC := Lib.hid hc'
  have hn' : (n : Int) ≤ 100 := by omega
  clear hc hc' hx hl
  go_enter Try.func66, Try.ntmps66
  go_wp2_with fail
  go_loopg [11, 6, 5] n (fun g s11 s6 s5 wx => ∃ t : Nat, t + g = n ∧ s11 = .int .i64 (t : Int) ∧ s6 = .int .i64 (snS x l t).2 ∧ s5 = .int .i64 (snM x l t) ∧ w = wx)
  case atStart => exact ⟨0, by omega, rfl, rfl, rfl, rfl⟩
  case round =>
    obtain ⟨t, htg, rfl, rfl, rfl, rfl⟩ := hrel
    cases gk with
    | zero =>
      have hte : t = n := by omega
      have hz : ¬ ((n : Int) < (n : Int)) := by omega
      rw [hte]
      clear hte htg
      go_wp2_with fail
      go_ret
      exact ⟨rfl, Below.refl _ _⟩
    | succ g =>
      have ht : t < n := by omega
      have ht' : (t : Int) < (n : Int) := by omega
      obtain ⟨b, off, rfl, hbB, hcell⟩ := HC.out (by omega)
      have hcx := hcell t ht
      rw [snT_at _ _ _ _ ht] at hcx
      have HCM := Lib.hid (comingAt_any t (.slice A l.length c) l w HRI.out (by omega) (by omega))
      have hin := HIN.out t
      have hgi := HGI.out t
      have hat := HAT.out t
      have hm1 := HMI.out t (by omega)
      have htb : (1000 : Int) * (t : Int) ≤ 100000 := by omega
      have HS2 : Hid ((snS x l (t + 1)).2 = (snS x l t).2 + (l.getD t 0 - snG x l t)) := by show _ = _; rw [snS_succ]; simp only; omega
      have HM2 : Hid (snM x l (t + 1) = max (snM x l t) (snS x l (t + 1)).2) := rfl
      have hin1 := HIN.out (t + 1)
      have htb1 : (1000 : Int) * ((t + 1 : Nat) : Int) ≤ 100000 := by omega
      obtain ⟨a, ha⟩ : ∃ a, a = l.getD t 0 := ⟨_, rfl⟩
      obtain ⟨q, hq⟩ : ∃ q, q = snG x l t := ⟨_, rfl⟩
      obtain ⟨s, hs⟩ : ∃ s, s = (snS x l t).2 := ⟨_, rfl⟩
      obtain ⟨M, hM⟩ : ∃ M, M = snM x l t := ⟨_, rfl⟩
      rw [← ha] at HCM hat HS2
      rw [← hq] at hcx hgi HS2
      rw [← hs] at hin HS2 ⊢
      rw [← hM] at hm1 HM2 ⊢
      rw [HS2.out] at HM2 hin1
      have hs2 : 0 ≤ s ∧ s ≤ 100000 := by omega
      have hr2 : 0 ≤ s + (a - q) ∧ s + (a - q) ≤ 100000 := by omega
      clear ha hq hs hM hcell hin hin1 htb htb1
      by_cases hmx : M < s + (a - q)
      · rw [show max M (s + (a - q)) = s + (a - q) by omega] at HM2
        go_wp2_with fail
        refine HCM.out.mono ?_; rintro e w' ⟨rfl, rfl⟩
        go_wp2_with fail
        go_roundg g
        case measure => omega
        case rel => exact ⟨t + 1, by omega, by go_num, by rw [HS2.out], by rw [HM2.out], rfl⟩
      · rw [show max M (s + (a - q)) = M by omega] at HM2
        have hmx2 : s + (a - q) ≤ M := by omega
        go_wp2_with fail
        refine HCM.out.mono ?_; rintro e w' ⟨rfl, rfl⟩
        go_wp2_with fail
        go_roundg g
        case measure => omega
        case rel => exact ⟨t + 1, by omega, by go_num, by rw [HS2.out], by rw [HM2.out], rfl⟩

set_option maxHeartbeats 1000000 in
theorem implBacklogOfShape_any (v : Value) (x : Bu) (l : List Int) (w : World) (h : RI w w.heap.size v l) (hn : l.length ≤ 1048576) :
    Calls Try.prog 52 #[BuV x, v] w (RetV w (.tuple #[.int .i64 (backSays x l).1, .bool (backSays x l).2])) := by
  have H1 : Hid (∀ w', Below w.heap.size w w' → Calls Try.prog 50 #[BuV x, v] w' (RetLB 3 w' (shpSays x l).1 (shpSays x l).2)) := fun w' hb => implShapeOf_any v x l w' ((h.below hb).more hb.size) hn
  have hno : (shpSays x l).2 = false → backSays x l = (0, false) := by
    unfold shpSays backSays
    split
    · cases snRg x l <;> simp [outO, optM]
    · simp
  have hyes : (shpSays x l).2 = true → ∃ n, askOk x l = true ∧ snRg x l = some n ∧ (shpSays x l).1 = snT x l n ∧ backSays x l = (snM x l n, true) := by
    unfold shpSays backSays
    split
    · next hg =>
      cases hr : snRg x l with
      | none => simp [outO]
      | some n => intro _; exact ⟨n, hg, rfl, rfl, rfl⟩
    · simp
  cases hb : (shpSays x l).2
  · rw [hno hb]
    rw [hb] at H1
    generalize (shpSays x l).1 = L at H1
    clear h hno hyes hb
    obtain ⟨r, d⟩ := x
    simp only [BuV] at H1 ⊢
    have hW : Below w.heap.size w (w.alloc (.cells #[.int .i64 r, .int .i64 d] 36)) := (Below.refl _ _).alloc (Nat.le_refl _) _
    go_enter Try.func52, Try.ntmps52
    go_wp2_with fail
    refine (H1.out _ hW).mono ?_; rintro e w1 ⟨u, rfl, _, hb1⟩
    have hT := hW.trans (hb1.mono hW.size)
    go_wp2_with fail
    go_ret2
    exact ⟨rfl, hT⟩
  obtain ⟨n, hg, hr, hL, hS⟩ := hyes hb
  have hq := askOk_in hg
  rw [hS]
  rw [hb, hL] at H1
  have hn100 := snRg_le hr
  have H2 : Hid (∀ W u, Below w.heap.size w W → RI W W.heap.size u (snT x l n) → Calls Try.prog 66 #[v, u] W (RetV W (.int .i64 (snM x l n)))) := fun W u hb' hu => greatestBacklog_any v u x l n W ((h.below hb').more hb'.size) hu hq.1 hq.2 hn100
  generalize snM x l n = M at H2 ⊢
  generalize snT x l n = L at H1 H2
  clear h hno hyes hb hg hr hL hS hq
  obtain ⟨r, d⟩ := x
  simp only [BuV] at H1 ⊢
  have hW : Below w.heap.size w (w.alloc (.cells #[.int .i64 r, .int .i64 d] 36)) := (Below.refl _ _).alloc (Nat.le_refl _) _
  go_enter Try.func52, Try.ntmps52
  go_wp2_with fail
  refine (H1.out _ hW).mono ?_; rintro e w1 ⟨u, rfl, ho, hb1⟩
  have HT := Lib.hid (hW.trans (hb1.mono hW.size))
  have HC := Lib.hid (H2.out w1 u HT.out ho.ri)
  clear hb1 ho
  go_wp2_with fail
  refine HC.out.mono ?_; rintro e w2 ⟨rfl, hb2⟩
  have HT2 := Lib.hid (HT.out.trans (hb2.mono HT.out.size))
  clear hb2
  go_wp2_with fail
  go_ret2
  exact ⟨rfl, HT2.out⟩
theorem outB_is (x : Bu) (l : List Int) (R : Option Nat) : outB x l R = snB x l (R.getD 0) := by cases R <;> simp [outB, snB]
theorem optM_is (x : Bu) (l : List Int) (R : Option Nat) : optM x l R = (snM x l (R.getD 0), (outO x l R).2) := by cases R <;> simp [optM, outO, snM]
set_option maxHeartbeats 1000000 in
theorem specBacklogOfShape_any (v : Value) (x : Bu) (l : List Int) (w : World) (h : RI w w.heap.size v l) (hn : l.length ≤ 1048576) :
    Calls Try.prog 53 #[BuV x, v] w (RetV w (.tuple #[.int .i64 (backSays x l).1, .bool (backSays x l).2])) := by
  have H1 : Hid (∀ w', Below w.heap.size w w' → Calls Try.prog 88 #[BuV x, v] w' (RetV w' (.bool (askOk x l)))) := fun w' hb => shAsk_any x v l w' ((h.below hb).more hb.size) hn
  cases hg : askOk x l
  · rw [show backSays x l = (0, false) from by simp [backSays, hg]]
    rw [hg] at H1
    clear h hg
    obtain ⟨r, d⟩ := x
    simp only [BuV] at H1 ⊢
    have hW : Below w.heap.size w (w.alloc (.cells #[.int .i64 r, .int .i64 d] 36)) := (Below.refl _ _).alloc (Nat.le_refl _) _
    go_enter Try.func53, Try.ntmps53
    go_wp2_with fail
    refine (H1.out _ hW).mono ?_; rintro e w1 ⟨rfl, hb⟩
    have hT := hW.trans (hb.mono hW.size)
    go_wp2_with fail
    go_ret2
    exact ⟨rfl, hT⟩
  have hq := askOk_in hg
  rw [show backSays x l = optM x l (snRg x l) from by simp [backSays, hg], optM_is]
  rw [hg] at H1
  have H2 : Hid (∀ W, Below w.heap.size w W → Calls Try.prog 99 #[.int .i64 x.r, .int .i64 x.d, v] W fun e w' => ∃ u1 u2, e = .returned (.tuple #[u1, u2, .bool (outO x l (snRg x l)).2]) ∧ OI 3 w' W.heap.size w'.heap.size u1 (outO x l (snRg x l)).1 ∧ OI 3 w' W.heap.size w'.heap.size u2 (snB x l ((snRg x l).getD 0)) ∧ Below W.heap.size W w') := by
    show ∀ _, _
    intro W hb
    have h9 := shSend_any v x l W ((h.below hb).more hb.size) hq.1 hq.2
    rw [outB_is] at h9
    exact h9
  have hn100 : (snRg x l).getD 0 ≤ 100 := by cases hr : snRg x l with | none => simp | some n => exact snRg_le hr
  have HMI := Lib.hid fun k hk => snM_in hq.1 hq.2 k hk
  have HIN := Lib.hid fun t => snS_in hq.1 hq.2 t
  generalize (outO x l (snRg x l)).2 = bb at H2 ⊢
  generalize (outO x l (snRg x l)).1 = LO at H2
  generalize (snRg x l).getD 0 = n at H2 hn100 ⊢
  have HM2 : Hid (∀ t, snM x l (t + 1) = max (snM x l t) (snS x l (t + 1)).2) := fun t => rfl
  have HM0 : Hid (snM x l 0 = 0) := rfl
  have HBT := Lib.hid fun t ht => snB_at x l n t ht
  have HBL := Lib.hid (snB_length x l n)
  have hn' : (n : Int) ≤ 100 := by omega
  generalize snM x l = FM at *
  generalize snB x l n = LB at *
  obtain ⟨FS, hFS⟩ : ∃ FS : Nat → Int, FS = fun t => (snS x l t).2 := ⟨_, rfl⟩
  have HIN3 : Hid (∀ t, 0 ≤ FS t ∧ FS t ≤ 1000 * (t : Int)) := by rw [hFS]; exact fun t => (HIN.out t).2
  have HM3 : Hid (∀ t, FM (t + 1) = max (FM t) (FS (t + 1))) := by rw [hFS]; exact HM2.out
  have HBT3 : Hid (∀ t, t < n → LB.getD t 0 = FS (t + 1)) := by rw [hFS]; exact HBT.out
  clear h hg hq hFS HIN HM2 HBT
  obtain ⟨r, d⟩ := x
  simp only [BuV] at H1 H2 ⊢
  have hW : Below w.heap.size w (w.alloc (.cells #[.int .i64 r, .int .i64 d] 36)) := (Below.refl _ _).alloc (Nat.le_refl _) _
  have hbk := BK.made w 36 #[.int .i64 r, .int .i64 d]
  go_enter Try.func53, Try.ntmps53
  go_wp2_with fail
  refine (H1.out _ hW).mono ?_; rintro e w1 ⟨rfl, hb⟩
  have hT := hW.trans (hb.mono hW.size)
  have hbk1 := hbk.step hb
  have c0 := hbk1.cell 0
  have c1 := hbk1.cell 1
  simp at c0 c1
  have HT := Lib.hid hT
  clear hbk hbk1 hb hT
  go_wp2_with fail
  refine (H2.out _ HT.out).mono ?_; rintro e w2 ⟨u1, u2, rfl, ho1, ho2, hb2⟩
  have HT2 := Lib.hid (HT.out.trans (hb2.mono HT.out.size))
  obtain ⟨A2, c2, rfl, hlc2, hc2⟩ := ho2.ri
  rw [HBL.out] at hlc2 hc2 ⊢
  have HC2 := Lib.hid hc2
  clear ho1 ho2 hb2 hc2
  go_wp2_with fail
  go_loopg [28, 9] n (fun g s28 s9 wx => ∃ t : Nat, t + g = n ∧ s28 = .int .i64 (t : Int) ∧ s9 = .int .i64 (FM t) ∧ w2 = wx)
  case atStart => exact ⟨0, by omega, rfl, by rw [HM0.out], rfl⟩
  case round =>
    obtain ⟨t, htg, rfl, rfl, rfl⟩ := hrel
    cases gk with
    | zero =>
      have hte : t = n := by omega
      have hz : ¬ ((n : Int) < (n : Int)) := by omega
      rw [hte]
      clear hte htg
      go_wp2_with fail
      go_ret2
      exact ⟨rfl, HT2.out⟩
    | succ g =>
      have ht : t < n := by omega
      have ht' : (t : Int) < (n : Int) := by omega
      obtain ⟨b, off, rfl, hbB, hcell⟩ := HC2.out (by omega)
      have hcx := hcell t ht
      rw [HBT3.out t ht] at hcx
      have hin1 := HIN3.out (t + 1)
      have htb1 : (1000 : Int) * ((t + 1 : Nat) : Int) ≤ 100000 := by omega
      have HMO := Lib.hid fun W => shMost_any (FM t) (FS (t + 1)) W
      rw [← HM3.out t] at HMO
      have hm1 := HMI.out t (by omega)
      clear hcell
      go_wp2_with fail
      refine (HMO.out _).mono ?_; rintro e w' ⟨rfl, rfl⟩
      go_wp2_with fail
      go_roundg g
      case measure => omega
      case rel => exact ⟨t + 1, by omega, by go_num, rfl, rfl⟩

end Go.Proofs.Ytlanpfcjcafapaa
