/-
  Chapter 9: ServedBy (the model), BacklogServed, DelayServed: both sides.
-/
import Derived.Test.YtlanpfcjcafapaaBqC
import Derived.Test.YtlanpfcjcafapaaShF
namespace Go.Proofs.Ytlanpfcjcafapaa
open Go.RowKit
set_option maxRecDepth 100000
set_option linter.unusedVariables false

theorem boAsked_any (x : Sv) (v : Value) (l : List Int) (w : World) (h : RI w w.heap.size v l) (hn : l.length ≤ 1048576) :
    Calls Try.prog 64 #[SvV x, v] w (RetV w (.bool (askV x l))) := by
  have H1 := Lib.hid fun w => boServer_any x w
  have H2 : Hid (∀ w', Below w.heap.size w w' → Calls Try.prog 96 #[v] w' fun e w'' => e = .returned (.bool (trOk l)) ∧ w' = w'') := fun w' hb => shTraffic_any v l w' ((h.below hb).more hb.size) hn
  clear h
  show Calls _ _ _ _ (RetV w (.bool (svOk x && trOk l)))
  obtain ⟨b, hb⟩ : ∃ b, b = svOk x := ⟨_, rfl⟩
  rw [← hb] at H1 ⊢
  clear hb
  obtain ⟨r, d⟩ := x
  simp only [SvV] at H1 ⊢
  have hW : Below w.heap.size w (w.alloc (.cells #[.int .i64 r, .int .i64 d] 25)) := (Below.refl _ _).alloc (Nat.le_refl _) _
  cases b
  · go_enter Try.func64, Try.ntmps64
    go_wp2_with fail
    refine (H1.out _).mono ?_; rintro e w1 ⟨rfl, hb⟩
    go_wp2_with fail
    go_ret
    exact ⟨rfl, hW.trans (hb.mono hW.size)⟩
  · go_enter Try.func64, Try.ntmps64
    go_wp2_with fail
    refine (H1.out _).mono ?_; rintro e w1 ⟨rfl, hb⟩
    have hT := hW.trans (hb.mono hW.size)
    go_wp2_with fail
    refine (H2.out _ hT).mono ?_; rintro e w2 ⟨rfl, rfl⟩
    go_wp2_with fail
    go_ret
    exact ⟨rfl, hT⟩
set_option maxHeartbeats 1000000 in
theorem specServedBy_any (v : Value) (x : Sv) (l : List Int) (w : World) (h : RI w w.heap.size v l) (hn : l.length ≤ 1048576) :
    Calls Try.prog 9 #[SvV x, v] w (RetLB 3 w (srvSays x l).1 (srvSays x l).2) := by
  have H1 : Hid (∀ w', Below w.heap.size w w' → Calls Try.prog 64 #[SvV x, v] w' (RetV w' (.bool (askV x l)))) := fun w' hb => boAsked_any x v l w' ((h.below hb).more hb.size) hn
  cases hg : askV x l
  · rw [srvSays_no hg]
    rw [hg] at H1
    clear h hg
    obtain ⟨r, d⟩ := x
    simp only [SvV] at H1 ⊢
    have hW : Below w.heap.size w (w.alloc (.cells #[.int .i64 r, .int .i64 d] 25)) := (Below.refl _ _).alloc (Nat.le_refl _) _
    go_enter Try.func9, Try.ntmps9
    go_wp2_with fail
    refine (H1.out _ hW).mono ?_; rintro e w1 ⟨rfl, hb⟩
    have hT := hW.trans (hb.mono hW.size)
    go_wp2_with fail
    go_ret2
    exact ⟨_, rfl, .inl ⟨rfl, none, 0, rfl, by simp, fun _ => rfl⟩, hT⟩
  have hq := askV_in hg
  rw [srvSays_yes hg]
  rw [hg] at H1
  have H2 : Hid (∀ W, Below w.heap.size w W → Calls Try.prog 65 #[SvV x, v] W fun e w' => ∃ u1 u2, e = .returned (.tuple #[u1, u2, .bool (svO x l (svRg x l)).2]) ∧ OI 3 w' W.heap.size w'.heap.size u1 (svO x l (svRg x l)).1 ∧ OI 3 w' W.heap.size w'.heap.size u2 (svOB x l (svRg x l)) ∧ Below W.heap.size W w') :=
    fun W hb => boServe_any v x l W ((h.below hb).more hb.size) hq.1 hq.2
  generalize svOB x l (svRg x l) = LB at H2
  generalize (svO x l (svRg x l)).2 = bb at H2 ⊢
  generalize (svO x l (svRg x l)).1 = LO at H2 ⊢
  clear h hg hq
  obtain ⟨r, d⟩ := x
  simp only [SvV] at H1 H2 ⊢
  have hW : Below w.heap.size w (w.alloc (.cells #[.int .i64 r, .int .i64 d] 25)) := (Below.refl _ _).alloc (Nat.le_refl _) _
  have hbk := BK.made w 25 #[.int .i64 r, .int .i64 d]
  go_enter Try.func9, Try.ntmps9
  go_wp2_with fail
  refine (H1.out _ hW).mono ?_; rintro e w1 ⟨rfl, hb⟩
  have hT := hW.trans (hb.mono hW.size)
  have hbk1 := hbk.step hb
  have c0 := hbk1.cell 0
  have c1 := hbk1.cell 1
  simp at c0 c1
  have HT := Lib.hid hT
  clear hbk hbk1 hb hT
  go_wp2_with fail
  refine (H2.out _ HT.out).mono ?_; rintro e w2 ⟨u1, u2, rfl, ho1, ho2, hb2⟩
  have HT2 := Lib.hid (HT.out.trans (hb2.mono HT.out.size))
  have HO1 := Lib.hid (ho1.wide HT.out.size (Nat.le_refl _))
  clear ho1 ho2 hb2
  go_wp2_with fail
  go_ret2
  exact ⟨_, rfl, HO1.out, HT2.out⟩
set_option maxHeartbeats 1000000 in
theorem greatestBacklogV_any (v u : Value) (x : Sv) (l : List Int) (n : Nat) (w : World) (h : RI w w.heap.size v l) (h' : RI w w.heap.size u (svT x l n)) (hx : svOk x = true) (hl : trOk l = true) (hn : n ≤ 100) :
    Calls Try.prog 66 #[v, u] w (RetV w (.int .i64 (svM x l n))) := by
  have HRI := Lib.hid h
  have hlen := trOk_len hl
  have HIN := Lib.hid fun t => svS_in hx hl t
  have HGI := Lib.hid fun t => svG_in hx hl t
  have HAT := Lib.hid fun t => trOk_at hl t
  have HMI := Lib.hid fun k hk => svM_in hx hl k hk
  obtain ⟨A, c, rfl, hlc, hc⟩ := h
  obtain ⟨A', c', rfl, hlc', hc'⟩ := h'
  rw [svT_length] at hlc' hc' ⊢
  have HC := Lib.hid hc'
  have hn' : (n : Int) ≤ 100 := by omega
  clear hc hc' hx hl
  go_enter Try.func66, Try.ntmps66
  go_wp2_with fail
  go_loopg [11, 6, 5] n (fun g s11 s6 s5 wx => ∃ t : Nat, t + g = n ∧ s11 = .int .i64 (t : Int) ∧ s6 = .int .i64 (svS x l t).2 ∧ s5 = .int .i64 (svM x l t) ∧ w = wx)
  case atStart => exact ⟨0, by omega, rfl, rfl, rfl, rfl⟩
  case round =>
    obtain ⟨t, htg, rfl, rfl, rfl, rfl⟩ := hrel
    cases gk with
    | zero =>
      have hte : t = n := by omega
      have hz : ¬ ((n : Int) < (n : Int)) := by omega
      rw [hte]
      clear hte htg
      go_wp2_with fail
      go_ret
      exact ⟨rfl, Below.refl _ _⟩
    | succ g =>
      have ht : t < n := by omega
      have ht' : (t : Int) < (n : Int) := by omega
      obtain ⟨b, off, rfl, hbB, hcell⟩ := HC.out (by omega)
      have hcx := hcell t ht
      rw [svT_at _ _ _ _ ht] at hcx
      have HCM := Lib.hid (comingAt_any t (.slice A l.length c) l w HRI.out (by omega) (by omega))
      have hin := HIN.out t
      have hgi := HGI.out t
      have hat := HAT.out t
      have hm1 := HMI.out t (by omega)
      have htb : (1000 : Int) * (t : Int) ≤ 100000 := by omega
      have HS2 : Hid ((svS x l (t + 1)).2 = (svS x l t).2 + (l.getD t 0 - svG x l t)) := by show _ = _; rw [svS_succ]; simp only; omega
      have HM2 : Hid (svM x l (t + 1) = max (svM x l t) (svS x l (t + 1)).2) := rfl
      have hin1 := HIN.out (t + 1)
      have htb1 : (1000 : Int) * ((t + 1 : Nat) : Int) ≤ 100000 := by omega
      obtain ⟨a, ha⟩ : ∃ a, a = l.getD t 0 := ⟨_, rfl⟩
      obtain ⟨q, hq⟩ : ∃ q, q = svG x l t := ⟨_, rfl⟩
      obtain ⟨s, hs⟩ : ∃ s, s = (svS x l t).2 := ⟨_, rfl⟩
      obtain ⟨M, hM⟩ : ∃ M, M = svM x l t := ⟨_, rfl⟩
      rw [← ha] at HCM hat HS2
      rw [← hq] at hcx hgi HS2
      rw [← hs] at hin HS2 ⊢
      rw [← hM] at hm1 HM2 ⊢
      rw [HS2.out] at HM2 hin1
      have hs2 : 0 ≤ s ∧ s ≤ 100000 := by omega
      have hr2 : 0 ≤ s + (a - q) ∧ s + (a - q) ≤ 100000 := by omega
      clear ha hq hs hM hcell hin hin1 htb htb1
      by_cases hmx : M < s + (a - q)
      · rw [show max M (s + (a - q)) = s + (a - q) by omega] at HM2
        go_wp2_with fail
        refine HCM.out.mono ?_; rintro e w' ⟨rfl, rfl⟩
        go_wp2_with fail
        go_roundg g
        case measure => omega
        case rel => exact ⟨t + 1, by omega, by go_num, by rw [HS2.out], by rw [HM2.out], rfl⟩
      · rw [show max M (s + (a - q)) = M by omega] at HM2
        have hmx2 : s + (a - q) ≤ M := by omega
        go_wp2_with fail
        refine HCM.out.mono ?_; rintro e w' ⟨rfl, rfl⟩
        go_wp2_with fail
        go_roundg g
        case measure => omega
        case rel => exact ⟨t + 1, by omega, by go_num, by rw [HS2.out], by rw [HM2.out], rfl⟩

set_option maxHeartbeats 1000000 in
theorem implBacklogServed_any (v : Value) (x : Sv) (l : List Int) (w : World) (h : RI w w.heap.size v l) (hn : l.length ≤ 1048576) :
    Calls Try.prog 10 #[SvV x, v] w (RetV w (.tuple #[.int .i64 (bksSays x l).1, .bool (bksSays x l).2])) := by
  have H1 : Hid (∀ w', Below w.heap.size w w' → Calls Try.prog 8 #[SvV x, v] w' (RetLB 3 w' (srvSays x l).1 (srvSays x l).2)) := fun w' hb => implServedBy_any v x l w' ((h.below hb).more hb.size) hn
  have hno : (srvSays x l).2 = false → bksSays x l = (0, false) := by
    unfold srvSays bksSays
    split
    · cases svRg x l <;> simp [svO, svOM]
    · simp
  have hyes : (srvSays x l).2 = true → ∃ n, askV x l = true ∧ svRg x l = some n ∧ (srvSays x l).1 = svT x l n ∧ bksSays x l = (svM x l n, true) := by
    unfold srvSays bksSays
    split
    · next hg =>
      cases hr : svRg x l with
      | none => simp [svO]
      | some n => intro _; exact ⟨n, hg, rfl, rfl, rfl⟩
    · simp
  cases hb : (srvSays x l).2
  · rw [hno hb]
    rw [hb] at H1
    generalize (srvSays x l).1 = L at H1
    clear h hno hyes hb
    obtain ⟨r, d⟩ := x
    simp only [SvV] at H1 ⊢
    have hW : Below w.heap.size w (w.alloc (.cells #[.int .i64 r, .int .i64 d] 25)) := (Below.refl _ _).alloc (Nat.le_refl _) _
    go_enter Try.func10, Try.ntmps10
    go_wp2_with fail
    refine (H1.out _ hW).mono ?_; rintro e w1 ⟨u, rfl, _, hb1⟩
    have hT := hW.trans (hb1.mono hW.size)
    go_wp2_with fail
    go_ret2
    exact ⟨rfl, hT⟩
  obtain ⟨n, hg, hr, hL, hS⟩ := hyes hb
  have hq := askV_in hg
  rw [hS]
  rw [hb, hL] at H1
  have hn100 := svRg_le hr
  have H2 : Hid (∀ W u, Below w.heap.size w W → RI W W.heap.size u (svT x l n) → Calls Try.prog 66 #[v, u] W (RetV W (.int .i64 (svM x l n)))) := fun W u hb' hu => greatestBacklogV_any v u x l n W ((h.below hb').more hb'.size) hu hq.1 hq.2 hn100
  generalize svM x l n = M at H2 ⊢
  generalize svT x l n = L at H1 H2
  clear h hno hyes hb hg hr hL hS hq
  obtain ⟨r, d⟩ := x
  simp only [SvV] at H1 ⊢
  have hW : Below w.heap.size w (w.alloc (.cells #[.int .i64 r, .int .i64 d] 25)) := (Below.refl _ _).alloc (Nat.le_refl _) _
  go_enter Try.func10, Try.ntmps10
  go_wp2_with fail
  refine (H1.out _ hW).mono ?_; rintro e w1 ⟨u, rfl, ho, hb1⟩
  have HT := Lib.hid (hW.trans (hb1.mono hW.size))
  have HC := Lib.hid (H2.out w1 u HT.out ho.ri)
  clear hb1 ho
  go_wp2_with fail
  refine HC.out.mono ?_; rintro e w2 ⟨rfl, hb2⟩
  have HT2 := Lib.hid (HT.out.trans (hb2.mono HT.out.size))
  clear hb2
  go_wp2_with fail
  go_ret2
  exact ⟨rfl, HT2.out⟩
theorem svOB_is (x : Sv) (l : List Int) (R : Option Nat) : svOB x l R = svB x l (R.getD 0) := by cases R <;> simp [svOB, svB]
theorem svOM_is (x : Sv) (l : List Int) (R : Option Nat) : svOM x l R = (svM x l (R.getD 0), (svO x l R).2) := by cases R <;> simp [svOM, svO, svM]
set_option maxHeartbeats 1000000 in
theorem specBacklogServed_any (v : Value) (x : Sv) (l : List Int) (w : World) (h : RI w w.heap.size v l) (hn : l.length ≤ 1048576) :
    Calls Try.prog 11 #[SvV x, v] w (RetV w (.tuple #[.int .i64 (bksSays x l).1, .bool (bksSays x l).2])) := by
  have H1 : Hid (∀ w', Below w.heap.size w w' → Calls Try.prog 64 #[SvV x, v] w' (RetV w' (.bool (askV x l)))) := fun w' hb => boAsked_any x v l w' ((h.below hb).more hb.size) hn
  cases hg : askV x l
  · rw [show bksSays x l = (0, false) from by simp [bksSays, hg]]
    rw [hg] at H1
    clear h hg
    obtain ⟨r, d⟩ := x
    simp only [SvV] at H1 ⊢
    have hW : Below w.heap.size w (w.alloc (.cells #[.int .i64 r, .int .i64 d] 25)) := (Below.refl _ _).alloc (Nat.le_refl _) _
    go_enter Try.func11, Try.ntmps11
    go_wp2_with fail
    refine (H1.out _ hW).mono ?_; rintro e w1 ⟨rfl, hb⟩
    have hT := hW.trans (hb.mono hW.size)
    go_wp2_with fail
    go_ret2
    exact ⟨rfl, hT⟩
  have hq := askV_in hg
  rw [show bksSays x l = svOM x l (svRg x l) from by simp [bksSays, hg], svOM_is]
  rw [hg] at H1
  have H2 : Hid (∀ W, Below w.heap.size w W → Calls Try.prog 65 #[SvV x, v] W fun e w' => ∃ u1 u2, e = .returned (.tuple #[u1, u2, .bool (svO x l (svRg x l)).2]) ∧ OI 3 w' W.heap.size w'.heap.size u1 (svO x l (svRg x l)).1 ∧ OI 3 w' W.heap.size w'.heap.size u2 (svB x l ((svRg x l).getD 0)) ∧ Below W.heap.size W w') := by
    show ∀ _, _
    intro W hb
    have h9 := boServe_any v x l W ((h.below hb).more hb.size) hq.1 hq.2
    rw [svOB_is] at h9
    exact h9
  have hn100 : (svRg x l).getD 0 ≤ 100 := by cases hr : svRg x l with | none => simp | some n => exact svRg_le hr
  have HMI := Lib.hid fun k hk => svM_in hq.1 hq.2 k hk
  have HIN := Lib.hid fun t => svS_in hq.1 hq.2 t
  generalize (svO x l (svRg x l)).2 = bb at H2 ⊢
  generalize (svO x l (svRg x l)).1 = LO at H2
  generalize (svRg x l).getD 0 = n at H2 hn100 ⊢
  have HM2 : Hid (∀ t, svM x l (t + 1) = max (svM x l t) (svS x l (t + 1)).2) := fun t => rfl
  have HM0 : Hid (svM x l 0 = 0) := rfl
  have HBT := Lib.hid fun t ht => svB_at x l n t ht
  have HBL := Lib.hid (svB_length x l n)
  have hn' : (n : Int) ≤ 100 := by omega
  generalize svM x l = FM at *
  generalize svB x l n = LB at *
  obtain ⟨FS, hFS⟩ : ∃ FS : Nat → Int, FS = fun t => (svS x l t).2 := ⟨_, rfl⟩
  have HIN3 : Hid (∀ t, 0 ≤ FS t ∧ FS t ≤ 1000 * (t : Int)) := by rw [hFS]; exact fun t => (HIN.out t).2
  have HM3 : Hid (∀ t, FM (t + 1) = max (FM t) (FS (t + 1))) := by rw [hFS]; exact HM2.out
  have HBT3 : Hid (∀ t, t < n → LB.getD t 0 = FS (t + 1)) := by rw [hFS]; exact HBT.out
  clear h hg hq hFS HIN HM2 HBT
  obtain ⟨r, d⟩ := x
  simp only [SvV] at H1 H2 ⊢
  have hW : Below w.heap.size w (w.alloc (.cells #[.int .i64 r, .int .i64 d] 25)) := (Below.refl _ _).alloc (Nat.le_refl _) _
  have hbk := BK.made w 25 #[.int .i64 r, .int .i64 d]
  go_enter Try.func11, Try.ntmps11
  go_wp2_with fail
  refine (H1.out _ hW).mono ?_; rintro e w1 ⟨rfl, hb⟩
  have hT := hW.trans (hb.mono hW.size)
  have hbk1 := hbk.step hb
  have c0 := hbk1.cell 0
  have c1 := hbk1.cell 1
  simp at c0 c1
  have HT := Lib.hid hT
  clear hbk hbk1 hb hT
  go_wp2_with fail
  refine (H2.out _ HT.out).mono ?_; rintro e w2 ⟨u1, u2, rfl, ho1, ho2, hb2⟩
  have HT2 := Lib.hid (HT.out.trans (hb2.mono HT.out.size))
  obtain ⟨A2, c2, rfl, hlc2, hc2⟩ := ho2.ri
  rw [HBL.out] at hlc2 hc2 ⊢
  have HC2 := Lib.hid hc2
  clear ho1 ho2 hb2 hc2
  go_wp2_with fail
  go_loopg [25, 9] n (fun g s25 s9 wx => ∃ t : Nat, t + g = n ∧ s25 = .int .i64 (t : Int) ∧ s9 = .int .i64 (FM t) ∧ w2 = wx)
  case atStart => exact ⟨0, by omega, rfl, by rw [HM0.out], rfl⟩
  case round =>
    obtain ⟨t, htg, rfl, rfl, rfl⟩ := hrel
    cases gk with
    | zero =>
      have hte : t = n := by omega
      have hz : ¬ ((n : Int) < (n : Int)) := by omega
      rw [hte]
      clear hte htg
      go_wp2_with fail
      go_ret2
      exact ⟨rfl, HT2.out⟩
    | succ g =>
      have ht : t < n := by omega
      have ht' : (t : Int) < (n : Int) := by omega
      obtain ⟨b, off, rfl, hbB, hcell⟩ := HC2.out (by omega)
      have hcx := hcell t ht
      rw [HBT3.out t ht] at hcx
      have hin1 := HIN3.out (t + 1)
      have htb1 : (1000 : Int) * ((t + 1 : Nat) : Int) ≤ 100000 := by omega
      have HMO := Lib.hid fun W => shMost_any (FM t) (FS (t + 1)) W
      rw [← HM3.out t] at HMO
      have hm1 := HMI.out t (by omega)
      clear hcell
      go_wp2_with fail
      refine (HMO.out _).mono ?_; rintro e w' ⟨rfl, rfl⟩
      go_wp2_with fail
      go_roundg g
      case measure => omega
      case rel => exact ⟨t + 1, by omega, by go_num, rfl, rfl⟩

theorem isNaN8_any (x : Int) (w : World) : Calls Try.prog 110 #[.int .i64 x] w fun e w' => e = .returned (.bool false) ∧ w = w' := by
  have hb : (x != x) = false := by simp
  go_enter Try.func110, Try.ntmps110
  go_wp2
  go_ret
  exact ⟨rfl, rfl⟩
theorem isNaN82_any (x : Int) (w : World) : Calls Try.prog 109 #[.int .i64 x] w fun e w' => e = .returned (.bool false) ∧ w = w' := by
  have hb : (x != x) = false := by simp
  go_enter Try.func109, Try.ntmps109
  go_wp2
  go_ret
  exact ⟨rfl, rfl⟩
theorem less8_any (x y : Int) (w : World) : Calls Try.prog 108 #[.int .i64 x, .int .i64 y] w fun e w' => e = .returned (.bool (decide (x < y))) ∧ w = w' := by
  go_enter Try.func108, Try.ntmps108
  go_wp2_with fail
  refine (isNaN8_any _ _).mono ?_; rintro e w' ⟨rfl, rfl⟩
  go_wp2_with fail
  go_ret
  exact ⟨rfl, rfl⟩
def RetAt8 (w : World) (l : List Int) (t : Int) (e : Ending) (w' : World) : Prop := ∃ (i : Nat) (b : Bool), e = .returned (.tuple #[.int .i64 (i : Int), .bool b]) ∧ w = w' ∧ i ≤ l.length ∧ (∀ m, m < i → l.getD m 0 < t) ∧ (i < l.length → t ≤ l.getD i 0)
theorem search8_any (v : Value) (l : List Int) (t : Int) (w : World) (h : RI w w.heap.size v l) (hn : l.length ≤ 1000) (hr : NF l) :
    Calls Try.prog 104 #[v, .int .i64 t] w (RetAt8 w l t) := by
  obtain ⟨A, c, rfl, hlc, hc⟩ := h
  have hn' : (l.length : Int) ≤ 1000 := by omega
  have HR := Lib.hid hr
  clear hr
  go_enter Try.func104, Try.ntmps104
  go_wp2_with fail
  go_loop [7, 8] (fun a b => ∃ i j : Nat, a = .int .i64 i ∧ b = .int .i64 j ∧ i ≤ j ∧ j ≤ l.length ∧ (∀ m, m < i → l.getD m 0 < t) ∧ (∀ m, j ≤ m → m < l.length → t ≤ l.getD m 0)) (fun a b => (intOf b).toNat - (intOf a).toNat)
  case atStart => exact ⟨0, l.length, rfl, rfl, Nat.zero_le _, Nat.le_refl _, fun m h => by omega, fun m h1 h2 => by omega⟩
  case round =>
    obtain ⟨i, j, rfl, rfl, hij, hj, hlo, hhi⟩ := hrel
    have HLO := Lib.hid hlo
    have HHI := Lib.hid hhi
    clear hlo hhi
    by_cases hlt : i < j
    · obtain ⟨bb, off, rfl, hbB, hcell⟩ := hc (by omega)
      have hcx : w.cell? ⟨bb, off + (i + j) / 2, none⟩ = some (.int .i64 (l.getD ((i + j) / 2) 0)) := hcell _ (by omega)
      have HC := Lib.hid hcell
      clear hcell hc
      have HX : Hid (∀ x, x = l.getD ((i + j) / 2) 0 → x < t → ∀ m, m < (i + j) / 2 + 1 → l.getD m 0 < t) := by
        show ∀ x, _
        rintro x rfl hx m hm
        by_cases e : m < i
        · exact HLO.out m e
        · by_cases e2 : m = (i + j) / 2
          · rw [e2]; exact hx
          · have h1 := HR.out m ((i + j) / 2) (by omega) (by omega)
            omega
      have HY : Hid (∀ x, x = l.getD ((i + j) / 2) 0 → ¬ x < t → ∀ m, (i + j) / 2 ≤ m → m < l.length → t ≤ l.getD m 0) := by
        show ∀ x, _
        rintro x rfl hx m hm hml
        by_cases e2 : m = (i + j) / 2
        · rw [e2]; omega
        · have h1 := HR.out ((i + j) / 2) m (by omega) (by omega)
          omega
      obtain ⟨x, hx⟩ : ∃ x, x = l.getD ((i + j) / 2) 0 := ⟨_, rfl⟩
      rw [← hx] at hcx
      have HXX := Lib.hid hx
      clear hx
      go_wp2_with fail
      refine (less8_any _ _ _).mono ?_; rintro e w' ⟨rfl, rfl⟩
      by_cases hxt : x < t
      · have HA := Lib.hid (HX.out x HXX.out (by omega))
        rw [decide_eq_true hxt]
        go_wp2_with fail
        go_round
        case rel => exact ⟨(i + j) / 2 + 1, j, by go_num, rfl, by omega, hj, HA.out, HHI.out⟩
        case measure => simp [intOf]; omega
      · have HA := Lib.hid (HY.out x HXX.out (by omega))
        rw [decide_eq_false hxt]
        go_wp2_with fail
        go_round
        case rel => exact ⟨i, (i + j) / 2, rfl, by go_num, by omega, by omega, HLO.out, HA.out⟩
        case measure => simp [intOf]; omega
    · obtain rfl : i = j := by omega
      have HCUT := Lib.hid (And.intro hj (And.intro HLO.out (fun (h9 : i < l.length) => HHI.out i (Nat.le_refl _) h9)))
      by_cases hil : i < l.length
      · obtain ⟨bb, off, rfl, hbB, hcell⟩ := hc (by omega)
        have hcx : w.cell? ⟨bb, off + i, none⟩ = some (.int .i64 (l.getD i 0)) := hcell _ hil
        have HC := Lib.hid hcell
        clear hcell hc
        obtain ⟨x, hx⟩ : ∃ x, x = l.getD i 0 := ⟨_, rfl⟩
        rw [← hx] at hcx
        clear hx
        by_cases hxt : x = t
        · have hb : (x == t) = true := by simp [hxt]
          clear hxt
          go_wp2_with fail
          go_ret2
          exact ⟨i, _, rfl, rfl, HCUT.out⟩
        · have hb : (x == t) = false := by simp [hxt]
          clear hxt
          go_wp2_with fail
          refine (isNaN82_any _ _).mono ?_; rintro e w' ⟨rfl, rfl⟩
          go_wp2_with fail
          go_ret2
          exact ⟨i, _, rfl, rfl, HCUT.out⟩
      · go_wp2_with fail
        go_ret2
        exact ⟨i, _, rfl, rfl, HCUT.out⟩
set_option maxHeartbeats 1000000 in
theorem runningSums_any (v : Value) (l : List Int) (w : World) (h : RI w w.heap.size v l) (hn : l.length ≤ 100) (hl : ∀ x ∈ l, 0 ≤ x ∧ x ≤ 1000) :
    Calls Try.prog 103 #[v] w (RetL 3 w (runT l l.length)) := by
  obtain ⟨A, c, rfl, hlc, hc⟩ := h
  obtain ⟨i0, hi, hz0, hz1, hz2⟩ := info_parts int_info
  have hn' : (l.length : Int) ≤ 100 := by omega
  have HC := Lib.hid hc
  have HS := Lib.hid (fun k hk => sumL_bound l 1000 hl k hk)
  have HL := Lib.hid hl
  clear hc hl
  go_enter Try.func103, Try.ntmps103
  go_wp2_with (at_make; refine wpList_make_full _ rfl _ _ 26 rfl w.heap.size 3 i0 _ 1 Try.underlying26 hi hz0 hz1 _ _ _ _ l.length rfl rfl rfl rfl (by rw [hz2]; omega) (by unfold maxLen; omega) (Nat.le_refl _) ?_; intro w2 hown hg)
  have hrc : RC w2 w.heap.size l.length (runP l 0) := by
    have h1 := RC.made hown
    rw [runP_zero]
    exact h1
  have hb2 : Below w.heap.size w w2 := (Below.refl _ _).grown hg (Nat.le_refl _) (by intro k hk; cases hk)
  have HRC := Lib.hid hrc
  have HB2 := Lib.hid hb2
  clear hown hg hrc hb2
  go_wp2_with fail
  go_loopg [12, 4] l.length (fun g s12 s4 wx => ∃ k : Nat, k + g = l.length ∧ s12 = .int .i64 (k : Int) ∧ s4 = .int .i64 (sumL (l.take k)) ∧ RC wx w.heap.size l.length (runP l k) ∧ Below w.heap.size w wx)
  case atStart => exact ⟨0, by omega, rfl, rfl, HRC.out, HB2.out⟩
  case round =>
    clear HRC HB2
    obtain ⟨k, hkg, rfl, rfl, hrc, hb⟩ := hrel
    have HRC := Lib.hid hrc
    have HB := Lib.hid hb
    clear hrc hb
    cases gk with
    | zero =>
      have hke : k = l.length := by omega
      have hz : ¬ ((l.length : Int) < (l.length : Int)) := by omega
      rw [hke] at HRC ⊢
      clear hke hkg
      go_wp2_with fail
      go_ret
      have h9 := HRC.out.oi (lo := w.heap.size) (hi := wr.heap.size) (Nat.le_refl _) (Nat.le_refl _)
      rw [runP_all, runT_length] at h9
      exact ⟨_, rfl, h9, HB.out⟩
    | succ g =>
      have hk : k < l.length := by omega
      have hk' : (k : Int) < (l.length : Int) := by omega
      obtain ⟨b, off, rfl, hbB, hcell⟩ := HC.out (by omega)
      have hcx := (HB.out.cell (p := ⟨b, off + k, none⟩) hbB).trans (hcell k hk)
      have hx := HL.out (l.getD k 0) (by simp [hk])
      have hs := HS.out k (by omega)
      have hkb : (1000 : Int) * (k : Int) ≤ 100000 := by omega
      have HT := Lib.hid (sumL_take l k hk)
      have HGP : Hid (goneP l k = sumL (l.take (k + 1))) := rfl
      have HSET := Lib.hid (runP_set l k hk)
      have HLN := Lib.hid (runP_length l k (by omega))
      have hcy : wr.cell? ⟨w.heap.size, k, none⟩ = some (.int .i64 ((runP l k).getD k 0)) := HRC.out.cell k (by rw [HLN.out]; exact hk)
      have hfz : wr.frozen? ⟨w.heap.size, k, none⟩ = false := HRC.out.free k
      generalize (runP l k).getD k 0 = u0 at hcy
      obtain ⟨x, hx9⟩ : ∃ x, x = l.getD k 0 := ⟨_, rfl⟩
      obtain ⟨S, hS⟩ : ∃ S, S = sumL (l.take k) := ⟨_, rfl⟩
      rw [← hx9] at hcx hx HT
      rw [← hS] at hs HT ⊢
      have hs2 : 0 ≤ S ∧ S ≤ 100000 := by omega
      have hbz : b ≠ w.heap.size := by omega
      clear hcell hx9 hS hs hkb
      go_wp2_with fail
      go_roundg g
      case measure => omega
      case rel =>
        have hs := HRC.out.set k (S + x)
        rw [← HT.out, ← HGP.out, HSET.out, HGP.out, HT.out] at hs
        have hw4 : Wr w.heap.size (w.heap.size + 1) wr (wr.setCell ⟨w.heap.size, k, none⟩ (.int .i64 (S + x))) := (Wr.refl w.heap.size (w.heap.size + 1) wr).setCell (p := ⟨w.heap.size, k, none⟩) (Nat.le_refl _) (Nat.lt_succ_self _) _
        exact ⟨k + 1, by omega, by go_num, by rw [HT.out], hs, HB.out.trans (hw4.below (Nat.le_refl _) HB.out.size)⟩
set_option maxHeartbeats 1000000 in
theorem greatestDelay_any (v u : Value) (l o : List Int) (w : World) (h : RI w w.heap.size v l) (h' : RI w w.heap.size u o) (hl : trOk l = true) (ho : ∀ y ∈ o, 0 ≤ y ∧ y ≤ 1000) (hn : o.length ≤ 100) :
    Calls Try.prog 68 #[v, u] w (RetV w (.int .i64 (dlN l o l.length))) := by
  have HRS := Lib.hid (runningSums_any u o w h' hn ho)
  have hlen := trOk_len hl
  have HS := Lib.hid (fun k hk => sumL_bound l 1000 (trOk_mem hl) k hk)
  have HAT := Lib.hid fun t => trOk_at hl t
  have HDI := Lib.hid fun s => dlN_in l o hn s
  have HNF := Lib.hid (runT_nf ho)
  have hn' : (l.length : Int) ≤ 40 := by omega
  have hn2 : (o.length : Int) ≤ 100 := by omega
  obtain ⟨A, c, rfl, hlc, hc⟩ := h
  obtain ⟨A', c', rfl, _, _⟩ := h'
  have HC := Lib.hid hc
  clear hc hl ho
  go_enter Try.func68, Try.ntmps68
  go_wp2_with fail
  refine HRS.out.mono ?_; rintro e w2 ⟨u2, rfl, ho2, hb2⟩
  have HB2 := Lib.hid hb2
  have HRI := Lib.hid ho2.ri
  obtain ⟨A2, c2, rfl, _, _⟩ := ho2.ri
  rw [runT_length] at HRI
  have HSE : Hid (∀ (cc : Int) , Calls Try.prog 104 #[.slice A2 (runT o o.length).length c2, .int .i64 cc] w2 fun e w' => ∃ (b : Bool), e = .returned (.tuple #[.int .i64 ((cutO o cc : Nat) : Int), .bool b]) ∧ w2 = w') := by
    show ∀ _, _
    intro cc
    have h9 := search8_any (.slice A2 (runT o o.length).length c2) (runT o o.length) cc w2 ho2.ri (by rw [runT_length]; omega) HNF.out
    refine h9.mono ?_
    rintro e w' ⟨i, b, rfl, rfl, h1, h2, h3⟩
    rw [runT_length] at h1 h3
    have hcut : cutO o cc = i := cutO_is h1 (fun m hm => by have := h2 m hm; rw [runT_at _ _ _ (by omega)] at this; exact this) (fun h => by have := h3 h; rw [runT_at _ _ _ h] at this; exact this)
    exact ⟨b, by rw [hcut], rfl⟩
  clear ho2 hb2
  go_wp2_with fail
  go_loopg [16, 6, 5] l.length (fun g s16 s6 s5 wx => ∃ s : Nat, s + g = l.length ∧ s16 = .int .i64 (s : Int) ∧ s6 = .int .i64 (sumL (l.take s)) ∧ s5 = .int .i64 (dlN l o s) ∧ w2 = wx)
  case atStart => exact ⟨0, by omega, rfl, rfl, rfl, rfl⟩
  case round =>
    obtain ⟨s, hsg, rfl, rfl, rfl, rfl⟩ := hrel
    cases gk with
    | zero =>
      have hse : s = l.length := by omega
      have hz : ¬ ((l.length : Int) < (l.length : Int)) := by omega
      rw [hse]
      clear hse hsg
      go_wp2_with fail
      go_ret
      exact ⟨rfl, HB2.out⟩
    | succ g =>
      have hs : s < l.length := by omega
      have hs' : (s : Int) < (l.length : Int) := by omega
      obtain ⟨b, off, rfl, hbB, hcell⟩ := HC.out (by omega)
      have hcx := (HB2.out.cell (p := ⟨b, off + s, none⟩) hbB).trans (hcell s hs)
      have hat := HAT.out s
      have hsb := HS.out s (by omega)
      have hkb : (1000 : Int) * (s : Int) ≤ 40000 := by omega
      have HT := Lib.hid (sumL_take l s hs)
      have hdi := HDI.out s
      have HDL : Hid (dlN l o (s + 1) = if 0 < l.getD s 0 then max (dlN l o s) ((cutO o (sumL (l.take (s + 1))) : Nat) - (s : Int)) else dlN l o s) := rfl
      have hcl := cutO_le o (sumL (l.take (s + 1)))
      obtain ⟨a, ha⟩ : ∃ a, a = l.getD s 0 := ⟨_, rfl⟩
      rw [← ha] at hcx hat HT HDL
      obtain ⟨S, hS⟩ : ∃ S, S = sumL (l.take s) := ⟨_, rfl⟩
      rw [← hS] at hsb HT ⊢
      have HSC := Lib.hid (HSE.out (sumL (l.take (s + 1))))
      obtain ⟨k, hk⟩ : ∃ k, k = cutO o (sumL (l.take (s + 1))) := ⟨_, rfl⟩
      rw [← hk] at hcl HDL HSC
      rw [HT.out] at HSC
      obtain ⟨M, hM⟩ : ∃ M, M = dlN l o s := ⟨_, rfl⟩
      rw [← hM] at hdi HDL ⊢
      have hs2 : 0 ≤ S ∧ S ≤ 40000 := by omega
      have hk2 : (k : Int) ≤ 100 := by omega
      clear ha hS hk hM hcell hsb hkb hcl
      by_cases ha0 : 0 < a
      · rw [if_pos ha0] at HDL
        by_cases hmx : M < (k : Int) - (s : Int)
        · rw [show max M ((k : Int) - (s : Int)) = (k : Int) - (s : Int) by omega] at HDL
          go_wp2_with fail
          refine HSC.out.mono ?_; rintro e w' ⟨bb, rfl, rfl⟩
          go_wp2_with fail
          go_roundg g
          case measure => omega
          case rel => exact ⟨s + 1, by omega, by go_num, by rw [HT.out], by rw [HDL.out], rfl⟩
        · rw [show max M ((k : Int) - (s : Int)) = M by omega] at HDL
          have hmx2 : (k : Int) - (s : Int) ≤ M := by omega
          go_wp2_with fail
          refine HSC.out.mono ?_; rintro e w' ⟨bb, rfl, rfl⟩
          go_wp2_with fail
          go_roundg g
          case measure => omega
          case rel => exact ⟨s + 1, by omega, by go_num, by rw [HT.out], by rw [HDL.out], rfl⟩
      · rw [if_neg ha0] at HDL
        go_wp2_with fail
        go_roundg g
        case measure => omega
        case rel => exact ⟨s + 1, by omega, by go_num, by rw [HT.out], by rw [HDL.out], rfl⟩

set_option maxHeartbeats 1000000 in
theorem implDelayServed_any (v : Value) (x : Sv) (l : List Int) (w : World) (h : RI w w.heap.size v l) (hn : l.length ≤ 1048576) :
    Calls Try.prog 12 #[SvV x, v] w (RetV w (.tuple #[.int .i64 (dlsSays x l).1, .bool (dlsSays x l).2])) := by
  have H1 : Hid (∀ w', Below w.heap.size w w' → Calls Try.prog 8 #[SvV x, v] w' (RetLB 3 w' (srvSays x l).1 (srvSays x l).2)) := fun w' hb => implServedBy_any v x l w' ((h.below hb).more hb.size) hn
  have hno : (srvSays x l).2 = false → dlsSays x l = (0, false) := by
    unfold srvSays dlsSays
    split
    · cases svRg x l <;> simp [svO, svOD]
    · simp
  have hyes : (srvSays x l).2 = true → ∃ n, askV x l = true ∧ svRg x l = some n ∧ (srvSays x l).1 = svT x l n ∧ dlsSays x l = (dlN l (svT x l n) l.length, true) := by
    unfold srvSays dlsSays
    split
    · next hg =>
      cases hr : svRg x l with
      | none => simp [svO]
      | some n => intro _; exact ⟨n, hg, rfl, rfl, rfl⟩
    · simp
  cases hb : (srvSays x l).2
  · rw [hno hb]
    rw [hb] at H1
    generalize (srvSays x l).1 = L at H1
    clear h hno hyes hb
    obtain ⟨r, d⟩ := x
    simp only [SvV] at H1 ⊢
    have hW : Below w.heap.size w (w.alloc (.cells #[.int .i64 r, .int .i64 d] 25)) := (Below.refl _ _).alloc (Nat.le_refl _) _
    go_enter Try.func12, Try.ntmps12
    go_wp2_with fail
    refine (H1.out _ hW).mono ?_; rintro e w1 ⟨u, rfl, _, hb1⟩
    have hT := hW.trans (hb1.mono hW.size)
    go_wp2_with fail
    go_ret2
    exact ⟨rfl, hT⟩
  obtain ⟨n, hg, hr, hL, hS⟩ := hyes hb
  have hq := askV_in hg
  rw [hS]
  rw [hb, hL] at H1
  have hn100 := svRg_le hr
  have H2 : Hid (∀ W u, Below w.heap.size w W → RI W W.heap.size u (svT x l n) → Calls Try.prog 68 #[v, u] W (RetV W (.int .i64 (dlN l (svT x l n) l.length)))) := fun W u hb' hu => greatestDelay_any v u l (svT x l n) W ((h.below hb').more hb'.size) hu hq.2 (svT_mem hq.1 hq.2 n) (by rw [svT_length]; exact hn100)
  generalize dlN l (svT x l n) l.length = M at H2 ⊢
  generalize svT x l n = L at H1 H2
  clear h hno hyes hb hg hr hL hS hq
  obtain ⟨r, d⟩ := x
  simp only [SvV] at H1 ⊢
  have hW : Below w.heap.size w (w.alloc (.cells #[.int .i64 r, .int .i64 d] 25)) := (Below.refl _ _).alloc (Nat.le_refl _) _
  go_enter Try.func12, Try.ntmps12
  go_wp2_with fail
  refine (H1.out _ hW).mono ?_; rintro e w1 ⟨u, rfl, ho, hb1⟩
  have HT := Lib.hid (hW.trans (hb1.mono hW.size))
  have HC := Lib.hid (H2.out w1 u HT.out ho.ri)
  clear hb1 ho
  go_wp2_with fail
  refine HC.out.mono ?_; rintro e w2 ⟨rfl, hb2⟩
  have HT2 := Lib.hid (HT.out.trans (hb2.mono HT.out.size))
  clear hb2
  go_wp2_with fail
  go_ret2
  exact ⟨rfl, HT2.out⟩
set_option maxHeartbeats 2000000 in
theorem shDelay_any (v u : Value) (l o : List Int) (w : World) (h : RI w w.heap.size v l) (h' : RI w w.heap.size u o) (hl : trOk l = true) (ho : ∀ y ∈ o, 0 ≤ y ∧ y ≤ 1000) (hn : o.length ≤ 100) :
    Calls Try.prog 69 #[v, u] w (RetV w (.int .i64 (dlN l o l.length))) := by
  have hlen := trOk_len hl
  have HS := Lib.hid (fun k hk => sumL_bound l 1000 (trOk_mem hl) k hk)
  have HO := Lib.hid (fun k hk => sumL_bound o 1000 ho k hk)
  have HAT := Lib.hid fun t => trOk_at hl t
  have HOA : Hid (∀ k, k < o.length → 0 ≤ o.getD k 0 ∧ o.getD k 0 ≤ 1000) := fun k hk => ho _ (by simp [List.getD, hk])
  have HDI := Lib.hid fun s => dlN_in l o hn s
  have hn' : (l.length : Int) ≤ 40 := by omega
  have hn2 : (o.length : Int) ≤ 100 := by omega
  obtain ⟨A, c, rfl, hlc, hc⟩ := h
  obtain ⟨A', c', rfl, hlc', hc'⟩ := h'
  have HC := Lib.hid hc
  have HC' := Lib.hid hc'
  clear hc hc' hl ho
  go_enter Try.func69, Try.ntmps69
  go_wp2_with fail
  go_loopg [13, 6, 5, 7, 8] l.length (fun g s13 s6 s5 s7 s8 wx => ∃ s T : Nat, s + g = l.length ∧ s13 = .int .i64 (s : Int) ∧ s6 = .int .i64 (sumL (l.take s)) ∧ s5 = .int .i64 (dlN l o s) ∧ s7 = .int .i64 (sumL (o.take T)) ∧ s8 = .int .i64 (T : Int) ∧ T ≤ o.length ∧ Hid (∀ m, m < T → goneP o m < sumL (l.take s)) ∧ w = wx)
  case atStart => exact ⟨0, 0, by omega, rfl, rfl, rfl, rfl, rfl, Nat.zero_le _, fun m hm => absurd hm (by omega), rfl⟩
  case round =>
    obtain ⟨s, T, hsg, rfl, rfl, rfl, rfl, rfl, hTo, HLO, rfl⟩ := hrel
    cases gk with
    | zero =>
      have hse : s = l.length := by omega
      have hz : ¬ ((l.length : Int) < (l.length : Int)) := by omega
      rw [hse]
      clear hse hsg
      go_wp2_with fail
      go_ret
      exact ⟨rfl, Below.refl _ _⟩
    | succ g =>
      have hs : s < l.length := by omega
      have hs' : (s : Int) < (l.length : Int) := by omega
      obtain ⟨b, off, rfl, hbB, hcell⟩ := HC.out (by omega)
      have hcx := hcell s hs
      have hat := HAT.out s
      have hsb := HS.out s (by omega)
      have hkb : (1000 : Int) * (s : Int) ≤ 40000 := by omega
      have HT := Lib.hid (sumL_take l s hs)
      have hdi := HDI.out s
      have HDL : Hid (dlN l o (s + 1) = if 0 < l.getD s 0 then max (dlN l o s) ((cutO o (sumL (l.take (s + 1))) : Nat) - (s : Int)) else dlN l o s) := rfl
      obtain ⟨a, ha⟩ : ∃ a, a = l.getD s 0 := ⟨_, rfl⟩
      rw [← ha] at hcx hat HT HDL
      obtain ⟨S, hS⟩ : ∃ S, S = sumL (l.take s) := ⟨_, rfl⟩
      rw [← hS] at hsb HT HLO ⊢
      obtain ⟨M, hM⟩ : ∃ M, M = dlN l o s := ⟨_, rfl⟩
      rw [← hM] at hdi HDL ⊢
      have hs2 : 0 ≤ S ∧ S ≤ 40000 := by omega
      have hob := HO.out T hTo
      have hTb : (1000 : Int) * (T : Int) ≤ 100000 := by omega
      obtain ⟨Q, hQ⟩ : ∃ Q, Q = sumL (o.take T) := ⟨_, rfl⟩
      rw [← hQ] at hob ⊢
      have HQ := Lib.hid hQ
      have hq2 : 0 ≤ Q ∧ Q ≤ 100000 := by omega
      clear ha hS hM hcell hsb hkb hob hTb
      have hTi : (T : Int) ≤ 100 := by omega
      by_cases ha0 : 0 < a
      · rw [if_pos ha0] at HDL
        have hane : ¬ (a = 0) := by omega
        have haneb : (a == 0) = false := by simpa using hane
        obtain ⟨CM, hCM⟩ : ∃ CM, CM = S + a := ⟨_, rfl⟩
        have hCMb : 0 ≤ CM ∧ CM ≤ 50000 := by omega
        have HTC : Hid (sumL (l.take (s + 1)) = CM) := by show _ = _; rw [HT.out, hCM]
        have HLO2 : Hid (∀ m, m < T → goneP o m < CM) := fun m hm => by have := HLO.out m hm; omega
        rw [HTC.out] at HDL
        clear hQ
        go_wp2_with fail
        rw [← hCM]
        clear hCM
        go_loopg [8, 7] (o.length - T) (fun g2 s8 s7 wx => ∃ T2 : Nat, T2 + g2 = o.length ∧ s8 = .int .i64 (T2 : Int) ∧ s7 = .int .i64 (sumL (o.take T2)) ∧ Hid (∀ m, m < T2 → goneP o m < CM) ∧ w = wx)
        case atStart => exact ⟨T, by omega, rfl, by first | rfl | rw [HQ.out], HLO2.out, rfl⟩
        case round =>
          clear HLO HLO2 HQ hTo hTi hq2
          obtain ⟨T2, hTg, rfl, rfl, HLO3, rfl⟩ := hrel
          have hT2o : T2 ≤ o.length := by omega
          have hob := HO.out T2 hT2o
          have hTb : (1000 : Int) * (T2 : Int) ≤ 100000 := by omega
          have hTi : (T2 : Int) ≤ 100 := by omega
          cases gk with
          | zero =>
            have hte : T2 = o.length := by omega
            have hz : ¬ ((T2 : Int) < (o.length : Int)) := by omega
            have HCUT : Hid (cutO o CM = T2) := cutO_is hT2o HLO3.out (fun h => absurd h (by omega))
            rw [HCUT.out] at HDL
            obtain ⟨Q, hQ⟩ : ∃ Q, Q = sumL (o.take T2) := ⟨_, rfl⟩
            rw [← hQ] at hob ⊢
            have HMO := Lib.hid fun W => shMost_any M ((T2 : Int) - (s : Int)) W
            clear hte hTb
            go_wp2_with fail
            refine (HMO.out _).mono ?_; rintro e w' ⟨rfl, rfl⟩
            go_wp2_with fail
            go_roundg g
            case measure => omega
            case rel => exact ⟨s + 1, T2, by omega, by go_num, by rw [HTC.out], by rw [HDL.out], by first | rfl | rw [hQ], rfl, hT2o, (by rw [HTC.out]; exact HLO3.out), rfl⟩
          | succ g2 =>
            have hT2 : T2 < o.length := by omega
            have hT2' : (T2 : Int) < (o.length : Int) := by omega
            obtain ⟨b2, off2, rfl, hbB2, hcell2⟩ := HC'.out (by omega)
            have hcy := hcell2 T2 hT2
            have hoa := HOA.out T2 hT2
            have HTO := Lib.hid (sumL_take o T2 hT2)
            have HGP : Hid (goneP o T2 = sumL (o.take (T2 + 1))) := rfl
            obtain ⟨y, hy⟩ : ∃ y, y = o.getD T2 0 := ⟨_, rfl⟩
            rw [← hy] at hcy hoa HTO
            obtain ⟨Q, hQ⟩ : ∃ Q, Q = sumL (o.take T2) := ⟨_, rfl⟩
            rw [← hQ] at hob HTO ⊢
            have hQ2 : 0 ≤ Q ∧ Q ≤ 100000 := by omega
            have HQQ := Lib.hid hQ
            clear hy hQ hcell2 hob hTb
            by_cases hlt : Q + y < CM
            · have HLO4 : Hid (∀ m, m < T2 + 1 → goneP o m < CM) := fun m hm => by
                by_cases e : m = T2
                · rw [e, HGP.out, HTO.out]; exact hlt
                · exact HLO3.out m (by omega)
              go_wp2_with fail
              go_roundg g2
              case measure => omega
              case rel => exact ⟨T2 + 1, by omega, by go_num, by rw [HTO.out], HLO4.out, rfl⟩
            · have hge : CM ≤ Q + y := by omega
              have HCUT : Hid (cutO o CM = T2) := cutO_is hT2o HLO3.out (fun _ => by rw [HGP.out, HTO.out]; exact hge)
              rw [HCUT.out] at HDL
              have HMO := Lib.hid fun W => shMost_any M ((T2 : Int) - (s : Int)) W
              go_wp2_with fail
              refine (HMO.out _).mono ?_; rintro e w' ⟨rfl, rfl⟩
              go_wp2_with fail
              go_roundg g
              case measure => omega
              case rel => exact ⟨s + 1, T2, by omega, by go_num, by rw [HTC.out], by rw [HDL.out], by first | rfl | rw [HQQ.out], rfl, hT2o, (by rw [HTC.out]; exact HLO3.out), rfl⟩
      · rw [if_neg ha0] at HDL
        have ha1 : a = 0 := by omega
        subst ha1
        have HTE : Hid (sumL (l.take (s + 1)) = S) := by show _ = _; rw [HT.out]; omega
        go_wp2_with fail
        go_roundg g
        case measure => omega
        case rel => exact ⟨s + 1, T, by omega, by go_num, by rw [HTE.out], by rw [HDL.out], by first | rfl | rw [HQ.out], rfl, hTo, (by rw [HTE.out]; exact HLO.out), rfl⟩
theorem svOD_is {x : Sv} {l : List Int} {n : Nat} (h : svRg x l = some n) : svOD x l (svRg x l) = (dlN l (svT x l n) l.length, true) := by rw [h]; rfl
set_option maxHeartbeats 1000000 in
theorem specDelayServed_any (v : Value) (x : Sv) (l : List Int) (w : World) (h : RI w w.heap.size v l) (hn : l.length ≤ 1048576) :
    Calls Try.prog 13 #[SvV x, v] w (RetV w (.tuple #[.int .i64 (dlsSays x l).1, .bool (dlsSays x l).2])) := by
  have H1 : Hid (∀ w', Below w.heap.size w w' → Calls Try.prog 64 #[SvV x, v] w' (RetV w' (.bool (askV x l)))) := fun w' hb => boAsked_any x v l w' ((h.below hb).more hb.size) hn
  cases hg : askV x l
  · rw [show dlsSays x l = (0, false) from by simp [dlsSays, hg]]
    rw [hg] at H1
    clear h hg
    obtain ⟨r, d⟩ := x
    simp only [SvV] at H1 ⊢
    have hW : Below w.heap.size w (w.alloc (.cells #[.int .i64 r, .int .i64 d] 25)) := (Below.refl _ _).alloc (Nat.le_refl _) _
    go_enter Try.func13, Try.ntmps13
    go_wp2_with fail
    refine (H1.out _ hW).mono ?_; rintro e w1 ⟨rfl, hb⟩
    have hT := hW.trans (hb.mono hW.size)
    go_wp2_with fail
    go_ret2
    exact ⟨rfl, hT⟩
  have hq := askV_in hg
  rw [show dlsSays x l = svOD x l (svRg x l) from by simp [dlsSays, hg]]
  rw [hg] at H1
  have H2 : Hid (∀ W, Below w.heap.size w W → Calls Try.prog 65 #[SvV x, v] W fun e w' => ∃ u1 u2, e = .returned (.tuple #[u1, u2, .bool (svO x l (svRg x l)).2]) ∧ OI 3 w' W.heap.size w'.heap.size u1 (svO x l (svRg x l)).1 ∧ OI 3 w' W.heap.size w'.heap.size u2 (svOB x l (svRg x l)) ∧ Below W.heap.size W w') :=
    fun W hb => boServe_any v x l W ((h.below hb).more hb.size) hq.1 hq.2
  generalize svOB x l (svRg x l) = LB at H2
  cases hr : svRg x l with
  | none =>
    rw [show svOD x l none = (0, false) from rfl]
    rw [hr] at H2
    simp only [svO] at H2
    clear h hg hq hr
    obtain ⟨r, d⟩ := x
    simp only [SvV] at H1 H2 ⊢
    have hW : Below w.heap.size w (w.alloc (.cells #[.int .i64 r, .int .i64 d] 25)) := (Below.refl _ _).alloc (Nat.le_refl _) _
    have hbk := BK.made w 25 #[.int .i64 r, .int .i64 d]
    go_enter Try.func13, Try.ntmps13
    go_wp2_with fail
    refine (H1.out _ hW).mono ?_; rintro e w1 ⟨rfl, hb⟩
    have hT := hW.trans (hb.mono hW.size)
    have hbk1 := hbk.step hb
    have c0 := hbk1.cell 0
    have c1 := hbk1.cell 1
    simp at c0 c1
    have HT := Lib.hid hT
    clear hbk hbk1 hb hT
    go_wp2_with fail
    refine (H2.out _ HT.out).mono ?_; rintro e w2 ⟨u1, u2, rfl, ho1, ho2, hb2⟩
    have HT2 := Lib.hid (HT.out.trans (hb2.mono HT.out.size))
    have HO1 := Lib.hid ho1.ri
    clear ho1 ho2 hb2
    go_wp2_with fail
    go_ret2
    exact ⟨rfl, HT2.out⟩
  | some n =>
    rw [show svOD x l (some n) = (dlN l (svT x l n) l.length, true) from rfl]
    rw [hr] at H2
    simp only [svO] at H2
    have hn100 := svRg_le hr
    have H3 : Hid (∀ W u, Below w.heap.size w W → RI W W.heap.size u (svT x l n) → Calls Try.prog 69 #[v, u] W (RetV W (.int .i64 (dlN l (svT x l n) l.length)))) := fun W u hb hu => shDelay_any v u l (svT x l n) W ((h.below hb).more hb.size) hu hq.2 (svT_mem hq.1 hq.2 n) (by rw [svT_length]; exact hn100)
    generalize dlN l (svT x l n) l.length = M at H3 ⊢
    generalize svT x l n = LO at H2 H3
    clear h hg hq hr
    obtain ⟨r, d⟩ := x
    simp only [SvV] at H1 H2 ⊢
    have hW : Below w.heap.size w (w.alloc (.cells #[.int .i64 r, .int .i64 d] 25)) := (Below.refl _ _).alloc (Nat.le_refl _) _
    have hbk := BK.made w 25 #[.int .i64 r, .int .i64 d]
    go_enter Try.func13, Try.ntmps13
    go_wp2_with fail
    refine (H1.out _ hW).mono ?_; rintro e w1 ⟨rfl, hb⟩
    have hT := hW.trans (hb.mono hW.size)
    have hbk1 := hbk.step hb
    have c0 := hbk1.cell 0
    have c1 := hbk1.cell 1
    simp at c0 c1
    have HT := Lib.hid hT
    clear hbk hbk1 hb hT
    go_wp2_with fail
    refine (H2.out _ HT.out).mono ?_; rintro e w2 ⟨u1, u2, rfl, ho1, ho2, hb2⟩
    have HT2 := Lib.hid (HT.out.trans (hb2.mono HT.out.size))
    have HO1 := Lib.hid ho1.ri
    clear ho1 ho2 hb2
    have HC := Lib.hid (H3.out w2 u1 HT2.out HO1.out)
    go_wp2_with fail
    refine HC.out.mono ?_; rintro e w3 ⟨rfl, hb3⟩
    have HT3 := Lib.hid (HT2.out.trans (hb3.mono HT2.out.size))
    clear hb3
    go_wp2_with fail
    go_ret2
    exact ⟨rfl, HT3.out⟩

end Go.Proofs.Ytlanpfcjcafapaa
