/-
  Chapter 8: permits, and the levels: the contracts of both sides.
-/
import Derived.Test.YtfncajdhdcpooaaDoorShA
import Derived.Test.YtfncajdhdcpooaaDoorAcc
import Derived.Test.YtfncajdhdcpooaaDoorRow5
import Derived.Deep.RegionHeld3
import Derived.Deep.LoopGhost
namespace Go.Proofs.YtfncajdhdcpooaaDoor
open Go.RowKit
set_option maxRecDepth 100000
set_option linter.unusedVariables false

/-- Permits in memory: the box of the next level, the box of the bucket. -/
structure PM (W : World) (pn pb : Nat) (x : Bu) (q : Int) : Prop where
  nx : BK W pn 3 #[.int .i64 q]
  bu : BK W pb 32 #[.int .i64 x.r, .int .i64 x.d]
  ne : pn ≠ pb
theorem PM.far {W W' : World} {pn pb a b : Nat} {x : Bu} {q : Int} (h : PM W pn pb x q) (hg : Wr a b W W') (h1 : pn < a ∨ b ≤ pn) (h2 : pb < a ∨ b ≤ pb) : PM W' pn pb x q := ⟨h.nx.far hg h1, h.bu.far hg h2, h.ne⟩
theorem PM.step {W W' : World} {pn pb : Nat} {x : Bu} {q : Int} (h : PM W pn pb x q) (hb : Below W.heap.size W W') : PM W' pn pb x q := ⟨h.nx.step hb, h.bu.step hb, h.ne⟩
@[reducible] def permitV (pn pb : Nat) : Value := .func (.func 58) #[] #[.pointer (some ⟨pn, 0, none⟩), .pointer (some ⟨pb, 0, none⟩)]
set_option maxHeartbeats 1000000 in
theorem permit_any (pn pb : Nat) (x : Bu) (q a : Int) (W : World) (h : PM W pn pb x q) (hq : 0 ≤ q ∧ q ≤ 1000) (ha : 0 ≤ a ∧ a ≤ 1000000) (hx : buOk x = true) :
    Calls Tryd.prog 58 #[.int .i64 a, .pointer (some ⟨pn, 0, none⟩), .pointer (some ⟨pb, 0, none⟩)] W
      fun e W' => e = .returned (.tuple #[.int .i64 q, .int .i64 (min a q)]) ∧ PM W' pn pb x (min (q - min a q + x.r) x.d) ∧ Wr pn (pn + 1) W W' := by
  have hin := buOk_in hx
  obtain ⟨r, d⟩ := x
  obtain ⟨hn, hb, hne⟩ := h
  simp only at hin hb ⊢
  have c0 := hn.cell 0
  have f0 := hn.free 0
  have c1 := hb.cell 0
  have c2 := hb.cell 1
  simp at c0 c1 c2
  have HN := Lib.hid hn
  have HB := Lib.hid hb
  have HNE : Hid (pn ≠ pb) := hne
  have hmn : 0 ≤ min a q ∧ min a q ≤ q := by omega
  have HFIN : Hid (∀ g n : Int, g = min a q → n = min (q - min a q + r) d → (Ending.returned (.tuple #[.int .i64 q, .int .i64 g]) = Ending.returned (.tuple #[.int .i64 q, .int .i64 (min a q)]) ∧
      PM (W.setCell ⟨pn, 0, none⟩ (.int .i64 n)) pn pb ⟨r, d⟩ (min (q - min a q + r) d) ∧ Wr pn (pn + 1) W (W.setCell ⟨pn, 0, none⟩ (.int .i64 n)))) := by
    show ∀ _ _, _
    rintro g n rfl rfl
    have hw : Wr pn (pn + 1) W (W.setCell ⟨pn, 0, none⟩ (.int .i64 (min (q - min a q + r) d))) := (Wr.refl pn (pn + 1) W).setCell (Nat.le_refl _) (Nat.lt_succ_self _) _
    exact ⟨rfl, ⟨HN.out.put 0 _, HB.out.far hw (by have := HNE.out; omega), HNE.out⟩, hw⟩
  clear hn hb hne
  go_enter Tryd.func58, Tryd.ntmps58
  go_wp2_with fail
  all_goals
    go_ret2
    exact HFIN.out _ _ (by omega) (by omega)
theorem permitsOf_any (x : Bu) (w : World) :
    Calls Tryd.prog 53 #[BuV x] w fun e w' => ∃ pn pb, e = .returned (permitV pn pb) ∧ w.heap.size ≤ pn ∧ w.heap.size ≤ pb ∧ PM w' pn pb x x.d ∧ Below w.heap.size w w' := by
  obtain ⟨r, d⟩ := x
  simp only [BuV]
  go_enter Tryd.func53, Tryd.ntmps53
  have hB1 := BK.made w 32 #[.int .i64 r, .int .i64 d]
  have hl1 := hB1.1
  have hB2 := hB1.alloc (.cells #[.int .i64 d] 3)
  have hn : BK ((w.alloc (.cells #[.int .i64 r, .int .i64 d] 32)).alloc (.cells #[.int .i64 d] 3)) (w.heap.size + 1) 3 #[.int .i64 d] := by
    have h := BK.made (w.alloc (.cells #[.int .i64 r, .int .i64 d] 32)) 3 #[.int .i64 d]
    have e : (w.alloc (.cells #[.int .i64 r, .int .i64 d] 32)).heap.size = w.heap.size + 1 := by simp
    rw [e] at h
    exact h
  have hW : Below w.heap.size w ((w.alloc (.cells #[.int .i64 r, .int .i64 d] 32)).alloc (.cells #[.int .i64 d] 3)) := ((Below.refl _ _).alloc (Nat.le_refl _) _).alloc (by simp) _
  clear hB1 hl1
  go_wp2_with fail
  go_ret
  exact ⟨w.heap.size + 1, w.heap.size, rfl, by omega, Nat.le_refl _, ⟨hn, hB2, by omega⟩, hW⟩
set_option maxHeartbeats 1000000 in
theorem levelsOf_any (v : Value) (x : Bu) (l : List Int) (w : World) (h : RI w w.heap.size v l) (hx : buOk x = true) (hl : trOk l = true) :
    Calls Tryd.prog 47 #[BuV x, v] w (RetLB 3 w (lvRg x l).1 (lvRg x l).2) := by
  have h0 := h
  obtain ⟨A, c, rfl, hlc, hc⟩ := h
  obtain ⟨i0, hi, hz0, hz1, hz2⟩ := info_parts int_info
  have hlen := trOk_len hl
  have hn' : (l.length : Int) ≤ 40 := by omega
  have HX : Hid (buOk x = true) := hx
  have HL : Hid (trOk l = true) := hl
  have HC := Lib.hid hc
  have HP := Lib.hid fun w => permitsOf_any x w
  have HPM := Lib.hid fun pn pb q a W h h1 h2 => permit_any pn pb x q a W h h1 h2 hx
  have HLV := Lib.hid fun k hk => lvN_in (x := x) hx hl k hk
  have HD := Lib.hid (buOk_in hx)
  obtain ⟨r, d, hrd⟩ : ∃ r d, x = ⟨r, d⟩ := ⟨x.r, x.d, rfl⟩
  have HRD := Lib.hid hrd
  have hBV : BuV x = .agg #[.int .i64 r, .int .i64 d] := by rw [hrd]; rfl
  rw [hBV] at HP ⊢
  have hW0 : Below w.heap.size w (w.alloc (.cells #[.int .i64 r, .int .i64 d] 32)) := (Below.refl _ _).alloc (Nat.le_refl _) _
  have HW0 := Lib.hid hW0
  clear hc hx hl hrd hBV hW0
  go_enter Tryd.func47, Tryd.ntmps47
  go_wp2_with fail
  refine (HP.out _).mono ?_; rintro e w1 ⟨pn, pb, rfl, hpn, hpb, hpm, hb1⟩
  have HB1 : Hid (Below w.heap.size w w1) := HW0.out.trans (hb1.mono HW0.out.size)
  have HPM1 := Lib.hid hpm
  have HPN : Hid (w.heap.size ≤ pn) := Nat.le_trans HW0.out.size hpn
  have HPB : Hid (w.heap.size ≤ pb) := Nat.le_trans HW0.out.size hpb
  clear hpn hpb hpm hb1
  go_wp2_with (at_make; refine wpList_make_full _ rfl _ _ 24 rfl w1.heap.size 3 i0 _ 1 Tryd.underlying24 hi hz0 hz1 _ _ _ _ l.length rfl rfl rfl rfl (by rw [hz2]; omega) (by unfold maxLen; omega) (Nat.le_refl _) ?_; intro w2 hown hg)
  have hrc : RC w2 w1.heap.size l.length (lvP x l 0) := by
    have h1 := RC.made hown
    rw [lvP_zero]
    exact h1
  have hb2 : Below w1.heap.size w1 w2 := (Below.refl _ _).grown hg (Nat.le_refl _) (by intro k hk; cases hk)
  have HRC := Lib.hid hrc
  have HB2 : Hid (Below w.heap.size w w2) := HB1.out.trans (hb2.mono HB1.out.size)
  have HPM2 : Hid (PM w2 pn pb x x.d) := HPM1.out.step hb2
  have HZ : Hid (pn < w1.heap.size ∧ pb < w1.heap.size ∧ w.heap.size ≤ w1.heap.size) := ⟨HPM1.out.nx.1, HPM1.out.bu.1, HB1.out.size⟩
  clear hown hg hrc hb2 HPM1 HB1
  go_wp2_with fail
  go_loopg [19] l.length (fun g s19 wx => ∃ k : Nat, k + g = l.length ∧ s19 = .int .i64 k ∧ kpN x l k = true ∧ PM wx pn pb x (lvN x l k) ∧ RC wx w1.heap.size l.length (lvP x l k) ∧ Below w.heap.size w wx)
  case atStart => exact ⟨0, by omega, rfl, rfl, HPM2.out, HRC.out, HB2.out⟩
  case round =>
    clear HPM2 HRC HB2
    obtain ⟨k, hkg, rfl, hkp, hpm, hrc, hb⟩ := hrel
    have HKP := Lib.hid hkp
    have HPM3 := Lib.hid hpm
    have HRC := Lib.hid hrc
    have HBB := Lib.hid hb
    clear hkp hpm hrc hb
    cases gk with
    | zero =>
      obtain rfl : k = l.length := by omega
      have hz : ¬ ((l.length : Int) < (l.length : Int)) := by omega
      go_wp2_with fail
      go_ret2
      rw [lvRg_yes HKP.out]
      have h9 := HRC.out.oi (lo := w.heap.size) (hi := wr.heap.size) HZ.out.2.2 (Nat.le_refl _)
      rw [lvP_all, lvT_length] at h9
      exact ⟨_, rfl, h9, HBB.out⟩
    | succ g =>
      have hk : k < l.length := by omega
      have hk' : (k : Int) < (l.length : Int) := by omega
      obtain ⟨b, off, rfl, hbB, hcell⟩ := HC.out (by omega)
      have hcx := (HBB.out.cell (p := ⟨b, off + k, none⟩) hbB).trans (hcell k hk)
      have hin := trOk_at HL.out k
      have hlv := HLV.out k HKP.out
      have hd := HD.out
      obtain ⟨a, ha⟩ : ∃ a, a = l.getD k 0 := ⟨_, rfl⟩
      obtain ⟨q, hq⟩ : ∃ q, q = lvN x l k := ⟨_, rfl⟩
      have HA := Lib.hid ha
      have HQ := Lib.hid hq
      rw [← ha] at hcx hin
      rw [← hq] at hlv HPM3
      have hq2 : 0 ≤ q ∧ q ≤ 1000 := by omega
      have HCL := Lib.hid (HPM.out pn pb q a wr HPM3.out hq2 (by omega))
      have hln := lvP_length x l k (Nat.le_of_lt hk)
      have HLN := Lib.hid hln
      have HSET := Lib.hid (lvP_set x l k hk)
      have HNEXT : Hid (lvN x l (k + 1) = min (q - a + x.r) x.d) := by show _ = _; rw [HQ.out, HA.out]; rfl
      clear ha hq hcell hlv hd hln
      go_wp2_with fail
      refine HCL.out.mono ?_; rintro e w3 ⟨rfl, hpm3, hw3⟩
      have HPM4 := Lib.hid hpm3
      have HW3 := Lib.hid hw3
      have HRC3 : Hid (RC w3 w1.heap.size l.length (lvP x l k)) := HRC.out.far hw3 (.inr (by have := HZ.out; omega))
      have HB3 : Hid (Below w.heap.size w w3) := HBB.out.trans (hw3.below HPN.out HBB.out.size)
      have hcx3 : w3.cell? ⟨w1.heap.size, k, none⟩ = some (.int .i64 ((lvP x l k).getD k 0)) := HRC3.out.cell k (by rw [HLN.out]; exact hk)
      have hfz3 : w3.frozen? ⟨w1.heap.size, k, none⟩ = false := HRC3.out.free k
      generalize (lvP x l k).getD k 0 = u0 at hcx3
      clear hpm3 hw3
      by_cases haq : q < a
      · have HNO : Hid (kpN x l l.length = false) := kpN_no (by rw [← HQ.out, ← HA.out]; exact haq) hk
        have hmin : min a q < a := by omega
        generalize min a q = m at hmin HPM4 ⊢
        go_wp2_with fail
        go_ret2
        rw [lvRg_no HNO.out]
        exact ⟨_, rfl, .inl ⟨rfl, none, 0, rfl, by simp, fun _ => rfl⟩, HB3.out⟩
      · have hmin : min a q = a := by omega
        have hmn2 : ¬ (a < a) := by omega
        rw [hmin] at HPM4 ⊢
        have HKP2 : Hid (kpN x l (k + 1) = true) := kpN_succ HKP.out (by rw [← HQ.out, ← HA.out]; omega)
        clear haq hmin
        go_wp2_with fail
        go_roundg g
        case measure => omega
        case rel =>
          have hs := HRC3.out.set k q
          rw [HQ.out, HSET.out, ← HQ.out] at hs
          have hw4 : Wr w1.heap.size (w1.heap.size + 1) w3 (w3.setCell ⟨w1.heap.size, k, none⟩ (.int .i64 q)) := (Wr.refl w1.heap.size (w1.heap.size + 1) w3).setCell (p := ⟨w1.heap.size, k, none⟩) (Nat.le_refl _) (Nat.lt_succ_self _) _
          refine ⟨k + 1, by omega, by go_num, HKP2.out, ?_, hs, HB3.out.trans (hw4.below HZ.out.2.2 HB3.out.size)⟩
          rw [HNEXT.out]
          exact HPM4.out.far hw4 (.inl HZ.out.1) (.inl HZ.out.2.1)

end Go.Proofs.YtfncajdhdcpooaaDoor
