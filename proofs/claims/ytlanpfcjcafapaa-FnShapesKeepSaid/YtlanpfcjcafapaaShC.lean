/-
  Chapter 8: the model's levels, and the contracts of LevelsOf, KeepsBucket, KeepsBoth, LeastRate, both sides.
-/
import Derived.Test.YtlanpfcjcafapaaShB
namespace Go.Proofs.Ytlanpfcjcafapaa
open Go.RowKit
set_option maxRecDepth 100000
set_option linter.unusedVariables false

set_option maxHeartbeats 1000000 in
theorem shLevels_any (v : Value) (x : Bu) (l : List Int) (w : World) (h : RI w w.heap.size v l) (hx : buOk x = true) (hl : trOk l = true) :
    Calls Try.prog 89 #[BuV x, v] w (RetLB 3 w (lvRg x l).1 (lvRg x l).2) := by
  obtain ⟨A, c, rfl, hlc, hc⟩ := h
  obtain ⟨i0, hi, hz0, hz1, hz2⟩ := info_parts int_info
  have hlen := trOk_len hl
  have hn' : (l.length : Int) ≤ 40 := by omega
  have HL : Hid (trOk l = true) := hl
  have HC := Lib.hid hc
  have HLV := Lib.hid fun k hk => lvN_in (x := x) hx hl k hk
  have HD := Lib.hid (buOk_in hx)
  obtain ⟨r, d, hrd⟩ : ∃ r d, x = ⟨r, d⟩ := ⟨x.r, x.d, rfl⟩
  have hBV : BuV x = .agg #[.int .i64 r, .int .i64 d] := by rw [hrd]; rfl
  have hxr : x.r = r := by rw [hrd]
  have hxd : x.d = d := by rw [hrd]
  rw [hBV]
  have HR := Lib.hid hxr
  have HE := Lib.hid hxd
  have hW0 : Below w.heap.size w (w.alloc (.cells #[.int .i64 r, .int .i64 d] 36)) := (Below.refl _ _).alloc (Nat.le_refl _) _
  have HW0 := Lib.hid hW0
  have HB0 := Lib.hid (BK.made w 36 #[.int .i64 r, .int .i64 d])
  have hsz : (w.alloc (.cells #[.int .i64 r, .int .i64 d] 36)).heap.size = w.heap.size + 1 := by simp
  have HSZ := Lib.hid hsz
  clear hc hx hl hrd hBV hW0 hxr hxd hsz
  go_enter Try.func89, Try.ntmps89
  go_wp2_with fail
  go_loopg [14, 6, 7] l.length (fun g s14 s6 s7 wx => ∃ k : Nat, k + g = l.length ∧ s14 = .int .i64 k ∧ kpN x l k = true ∧ s7 = .int .i64 (lvN x l k) ∧ Acc 3 wx (w.heap.size + 1) s6 (lvT x l k) ∧ Below (w.heap.size + 1) (w.alloc (.cells #[.int .i64 r, .int .i64 d] 36)) wx)
  case atStart => exact ⟨0, by omega, rfl, rfl, by rw [← HE.out]; rfl, Acc.nil _ _ _, Below.refl _ _⟩
  case round =>
    obtain ⟨k, hkg, rfl, hkp, rfl, hacc, hb⟩ := hrel
    have HKP := Lib.hid hkp
    have HA := Lib.hid hacc
    have HB := Lib.hid hb
    have HS : Hid (w.heap.size + 1 ≤ wr.heap.size) := by have := hb.size; rw [HSZ.out] at this; exact this
    have HT : Hid (Below w.heap.size w wr) := HW0.out.trans (hb.mono (Nat.le_succ _))
    clear hkp hacc hb
    cases gk with
    | zero =>
      obtain rfl : k = l.length := by omega
      have hz : ¬ ((l.length : Int) < (l.length : Int)) := by omega
      go_wp2_with fail
      go_ret2
      rw [lvRg_yes HKP.out]
      exact ⟨_, rfl, HA.out.oi.wide (Nat.le_succ _) (Nat.le_refl _), HT.out⟩
    | succ g =>
      have hk : k < l.length := by omega
      have hk' : (k : Int) < (l.length : Int) := by omega
      obtain ⟨b, off, rfl, hbB, hcell⟩ := HC.out (by omega)
      have hcx := (HT.out.cell (p := ⟨b, off + k, none⟩) hbB).trans (hcell k hk)
      have hin := trOk_at HL.out k
      have hlv := HLV.out k HKP.out
      have hd := HD.out
      rw [HR.out, HE.out] at hd
      rw [HE.out] at hlv
      obtain ⟨a, ha⟩ : ∃ a, a = l.getD k 0 := ⟨_, rfl⟩
      obtain ⟨q, hq⟩ : ∃ q, q = lvN x l k := ⟨_, rfl⟩
      have HAE := Lib.hid ha
      have HQ := Lib.hid hq
      rw [← ha] at hcx hin
      rw [← hq] at hlv ⊢
      have HNEXT : Hid (lvN x l (k + 1) = min d (q - a + r)) := by
        show _ = _
        rw [HQ.out, HAE.out, ← HR.out, ← HE.out]
        show min (lvN x l k - l.getD k 0 + x.r) x.d = _
        omega
      have hln : (lvT x l k).length < 1000000000 := by rw [lvT_length]; omega
      have HLN := Lib.hid hln
      have HSUC := Lib.hid (lvT_succ x l k)
      clear ha hq hcell hln
      have HBK : Hid (∀ w2, Below (w.heap.size + 1) (w.alloc (.cells #[.int .i64 r, .int .i64 d] 36)) w2 → BK w2 w.heap.size 36 #[.int .i64 r, .int .i64 d]) := fun w2 hb2 => HB0.out.far (Wr.of_below (hb2.mono (by rw [HSZ.out]; exact Nat.le_refl _)) 0 0) (.inr (Nat.zero_le _))
      by_cases haq : q < a
      · have HNO : Hid (kpN x l l.length = false) := kpN_no (by rw [← HQ.out, ← HAE.out]; exact haq) hk
        go_wp2_with (at_builtin; refine wpList_push rfl (.tmp 18) (.tmp 20) 26 rfl 3 i0 Try.underlying26 hi hz0 hz1 hz2 wr (w.alloc (.cells #[.int .i64 r, .int .i64 d] 36)) (w.heap.size + 1) _ (lvT x l k) q rfl rfl HA.out rfl HLN.out HS.out HB.out ?_; intro v2 w2 ha2 hb2; have HA2 := Lib.hid ha2; have HB2 := Lib.hid hb2; have hbk := HBK.out w2 hb2; have c0 := hbk.cell 0; have c1 := hbk.cell 1; simp at c0 c1; clear ha2 hb2 hbk)
        go_ret2
        rw [lvRg_no HNO.out]
        exact ⟨_, rfl, .inl ⟨rfl, none, 0, rfl, by simp, fun _ => rfl⟩, HW0.out.trans (HB2.out.mono (Nat.le_succ _))⟩
      · have hmn2 : ¬ (q < a) := haq
        have HKP2 : Hid (kpN x l (k + 1) = true) := kpN_succ HKP.out (by rw [← HQ.out, ← HAE.out]; omega)
        have HLE := Lib.hid fun w => shLeast_any d (q - a + r) w
        go_wp2_with (first | (at_builtin; refine wpList_push rfl (.tmp 18) (.tmp 20) 26 rfl 3 i0 Try.underlying26 hi hz0 hz1 hz2 wr (w.alloc (.cells #[.int .i64 r, .int .i64 d] 36)) (w.heap.size + 1) _ (lvT x l k) q rfl rfl HA.out rfl HLN.out HS.out HB.out ?_; intro v2 w2 ha2 hb2; have HA2 := Lib.hid ha2; have HB2 := Lib.hid hb2; have hbk := HBK.out w2 hb2; have c0 := hbk.cell 0; have c1 := hbk.cell 1; simp at c0 c1; clear ha2 hb2 hbk) | (go_at_call 81; (with_reducible refine (HLE.out _).mono ?_); rintro e w' ⟨rfl, rfl⟩))
        go_roundg g
        case measure => omega
        case rel => exact ⟨k + 1, by omega, by go_num, HKP2.out, by rw [HNEXT.out], (by rw [HSUC.out, ← HQ.out]; exact HA2.out), HB2.out⟩

theorem keepsBucket_any (v : Value) (x : Bu) (l : List Int) (w : World) (h : RI w w.heap.size v l) (hx : buOk x = true) (hl : trOk l = true) :
    Calls Try.prog 74 #[BuV x, v] w (RetV w (.bool (kpN x l l.length))) := by
  have H1 : Hid (∀ w', Below w.heap.size w w' → Calls Try.prog 87 #[BuV x, v] w' (RetLB 3 w' (lvRg x l).1 (lvRg x l).2)) := fun w' hb => levelsOf_any v x l w' ((h.below hb).more hb.size) hx hl
  rw [← lvRg_snd x l]
  generalize (lvRg x l).2 = bb at H1 ⊢
  generalize (lvRg x l).1 = L at H1
  clear h hx hl
  obtain ⟨r, d⟩ := x
  simp only [BuV] at H1 ⊢
  have hW : Below w.heap.size w (w.alloc (.cells #[.int .i64 r, .int .i64 d] 36)) := (Below.refl _ _).alloc (Nat.le_refl _) _
  go_enter Try.func74, Try.ntmps74
  go_wp2_with fail
  refine (H1.out _ hW).mono ?_; rintro e w1 ⟨u, rfl, _, hb⟩
  go_wp2_with fail
  go_ret
  exact ⟨rfl, hW.trans (hb.mono hW.size)⟩
theorem shKeeps_any (v : Value) (x : Bu) (l : List Int) (w : World) (h : RI w w.heap.size v l) (hx : buOk x = true) (hl : trOk l = true) :
    Calls Try.prog 90 #[BuV x, v] w (RetV w (.bool (kpN x l l.length))) := by
  have H1 : Hid (∀ w', Below w.heap.size w w' → Calls Try.prog 89 #[BuV x, v] w' (RetLB 3 w' (lvRg x l).1 (lvRg x l).2)) := fun w' hb => shLevels_any v x l w' ((h.below hb).more hb.size) hx hl
  rw [← lvRg_snd x l]
  generalize (lvRg x l).2 = bb at H1 ⊢
  generalize (lvRg x l).1 = L at H1
  clear h hx hl
  obtain ⟨r, d⟩ := x
  simp only [BuV] at H1 ⊢
  have hW : Below w.heap.size w (w.alloc (.cells #[.int .i64 r, .int .i64 d] 36)) := (Below.refl _ _).alloc (Nat.le_refl _) _
  go_enter Try.func90, Try.ntmps90
  go_wp2_with fail
  refine (H1.out _ hW).mono ?_; rintro e w1 ⟨u, rfl, _, hb⟩
  go_wp2_with fail
  go_ret
  exact ⟨rfl, hW.trans (hb.mono hW.size)⟩
theorem implLevelsOf_any (v : Value) (x : Bu) (l : List Int) (w : World) (h : RI w w.heap.size v l) (hn : l.length ≤ 1048576) :
    Calls Try.prog 34 #[BuV x, v] w (RetLB 3 w (lvSays x l).1 (lvSays x l).2) := by
  have H1 : Hid (∀ w', Below w.heap.size w w' → Calls Try.prog 73 #[BuV x, v] w' (RetV w' (.bool (askOk x l)))) := fun w' hb => implAsk_any x v l w' ((h.below hb).more hb.size) hn
  cases hg : askOk x l
  · rw [show lvSays x l = ([], false) from by simp [lvSays, hg]]
    rw [hg] at H1
    clear h hg
    obtain ⟨r, d⟩ := x
    simp only [BuV] at H1 ⊢
    have hW : Below w.heap.size w (w.alloc (.cells #[.int .i64 r, .int .i64 d] 36)) := (Below.refl _ _).alloc (Nat.le_refl _) _
    go_enter Try.func34, Try.ntmps34
    go_wp2_with fail
    refine (H1.out _ hW).mono ?_; rintro e w1 ⟨rfl, hb⟩
    have hT := hW.trans (hb.mono hW.size)
    go_wp2_with fail
    go_ret2
    exact ⟨_, rfl, .inl ⟨rfl, none, 0, rfl, by simp, fun _ => rfl⟩, hT⟩
  have hq := askOk_in hg
  have H2 : Hid (∀ w', Below w.heap.size w w' → Calls Try.prog 87 #[BuV x, v] w' (RetLB 3 w' (lvRg x l).1 (lvRg x l).2)) := fun w' hb => levelsOf_any v x l w' ((h.below hb).more hb.size) hq.1 hq.2
  rw [show lvSays x l = lvRg x l from by simp [lvSays, hg]]
  rw [hg] at H1
  clear hg hq h
  generalize (lvRg x l).2 = bb at H2 ⊢
  generalize (lvRg x l).1 = L at H2 ⊢
  obtain ⟨r, d⟩ := x
  simp only [BuV] at H1 H2 ⊢
  have hW : Below w.heap.size w (w.alloc (.cells #[.int .i64 r, .int .i64 d] 36)) := (Below.refl _ _).alloc (Nat.le_refl _) _
  have hbk := BK.made w 36 #[.int .i64 r, .int .i64 d]
  go_enter Try.func34, Try.ntmps34
  go_wp2_with fail
  refine (H1.out _ hW).mono ?_; rintro e w1 ⟨rfl, hb⟩
  have hT := hW.trans (hb.mono hW.size)
  have hbk1 := hbk.step hb
  have c0 := hbk1.cell 0
  have c1 := hbk1.cell 1
  simp at c0 c1
  have HT := Lib.hid hT
  clear hbk hbk1 hb hT
  go_wp2_with fail
  refine (H2.out _ HT.out).mono ?_; rintro e w2 ⟨u, rfl, ho, hb2⟩
  have hT := HT.out
  go_wp2_with fail
  go_ret2
  exact ⟨_, rfl, ho.wide hT.size (Nat.le_refl _), hT.trans (hb2.mono hT.size)⟩
theorem implKeepsBucket_any (v : Value) (x : Bu) (l : List Int) (w : World) (h : RI w w.heap.size v l) (hn : l.length ≤ 1048576) :
    Calls Try.prog 19 #[BuV x, v] w (RetV w (.tuple #[.bool (kpSays x l).1, .bool (kpSays x l).2])) := by
  have H1 : Hid (∀ w', Below w.heap.size w w' → Calls Try.prog 73 #[BuV x, v] w' (RetV w' (.bool (askOk x l)))) := fun w' hb => implAsk_any x v l w' ((h.below hb).more hb.size) hn
  cases hg : askOk x l
  · rw [show kpSays x l = (false, false) from by simp [kpSays, hg]]
    rw [hg] at H1
    clear h hg
    obtain ⟨r, d⟩ := x
    simp only [BuV] at H1 ⊢
    have hW : Below w.heap.size w (w.alloc (.cells #[.int .i64 r, .int .i64 d] 36)) := (Below.refl _ _).alloc (Nat.le_refl _) _
    go_enter Try.func19, Try.ntmps19
    go_wp2_with fail
    refine (H1.out _ hW).mono ?_; rintro e w1 ⟨rfl, hb⟩
    have hT := hW.trans (hb.mono hW.size)
    go_wp2_with fail
    go_ret2
    exact ⟨rfl, hT⟩
  have hq := askOk_in hg
  have H2 : Hid (∀ w', Below w.heap.size w w' → Calls Try.prog 74 #[BuV x, v] w' (RetV w' (.bool (kpN x l l.length)))) := fun w' hb => keepsBucket_any v x l w' ((h.below hb).more hb.size) hq.1 hq.2
  rw [show kpSays x l = (kpN x l l.length, true) from by simp [kpSays, hg]]
  rw [hg] at H1
  clear hg hq h
  simp only
  generalize kpN x l l.length = bb at H2 ⊢
  obtain ⟨r, d⟩ := x
  simp only [BuV] at H1 H2 ⊢
  have hW : Below w.heap.size w (w.alloc (.cells #[.int .i64 r, .int .i64 d] 36)) := (Below.refl _ _).alloc (Nat.le_refl _) _
  have hbk := BK.made w 36 #[.int .i64 r, .int .i64 d]
  go_enter Try.func19, Try.ntmps19
  go_wp2_with fail
  refine (H1.out _ hW).mono ?_; rintro e w1 ⟨rfl, hb⟩
  have hT := hW.trans (hb.mono hW.size)
  have hbk1 := hbk.step hb
  have c0 := hbk1.cell 0
  have c1 := hbk1.cell 1
  simp at c0 c1
  have HT := Lib.hid hT
  clear hbk hbk1 hb hT
  go_wp2_with fail
  refine (H2.out _ HT.out).mono ?_; rintro e w2 ⟨rfl, hb2⟩
  have hT := HT.out
  go_wp2_with fail
  go_ret2
  exact ⟨rfl, hT.trans (hb2.mono hT.size)⟩
theorem specLevelsOf_any (v : Value) (x : Bu) (l : List Int) (w : World) (h : RI w w.heap.size v l) (hn : l.length ≤ 1048576) :
    Calls Try.prog 35 #[BuV x, v] w (RetLB 3 w (lvSays x l).1 (lvSays x l).2) := by
  have H1 : Hid (∀ w', Below w.heap.size w w' → Calls Try.prog 88 #[BuV x, v] w' (RetV w' (.bool (askOk x l)))) := fun w' hb => shAsk_any x v l w' ((h.below hb).more hb.size) hn
  cases hg : askOk x l
  · rw [show lvSays x l = ([], false) from by simp [lvSays, hg]]
    rw [hg] at H1
    clear h hg
    obtain ⟨r, d⟩ := x
    simp only [BuV] at H1 ⊢
    have hW : Below w.heap.size w (w.alloc (.cells #[.int .i64 r, .int .i64 d] 36)) := (Below.refl _ _).alloc (Nat.le_refl _) _
    go_enter Try.func35, Try.ntmps35
    go_wp2_with fail
    refine (H1.out _ hW).mono ?_; rintro e w1 ⟨rfl, hb⟩
    have hT := hW.trans (hb.mono hW.size)
    go_wp2_with fail
    go_ret2
    exact ⟨_, rfl, .inl ⟨rfl, none, 0, rfl, by simp, fun _ => rfl⟩, hT⟩
  have hq := askOk_in hg
  have H2 : Hid (∀ w', Below w.heap.size w w' → Calls Try.prog 89 #[BuV x, v] w' (RetLB 3 w' (lvRg x l).1 (lvRg x l).2)) := fun w' hb => shLevels_any v x l w' ((h.below hb).more hb.size) hq.1 hq.2
  rw [show lvSays x l = lvRg x l from by simp [lvSays, hg]]
  rw [hg] at H1
  clear hg hq h
  generalize (lvRg x l).2 = bb at H2 ⊢
  generalize (lvRg x l).1 = L at H2 ⊢
  obtain ⟨r, d⟩ := x
  simp only [BuV] at H1 H2 ⊢
  have hW : Below w.heap.size w (w.alloc (.cells #[.int .i64 r, .int .i64 d] 36)) := (Below.refl _ _).alloc (Nat.le_refl _) _
  have hbk := BK.made w 36 #[.int .i64 r, .int .i64 d]
  go_enter Try.func35, Try.ntmps35
  go_wp2_with fail
  refine (H1.out _ hW).mono ?_; rintro e w1 ⟨rfl, hb⟩
  have hT := hW.trans (hb.mono hW.size)
  have hbk1 := hbk.step hb
  have c0 := hbk1.cell 0
  have c1 := hbk1.cell 1
  simp at c0 c1
  have HT := Lib.hid hT
  clear hbk hbk1 hb hT
  go_wp2_with fail
  refine (H2.out _ HT.out).mono ?_; rintro e w2 ⟨u, rfl, ho, hb2⟩
  have hT := HT.out
  go_wp2_with fail
  go_ret2
  exact ⟨_, rfl, ho.wide hT.size (Nat.le_refl _), hT.trans (hb2.mono hT.size)⟩
theorem specKeepsBucket_any (v : Value) (x : Bu) (l : List Int) (w : World) (h : RI w w.heap.size v l) (hn : l.length ≤ 1048576) :
    Calls Try.prog 36 #[BuV x, v] w (RetV w (.tuple #[.bool (kpSays x l).1, .bool (kpSays x l).2])) := by
  have H1 : Hid (∀ w', Below w.heap.size w w' → Calls Try.prog 88 #[BuV x, v] w' (RetV w' (.bool (askOk x l)))) := fun w' hb => shAsk_any x v l w' ((h.below hb).more hb.size) hn
  cases hg : askOk x l
  · rw [show kpSays x l = (false, false) from by simp [kpSays, hg]]
    rw [hg] at H1
    clear h hg
    obtain ⟨r, d⟩ := x
    simp only [BuV] at H1 ⊢
    have hW : Below w.heap.size w (w.alloc (.cells #[.int .i64 r, .int .i64 d] 36)) := (Below.refl _ _).alloc (Nat.le_refl _) _
    go_enter Try.func36, Try.ntmps36
    go_wp2_with fail
    refine (H1.out _ hW).mono ?_; rintro e w1 ⟨rfl, hb⟩
    have hT := hW.trans (hb.mono hW.size)
    go_wp2_with fail
    go_ret2
    exact ⟨rfl, hT⟩
  have hq := askOk_in hg
  have H2 : Hid (∀ w', Below w.heap.size w w' → Calls Try.prog 90 #[BuV x, v] w' (RetV w' (.bool (kpN x l l.length)))) := fun w' hb => shKeeps_any v x l w' ((h.below hb).more hb.size) hq.1 hq.2
  rw [show kpSays x l = (kpN x l l.length, true) from by simp [kpSays, hg]]
  rw [hg] at H1
  clear hg hq h
  simp only
  generalize kpN x l l.length = bb at H2 ⊢
  obtain ⟨r, d⟩ := x
  simp only [BuV] at H1 H2 ⊢
  have hW : Below w.heap.size w (w.alloc (.cells #[.int .i64 r, .int .i64 d] 36)) := (Below.refl _ _).alloc (Nat.le_refl _) _
  have hbk := BK.made w 36 #[.int .i64 r, .int .i64 d]
  go_enter Try.func36, Try.ntmps36
  go_wp2_with fail
  refine (H1.out _ hW).mono ?_; rintro e w1 ⟨rfl, hb⟩
  have hT := hW.trans (hb.mono hW.size)
  have hbk1 := hbk.step hb
  have c0 := hbk1.cell 0
  have c1 := hbk1.cell 1
  simp at c0 c1
  have HT := Lib.hid hT
  clear hbk hbk1 hb hT
  go_wp2_with fail
  refine (H2.out _ HT.out).mono ?_; rintro e w2 ⟨rfl, hb2⟩
  have hT := HT.out
  go_wp2_with fail
  go_ret2
  exact ⟨rfl, hT.trans (hb2.mono hT.size)⟩
end Go.Proofs.Ytlanpfcjcafapaa
