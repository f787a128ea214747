/-
  Chapter 8: the contracts of DelayOfShape, both sides.
-/
import Derived.Test.YtlanpfcjcafapaaShO
namespace Go.Proofs.Ytlanpfcjcafapaa
open Go.RowKit
set_option maxRecDepth 100000
set_option linter.unusedVariables false

theorem isNaN8_any (x : Int) (w : World) : Calls Try.prog 110 #[.int .i64 x] w fun e w' => e = .returned (.bool false) ∧ w = w' := by
  have hb : (x != x) = false := by simp
  go_enter Try.func110, Try.ntmps110
  go_wp2
  go_ret
  exact ⟨rfl, rfl⟩
theorem isNaN82_any (x : Int) (w : World) : Calls Try.prog 109 #[.int .i64 x] w fun e w' => e = .returned (.bool false) ∧ w = w' := by
  have hb : (x != x) = false := by simp
  go_enter Try.func109, Try.ntmps109
  go_wp2
  go_ret
  exact ⟨rfl, rfl⟩
theorem less8_any (x y : Int) (w : World) : Calls Try.prog 108 #[.int .i64 x, .int .i64 y] w fun e w' => e = .returned (.bool (decide (x < y))) ∧ w = w' := by
  go_enter Try.func108, Try.ntmps108
  go_wp2_with fail
  refine (isNaN8_any _ _).mono ?_; rintro e w' ⟨rfl, rfl⟩
  go_wp2_with fail
  go_ret
  exact ⟨rfl, rfl⟩
def RetAt8 (w : World) (l : List Int) (t : Int) (e : Ending) (w' : World) : Prop := ∃ (i : Nat) (b : Bool), e = .returned (.tuple #[.int .i64 (i : Int), .bool b]) ∧ w = w' ∧ i ≤ l.length ∧ (∀ m, m < i → l.getD m 0 < t) ∧ (i < l.length → t ≤ l.getD i 0)
theorem search8_any (v : Value) (l : List Int) (t : Int) (w : World) (h : RI w w.heap.size v l) (hn : l.length ≤ 1000) (hr : NF l) :
    Calls Try.prog 104 #[v, .int .i64 t] w (RetAt8 w l t) := by
  obtain ⟨A, c, rfl, hlc, hc⟩ := h
  have hn' : (l.length : Int) ≤ 1000 := by omega
  have HR := Lib.hid hr
  clear hr
  go_enter Try.func104, Try.ntmps104
  go_wp2_with fail
  go_loop [7, 8] (fun a b => ∃ i j : Nat, a = .int .i64 i ∧ b = .int .i64 j ∧ i ≤ j ∧ j ≤ l.length ∧ (∀ m, m < i → l.getD m 0 < t) ∧ (∀ m, j ≤ m → m < l.length → t ≤ l.getD m 0)) (fun a b => (intOf b).toNat - (intOf a).toNat)
  case atStart => exact ⟨0, l.length, rfl, rfl, Nat.zero_le _, Nat.le_refl _, fun m h => by omega, fun m h1 h2 => by omega⟩
  case round =>
    obtain ⟨i, j, rfl, rfl, hij, hj, hlo, hhi⟩ := hrel
    have HLO := Lib.hid hlo
    have HHI := Lib.hid hhi
    clear hlo hhi
    by_cases hlt : i < j
    · obtain ⟨bb, off, rfl, hbB, hcell⟩ := hc (by omega)
      have hcx : w.cell? ⟨bb, off + (i + j) / 2, none⟩ = some (.int .i64 (l.getD ((i + j) / 2) 0)) := hcell _ (by omega)
      have HC := Lib.hid hcell
      clear hcell hc
      have HX : Hid (∀ x, x = l.getD ((i + j) / 2) 0 → x < t → ∀ m, m < (i + j) / 2 + 1 → l.getD m 0 < t) := by
        show ∀ x, _
        rintro x rfl hx m hm
        by_cases e : m < i
        · exact HLO.out m e
        · by_cases e2 : m = (i + j) / 2
          · rw [e2]; exact hx
          · have h1 := HR.out m ((i + j) / 2) (by omega) (by omega)
            omega
      have HY : Hid (∀ x, x = l.getD ((i + j) / 2) 0 → ¬ x < t → ∀ m, (i + j) / 2 ≤ m → m < l.length → t ≤ l.getD m 0) := by
        show ∀ x, _
        rintro x rfl hx m hm hml
        by_cases e2 : m = (i + j) / 2
        · rw [e2]; omega
        · have h1 := HR.out ((i + j) / 2) m (by omega) (by omega)
          omega
      obtain ⟨x, hx⟩ : ∃ x, x = l.getD ((i + j) / 2) 0 := ⟨_, rfl⟩
      rw [← hx] at hcx
      have HXX := Lib.hid hx
      clear hx
      go_wp2_with fail
      refine (less8_any _ _ _).mono ?_; rintro e w' ⟨rfl, rfl⟩
      by_cases hxt : x < t
      · have HA := Lib.hid (HX.out x HXX.out (by omega))
        rw [decide_eq_true hxt]
        go_wp2_with fail
        go_round
        case rel => exact ⟨(i + j) / 2 + 1, j, by go_num, rfl, by omega, hj, HA.out, HHI.out⟩
        case measure => simp [intOf]; omega
      · have HA := Lib.hid (HY.out x HXX.out (by omega))
        rw [decide_eq_false hxt]
        go_wp2_with fail
        go_round
        case rel => exact ⟨i, (i + j) / 2, rfl, by go_num, by omega, by omega, HLO.out, HA.out⟩
        case measure => simp [intOf]; omega
    · obtain rfl : i = j := by omega
      have HCUT := Lib.hid (And.intro hj (And.intro HLO.out (fun (h9 : i < l.length) => HHI.out i (Nat.le_refl _) h9)))
      by_cases hil : i < l.length
      · obtain ⟨bb, off, rfl, hbB, hcell⟩ := hc (by omega)
        have hcx : w.cell? ⟨bb, off + i, none⟩ = some (.int .i64 (l.getD i 0)) := hcell _ hil
        have HC := Lib.hid hcell
        clear hcell hc
        obtain ⟨x, hx⟩ : ∃ x, x = l.getD i 0 := ⟨_, rfl⟩
        rw [← hx] at hcx
        clear hx
        by_cases hxt : x = t
        · have hb : (x == t) = true := by simp [hxt]
          clear hxt
          go_wp2_with fail
          go_ret2
          exact ⟨i, _, rfl, rfl, HCUT.out⟩
        · have hb : (x == t) = false := by simp [hxt]
          clear hxt
          go_wp2_with fail
          refine (isNaN82_any _ _).mono ?_; rintro e w' ⟨rfl, rfl⟩
          go_wp2_with fail
          go_ret2
          exact ⟨i, _, rfl, rfl, HCUT.out⟩
      · go_wp2_with fail
        go_ret2
        exact ⟨i, _, rfl, rfl, HCUT.out⟩
set_option maxHeartbeats 1000000 in
theorem runningSums_any (v : Value) (l : List Int) (w : World) (h : RI w w.heap.size v l) (hn : l.length ≤ 100) (hl : ∀ x ∈ l, 0 ≤ x ∧ x ≤ 1000) :
    Calls Try.prog 103 #[v] w (RetL 3 w (runT l l.length)) := by
  obtain ⟨A, c, rfl, hlc, hc⟩ := h
  obtain ⟨i0, hi, hz0, hz1, hz2⟩ := info_parts int_info
  have hn' : (l.length : Int) ≤ 100 := by omega
  have HC := Lib.hid hc
  have HS := Lib.hid (fun k hk => sumL_bound l 1000 hl k hk)
  have HL := Lib.hid hl
  clear hc hl
  go_enter Try.func103, Try.ntmps103
  go_wp2_with (at_make; refine wpList_make_full _ rfl _ _ 26 rfl w.heap.size 3 i0 _ 1 Try.underlying26 hi hz0 hz1 _ _ _ _ l.length rfl rfl rfl rfl (by rw [hz2]; omega) (by unfold maxLen; omega) (Nat.le_refl _) ?_; intro w2 hown hg)
  have hrc : RC w2 w.heap.size l.length (runP l 0) := by
    have h1 := RC.made hown
    rw [runP_zero]
    exact h1
  have hb2 : Below w.heap.size w w2 := (Below.refl _ _).grown hg (Nat.le_refl _) (by intro k hk; cases hk)
  have HRC := Lib.hid hrc
  have HB2 := Lib.hid hb2
  clear hown hg hrc hb2
  go_wp2_with fail
  go_loopg [12, 4] l.length (fun g s12 s4 wx => ∃ k : Nat, k + g = l.length ∧ s12 = .int .i64 (k : Int) ∧ s4 = .int .i64 (sumL (l.take k)) ∧ RC wx w.heap.size l.length (runP l k) ∧ Below w.heap.size w wx)
  case atStart => exact ⟨0, by omega, rfl, rfl, HRC.out, HB2.out⟩
  case round =>
    clear HRC HB2
    obtain ⟨k, hkg, rfl, rfl, hrc, hb⟩ := hrel
    have HRC := Lib.hid hrc
    have HB := Lib.hid hb
    clear hrc hb
    cases gk with
    | zero =>
      have hke : k = l.length := by omega
      have hz : ¬ ((l.length : Int) < (l.length : Int)) := by omega
      rw [hke] at HRC ⊢
      clear hke hkg
      go_wp2_with fail
      go_ret
      have h9 := HRC.out.oi (lo := w.heap.size) (hi := wr.heap.size) (Nat.le_refl _) (Nat.le_refl _)
      rw [runP_all, runT_length] at h9
      exact ⟨_, rfl, h9, HB.out⟩
    | succ g =>
      have hk : k < l.length := by omega
      have hk' : (k : Int) < (l.length : Int) := by omega
      obtain ⟨b, off, rfl, hbB, hcell⟩ := HC.out (by omega)
      have hcx := (HB.out.cell (p := ⟨b, off + k, none⟩) hbB).trans (hcell k hk)
      have hx := HL.out (l.getD k 0) (by simp [hk])
      have hs := HS.out k (by omega)
      have hkb : (1000 : Int) * (k : Int) ≤ 100000 := by omega
      have HT := Lib.hid (sumL_take l k hk)
      have HGP : Hid (goneP l k = sumL (l.take (k + 1))) := rfl
      have HSET := Lib.hid (runP_set l k hk)
      have HLN := Lib.hid (runP_length l k (by omega))
      have hcy : wr.cell? ⟨w.heap.size, k, none⟩ = some (.int .i64 ((runP l k).getD k 0)) := HRC.out.cell k (by rw [HLN.out]; exact hk)
      have hfz : wr.frozen? ⟨w.heap.size, k, none⟩ = false := HRC.out.free k
      generalize (runP l k).getD k 0 = u0 at hcy
      obtain ⟨x, hx9⟩ : ∃ x, x = l.getD k 0 := ⟨_, rfl⟩
      obtain ⟨S, hS⟩ : ∃ S, S = sumL (l.take k) := ⟨_, rfl⟩
      rw [← hx9] at hcx hx HT
      rw [← hS] at hs HT ⊢
      have hs2 : 0 ≤ S ∧ S ≤ 100000 := by omega
      have hbz : b ≠ w.heap.size := by omega
      clear hcell hx9 hS hs hkb
      go_wp2_with fail
      go_roundg g
      case measure => omega
      case rel =>
        have hs := HRC.out.set k (S + x)
        rw [← HT.out, ← HGP.out, HSET.out, HGP.out, HT.out] at hs
        have hw4 : Wr w.heap.size (w.heap.size + 1) wr (wr.setCell ⟨w.heap.size, k, none⟩ (.int .i64 (S + x))) := (Wr.refl w.heap.size (w.heap.size + 1) wr).setCell (p := ⟨w.heap.size, k, none⟩) (Nat.le_refl _) (Nat.lt_succ_self _) _
        exact ⟨k + 1, by omega, by go_num, by rw [HT.out], hs, HB.out.trans (hw4.below (Nat.le_refl _) HB.out.size)⟩
set_option maxHeartbeats 1000000 in
theorem greatestDelay_any (v u : Value) (l o : List Int) (w : World) (h : RI w w.heap.size v l) (h' : RI w w.heap.size u o) (hl : trOk l = true) (ho : ∀ y ∈ o, 0 ≤ y ∧ y ≤ 1000) (hn : o.length ≤ 100) :
    Calls Try.prog 68 #[v, u] w (RetV w (.int .i64 (dlN l o l.length))) := by
  have HRS := Lib.hid (runningSums_any u o w h' hn ho)
  have hlen := trOk_len hl
  have HS := Lib.hid (fun k hk => sumL_bound l 1000 (trOk_mem hl) k hk)
  have HAT := Lib.hid fun t => trOk_at hl t
  have HDI := Lib.hid fun s => dlN_in l o hn s
  have HNF := Lib.hid (runT_nf ho)
  have hn' : (l.length : Int) ≤ 40 := by omega
  have hn2 : (o.length : Int) ≤ 100 := by omega
  obtain ⟨A, c, rfl, hlc, hc⟩ := h
  obtain ⟨A', c', rfl, _, _⟩ := h'
  have HC := Lib.hid hc
  clear hc hl ho
  go_enter Try.func68, Try.ntmps68
  go_wp2_with fail
  refine HRS.out.mono ?_; rintro e w2 ⟨u2, rfl, ho2, hb2⟩
  have HB2 := Lib.hid hb2
  have HRI := Lib.hid ho2.ri
  obtain ⟨A2, c2, rfl, _, _⟩ := ho2.ri
  rw [runT_length] at HRI
  have HSE : Hid (∀ (cc : Int) , Calls Try.prog 104 #[.slice A2 (runT o o.length).length c2, .int .i64 cc] w2 fun e w' => ∃ (b : Bool), e = .returned (.tuple #[.int .i64 ((cutO o cc : Nat) : Int), .bool b]) ∧ w2 = w') := by
    show ∀ _, _
    intro cc
    have h9 := search8_any (.slice A2 (runT o o.length).length c2) (runT o o.length) cc w2 ho2.ri (by rw [runT_length]; omega) HNF.out
    refine h9.mono ?_
    rintro e w' ⟨i, b, rfl, rfl, h1, h2, h3⟩
    rw [runT_length] at h1 h3
    have hcut : cutO o cc = i := cutO_is h1 (fun m hm => by have := h2 m hm; rw [runT_at _ _ _ (by omega)] at this; exact this) (fun h => by have := h3 h; rw [runT_at _ _ _ h] at this; exact this)
    exact ⟨b, by rw [hcut], rfl⟩
  clear ho2 hb2
  go_wp2_with fail
  go_loopg [16, 6, 5] l.length (fun g s16 s6 s5 wx => ∃ s : Nat, s + g = l.length ∧ s16 = .int .i64 (s : Int) ∧ s6 = .int .i64 (sumL (l.take s)) ∧ s5 = .int .i64 (dlN l o s) ∧ w2 = wx)
  case atStart => exact ⟨0, by omega, rfl, rfl, rfl, rfl⟩
  case round =>
    obtain ⟨s, hsg, rfl, rfl, rfl, rfl⟩ := hrel
    cases gk with
    | zero =>
      have hse : s = l.length := by omega
      have hz : ¬ ((l.length : Int) < (l.length : Int)) := by omega
      rw [hse]
      clear hse hsg
      go_wp2_with fail
      go_ret
      exact ⟨rfl, HB2.out⟩
    | succ g =>
      have hs : s < l.length := by omega
      have hs' : (s : Int) < (l.length : Int) := by omega
      obtain ⟨b, off, rfl, hbB, hcell⟩ := HC.out (by omega)
      have hcx := (HB2.out.cell (p := ⟨b, off + s, none⟩) hbB).trans (hcell s hs)
      have hat := HAT.out s
      have hsb := HS.out s (by omega)
      have hkb : (1000 : Int) * (s : Int) ≤ 40000 := by omega
      have HT := Lib.hid (sumL_take l s hs)
      have hdi := HDI.out s
      have HDL : Hid (dlN l o (s + 1) = if 0 < l.getD s 0 then max (dlN l o s) ((cutO o (sumL (l.take (s + 1))) : Nat) - (s : Int)) else dlN l o s) := rfl
      have hcl := cutO_le o (sumL (l.take (s + 1)))
      obtain ⟨a, ha⟩ : ∃ a, a = l.getD s 0 := ⟨_, rfl⟩
      rw [← ha] at hcx hat HT HDL
      obtain ⟨S, hS⟩ : ∃ S, S = sumL (l.take s) := ⟨_, rfl⟩
      rw [← hS] at hsb HT ⊢
      have HSC := Lib.hid (HSE.out (sumL (l.take (s + 1))))
      obtain ⟨k, hk⟩ : ∃ k, k = cutO o (sumL (l.take (s + 1))) := ⟨_, rfl⟩
      rw [← hk] at hcl HDL HSC
      rw [HT.out] at HSC
      obtain ⟨M, hM⟩ : ∃ M, M = dlN l o s := ⟨_, rfl⟩
      rw [← hM] at hdi HDL ⊢
      have hs2 : 0 ≤ S ∧ S ≤ 40000 := by omega
      have hk2 : (k : Int) ≤ 100 := by omega
      clear ha hS hk hM hcell hsb hkb hcl
      by_cases ha0 : 0 < a
      · rw [if_pos ha0] at HDL
        by_cases hmx : M < (k : Int) - (s : Int)
        · rw [show max M ((k : Int) - (s : Int)) = (k : Int) - (s : Int) by omega] at HDL
          go_wp2_with fail
          refine HSC.out.mono ?_; rintro e w' ⟨bb, rfl, rfl⟩
          go_wp2_with fail
          go_roundg g
          case measure => omega
          case rel => exact ⟨s + 1, by omega, by go_num, by rw [HT.out], by rw [HDL.out], rfl⟩
        · rw [show max M ((k : Int) - (s : Int)) = M by omega] at HDL
          have hmx2 : (k : Int) - (s : Int) ≤ M := by omega
          go_wp2_with fail
          refine HSC.out.mono ?_; rintro e w' ⟨bb, rfl, rfl⟩
          go_wp2_with fail
          go_roundg g
          case measure => omega
          case rel => exact ⟨s + 1, by omega, by go_num, by rw [HT.out], by rw [HDL.out], rfl⟩
      · rw [if_neg ha0] at HDL
        go_wp2_with fail
        go_roundg g
        case measure => omega
        case rel => exact ⟨s + 1, by omega, by go_num, by rw [HT.out], by rw [HDL.out], rfl⟩

set_option maxHeartbeats 1000000 in
theorem implDelayOfShape_any (v : Value) (x : Bu) (l : List Int) (w : World) (h : RI w w.heap.size v l) (hn : l.length ≤ 1048576) :
    Calls Try.prog 54 #[BuV x, v] w (RetV w (.tuple #[.int .i64 (delSays x l).1, .bool (delSays x l).2])) := by
  have H1 : Hid (∀ w', Below w.heap.size w w' → Calls Try.prog 50 #[BuV x, v] w' (RetLB 3 w' (shpSays x l).1 (shpSays x l).2)) := fun w' hb => implShapeOf_any v x l w' ((h.below hb).more hb.size) hn
  have hno : (shpSays x l).2 = false → delSays x l = (0, false) := by
    unfold shpSays delSays
    split
    · cases snRg x l <;> simp [outO, optD]
    · simp
  have hyes : (shpSays x l).2 = true → ∃ n, askOk x l = true ∧ snRg x l = some n ∧ (shpSays x l).1 = snT x l n ∧ delSays x l = (dlN l (snT x l n) l.length, true) := by
    unfold shpSays delSays
    split
    · next hg =>
      cases hr : snRg x l with
      | none => simp [outO]
      | some n => intro _; exact ⟨n, hg, rfl, rfl, rfl⟩
    · simp
  cases hb : (shpSays x l).2
  · rw [hno hb]
    rw [hb] at H1
    generalize (shpSays x l).1 = L at H1
    clear h hno hyes hb
    obtain ⟨r, d⟩ := x
    simp only [BuV] at H1 ⊢
    have hW : Below w.heap.size w (w.alloc (.cells #[.int .i64 r, .int .i64 d] 36)) := (Below.refl _ _).alloc (Nat.le_refl _) _
    go_enter Try.func54, Try.ntmps54
    go_wp2_with fail
    refine (H1.out _ hW).mono ?_; rintro e w1 ⟨u, rfl, _, hb1⟩
    have hT := hW.trans (hb1.mono hW.size)
    go_wp2_with fail
    go_ret2
    exact ⟨rfl, hT⟩
  obtain ⟨n, hg, hr, hL, hS⟩ := hyes hb
  have hq := askOk_in hg
  rw [hS]
  rw [hb, hL] at H1
  have hn100 := snRg_le hr
  have H2 : Hid (∀ W u, Below w.heap.size w W → RI W W.heap.size u (snT x l n) → Calls Try.prog 68 #[v, u] W (RetV W (.int .i64 (dlN l (snT x l n) l.length)))) := fun W u hb' hu => greatestDelay_any v u l (snT x l n) W ((h.below hb').more hb'.size) hu hq.2 (snT_mem hq.1 hq.2 n) (by rw [snT_length]; exact hn100)
  generalize dlN l (snT x l n) l.length = M at H2 ⊢
  generalize snT x l n = L at H1 H2
  clear h hno hyes hb hg hr hL hS hq
  obtain ⟨r, d⟩ := x
  simp only [BuV] at H1 ⊢
  have hW : Below w.heap.size w (w.alloc (.cells #[.int .i64 r, .int .i64 d] 36)) := (Below.refl _ _).alloc (Nat.le_refl _) _
  go_enter Try.func54, Try.ntmps54
  go_wp2_with fail
  refine (H1.out _ hW).mono ?_; rintro e w1 ⟨u, rfl, ho, hb1⟩
  have HT := Lib.hid (hW.trans (hb1.mono hW.size))
  have HC := Lib.hid (H2.out w1 u HT.out ho.ri)
  clear hb1 ho
  go_wp2_with fail
  refine HC.out.mono ?_; rintro e w2 ⟨rfl, hb2⟩
  have HT2 := Lib.hid (HT.out.trans (hb2.mono HT.out.size))
  clear hb2
  go_wp2_with fail
  go_ret2
  exact ⟨rfl, HT2.out⟩
end Go.Proofs.Ytlanpfcjcafapaa
