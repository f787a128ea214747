/-
  OrderOfStarts: the contracts, both sides.
-/
import Derived.Test.YtdlmacoblmnajaaSchedI
import Derived.Test.YtdlmacoblmnajaaSchedS
import Derived.Test.YtdlmacoblmnajaaCat
import Derived.Test.YtdlmacoblmnajaaAcc
namespace Go.Proofs.Ytdlmacoblmnajaa
open Go.RowKit
set_option maxRecDepth 100000
set_option linter.unusedVariables false

theorem ordd_t {js : List Jb} {ss : List Int} (h : schd js ss = true) : givenB js ss = true ∧ schedB js ss = true := by simpa [schd] using h
/-- One is put in at k. -/
def insL (d : List Int) (k : Nat) (x : Int) : List Int := d.take k ++ [x] ++ d.drop k
theorem insL_len (d : List Int) (k : Nat) (x : Int) (hk : k ≤ d.length) : (insL d k x).length = d.length + 1 := by simp [insL]; omega
theorem insL_getD (d : List Int) (k : Nat) (x : Int) (p : Nat) (hk : k ≤ d.length) : (insL d k x).getD p 0 = if p < k then d.getD p 0 else if p = k then x else d.getD (p - 1) 0 := by
  unfold insL
  simp only [List.getD_eq_getElem?_getD, List.append_assoc]
  by_cases h1 : p < k
  · rw [if_pos h1, List.getElem?_append_left (by simp; omega), List.getElem?_take_of_lt h1]
  · rw [if_neg h1, List.getElem?_append_right (by simp; omega)]
    have e : (d.take k).length = k := by simp; omega
    rw [e]
    by_cases h2 : p = k
    · subst h2; simp
    · rw [if_neg h2]
      obtain ⟨q, hq⟩ : ∃ q, p - k = q + 1 := ⟨p - k - 1, by omega⟩
      rw [hq, List.singleton_append, List.getElem?_cons_succ, List.getElem?_drop]
      congr 2
      omega
theorem Order.ins {n : Nat} {d : List Int} (h : Order n d) (k : Nat) (hk : k ≤ n) : Order (n + 1) (insL d k n) := by
  have hl := h.len
  have g := fun p => insL_getD d k n p (by omega)
  refine ⟨by rw [insL_len _ _ _ (by omega)]; omega, fun p hp => ?_, fun i hi => ?_, fun p q hpq hq => ?_⟩
  · rw [g p]
    split
    · have := h.rng p (by omega); omega
    · split
      · omega
      · have := h.rng (p - 1) (by omega); omega
  · by_cases e : i = n
    · exact ⟨k, by omega, by rw [g k, if_neg (by omega), if_pos rfl, e]⟩
    · obtain ⟨p, hp, ep⟩ := h.all i (by omega)
      by_cases h1 : p < k
      · exact ⟨p, by omega, by rw [g p, if_pos h1]; exact ep⟩
      · exact ⟨p + 1, by omega, by rw [g (p + 1), if_neg (by omega), if_neg (by omega)]; exact ep⟩
  · rw [g p, g q]
    by_cases p1 : p < k
    · rw [if_pos p1]
      have a := h.rng p (by omega)
      split
      · exact h.inj p q hpq (by omega)
      · split
        · omega
        · exact h.inj p (q - 1) (by omega) (by omega)
    · rw [if_neg p1, if_neg (show ¬ q < k by omega), if_neg (show ¬ q = k by omega)]
      have b := h.rng (q - 1) (by omega)
      split
      · omega
      · exact h.inj (p - 1) (q - 1) (by omega) (by omega)
theorem Srt.ins {ss d : List Int} {n : Nat} (h : Srt ss d n) (hd : d.length = n) (k : Nat) (hk : k ≤ n) (hlo : ∀ p, p < k → sk ss (d.getD p 0) < sk ss n) (hhi : k < n → ¬ sk ss (d.getD k 0) < sk ss n) : Srt ss (insL d k n) (n + 1) := by
  have g := fun p => insL_getD d k n p (by omega)
  have hi2 : ∀ p, k ≤ p → p < n → sk ss n ≤ sk ss (d.getD p 0) := by
    intro p h1 h2
    have a := hhi (by omega)
    by_cases e : k = p
    · rw [← e]; omega
    · have := h k p (by omega) h2
      omega
  intro p q hpq hq
  rw [g p, g q]
  by_cases p1 : p < k
  · rw [if_pos p1]
    split
    · exact h p q hpq (by omega)
    · split
      · have := hlo p p1; omega
      · exact h p (q - 1) (by omega) (by omega)
  · rw [if_neg p1, if_neg (show ¬ q < k by omega), if_neg (show ¬ q = k by omega)]
    split
    · exact hi2 (q - 1) (by omega) (by omega)
    · exact h (p - 1) (q - 1) (by omega) (by omega)

set_option maxHeartbeats 1000000 in
theorem implOrderOfStarts_any (v u : Value) (js : List Jb) (ss : List Int) (w : World) (h : RJbS w w.heap.size v js) (h' : RI w w.heap.size u ss) (hn : js.length ≤ 1048576) (hn2 : ss.length ≤ 1048576) :
    Calls Try.prog 10 #[v, u] w (RetLB 3 w (orderStarts js ss).1 (orderStarts js ss).2) := by
  have HA := Lib.hid (implScheduled_any v u js ss w h h' hn hn2)
  cases hg : schd js ss
  · have HF : orderStarts js ss = ([], false) := by simp [orderStarts, hg]
    rw [HF]
    rw [hg] at HA
    clear hg HF
    go_enter Try.func10, Try.ntmps10
    go_wp2_with fail
    refine HA.out.mono ?_; rintro e w1 ⟨rfl, T⟩
    go_wp2_with fail
    go_ret2
    exact ⟨_, rfl, .inl ⟨rfl, none, 0, rfl, by simp, fun _ => rfl⟩, T⟩
  · have HF : orderStarts js ss = (ordOf ss, true) := by simp [orderStarts, hg]
    rw [HF]
    have hgs := ordd_t hg
    have hn3 := (givenB_in hgs.1).2.1
    have HO := Lib.hid (fun (w' : World) (hb : Below w.heap.size w w') => orderOf_any u ss w' ((h'.step hb (Nat.le_refl _)).more hb.size) hn3)
    have HI := Lib.hid (fun d a b => ord_is (d := d) hgs.1 hgs.2 a b)
    rw [hg] at HA
    clear hg HF hgs
    go_enter Try.func10, Try.ntmps10
    go_wp2_with fail
    refine HA.out.mono ?_; rintro e w1 ⟨rfl, T⟩
    go_wp2_with fail
    refine (HO.out _ T).mono ?_; rintro e w2 ⟨o, d, rfl, hod, hsd, hoi, T2⟩
    obtain rfl := HI.out d hod hsd
    have HT := Lib.hid (T.trans (T2.mono T.size))
    have HOI := Lib.hid (hoi.wide T.size (Nat.le_refl _))
    clear hod hsd hoi T T2
    go_wp2_with fail
    go_ret2
    exact ⟨_, rfl, HOI.out, HT.out⟩

theorem l1OwnA_any (v : Value) (l : List Int) (w : World) (h : RI w w.heap.size v l) (hn : l.length ≤ 1048576) :
    Calls Try.prog 32 #[v] w fun e w' => ∃ u, e = .returned u ∧ Acc 3 w' w.heap.size u l ∧ Below w.heap.size w w' := by
  have h0 := h
  have hsh := Lib.hid h.shape
  obtain ⟨A, c, rfl, hlc, hc⟩ := h
  clear hc
  obtain ⟨i0, hi, hz0, hz1, hz2⟩ := info_parts int_info
  have hb0 : Below w.heap.size w (w.alloc (.cells #[] 3)) := (Below.refl _ _).alloc (Nat.le_refl _) _
  have ha : Acc 3 (w.alloc (.cells #[] 3)) w.heap.size (.slice (some ⟨w.heap.size, 0, none⟩) 0 0) [] := World.ownsRow_made w #[] 0 (Nat.le_refl _) (by simp) rfl
  go_enter Try.func32, Try.ntmps32
  go_wp2_with (at_builtin; refine wpList_cat rfl (.tmp 3) (.tmp 4) 25 rfl 3 i0 Try.underlying25 hi hz0 hz1 hz2 w w.heap.size w.heap.size _ _ _ l rfl ha rfl (h0.below hb0) hsh.out (by simp; omega) hb0 hb0.size ?_; intro v2 w2 ha2 hb2)
  go_ret
  exact ⟨_, rfl, by simpa using ha2, hb2⟩
theorem tail_ri {w : World} {B : Nat} {A : Option Addr} {n c : Nat} {l : List Int} (h : RI w B (.slice A n c) l) (k : Nat) (hk : k ≤ l.length) : RI w B (.slice (if c = k then A else Option.map (fun x => x.add k) A) (l.length - k) (c - k)) (l.drop k) := by
  obtain ⟨A', c', hv, hlc, hc⟩ := h
  injection hv with h1 h2 h3
  subst h1; subst h2; subst h3
  refine ⟨_, c - k, by rw [List.length_drop], ⟨by rw [List.length_drop]; omega, by omega, fun hA => ?_⟩, fun h0 => ?_⟩
  · have h5 : A = none := by
      split at hA
      · exact hA
      · cases A with
        | none => rfl
        | some a => cases hA
    have := hlc.2.2 h5
    omega
  · rw [List.length_drop] at h0
    obtain ⟨b, off, hA, hb, hcell⟩ := hc (by omega)
    refine ⟨b, off + k, ?_, hb, fun j hj => ?_⟩
    · rw [if_neg (by omega), hA]
      simp [addr_add]
    · rw [List.length_drop] at hj
      rw [Nat.add_assoc, hcell (k + j) (by omega)]
      congr 2
      simp [List.getD]

theorem acc_lower {E : TypeId} {w : World} {lo lo' : Nat} {v : Value} {l : List Int} (h : Acc E w lo v l) (hl : lo' ≤ lo) : Acc E w lo' v l := by
  rcases h.2 with ⟨rfl, hn⟩ | ⟨g, c, cur, rfl, hg⟩
  · exact ⟨h.1, .inl ⟨rfl, hn⟩⟩
  · exact row_lower h hl
set_option maxHeartbeats 4000000 in
theorem specOrderOfStarts_any (v u : Value) (js : List Jb) (ss : List Int) (w : World) (h : RJbS w w.heap.size v js) (h' : RI w w.heap.size u ss) (hn : js.length ≤ 1048576) (hn2 : ss.length ≤ 1048576) :
    Calls Try.prog 11 #[v, u] w (RetLB 3 w (orderStarts js ss).1 (orderStarts js ss).2) := by
  have HA := Lib.hid (prGiven_any v u js ss w h h' hn hn2)
  cases hg1 : givenB js ss
  · have HF : orderStarts js ss = ([], false) := by simp [orderStarts, schd, hg1]
    rw [HF]
    rw [hg1] at HA
    clear hg1 HF
    go_enter Try.func11, Try.ntmps11
    go_wp2_with fail
    refine HA.out.mono ?_; rintro e w1 ⟨rfl, T⟩
    go_wp2_with fail
    go_ret2
    exact ⟨_, rfl, .inl ⟨rfl, none, 0, rfl, by simp, fun _ => rfl⟩, T⟩
  have HP := Lib.hid (fun (w' : World) (hb : Below w.heap.size w w') => prSchedule_any v u js ss w' ((h.step hb (Nat.le_refl _)).more hb.size) ((h'.step hb (Nat.le_refl _)).more hb.size) hg1)
  rw [hg1] at HA
  cases hg2 : schedB js ss
  · have HF : orderStarts js ss = ([], false) := by simp [orderStarts, schd, hg2]
    rw [HF]
    rw [hg2] at HP
    clear hg1 hg2 HF
    go_enter Try.func11, Try.ntmps11
    go_wp2_with fail
    refine HA.out.mono ?_; rintro e w1 ⟨rfl, T1⟩
    go_wp2_with fail
    refine (HP.out _ T1).mono ?_; rintro e w2 ⟨rfl, T2⟩
    have T := T1.trans (T2.mono T1.size)
    go_wp2_with fail
    go_ret2
    exact ⟨_, rfl, .inl ⟨rfl, none, 0, rfl, by simp, fun _ => rfl⟩, T⟩
  have hg : schd js ss = true := by simp [schd, hg1, hg2]
  have hgs := ordd_t hg
  rw [hg2] at HP
  clear hg1 hg2
  have HF : orderStarts js ss = (ordOf ss, true) := by simp [orderStarts, hg]
  rw [HF]
  obtain ⟨hjl, hn3, hsb, _⟩ := givenB_in hgs.1
  have HI := Lib.hid (fun d a b => ord_is (d := d) hgs.1 hgs.2 a b)
  obtain ⟨i0, hi, hz0, hz1, hz2⟩ := info_parts int_info
  obtain ⟨A, c, rfl, _⟩ := h
  obtain ⟨A', c', rfl, hlc', hc'⟩ := h'
  obtain ⟨n, hN⟩ : ∃ n, ss.length = n := ⟨_, rfl⟩
  rw [hjl] at HA HP ⊢
  rw [hN] at hc' HA HP hlc' hn3 hsb HI ⊢
  have HN := Lib.hid hN
  have hn' : (n : Int) ≤ 20 := by omega
  have HSB := Lib.hid hsb
  have HC' := Lib.hid hc'
  clear HF hg hgs hjl hsb hc' hN hn2 hn
  go_enter Try.func11, Try.ntmps11
  go_wp2_with fail
  refine HA.out.mono ?_; rintro e w1 ⟨rfl, T1⟩
  go_wp2_with fail
  refine (HP.out _ T1).mono ?_; rintro e w2 ⟨rfl, T2⟩
  have T := T1.trans (T2.mono T1.size)
  have hT := T.size
  have HT := Lib.hid T
  clear T T1 T2
  go_wp2_with fail
  go_loopw [6, 22] (fun o i wr => ∃ (k : Nat) (d : List Int), k ≤ n ∧ i = .int .i64 k ∧ Order k d ∧ Srt ss d k ∧ Acc 3 wr w2.heap.size o d ∧ Below w2.heap.size w2 wr) (fun _ i _ => n - (intOf i).toNat)
  case atStart => exact ⟨0, [], Nat.zero_le _, rfl, order_idx 0, fun p q h1 h2 => absurd h2 (by omega), Acc.nil _ _ _, Below.refl _ _⟩
  case round =>
    obtain ⟨i, d, hin, rfl, hod, hsd, hacc, hbw⟩ := hrel
    have hsw := hbw.size
    have hdl := hod.len
    by_cases hlt : i < n
    · have hlt' : (i : Int) < (n : Int) := by omega
      obtain ⟨b2, off2, hA2, hb2, hcell2⟩ := HC'.out (by omega)
      subst hA2
      have HK2 := Lib.hid hcell2
      obtain ⟨Ao, co, hvo⟩ := acc_shape hacc
      rw [hdl] at hvo
      subst hvo
      have HOD := Lib.hid hod
      have HSD := Lib.hid hsd
      have HACC := Lib.hid hacc
      have HDL := Lib.hid hdl
      have HBW := Lib.hid hbw
      clear hcell2 hod hsd hacc hdl hbw
      go_wp2_with fail
      go_loopw [8] (fun x wr2 => ∃ k : Nat, k ≤ i ∧ x = .int .i64 k ∧ (∀ p, p < k → sk ss (d.getD p 0) < sk ss i) ∧ Below wr.heap.size wr wr2) (fun x _ => i - (intOf x).toNat)
      case atStart => exact ⟨0, Nat.zero_le _, rfl, fun p hp => absurd hp (by omega), Below.refl _ _⟩
      case round =>
        obtain ⟨k, hk, rfl, hlo, hb9⟩ := hrel
        have HLO := Lib.hid hlo
        have hacc2 := HACC.out.step hb9
        have hb8 := HBW.out.trans (hb9.mono hsw)
        have HTV := Lib.hid (HT.out.trans (hb8.mono hT))
        have hs8 := hb8.size
        have HB9 := Lib.hid hb9
        have HB8 := Lib.hid hb8
        have HAC2 := Lib.hid hacc2
        clear hlo hb9 hb8
        have g0 := (HTV.out.cell (p := ⟨b2, off2 + i, none⟩) hb2).trans (HK2.out i hlt)
        have s1 := HSB.out i hlt
        by_cases hki : k < i
        · have hki' : (k : Int) < (i : Int) := by omega
          have r1 := HOD.out.rng k hki
          obtain ⟨X, hX⟩ : ∃ X : Nat, d.getD k 0 = X := ⟨(d.getD k 0).toNat, by omega⟩
          have hXi : X < n := by omega
          have hXi' : (X : Int) < (n : Int) := by omega
          obtain ⟨A3, c3, hv3, hlc3, hc3⟩ := hacc2.oi.ri
          rw [HDL.out] at hv3 hlc3 hc3
          injection hv3 with e1 _ e3
          obtain ⟨b3, off3, hA3, hb3, hcell3⟩ := hc3 (by omega)
          subst e3
          rw [hA3] at e1
          subst e1
          have g1 := hcell3 k hki
          rw [hX] at g1
          have g2 := (HTV.out.cell (p := ⟨b2, off2 + X, none⟩) hb2).trans (HK2.out X hXi)
          have s2 := HSB.out X hXi
          have HGO : Hid (ss.getD X 0 < ss.getD i 0 → ∀ p, p < k + 1 → sk ss (d.getD p 0) < sk ss i) := fun h9 p hp => by
            by_cases e : p = k
            · rw [e, hX, sk_nat, sk_nat]; exact h9
            · exact HLO.out p (by omega)
          have HST : Hid (¬ ss.getD X 0 < ss.getD i 0 → Srt ss (insL d k i) (i + 1)) := fun h9 => HSD.out.ins HDL.out k (by omega) HLO.out (fun _ => by rw [hX, sk_nat, sk_nat]; exact h9)
          clear hcell3 hc3 hA3 hX hacc2
          generalize ss.getD X 0 = sx at g2 s2 HGO HST
          generalize ss.getD i 0 = si at g0 s1 HGO HST
          by_cases hss : sx < si
          · have HF := Lib.hid (HGO.out hss)
            go_wp2_with fail
            go_quiet (fail)
            go_wp2_with fail
            go_roundw
            case rel => exact ⟨k + 1, by omega, by go_num, HF.out, below_drewN HB9.out _⟩
            case measure => simp [intOf]; omega
          · have HF := Lib.hid (HST.out hss)
            go_wp2_with fail
            go_quiet (fail)
            go_wp2_with fail
            have T9 := below_drewN HB8.out nq
            have R9 : RI (wr.drewN nq) (wr.drewN nq).heap.size (.slice (some ⟨b3, off3, none⟩) i co) d := HAC2.out.oi.ri
            generalize wr.drewN nq = wq at T9 R9 ⊢
            have HR1 := Lib.hid (R9.front k (by rw [HDL.out]; omega))
            have hRt := tail_ri R9 k (by rw [HDL.out]; omega)
            rw [HDL.out] at hRt
            simp only [Option.map_some, addr_add] at hRt
            rw [if_neg (show ¬ co = k by omega)] at hRt
            have HR2 := Lib.hid hRt
            have hl1 : (d.take k).length ≤ 20 := by rw [List.length_take]; omega
            have hl2 : (d.drop k).length ≤ 20 := by rw [List.length_drop, HDL.out]; omega
            have HS1 := Lib.hid HR1.out.shape
            have HS2 := Lib.hid HR2.out.shape
            have HL1 := Lib.hid (l1OwnA_any _ (d.take k) wq HR1.out (by omega))
            have HP : Hid (insL d k i = d.take k ++ [(i : Int)] ++ d.drop k) := rfl
            have hs9 := T9.size
            have HT9 := Lib.hid T9
            clear hRt R9 T9
            generalize d.take k = D1 at HP HR1 HL1 HS1 hl1
            generalize d.drop k = D2 at HP HR2 HS2 hl2
            go_wp2_with fail
            refine HL1.out.mono ?_; rintro e w5 ⟨u5, rfl, ha5, hb5⟩
            obtain ⟨A5, c5, rfl⟩ := acc_shape ha5
            have hs5 := hb5.size
            go_wp2_with (first
              | (at_builtin; refine wpList_push rfl (.tmp 48) (.tmp 50) 25 rfl 3 i0 Try.underlying25 hi hz0 hz1 hz2 w5 wq wq.heap.size _ D1 i rfl rfl ha5 rfl (by omega) hs5 hb5 ?_; intro v6 w6 ha6 hb6; have hs6 := hb6.size; have hr2 := HR2.out.below hb6; have hl3 : (D1 ++ [(i : Int)]).length + D2.length < 1000000000 := by simp; omega)
              | (at_builtin; refine wpList_cat rfl (.tmp 52) (.tmp 55) 25 rfl 3 i0 Try.underlying25 hi hz0 hz1 hz2 wq wq.heap.size wq.heap.size _ _ (D1 ++ [(i : Int)]) D2 rfl ha6 rfl hr2 HS2.out hl3 hb6 hs6 ?_; intro v7 w7 ha7 hb7))
            rw [← HP.out] at ha7
            go_roundw
            case rel => first | exact ⟨i + 1, _, by omega, by go_num, HOD.out.ins k (by omega), HF.out, acc_lower ha7 hs9, HT9.out.trans (hb7.mono hs9)⟩ | exact ⟨i + 1, _, by omega, by omega, HOD.out.ins k (by omega), HF.out, acc_lower ha7 hs9, HT9.out.trans (hb7.mono hs9)⟩
            case measure => simp [intOf]; omega
        · obtain rfl : k = i := by omega
          have HF := Lib.hid (HSD.out.ins HDL.out k (Nat.le_refl _) HLO.out (fun h9 => absurd h9 (by omega)))
          have hcl : k ≤ co := by have h9 := hacc2.oi.ri; obtain ⟨_, _, hv9, hl9, _⟩ := h9; rw [HDL.out] at hv9 hl9; injection hv9 with _ _ e9; omega
          clear hacc2
          go_wp2_with fail
          go_quiet (fail)
          go_wp2_with fail
          have T9 := below_drewN HB8.out nq
          have R9 : RI (wr.drewN nq) (wr.drewN nq).heap.size (.slice Ao k co) d := HAC2.out.oi.ri
          generalize wr.drewN nq = wq at T9 R9 ⊢
          have HR1 := Lib.hid (R9.front k (by rw [HDL.out]; omega))
          have hRt := tail_ri R9 k (by rw [HDL.out]; omega)
          rw [HDL.out] at hRt
          obtain ⟨V, hV⟩ : ∃ V : Option Addr, (if co = k then Ao else Option.map (fun x => x.add k) Ao) = V := ⟨_, rfl⟩
          rw [hV, Nat.sub_self] at hRt
          have HR2 := Lib.hid hRt
          have hl1 : (d.take k).length ≤ 20 := by rw [List.length_take]; omega
          have hl2 : (d.drop k).length ≤ 20 := by rw [List.length_drop, HDL.out]; omega
          have HS1 := Lib.hid HR1.out.shape
          have HS2 := Lib.hid HR2.out.shape
          have HL1 := Lib.hid (l1OwnA_any _ (d.take k) wq HR1.out (by omega))
          have HP : Hid (insL d k k = d.take k ++ [(k : Int)] ++ d.drop k) := rfl
          have hs9 := T9.size
          have HT9 := Lib.hid T9
          clear hRt R9 T9
          generalize d.take k = D1 at HP HR1 HL1 HS1 hl1
          generalize d.drop k = D2 at HP HR2 HS2 hl2
          go_wp2_with fail
          refine HL1.out.mono ?_; rintro e w5 ⟨u5, rfl, ha5, hb5⟩
          obtain ⟨A5, c5, rfl⟩ := acc_shape ha5
          have hs5 := hb5.size
          go_wp2_with (first
            | (at_builtin; refine wpList_push rfl (.tmp 48) (.tmp 50) 25 rfl 3 i0 Try.underlying25 hi hz0 hz1 hz2 w5 wq wq.heap.size _ D1 k rfl rfl ha5 rfl (by omega) hs5 hb5 ?_; intro v6 w6 ha6 hb6; have hs6 := hb6.size; have hr2 := HR2.out.below hb6; have hl3 : (D1 ++ [(k : Int)]).length + D2.length < 1000000000 := by simp; omega)
            | (at_builtin; refine wpList_cat rfl (.tmp 52) (.tmp 55) 25 rfl 3 i0 Try.underlying25 hi hz0 hz1 hz2 wq wq.heap.size wq.heap.size _ _ (D1 ++ [(k : Int)]) D2 rfl ha6 rfl hr2 HS2.out hl3 hb6 hs6 ?_; intro v7 w7 ha7 hb7))
          rw [← HP.out] at ha7
          go_roundw
          case rel => first | exact ⟨k + 1, _, by omega, by go_num, HOD.out.ins k (by omega), HF.out, acc_lower ha7 hs9, HT9.out.trans (hb7.mono hs9)⟩ | exact ⟨k + 1, _, by omega, by omega, HOD.out.ins k (by omega), HF.out, acc_lower ha7 hs9, HT9.out.trans (hb7.mono hs9)⟩
          case measure => simp [intOf]; omega
    · obtain rfl : i = n := by omega
      obtain rfl := HI.out d hod hsd
      have HOI := Lib.hid hacc.oi
      have HTW := Lib.hid (HT.out.trans (hbw.mono hT))
      clear hacc hbw hod hsd hdl
      go_wp2_with fail
      go_ret2
      exact ⟨_, rfl, HOI.out.wide hT (Nat.le_refl _), HTW.out⟩
end Go.Proofs.Ytdlmacoblmnajaa
