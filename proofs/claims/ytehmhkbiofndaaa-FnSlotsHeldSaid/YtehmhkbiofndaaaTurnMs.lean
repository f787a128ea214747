/-
  The contracts of TurnMessages, both sides.
-/
import Derived.Test.YtehmhkbiofndaaaSlC
import Derived.Test.YtehmhkbiofndaaaRow5
import Derived.Deep.RegionHeldLaw
namespace Go.Proofs.Ytehmhkbiofndaaa
open Go.RowKit
set_option maxRecDepth 100000
set_option linter.unusedVariables false

/-- 'append(out, T{..})', T of k ints, as a step of a region. -/
theorem step_pushK {P : Program} {w : World} {ops : Array Oper} {o : Oper} {a : Act} {K : Act → World → Prop} {Q : Exit → Act → World → Prop} {R : Prop} (hgd : o.guard = none) (s x : Operand) (t : TypeId)
    (ho : o.op = .call { callee := .builtin .append, args := #[s, x], argTypes := #[t, t] }) (E : TypeId) (i : TypeInfo) (ht : P.underlying t = some (.slice E)) (hi : P.info? E = some i) (z : Value) (k bytes : Nat)
    (hz0 : i.zero = some z) (hz1 : i.size = k) (hz2 : i.bytes = bytes) (hzs : z.cells.size = k) (hk : 0 < k) (hby : bytes ≤ 1000) (W w0 : World) (lo : Nat) (v : Value) (n : Nat) (l ys : List Int) (cs : Array Value)
    (hw : w = W.alloc (.cells cs E)) (hcs : cs.toList = ics ys) (hys : ys.length = k) (hs : a.eval s = v) (hacc : AccK k E W lo v n l) (hx : a.eval x = .slice (some ⟨W.heap.size, 0, none⟩) 1 1) (hn : n < 1000000000) (hlo : lo ≤ W.heap.size) (hb : Below lo w0 W)
    (h : ∀ v' w', AccK k E w' lo v' (n + 1) (l ++ ys) → Below lo w0 w' → (∀ p u, W.cell? p = some u → some p.block ≠ v.ownBlock → w'.cell? p = some u) → K (a.put o.dst v') w') : if Region.wanted o (yielded ops a.tmps) = true then Oper.wp P o a w K Q else R := by
  rw [if_pos (show Region.wanted o (yielded ops a.tmps) = true by simp [Region.wanted, hgd])]
  subst hw
  have hown : (W.alloc (.cells cs E)).ownsRow lo E k v n (ics l) := World.ownsRow.alloc hacc.2 _
  have hcl : lo ≤ (W.alloc (.cells cs E)).heap.size := by simp; omega
  refine wp_append_own _ s x t ho lo E i z k bytes ht hi hz0 hz1 hz2 hzs hk v n (ics l) hs hown ⟨W.heap.size, 0, none⟩ 1 1 (ics ys) hx (by simp [ics, hys]) ?_ ?_ (by unfold maxLen; omega) (Nat.le_trans (Nat.mul_le_mul (show n + 1 ≤ 1000000000 by omega) hby) (by decide)) hcl ?_
  · intro j u hj
    rw [← hcs] at hj
    rw [addr_add]
    rw [cell_of_row _ W.heap.size (0 + j) cs E (0, 0) (heap_alloc_new W _), Nat.zero_add]
    simpa using hj
  · exact ics_oneCell ys
  · intro v' w' h1 h2 _
    refine h v' w' ⟨?_, ?_⟩ ?_ (fun p u hp hne => h2.cell ((World.cell?_alloc_lt W _ p (World.block_lt_of_cell? W p hp)).trans hp) hne)
    · rw [List.length_append, hacc.1, hys]
      exact (Nat.succ_mul n k).symm
    · have e : ics (l ++ ys) = ics l ++ ics ys := by simp [ics]
      rw [e]
      exact h1
    · exact (hb.alloc hlo _).grown h2 hcl (fun k hk => ((World.ownsRow.lt hown) k hk).1)
theorem AccK.step {k : Nat} {E : TypeId} {w w' : World} {lo : Nat} {v : Value} {n : Nat} {l : List Int} (h : AccK k E w lo v n l) (hb : Below w.heap.size w w') : AccK k E w' lo v n l := by
  refine ⟨h.1, ?_⟩
  have h0 := h.2
  rcases h0.2 with ⟨hv, hr⟩ | ⟨g, c, cur, hv, _⟩
  · exact ⟨h0.1, .inl ⟨hv, hr⟩⟩
  · subst hv
    exact rowk_far h0 (Wr.of_below hb w.heap.size w.heap.size) (.inl (rowk_parts h0).2.1)
theorem flatMs_snoc (l : List Ms) (x : Ms) : flatMs (l ++ [x]) = flatMs l ++ [x.t, x.f, x.o] := by simp [flatMs]
theorem turnMs_at (k b : Int) (l : List Ms) (j : Nat) (hj : j < l.length) : (l.map (turnMs k b)).take (j + 1) = (l.map (turnMs k b)).take j ++ [turnMs k b l[j]!] := by
  rw [List.take_succ_eq_append_getElem (by simpa using hj)]
  simp [getElem!_pos l j hj]
/-- The copy so far of a list of messages. -/
def partMs (l : List Ms) (j : Nat) : List Value := partCopy (flatMs l) (j * 3)
theorem partMs_set (l : List Ms) (j : Nat) (hj : j < l.length) : (((partMs l j).set (j * 3) (.int .i64 l[j]!.t)).set (j * 3 + 1) (.int .i64 l[j]!.f)).set (j * 3 + 2) (.int .i64 l[j]!.o) = partMs l (j + 1) := partCopy_Ms l j hj

set_option maxHeartbeats 2000000 in
theorem specTurnMessages_any (v : Value) (x : Sr) (l : List Ms) (b : Int) (w : World) (h : RMsS w w.heap.size v l) (hn : l.length ≤ 1048576) (hb : (Lit.int .i64 b).wf = true) :
    Calls Try.prog 19 #[SrV x, v, .int .i64 b] w (RetMsSB w (turned x l b).1 (turned x l b).2) := by
  have HG := Lib.hid (fun w h => (slAll_any _ x l w h hn : Calls _ _ #[_, v] w _))
  have hr := h
  obtain ⟨A, c, rfl, hfl, hlc, hc⟩ := h
  clear hc hfl
  obtain ⟨_, _, _, hc⟩ := hr.parts
  cases hg : slOk x l
  · rw [turned_no (by rw [hg, Bool.false_and])]
    rw [hg] at HG
    obtain ⟨k, hh⟩ := x
    simp only [SrV] at HG ⊢
    have hW : Below w.heap.size w (w.alloc (.cells #[.int .i64 k, .bool hh] 25)) := (Below.refl _ _).alloc (Nat.le_refl _) _
    clear hg
    go_enter Try.func19, Try.ntmps19
    go_wp2_with fail
    refine (HG.out _ ((hr.step hW (Nat.le_refl _)).more hW.size)).mono ?_; rintro e w1 ⟨rfl, hb1⟩
    go_wp2_with fail
    go_ret2
    exact ⟨_, rfl, OK.nil _ _ _ _ _, hW.trans (hb1.mono hW.size)⟩
  have hin := isSr_in (slOk_in hg).1
  obtain ⟨hl20, hall, _⟩ := areMs_in (slOk_in hg).2
  cases hwb : wi b 0 (x.n - 1)
  · rw [turned_no (by rw [hwb, Bool.and_false])]
    rw [hg] at HG
    obtain ⟨k, hh⟩ := x
    simp only [SrV] at HG hin hwb ⊢
    have hW : Below w.heap.size w (w.alloc (.cells #[.int .i64 k, .bool hh] 25)) := (Below.refl _ _).alloc (Nat.le_refl _) _
    have hB := BK.made w 25 #[.int .i64 k, .bool hh]
    have e7 : IntKind.i64.wrap (k - 1) = k - 1 := IntWalk.i64_in _ (by omega)
    clear hg hall
    go_enter Try.func19, Try.ntmps19
    go_wp2_with fail
    refine (HG.out _ ((hr.step hW (Nat.le_refl _)).more hW.size)).mono ?_; rintro e w1 ⟨rfl, hb1⟩
    have c0 := (hB.step hb1).cell 0
    simp at c0
    go_wp2_with (go_at_call 28; refine (l1In_wi _ _ _ _).mono ?_; rintro e w' ⟨rfl, rfl⟩)
    go_ret2
    exact ⟨_, rfl, OK.nil _ _ _ _ _, hW.trans (hb1.mono hW.size)⟩
  rw [turned_yes (by rw [hg, hwb]; rfl)]
  rw [hg] at HG
  obtain ⟨k, hh⟩ := x
  simp only [SrV] at HG hin hwb hall ⊢
  have hb2 : 0 ≤ b ∧ b ≤ k - 1 := by simpa [wi] using hwb
  have hW : Below w.heap.size w (w.alloc (.cells #[.int .i64 k, .bool hh] 25)) := (Below.refl _ _).alloc (Nat.le_refl _) _
  have hB := BK.made w 25 #[.int .i64 k, .bool hh]
  have e7 : IntKind.i64.wrap (k - 1) = k - 1 := IntWalk.i64_in _ (by omega)
  have hl2 : (l.length : Int) ≤ 20 := by omega
  have HALL := Lib.hid hall
  have HC := Lib.hid hc
  clear hg hc hall
  obtain ⟨i0, hi, hz0, hz1, hz2⟩ := info_parts message_info
  go_enter Try.func19, Try.ntmps19
  go_wp2_with fail
  refine (HG.out _ ((hr.step hW (Nat.le_refl _)).more hW.size)).mono ?_; rintro e w1 ⟨rfl, hb1⟩
  have T1 := hW.trans (hb1.mono hW.size)
  have hB1 := hB.step hb1
  have c0 := hB1.cell 0
  have c1 := hB1.cell 1
  simp at c0 c1
  have hz3 : w.heap.size < w1.heap.size := hB1.1
  have HT1 := Lib.hid T1
  have HB1 := Lib.hid hB1
  clear hW hB hb1 T1 hB1
  go_wp2_with (go_at_call 28; refine (l1In_wi _ _ _ _).mono ?_; rintro e w' ⟨rfl, rfl⟩)
  go_loopw [8, 25] (fun u i wr => ∃ j : Nat, j ≤ l.length ∧ i = .int .i64 j ∧ AccK 3 35 wr w1.heap.size u j (flatMs ((l.map (turnMs k b)).take j)) ∧ Below w1.heap.size w1 wr)
    (fun _ i _ => l.length - (intOf i).toNat)
  case atStart => exact ⟨0, Nat.zero_le _, rfl, AccK.nil _ _ _ _, Below.refl _ _⟩
  case round =>
    obtain ⟨j, hj, rfl, hacc, hbw⟩ := hrel
    have hsw := hbw.size
    have hT := HT1.out.trans (hbw.mono (by omega))
    have HTW := Lib.hid hT
    have HBW := Lib.hid hbw
    by_cases hlt : j < l.length
    · obtain ⟨bb, off, rfl, hbB, hcell⟩ := HC.out (by omega)
      obtain ⟨hd0, hd1, hd2⟩ := hcell j hlt
      have hc0 := (hT.cell (p := ⟨bb, off + j * 3, none⟩) hbB).trans hd0
      have hc1 := (hT.cell (p := ⟨bb, off + j * 3 + 1, none⟩) hbB).trans hd1
      have hc2 := (hT.cell (p := ⟨bb, off + j * 3 + 2, none⟩) hbB).trans hd2
      clear hd0 hd1 hd2 hcell
      have hml : MsIn k l[j]! := by rw [getElem!_pos l j hlt]; exact HALL.out _ (List.getElem_mem _)
      have HST := Lib.hid (turnMs_at k b l j hlt)
      generalize l[j]! = y at hc0 hc1 hc2 hml HST
      obtain ⟨yt, yf, yo⟩ := y
      obtain ⟨m1, m2, m3, m4, m5, m6, m7⟩ := hml
      simp only [turnMs] at hc0 hc1 hc2 m1 m2 m3 m4 m5 m6 HST
      clear m7
      have hk0 : k ≠ 0 := by omega
      have ea : IntKind.i64.wrap (yf + b) = yf + b := IntWalk.i64_in _ (by omega)
      have eb : IntKind.i64.wrap (yo + b) = yo + b := IntWalk.i64_in _ (by omega)
      have hf0 : 0 ≤ (yf + b).tmod k := Int.tmod_nonneg _ (by omega)
      have hf1 : (yf + b).tmod k < k := Int.tmod_lt_of_pos _ (by omega)
      have ho0 : 0 ≤ (yo + b).tmod k := Int.tmod_nonneg _ (by omega)
      have ho1 : (yo + b).tmod k < k := Int.tmod_lt_of_pos _ (by omega)
      have ec : IntKind.i64.wrap ((yf + b).tmod k) = (yf + b).tmod k := IntWalk.i64_in _ (by omega)
      have ed : IntKind.i64.wrap ((yo + b).tmod k) = (yo + b).tmod k := IntWalk.i64_in _ (by omega)
      have HEF : Hid ((yf + b) % k = (yf + b).tmod k) := by show _ = _; rw [Int.tmod_eq_emod_of_nonneg (by omega)]
      have HEO : Hid ((yo + b) % k = (yo + b).tmod k) := by show _ = _; rw [Int.tmod_eq_emod_of_nonneg (by omega)]
      have m0 : (wr.alloc (.cells #[.int .i64 yt, .int .i64 yf, .int .i64 yo] 35)).cell? ⟨wr.heap.size, 0, none⟩ = some (.int .i64 yt) := by simp
      have n0 : (wr.alloc (.cells #[.int .i64 yt, .int .i64 yf, .int .i64 yo] 35)).cell? ⟨wr.heap.size, 1, none⟩ = some (.int .i64 yf) := by simp
      have p0 : (wr.alloc (.cells #[.int .i64 yt, .int .i64 yf, .int .i64 yo] 35)).cell? ⟨wr.heap.size, 2, none⟩ = some (.int .i64 yo) := by simp
      have hB2 := (HB1.out.step hbw).alloc (.cells #[.int .i64 yt, .int .i64 yf, .int .i64 yo] 35)
      have q0 := hB2.cell 0
      have q1 := hB2.cell 1
      simp at q0 q1
      have hacc1 := hacc.step ((Below.refl _ _).alloc (Nat.le_refl wr.heap.size) (.cells #[.int .i64 yt, .int .i64 yf, .int .i64 yo] 35))
      have hb3 := hbw.alloc hsw (.cells #[.int .i64 yt, .int .i64 yf, .int .i64 yo] 35)
      obtain ⟨w3, hw3⟩ : ∃ w3, w3 = wr.alloc (.cells #[.int .i64 yt, .int .i64 yf, .int .i64 yo] 35) := ⟨_, rfl⟩
      rw [← hw3] at m0 n0 p0 q0 q1 hacc1 hb3
      have HN1 : Hid (some wr.heap.size ≠ Value.ownBlock u8) := by
        intro h9
        have := (World.ownsRow.lt hacc.2) _ h9.symm
        omega
      have HN2 : Hid (some w.heap.size ≠ Value.ownBlock u8) := by
        intro h9
        have := (World.ownsRow.lt hacc.2) _ h9.symm
        omega
      have HA3 := Lib.hid hacc1
      have HB3 := Lib.hid hb3
      have HW3 := Lib.hid hw3
      have hs3 := hb3.size
      clear hw3 hB2 hacc hacc1 hb3 hbw hT
      go_upto_region 7 with fail
      rw [← HW3.out]
      clear HW3 hc0 hc1 hc2
      go_region_held_law (fun w' => w'.cell? ⟨wr.heap.size, 0, none⟩ = some (.int .i64 yt) ∧ w'.cell? ⟨wr.heap.size, 1, none⟩ = some (.int .i64 yf) ∧ w'.cell? ⟨wr.heap.size, 2, none⟩ = some (.int .i64 yo) ∧ w'.cell? ⟨w.heap.size, 0, none⟩ = some (.int .i64 k)) (with_reducible first | exact ⟨m0, n0, p0, q0⟩ | trivial | go_keep)
        (first | ((refine step_pushK rfl (.tmp 29) (.tmp 47) 26 rfl 35 i0 Try.underlying26 hi _ 3 24 hz0 hz1 hz2 rfl (by decide) (by decide) w3.drew w1 w1.heap.size _ j _ [yt, (yf + b).tmod k, (yo + b).tmod k] _ rfl rfl rfl rfl HA3.out rfl (by omega) hs3 HB3.out.drew ?_; intro v7 w7 hacc7 t7 h8; have m0 := h8 _ _ m0 HN1.out; have n0 := h8 _ _ n0 HN1.out; have p0 := h8 _ _ p0 HN1.out; have q0 := h8 _ _ q0 HN2.out)))
      · have HA7 : Hid (AccK 3 35 w7 w1.heap.size v7 (j + 1) (flatMs ((l.map (turnMs k b)).take (j + 1)))) := by
          show AccK _ _ _ _ _ _ _
          rw [HST.out, flatMs_snoc]
          exact hacc7
        have HB7 := Lib.hid t7
        clear hacc7 t7 h8 m0 n0 p0 q0
        go_wp2_with fail
        go_roundw
        case rel => exact ⟨j + 1, by omega, by go_num, HA7.out, HB7.out⟩
        case measure => simp [intOf]; omega
    · obtain rfl : j = l.length := by omega
      rw [show (l.map (turnMs k b)).take l.length = l.map (turnMs k b) from by rw [List.take_of_length_le (by simp)]] at hacc
      have HOI : Hid (OMsS wr w.heap.size wr.heap.size u8 (l.map (turnMs k b))) := by
        have := hacc.ok.wide (lo' := w.heap.size) (by omega) (Nat.le_refl _)
        show OMsS _ _ _ _ _
        unfold OMsS
        rw [List.length_map]
        exact this
      clear hacc hbw
      go_wp2_with fail
      go_ret2
      exact ⟨_, rfl, HOI.out, HTW.out⟩
set_option maxHeartbeats 2000000 in
theorem implTurnMessages_any (v : Value) (x : Sr) (l : List Ms) (b : Int) (w : World) (h : RMsS w w.heap.size v l) (hn : l.length ≤ 1048576) (hb : (Lit.int .i64 b).wf = true) :
    Calls Try.prog 18 #[SrV x, v, .int .i64 b] w (RetMsSB w (turned x l b).1 (turned x l b).2) := by
  have HG := Lib.hid (fun w h => (slRing_any _ x l w h hn : Calls _ _ #[_, v] w _))
  have hr := h
  obtain ⟨A, c, rfl, hfl, hlc, hc⟩ := h
  clear hc hfl
  obtain ⟨_, _, _, hc⟩ := hr.parts
  cases hg : slOk x l
  · rw [turned_no (by rw [hg, Bool.false_and])]
    rw [hg] at HG
    obtain ⟨k, hh⟩ := x
    simp only [SrV] at HG ⊢
    have hW : Below w.heap.size w (w.alloc (.cells #[.int .i64 k, .bool hh] 25)) := (Below.refl _ _).alloc (Nat.le_refl _) _
    clear hg
    go_enter Try.func18, Try.ntmps18
    go_wp2_with fail
    refine (HG.out _ ((hr.step hW (Nat.le_refl _)).more hW.size)).mono ?_; rintro e w1 ⟨rfl, hb1⟩
    go_wp2_with fail
    go_ret2
    exact ⟨_, rfl, OK.nil _ _ _ _ _, hW.trans (hb1.mono hW.size)⟩
  have hin := isSr_in (slOk_in hg).1
  obtain ⟨hl20, hall, _⟩ := areMs_in (slOk_in hg).2
  cases hwb : wi b 0 (x.n - 1)
  · rw [turned_no (by rw [hwb, Bool.and_false])]
    rw [hg] at HG
    obtain ⟨k, hh⟩ := x
    simp only [SrV] at HG hin hwb ⊢
    have hW : Below w.heap.size w (w.alloc (.cells #[.int .i64 k, .bool hh] 25)) := (Below.refl _ _).alloc (Nat.le_refl _) _
    have hB := BK.made w 25 #[.int .i64 k, .bool hh]
    have e7 : IntKind.i64.wrap (k - 1) = k - 1 := IntWalk.i64_in _ (by omega)
    clear hg hall
    go_enter Try.func18, Try.ntmps18
    go_wp2_with fail
    refine (HG.out _ ((hr.step hW (Nat.le_refl _)).more hW.size)).mono ?_; rintro e w1 ⟨rfl, hb1⟩
    have c0 := (hB.step hb1).cell 0
    simp at c0
    go_wp2_with (go_at_call 24; refine (isWithin_wi _ _ _ _).mono ?_; rintro e w' ⟨rfl, rfl⟩)
    go_ret2
    exact ⟨_, rfl, OK.nil _ _ _ _ _, hW.trans (hb1.mono hW.size)⟩
  rw [turned_yes (by rw [hg, hwb]; rfl)]
  rw [hg] at HG
  obtain ⟨k, hh⟩ := x
  simp only [SrV] at HG hin hwb hall ⊢
  have hb2 : 0 ≤ b ∧ b ≤ k - 1 := by simpa [wi] using hwb
  have hW : Below w.heap.size w (w.alloc (.cells #[.int .i64 k, .bool hh] 25)) := (Below.refl _ _).alloc (Nat.le_refl _) _
  have hB := BK.made w 25 #[.int .i64 k, .bool hh]
  have e7 : IntKind.i64.wrap (k - 1) = k - 1 := IntWalk.i64_in _ (by omega)
  have hl2 : (l.length : Int) ≤ 20 := by omega
  have HALL := Lib.hid hall
  have HC := Lib.hid hc
  clear hg hc hall
  obtain ⟨i0, hi, hz0, hz1, hz2⟩ := info_parts message_info
  go_enter Try.func18, Try.ntmps18
  go_wp2_with fail
  refine (HG.out _ ((hr.step hW (Nat.le_refl _)).more hW.size)).mono ?_; rintro e w1 ⟨rfl, hb1⟩
  have T1 := hW.trans (hb1.mono hW.size)
  have hB1 := hB.step hb1
  have c0 := hB1.cell 0
  have c1 := hB1.cell 1
  simp at c0 c1
  have hz3 : w.heap.size < w1.heap.size := hB1.1
  have HT1 := Lib.hid T1
  have HB1 := Lib.hid hB1
  clear hW hB hb1 T1 hB1
  go_wp2_with (first | (go_at_call 24; refine (isWithin_wi _ _ _ _).mono ?_; rintro e w' ⟨rfl, rfl⟩) | (at_make; refine wpList_make_full _ rfl _ _ 26 rfl w1.heap.size 35 i0 _ 3 Try.underlying26 hi hz0 hz1 _ _ _ _ l.length rfl rfl rfl rfl (by rw [hz2]; omega) (by unfold maxLen; omega) (Nat.le_refl _) ?_; intro w2 hown hg2))
  have hown1 : w2.ownsRow w1.heap.size 35 3 (.slice (some ⟨w1.heap.size, 0, none⟩) l.length l.length) l.length (partMs (l.map (turnMs k b)) 0) := by
    rw [partMs, Nat.zero_mul, partCopy_zero, flatMs_length, List.length_map]
    have h1 : (Value.agg #[.int .i64 0, .int .i64 0, .int .i64 0]).cells = #[.int .i64 0, .int .i64 0, .int .i64 0] := rfl
    rw [h1, madeCells_noughts 3 l.length (by omega) #[.int .i64 0, .int .i64 0, .int .i64 0] rfl] at hown
    exact hown
  have hb2' : Below w1.heap.size w1 w2 := (Below.refl _ _).grown hg2 (Nat.le_refl _) (by intro k hk; cases hk)
  clear hown hg2
  go_wp2_with fail
  go_loopw [28] (fun i wr => ∃ j : Nat, j ≤ l.length ∧ i = .int .i64 j ∧ wr.ownsRow w1.heap.size 35 3 (.slice (some ⟨w1.heap.size, 0, none⟩) l.length l.length) l.length (partMs (l.map (turnMs k b)) j) ∧ wr.cell? ⟨w.heap.size, 0, none⟩ = some (.int .i64 k) ∧ Below w1.heap.size w1 wr)
    (fun i _ => l.length - (intOf i).toNat)
  case atStart => exact ⟨0, Nat.zero_le _, rfl, hown1, (hb2'.cell (p := ⟨w.heap.size, 0, none⟩) hz3).trans c0, hb2'⟩
  case round =>
    clear hown1 hb2'
    obtain ⟨j, hj, rfl, hacc, c0', hbw⟩ := hrel
    have hsw := hbw.size
    have hT := HT1.out.trans (hbw.mono (by omega))
    have HTW := Lib.hid hT
    have HBW := Lib.hid hbw
    by_cases hlt : j < l.length
    · obtain ⟨bb, off, rfl, hbB, hcell⟩ := HC.out (by omega)
      obtain ⟨hd0, hd1, hd2⟩ := hcell j hlt
      have hc0 := (hT.cell (p := ⟨bb, off + j * 3, none⟩) hbB).trans hd0
      have hc1 := (hT.cell (p := ⟨bb, off + j * 3 + 1, none⟩) hbB).trans hd1
      have hc2 := (hT.cell (p := ⟨bb, off + j * 3 + 2, none⟩) hbB).trans hd2
      clear hd0 hd1 hd2 hcell
      have hml : MsIn k l[j]! := by rw [getElem!_pos l j hlt]; exact HALL.out _ (List.getElem_mem _)
      have HST := Lib.hid (turnMs_at k b l j hlt)
      have HSE := Lib.hid (partMs_set (l.map (turnMs k b)) j (by simpa using hlt))
      have hge : (l.map (turnMs k b))[j]! = turnMs k b l[j]! := by rw [getElem!_pos _ _ (by simpa using hlt), getElem!_pos l j hlt]; simp
      rw [hge] at HSE
      clear hge
      generalize l[j]! = y at hc0 hc1 hc2 hml HST HSE
      obtain ⟨yt, yf, yo⟩ := y
      obtain ⟨m1, m2, m3, m4, m5, m6, m7⟩ := hml
      simp only [turnMs] at hc0 hc1 hc2 m1 m2 m3 m4 m5 m6 HST HSE
      clear m7
      have hk0 : k ≠ 0 := by omega
      have ea : IntKind.i64.wrap (yf + b) = yf + b := IntWalk.i64_in _ (by omega)
      have eb : IntKind.i64.wrap (yo + b) = yo + b := IntWalk.i64_in _ (by omega)
      have hf0 : 0 ≤ (yf + b).tmod k := Int.tmod_nonneg _ (by omega)
      have hf1 : (yf + b).tmod k < k := Int.tmod_lt_of_pos _ (by omega)
      have ho0 : 0 ≤ (yo + b).tmod k := Int.tmod_nonneg _ (by omega)
      have ho1 : (yo + b).tmod k < k := Int.tmod_lt_of_pos _ (by omega)
      have ec : IntKind.i64.wrap ((yf + b).tmod k) = (yf + b).tmod k := IntWalk.i64_in _ (by omega)
      have ed : IntKind.i64.wrap ((yo + b).tmod k) = (yo + b).tmod k := IntWalk.i64_in _ (by omega)
      have HEF : Hid ((yf + b) % k = (yf + b).tmod k) := by show _ = _; rw [Int.tmod_eq_emod_of_nonneg (by omega)]
      have HEO : Hid ((yo + b) % k = (yo + b).tmod k) := by show _ = _; rw [Int.tmod_eq_emod_of_nonneg (by omega)]
      have m0 : (wr.alloc (.cells #[.int .i64 yt, .int .i64 yf, .int .i64 yo] 35)).cell? ⟨wr.heap.size, 0, none⟩ = some (.int .i64 yt) := by simp
      have n0 : (wr.alloc (.cells #[.int .i64 yt, .int .i64 yf, .int .i64 yo] 35)).cell? ⟨wr.heap.size, 1, none⟩ = some (.int .i64 yf) := by simp
      have p0 : (wr.alloc (.cells #[.int .i64 yt, .int .i64 yf, .int .i64 yo] 35)).cell? ⟨wr.heap.size, 2, none⟩ = some (.int .i64 yo) := by simp
      obtain ⟨hgl, hgs, _⟩ := rowk_parts hacc
      have hpl : (partMs (l.map (turnMs k b)) j).length = l.length * 3 := hacc.1
      obtain ⟨s0, hy0⟩ : ∃ u, wr.cell? ⟨w1.heap.size, j * 3, none⟩ = some u := by
        rw [World.ownsRow.cellAt hacc (j * 3) (by omega)]
        exact ⟨_, List.getElem?_eq_getElem (by omega)⟩
      have hf0' := World.ownsRow.frozenAt hacc (j * 3)
      obtain ⟨s1, hy1⟩ : ∃ u, wr.cell? ⟨w1.heap.size, j * 3 + 1, none⟩ = some u := by
        rw [World.ownsRow.cellAt hacc (j * 3 + 1) (by omega)]
        exact ⟨_, List.getElem?_eq_getElem (by omega)⟩
      have hf1' := World.ownsRow.frozenAt hacc (j * 3 + 1)
      obtain ⟨s2, hy2⟩ : ∃ u, wr.cell? ⟨w1.heap.size, j * 3 + 2, none⟩ = some u := by
        rw [World.ownsRow.cellAt hacc (j * 3 + 2) (by omega)]
        exact ⟨_, List.getElem?_eq_getElem (by omega)⟩
      have hf2' := World.ownsRow.frozenAt hacc (j * 3 + 2)
      have hst0 := World.ownsRow.stored hacc (j * 3) (.int .i64 yt)
      have hst1 := World.ownsRow.stored hst0.1 (j * 3 + 1) (.int .i64 ((yf + b).tmod k))
      have hst2 := World.ownsRow.stored hst1.1 (j * 3 + 2) (.int .i64 ((yo + b).tmod k))
      rw [HSE.out] at hst2
      have HS1 := Lib.hid (World.ownsRow.alloc hst2.1 (.cells #[.int .i64 yt, .int .i64 yf, .int .i64 yo] 35))
      have q0 := (World.cell?_alloc_lt wr (.cells #[.int .i64 yt, .int .i64 yf, .int .i64 yo] 35) ⟨w.heap.size, 0, none⟩ (by show w.heap.size < wr.heap.size; omega)).trans c0'
      have HB2 := Lib.hid ((((hbw.setCell (p := ⟨w1.heap.size, j * 3, none⟩) (Nat.le_refl _) (.int .i64 yt)).setCell (p := ⟨w1.heap.size, j * 3 + 1, none⟩) (Nat.le_refl _) (.int .i64 ((yf + b).tmod k))).setCell (p := ⟨w1.heap.size, j * 3 + 2, none⟩) (Nat.le_refl _) (.int .i64 ((yo + b).tmod k))).alloc (by simpa [World.setCell] using hsw) (.cells #[.int .i64 yt, .int .i64 yf, .int .i64 yo] 35))
      have hwlt : w.heap.size < wr.heap.size := by omega
      have HQ0 := Lib.hid ((World.cell?_alloc_lt _ (.cells #[.int .i64 yt, .int .i64 yf, .int .i64 yo] 35) ⟨w.heap.size, 0, none⟩ (by simpa [World.setCell] using hwlt)).trans (((World.cell?_setCell_far _ ⟨w1.heap.size, j * 3 + 2, none⟩ ⟨w.heap.size, 0, none⟩ (.int .i64 ((yo + b).tmod k)) (by show w1.heap.size ≠ w.heap.size; omega)).trans ((World.cell?_setCell_far _ ⟨w1.heap.size, j * 3 + 1, none⟩ ⟨w.heap.size, 0, none⟩ (.int .i64 ((yf + b).tmod k)) (by show w1.heap.size ≠ w.heap.size; omega)).trans (World.cell?_setCell_far _ ⟨w1.heap.size, j * 3, none⟩ ⟨w.heap.size, 0, none⟩ (.int .i64 yt) (by show w1.heap.size ≠ w.heap.size; omega)))).trans c0'))
      rw [← HEF.out, ← HEO.out] at HS1 HB2 HQ0
      have hne1 : wr.heap.size ≠ w1.heap.size := by omega
      have hji : (j : Int) < (l.length : Int) := by omega
      clear hacc hst0 hst1 hst2 hpl hbw hT c0'
      go_upto_region 7 with fail
      clear hc0 hc1 hc2
      go_region
      all_goals
        go_wp2_with fail
        go_roundw
        case rel => exact ⟨j + 1, by omega, by go_num, HS1.out, HQ0.out, HB2.out.drew⟩
        case measure => simp [intOf]; omega
    · obtain rfl : j = l.length := by omega
      have e1 : partMs (l.map (turnMs k b)) l.length = ics (flatMs (l.map (turnMs k b))) := by
        have e2 : l.length * 3 = (flatMs (l.map (turnMs k b))).length := by rw [flatMs_length, List.length_map]
        rw [partMs, e2]
        exact partCopy_all _
      rw [e1] at hacc
      have HOI : Hid (OMsS wr w.heap.size wr.heap.size (.slice (some ⟨w1.heap.size, 0, none⟩) l.length l.length) (l.map (turnMs k b))) := by
        have := (OK.of_row (by rw [flatMs_length, List.length_map]) hacc).wide (lo' := w.heap.size) (by omega) (Nat.le_refl _)
        show OMsS _ _ _ _ _
        unfold OMsS
        rw [List.length_map]
        exact this
      clear hacc hbw
      go_wp2_with fail
      go_ret2
      exact ⟨_, rfl, HOI.out, HTW.out⟩
end Go.Proofs.Ytehmhkbiofndaaa
