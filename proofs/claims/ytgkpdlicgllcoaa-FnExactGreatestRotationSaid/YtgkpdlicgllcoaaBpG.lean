/-
  Chapter 9: the rotations: mathematics, and the program's rotationsOf.
-/
import Derived.Test.YtgkpdlicgllcoaaBpE
import Derived.Test.YtgkpdlicgllcoaaBpF
import Derived.Deep.RegionHeldLaw
namespace Go.Proofs.Ytgkpdlicgllcoaa
open Go.RowKit
set_option maxRecDepth 100000
set_option linter.unusedVariables false
theorem step_pushK9 {P : Program} {w : World} {ops : Array Oper} {o : Oper} {a : Act} {K : Act → World → Prop} {Q : Exit → Act → World → Prop} {R : Prop} (hgd : o.guard = none) (s x : Operand) (t : TypeId)
    (ho : o.op = .call { callee := .builtin .append, args := #[s, x], argTypes := #[t, t] }) (E : TypeId) (i : TypeInfo) (ht : P.underlying t = some (.slice E)) (hi : P.info? E = some i) (z : Value) (k bytes : Nat)
    (hz0 : i.zero = some z) (hz1 : i.size = k) (hz2 : i.bytes = bytes) (hzs : z.cells.size = k) (hk : 0 < k) (hby : bytes ≤ 1000) (W w0 : World) (lo : Nat) (v : Value) (n : Nat) (l ys : List Int) (cs : Array Value)
    (hw : w = W.alloc (.cells cs E)) (hcs : cs.toList = ics ys) (hys : ys.length = k) (hs : a.eval s = v) (hacc : AccK k E W lo v n l) (hx : a.eval x = .slice (some ⟨W.heap.size, 0, none⟩) 1 1) (hn : n < 1000000000) (hlo : lo ≤ W.heap.size) (hb : Below lo w0 W)
    (h : ∀ v' w', AccK k E w' lo v' (n + 1) (l ++ ys) → Below lo w0 w' → (∀ p u, W.cell? p = some u → some p.block ≠ v.ownBlock → w'.cell? p = some u) → K (a.put o.dst v') w') : if Region.wanted o (yielded ops a.tmps) = true then Oper.wp P o a w K Q else R := by
  rw [if_pos (show Region.wanted o (yielded ops a.tmps) = true by simp [Region.wanted, hgd])]
  subst hw
  have hown : (W.alloc (.cells cs E)).ownsRow lo E k v n (ics l) := World.ownsRow.alloc hacc.2 _
  have hcl : lo ≤ (W.alloc (.cells cs E)).heap.size := by simp; omega
  refine wp_append_own _ s x t ho lo E i z k bytes ht hi hz0 hz1 hz2 hzs hk v n (ics l) hs hown ⟨W.heap.size, 0, none⟩ 1 1 (ics ys) hx (by simp [ics, hys]) ?_ ?_ (by unfold maxLen; omega) (Nat.le_trans (Nat.mul_le_mul (show n + 1 ≤ 1000000000 by omega) hby) (by decide)) hcl ?_
  · intro j u hj
    rw [← hcs] at hj
    rw [addr_add]
    rw [cell_of_row _ W.heap.size (0 + j) cs E (0, 0) (heap_alloc_new W _), Nat.zero_add]
    simpa using hj
  · exact ics_oneCell ys
  · intro v' w' h1 h2 _
    refine h v' w' ⟨?_, ?_⟩ ?_ (fun p u hp hne => h2.cell ((World.cell?_alloc_lt W _ p (World.block_lt_of_cell? W p hp)).trans hp) hne)
    · rw [List.length_append, hacc.1, hys]
      exact (Nat.succ_mul n k).symm
    · have e : ics (l ++ ys) = ics l ++ ics ys := by simp [ics]
      rw [e]
      exact h1
    · exact (hb.alloc hlo _).grown h2 hcl (fun k hk => ((World.ownsRow.lt hown) k hk).1)
theorem Acc.of_acc1 {w : World} {lo lo' : Nat} {v : Value} {l : List Int} (h : AccK 1 3 w lo v l.length l) (hl : lo' ≤ lo) : Acc 3 w lo' v l := own_lower h.2 hl
theorem OI.of_acc1 {w : World} {lo lo' : Nat} {v : Value} {l : List Int} (h : AccK 1 3 w lo v l.length l) (hl : lo' ≤ lo) : OI 3 w lo' w.heap.size v l := (OI.of_row h.2).wide hl (Nat.le_refl _)
theorem vrS_at (x : Tm) (L : List (List Int)) (r n s : Nat) (hs : s < n) : (vrS x L r n).getD s [] = vrow x L r s := by simp [vrS, List.getD, hs]
theorem goS_at (x : Tm) (L : List (List Int)) (r n s : Nat) (hs : s < n) : (goS x L r n).getD s 0 = goT x (L.getD r []) (rdT x L r) s := by simp [goS, List.getD, hs]
theorem vrR_at (x : Tm) (L : List (List Int)) (R r s : Nat) (hr : r < R) (hs : s < x.d.length) : (vrR x L R).getD (r * x.d.length + s) [] = vrow x L r s := by
  induction R with
  | zero => omega
  | succ R ih =>
    rw [vrR, List.getD_eq_getElem?_getD]
    have hl := vrR_length x L R
    by_cases h : r < R
    · have h1 : r * x.d.length + x.d.length ≤ R * x.d.length := by rw [← Nat.succ_mul]; exact Nat.mul_le_mul_right _ h
      rw [List.getElem?_append_left (by omega), ← List.getD_eq_getElem?_getD]
      exact ih h
    · obtain rfl : r = R := by omega
      rw [List.getElem?_append_right (by omega), hl, show r * x.d.length + s - r * x.d.length = s by omega, ← List.getD_eq_getElem?_getD]
      exact vrS_at x L r _ s hs
theorem goR_at (x : Tm) (L : List (List Int)) (R r s : Nat) (hr : r < R) (hs : s < x.d.length) : (goR x L R).getD (r * x.d.length + s) 0 = goT x (L.getD r []) (rdT x L r) s := by
  induction R with
  | zero => omega
  | succ R ih =>
    rw [goR, List.getD_eq_getElem?_getD]
    have hl := goR_length x L R
    by_cases h : r < R
    · have h1 : r * x.d.length + x.d.length ≤ R * x.d.length := by rw [← Nat.succ_mul]; exact Nat.mul_le_mul_right _ h
      rw [List.getElem?_append_left (by omega), ← List.getD_eq_getElem?_getD]
      exact ih h
    · obtain rfl : r = R := by omega
      rw [List.getElem?_append_right (by omega), hl, show r * x.d.length + s - r * x.d.length = s by omega, ← List.getD_eq_getElem?_getD]
      exact goS_at x L r _ s hs
/-- Rows of three, one behind the other: the first of each. -/
theorem flat3_at (A : List (List Int)) (h : ∀ l ∈ A, l.length = 3) (i : Nat) (hi : i < A.length) : A.flatten.getD (i * 3) 0 = (A.getD i []).getD 0 0 := by
  induction A generalizing i with
  | nil => simp at hi
  | cons a A ih =>
    have ha := h a (by simp)
    have hA : ∀ l ∈ A, l.length = 3 := fun l hl => h l (by simp [hl])
    rw [List.flatten_cons, List.getD_eq_getElem?_getD]
    cases i with
    | zero =>
      rw [List.getElem?_append_left (by omega)]
      simp [List.getD]
    | succ i =>
      rw [List.getElem?_append_right (by omega), ha, show (i + 1) * 3 - 3 = i * 3 by omega, ← List.getD_eq_getElem?_getD, ih hA i (by simp at hi; omega)]
      simp [List.getD]
theorem vrR_three (x : Tm) (L : List (List Int)) (R : Nat) : ∀ l ∈ vrR x L R, l.length = 3 := by
  induction R with
  | zero => simp [vrR]
  | succ R ih =>
    intro l hl
    rw [vrR, List.mem_append] at hl
    rcases hl with hl | hl
    · exact ih l hl
    · obtain ⟨s, _, rfl⟩ := List.mem_map.1 hl
      rfl
theorem flat_len3 (A : List (List Int)) (h : ∀ l ∈ A, l.length = 3) : A.flatten.length = A.length * 3 := by
  induction A with
  | nil => rfl
  | cons a A ih =>
    rw [List.flatten_cons, List.length_append, h a (by simp), ih fun l hl => h l (by simp [hl])]
    simp; omega
/-- A station's last visit is as it was, until it is visited. -/
theorem stT_keep (x : Tm) (l : List Int) (p : Int × List Int) (m s : Nat) (hm : m ≤ s) : (stT x l p m).2.getD s 0 = p.2.getD s 0 := by
  induction m with
  | zero => rfl
  | succ m ih =>
    rw [stT_succ]
    simp only [List.getD_eq_getElem?_getD]
    rw [List.getElem?_set_ne (by omega), ← List.getD_eq_getElem?_getD, ← List.getD_eq_getElem?_getD]
    exact ih (by omega)
theorem stT_was (x : Tm) (l : List Int) (p : Int × List Int) (m s : Nat) (hs : s < m) (hp : s < p.2.length) : (stT x l p m).2.getD s 0 = (stT x l p s).1 := by
  induction m with
  | zero => omega
  | succ m ih =>
    rw [stT_succ]
    simp only [List.getD_eq_getElem?_getD]
    by_cases h : m = s
    · subst h
      rw [List.getElem?_set_self (by rw [stT_len]; exact hp)]
      rfl
    · rw [List.getElem?_set_ne h, ← List.getD_eq_getElem?_getD]
      exact ih (by omega)
/-- The tick of a visit. -/
def tkT (x : Tm) (L : List (List Int)) (i : Nat) : Int := (vrR x L L.length).flatten.getD (i * 3) 0
theorem tkT_at (x : Tm) (L : List (List Int)) (r s : Nat) (hr : r < L.length) (hs : s < x.d.length) : tkT x L (r * x.d.length + s) = (stT x (L.getD r []) (rdT x L r) s).1 := by
  have h1 : r * x.d.length + x.d.length ≤ L.length * x.d.length := by rw [← Nat.succ_mul]; exact Nat.mul_le_mul_right _ hr
  unfold tkT
  rw [flat3_at _ (vrR_three x L _) _ (by rw [vrR_length]; omega), vrR_at x L _ r s hr hs]
  rfl
/-- A rotation is from one visit to the next one. -/
theorem rot_is (x : Tm) (L : List (List Int)) (i : Nat) (h1 : x.d.length ≤ i) (h2 : i < L.length * x.d.length) (h0 : 0 < x.d.length) : (goR x L L.length).getD i 0 = tkT x L i - tkT x L (i - x.d.length) := by
  obtain ⟨r, s, hi, hs⟩ : ∃ r s, i = r * x.d.length + s ∧ s < x.d.length := ⟨i / x.d.length, i % x.d.length, by rw [Nat.mul_comm]; exact (Nat.div_add_mod i x.d.length).symm, Nat.mod_lt _ h0⟩
  have hr : r < L.length := by
    rcases Nat.lt_or_ge r L.length with h | h
    · exact h
    · have := Nat.mul_le_mul_right x.d.length h
      omega
  cases r with
  | zero => omega
  | succ r =>
    have e : i - x.d.length = r * x.d.length + s := by rw [hi, Nat.succ_mul]; omega
    rw [e, hi, goR_at x L _ (r + 1) s hr hs, tkT_at x L (r + 1) s hr hs, tkT_at x L r s (by omega) hs]
    unfold goT
    rw [stT_keep x _ _ s s (Nat.le_refl _), rdT_succ, stT_was x _ _ _ s hs (by rw [rdT_len]; exact hs)]
theorem rotT_length (x : Tm) (L : List (List Int)) : (rotT x L).length = L.length * x.d.length - x.d.length := by simp [rotT, goR_length]
theorem rotT_at (x : Tm) (L : List (List Int)) (k : Nat) (hk : k < (rotT x L).length) (h0 : 0 < x.d.length) : (rotT x L).getD k 0 = tkT x L (x.d.length + k) - tkT x L k := by
  have hk2 := hk
  rw [rotT_length] at hk2
  have h := rot_is x L (x.d.length + k) (by omega) (by omega) h0
  rw [show x.d.length + k - x.d.length = k by omega] at h
  rw [← h]
  simp [rotT, List.getD]
theorem rotT_take (x : Tm) (L : List (List Int)) (k : Nat) (hk : k < (rotT x L).length) : (rotT x L).take (k + 1) = (rotT x L).take k ++ [(rotT x L).getD k 0] := by
  rw [List.take_add_one]
  simp [List.getD, hk]
theorem tkT_in {x : Tm} {L : List (List Int)} (h : askT x L = true) (i : Nat) (hi : i < L.length * x.d.length) (h0 : 0 < x.d.length) : 0 ≤ tkT x L i ∧ tkT x L i ≤ 110000 := by
  obtain ⟨r, s, he, hs⟩ : ∃ r s, i = r * x.d.length + s ∧ s < x.d.length := ⟨i / x.d.length, i % x.d.length, by rw [Nat.mul_comm]; exact (Nat.div_add_mod i x.d.length).symm, Nat.mod_lt _ h0⟩
  have hr : r < L.length := by
    rcases Nat.lt_or_ge r L.length with h | h
    · exact h
    · have := Nat.mul_le_mul_right x.d.length h
      omega
  rw [he, tkT_at x L r s hr hs]
  exact (visit_in h r s hr (by omega)).1
set_option maxHeartbeats 4000000 in
theorem rotationsAcc_any (s0 v : Value) (x : Tm) (L : List (List Int)) (w : World) (h : RI w w.heap.size s0 x.d) (h2 : RS w w.heap.size v L) (hask : askT x L = true) :
    Calls Try.prog 80 #[TmV x s0, v] w (fun e w' => ∃ u, e = .returned u ∧ Acc 3 w' w.heap.size u (rotT x L) ∧ Below w.heap.size w w') := by
  have hask2 := hask
  simp only [askT, Bool.and_eq_true] at hask2
  have hin := tmOk_in hask2.1
  have hL20 := wishOk_len hask2.2
  have HTV := Lib.hid fun W (hb : Below w.heap.size w W) => timedVisits_any s0 v x L W ((h.below hb).more hb.size) ((h2.below hb).more hb.size) hask
  have HRL := Lib.hid (rotT_length x L)
  have HRA := Lib.hid fun k hk => rotT_at x L k hk (by omega)
  have HRT := Lib.hid fun k hk => rotT_take x L k hk
  have HTK := Lib.hid fun i hi => tkT_in hask i hi (by omega)
  have HTF : Hid (∀ i, (vrR x L L.length).flatten.getD (i * 3) 0 = tkT x L i) := fun i => rfl
  have HFL : Hid ((vrR x L L.length).flatten.length = L.length * x.d.length * 3) := by show _ = _; rw [flat_len3 _ (vrR_three x L _), vrR_length]
  obtain ⟨i0, hi, hz0, hz1, hz2⟩ := info_parts int_info
  generalize hVF : (vrR x L L.length).flatten = VF at *
  generalize hRO : rotT x L = RO at *
  generalize hTT : tkT x L = TK at *
  clear hask hask2 hVF hRO hTT
  obtain ⟨VV, VA, vc, rfl, hV, hvl, hvc, hvr⟩ := h2
  obtain ⟨t, k, d⟩ := x
  simp only [TmV] at *
  obtain ⟨A, c, rfl, hlc, hc⟩ := h
  clear hc
  clear hvc hvr
  have hn' : (d.length : Int) ≤ 12 := by omega
  obtain ⟨N, hN⟩ : ∃ N, N = L.length * d.length := ⟨_, rfl⟩
  have hN2 : N ≤ 20 * 12 := by rw [hN]; exact Nat.mul_le_mul (by omega) (by omega)
  rw [← hN] at HRL HTK HFL HTV
  clear hN
  have p0 := BK.made w 27 #[.int .i64 t, .int .i64 k, .slice A d.length c]
  have hW : Below w.heap.size w (w.alloc (.cells #[.int .i64 t, .int .i64 k, .slice A d.length c] 27)) := (Below.refl _ _).alloc (Nat.le_refl _) _
  obtain ⟨w0, hw0⟩ : ∃ w0, w0 = (w.alloc (.cells #[.int .i64 t, .int .i64 k, .slice A d.length c] 27)) := ⟨_, rfl⟩
  rw [← hw0] at p0 hW
  have HCL : Hid (∀ W, Below w0.heap.size w0 W → W.cell? ⟨w.heap.size, 0, none⟩ = some (.int .i64 t) ∧ W.cell? ⟨w.heap.size, 1, none⟩ = some (.int .i64 k) ∧ W.cell? ⟨w.heap.size, 2, none⟩ = some (.slice A d.length c)) := by
    show ∀ W, _
    intro W hb
    have p1 := p0.step hb
    have c0 := p1.cell 0
    have c1 := p1.cell 1
    have c2 := p1.cell 2
    simp at c0 c1 c2
    exact ⟨c0, c1, c2⟩
  have HW := Lib.hid hW
  have HW0 := Lib.hid hw0
  obtain ⟨c0, c1, c2⟩ := HCL.out w0 (Below.refl _ _)
  have hd9 : Below w0.heap.size w0 w0 := Below.refl _ _
  have hd : Below w0.heap.size w0 w0.drew := (Below.refl _ _).drew
  clear p0 hW hw0
  clear c0 c1 c2 hd9 hd
  have HCLT : Hid (w.heap.size < w0.heap.size) := by show _ < _; rw [HW0.out]; simp
  go_enter Try.func80, Try.ntmps80
  go_wp2_with fail
  rw [← HW0.out]
  refine (HTV.out _ HW.out).mono ?_; rintro e w1 ⟨u, rfl, hok, hb1⟩
  obtain ⟨UA, uc, rfl, hul, hulc, hucell⟩ := hok.rk
  have HW1 := Lib.hid (HW.out.trans (hb1.mono HW.out.size))
  have HB1 : Hid (Below w0.heap.size w0 w1) := hb1
  have HUC := Lib.hid hucell
  clear hok hb1 hucell hul HTV
  obtain ⟨c0, c1, c2⟩ := HCL.out w1 HB1.out
  have hN' : (N : Int) ≤ 240 := by omega
  go_wp2_with fail
  go_loopg [7, 5] RO.length (fun g s7 s5 wx => ∃ k i : Nat, k + g = RO.length ∧ i = d.length + k ∧ s7 = .int .i64 (i : Int) ∧ AccK 1 3 wx w1.heap.size s5 k (RO.take k) ∧ Below w1.heap.size w1 wx)
  case atStart => exact ⟨0, d.length, by omega, rfl, rfl, by simp; exact AccK.nil _ _ _ _, Below.refl _ _⟩
  case round =>
    clear c0 c1 c2
    obtain ⟨k9, i9, hkg, hik, rfl, hacc, hb⟩ := hrel
    have hrl := HRL.out
    cases gk with
    | zero =>
      have hke : k9 = RO.length := by omega
      have hz : ¬ ((i9 : Int) < (N : Int)) := by omega
      rw [hke, List.take_length] at hacc
      have HO := Lib.hid (Acc.of_acc1 hacc HW1.out.size)
      have HB := Lib.hid (HW1.out.trans (hb.mono HW1.out.size))
      clear hacc hb hkg hke
      go_wp2_with fail
      go_ret
      exact ⟨_, rfl, HO.out, HB.out⟩
    | succ g =>
      have hk : k9 < RO.length := by omega
      have hk' : (i9 : Int) < (N : Int) := by omega
      have he9 : (i9 : Int) - (d.length : Int) = (k9 : Int) := by omega
      have hkN : (k9 : Int) < (N : Int) := by omega
      have ew9 : IntKind.i64.wrap ((i9 : Int) - (d.length : Int)) = (k9 : Int) := by rw [IntWalk.i64_in _ (by omega)]; exact he9
      obtain ⟨c0, c1, c2⟩ := HCL.out wr (HB1.out.trans (hb.mono HB1.out.size))
      obtain ⟨b, off, rfl, hbB, hcell⟩ := HUC.out (by omega)
      have hy1 := (hb.cell (p := ⟨b, off + i9 * 3, none⟩) hbB).trans (hcell (i9 * 3) (by omega))
      have hy2 := (hb.cell (p := ⟨b, off + k9 * 3, none⟩) hbB).trans (hcell (k9 * 3) (by omega))
      rw [HTF.out] at hy1 hy2
      have ht1 := HTK.out i9 (by omega)
      have ht2 := HTK.out k9 (by omega)
      have HVAL : Hid (RO.take (k9 + 1) = RO.take k9 ++ [TK i9 - TK k9]) := by show _ = _; rw [HRT.out k9 hk, HRA.out k9 hk, hik]
      generalize TK i9 = T1 at *
      generalize TK k9 = T2 at *
      have HOWN := Lib.hid (fun (b' : Nat) (hb' : b' < w1.heap.size) => (show some b' ≠ Value.ownBlock u5 from fun h9 => by have := (World.ownsRow.lt hacc.2) _ h9.symm; omega))
      have HN1 : Hid (some w.heap.size ≠ Value.ownBlock u5) := HOWN.out _ (by have := HCLT.out; have := HB1.out.size; omega)
      have HN2 : Hid (some b ≠ Value.ownBlock u5) := HOWN.out b hbB
      have HA := Lib.hid hacc
      have HB := Lib.hid hb
      have hsw := hb.size
      have eT9 : IntKind.i64.wrap (T1 - T2) = T1 - T2 := IntWalk.i64_in _ (by omega)
      have ek9 : IntKind.i64.wrap (k9 : Int) = (k9 : Int) := IntWalk.i64_in _ (by omega)
      have hd0 : d.length ≤ i9 := by omega
      have hd1 : (d.length : Int) ≤ (i9 : Int) := by omega
      have HIK := Lib.hid hik
      clear hacc hb hcell hrl hik
      go_upto_region 6 with fail
      have hS1 : wr.drew.cell? ⟨w.heap.size, 2, none⟩ = some (.slice A d.length c) := c2
      have hS2 : wr.drew.cell? ⟨b, off + i9 * 3, none⟩ = some (.int .i64 T1) := hy1
      have hS3 : wr.drew.cell? ⟨b, off + k9 * 3, none⟩ = some (.int .i64 T2) := hy2
      go_region_held_law (fun w' => w'.cell? ⟨w.heap.size, 2, none⟩ = some (.slice A d.length c) ∧ w'.cell? ⟨b, off + i9 * 3, none⟩ = some (.int .i64 T1) ∧ w'.cell? ⟨b, off + k9 * 3, none⟩ = some (.int .i64 T2)) (with_reducible first | exact ⟨hS1, hS2, hS3⟩ | exact ⟨c2, hy1, hy2⟩ | trivial | go_keep)
        (first | ((refine step_pushK9 rfl (.tmp 20) (.tmp 36) 22 rfl 3 i0 Try.underlying22 hi _ 1 8 hz0 hz1 hz2 rfl (by decide) (by decide) wr.drew w1 w1.heap.size _ k9 _ [T1 - T2] _ rfl rfl rfl rfl HA.out rfl (by omega) hsw HB.out.drew ?_); (intro v7 w7 hacc7 t7 h8; have c2 := h8 _ _ c2 HN1.out; have hy1 := h8 _ _ hy1 HN2.out; have hy2 := h8 _ _ hy2 HN2.out)))
      · have HA7 : Hid (AccK 1 3 w7 w1.heap.size v7 (k9 + 1) (RO.take (k9 + 1))) := by
          show AccK _ _ _ _ _ _ _
          rw [HVAL.out]
          exact hacc7
        have HB7 := Lib.hid t7
        clear hacc7 t7 h8 hy1 hy2 c2
        go_wp2_with fail
        go_roundg g
        case measure => omega
        case rel => exact ⟨k9 + 1, i9 + 1, by omega, by have := HIK.out; omega, by go_num, HA7.out, HB7.out⟩
theorem rotationsOf_any (s0 v : Value) (x : Tm) (L : List (List Int)) (w : World) (h : RI w w.heap.size s0 x.d) (h2 : RS w w.heap.size v L) (hask : askT x L = true) :
    Calls Try.prog 80 #[TmV x s0, v] w (RetL 3 w (rotT x L)) := (rotationsAcc_any s0 v x L w h h2 hask).mono fun e w' ⟨u, he, ha, hb⟩ => ⟨u, he, ha.oi, hb⟩
end Go.Proofs.Ytgkpdlicgllcoaa
