/-
  Chapter 8: windows: the contracts of WindowsOf, both sides.
-/
import Derived.Test.YtfncajdhdcpooaaDoorShA
import Derived.Test.YtfncajdhdcpooaaDoorWordsSS
import Derived.Test.YtfncajdhdcpooaaDoorRow5
import Derived.Deep.LoopGhost
namespace Go.Proofs.YtfncajdhdcpooaaDoor
open Go.RowKit
set_option maxRecDepth 100000
set_option linter.unusedVariables false

theorem sumOf_any (v : Value) (l : List Int) (w : World) (h : RI w w.heap.size v l) (hn : l.length ≤ 1000) (hl : ∀ x ∈ l, 0 ≤ x ∧ x ≤ 1000000) :
    Calls Tryd.prog 34 #[v] w (RetV w (.int .i64 (sumL l))) := by
  obtain ⟨A, c, rfl, hlc, hc⟩ := h
  have hn' : (l.length : Int) ≤ 1000 := by omega
  have HS := Lib.hid (sumL_bound l 1000000 hl)
  have HL := Lib.hid hl
  clear hl
  go_enter Tryd.func34, Tryd.ntmps34
  go_wp2
  go_loop [3, 8] (fun u i => ∃ k : Nat, k ≤ l.length ∧ u = .int .i64 (sumL (l.take k)) ∧ i = .int .i64 k) (fun _ i => l.length - (intOf i).toNat)
  case atStart => exact ⟨0, Nat.zero_le _, rfl, rfl⟩
  case round =>
    obtain ⟨k, hk, rfl, rfl⟩ := hrel
    have hs := HS.out k hk
    by_cases hlt : k < l.length
    · obtain ⟨b, off, rfl, hbB, hcell⟩ := hc (by omega)
      have hcx : w.cell? ⟨b, off + k, none⟩ = some (.int .i64 (l.getD k 0)) := hcell k hlt
      have hx := HL.out (l.getD k 0) (by simp [hlt])
      have HT := Lib.hid (sumL_take l k hlt)
      clear hcell hc
      have hb2 : (1000000 : Int) * (k : Int) ≤ 1000000000 := by omega
      generalize sumL (l.take k) = s at hs HT ⊢
      generalize l.getD k 0 = x at hcx hx HT
      have hs2 : s ≤ 1000000000 := by omega
      clear hb2
      go_wp2
      go_round
      case rel => exact ⟨k + 1, by omega, by rw [HT.out] <;> go_num, by go_num⟩
      case measure => simp [intOf]; omega
    · obtain rfl : k = l.length := by omega
      rw [List.take_length] at hs ⊢
      go_wp2
      go_ret
      exact ⟨rfl, Below.refl _ _⟩
theorem RI.tail8 {w : World} {B : Nat} {A : Option Addr} {n c : Nat} {l : List Int} (h : RI w B (.slice A n c) l) (k : Nat) (hk : k ≤ l.length) : RI w B (.slice (if c = k then A else Option.map (fun x => x.add k) A) (l.length - k) (c - k)) (l.drop k) := by
  obtain ⟨A', c', hv, hlc, hc⟩ := h
  injection hv with h1 h2 h3
  subst h1; subst h2; subst h3
  refine ⟨_, c - k, by rw [List.length_drop], ⟨by rw [List.length_drop]; omega, by omega, fun hA => ?_⟩, fun h0 => ?_⟩
  · have h5 : A = none := by
      split at hA
      · exact hA
      · cases A with
        | none => rfl
        | some a => cases hA
    have := hlc.2.2 h5
    omega
  · rw [List.length_drop] at h0
    obtain ⟨b, off, hA, hb, hcell⟩ := hc (by omega)
    refine ⟨b, off + k, ?_, hb, fun j hj => ?_⟩
    · rw [if_neg (by omega), hA]
      simp [addr_add]
    · rw [List.length_drop] at hj
      rw [Nat.add_assoc, hcell (k + j) (by omega)]
      congr 2
      simp [List.getD]
theorem shInts_info : (Tryd.prog.info? 24).map (fun i => (i.zero, i.size, i.bytes)) = some (some (.slice none 0 0), 1, 24) := by kernel_rfl
/-- 's[k:m]' of a slice that is there. -/
theorem RI.win {w : World} {B b off c : Nat} {l : List Int} (h : RI w B (.slice (some ⟨b, off, none⟩) l.length c) l) (s k : Nat) (hk : 0 < k) (hs : s + k ≤ l.length) : RI w B (.slice (some ⟨b, off + s, none⟩) k (c - s)) ((l.drop s).take k) := by
  have hc : ¬ c = s := by
    obtain ⟨_, _, hv, hlc, _⟩ := h
    injection hv with _ _ h3
    omega
  have h1 := (h.tail8 s (by omega)).front k (by rw [List.length_drop]; omega)
  rw [if_neg hc] at h1
  simpa [addr_add] using h1
/-- What a call gathers of slices. -/
def AccV (T : TypeId) (w : World) (lo : Nat) (v : Value) (xs : List Value) : Prop := w.ownsRow lo T 1 v xs.length xs
theorem AccV.nil (T : TypeId) (w : World) (lo : Nat) : AccV T w lo (.slice none 0 0) [] := World.ownsRow_nil _ _ _ _
theorem wpList_pushV {P : Program} {w : World} {ops : Array Oper} {rest : List Oper} {o : Oper} {a : Act} {Q : Exit → Act → World → Prop} (hgd : o.guard = none) (s x : Operand) (t : TypeId)
    (ho : o.op = .call { callee := .builtin .append, args := #[s, x], argTypes := #[t, t] }) (T : TypeId) (i : TypeInfo) (ht : P.underlying t = some (.slice T)) (hi : P.info? T = some i)
    (hz0 : i.zero = some (.slice none 0 0)) (hz1 : i.size = 1) (hz2 : i.bytes = 24) (W w0 : World) (lo : Nat) (v : Value) (l : List Value) (y : Value) (hone : y.oneCell' = true)
    (hw : w = W.alloc (.cells #[y] T)) (hs : a.eval s = v) (hacc : AccV T W lo v l) (hx : a.eval x = .slice (some ⟨W.heap.size, 0, none⟩) 1 1) (hn : l.length < 1000000) (hlo : lo ≤ W.heap.size) (hb : Below lo w0 W)
    (h : ∀ v' w', AccV T w' lo v' (l ++ [y]) → Below lo w0 w' → wpList P ops Q rest (a.put o.dst v') w') : wpList P ops Q (o :: rest) a w := by
  subst hw
  have hown : (W.alloc (.cells #[y] T)).ownsRow lo T 1 v l.length l := World.ownsRow.alloc hacc _
  have hcl : lo ≤ (W.alloc (.cells #[y] T)).heap.size := by simp; omega
  refine wpList_append_own _ hgd s x t ho lo T i (.slice none 0 0) 1 24 ht hi hz0 hz1 hz2 rfl (by decide) v l.length l hs hown ⟨W.heap.size, 0, none⟩ 1 1 [y] hx rfl ?_ ?_ (by unfold maxLen; omega) (by omega) hcl ?_
  · intro j u hj
    match j, hj with
    | 0, hj => simp at hj; subst hj; simp [Addr.add]
    | j + 1, hj => simp at hj
  · intro u hu
    simp at hu
    subst hu
    exact hone
  · intro v' w' h1 h2 _
    refine h v' w' ?_ ((hb.alloc hlo _).grown h2 hcl (fun k hk => ((World.ownsRow.lt hown) k hk).1))
    unfold AccV
    rw [List.length_append]
    exact h1
/-- Slices of one row, gathered, read as the lists that they show. -/
theorem AccV.rs {T : TypeId} {w : World} {lo : Nat} {v : Value} {xs : List Value} {L : List (List Int)} (h : AccV T w lo v xs) (hL : xs.length = L.length) (hr : ∀ j, j < L.length → RI w w.heap.size (xs.getD j undef) (L.getD j [])) : RS w w.heap.size v L := by
  rcases h.2 with ⟨rfl, hn0⟩ | ⟨g, c, cur, rfl, hg, hh, h3, h4, _⟩
  · refine ⟨xs, none, 0, by rw [← hL, hn0], hL, ⟨by omega, by simp, fun _ => rfl⟩, fun h => by omega, hr⟩
  · refine ⟨xs, some ⟨g, 0, none⟩, c, by rw [hL], hL, ⟨by omega, h4, fun h => by cases h⟩, fun _ => ⟨g, 0, rfl, (Array.getElem?_eq_some_iff.1 hh).1, fun j hj => ?_⟩, hr⟩
    have hj2 : j < xs.length := by omega
    have := World.ownsRow.cellAt h j (by omega)
    rw [Nat.zero_add, this]
    simp [List.getD, hj2]
/-- The windows as values. -/
def winV (b off c k m : Nat) : List Value := (List.range m).map fun s => .slice (some ⟨b, off + s, none⟩) k (c - s)
theorem winV_succ (b off c k m : Nat) : winV b off c k (m + 1) = winV b off c k m ++ [.slice (some ⟨b, off + m, none⟩) k (c - m)] := by simp [winV, List.range_succ]
theorem winV_length (b off c k m : Nat) : (winV b off c k m).length = m := by simp [winV]
theorem winV_at (b off c k m j : Nat) (hj : j < m) : (winV b off c k m).getD j undef = .slice (some ⟨b, off + j, none⟩) k (c - j) := by simp [winV, List.getD, hj]
theorem wnL_at (l : List Int) (k m j : Nat) (hj : j < m) : (wnL l k m).getD j [] = (l.drop j).take k := by simp [wnL, List.getD, hj]
set_option maxHeartbeats 2000000 in
theorem windowsOf_any (v : Value) (k : Nat) (l : List Int) (w : World) (h : RI w w.heap.size v l) (hl : l.length ≤ 40) (hk : 1 ≤ k ∧ k ≤ l.length) :
    Calls Tryd.prog 35 #[.int .i64 (k : Int), v] w fun e w' => ∃ u, e = .returned u ∧ RS w' w'.heap.size u (wnL l k (l.length + 1 - k)) ∧ Below w.heap.size w w' := by
  have h0 := h
  obtain ⟨A, c, rfl, hlc, hc⟩ := h
  obtain ⟨b, off, rfl, hbB, _⟩ := hc (by omega)
  obtain ⟨i0, hi, hz0, hz1, hz2⟩ := info_parts shInts_info
  have hn' : (l.length : Int) ≤ 40 := by omega
  have hk1 : (1 : Int) ≤ (k : Int) := by omega
  have hk2 : (k : Int) ≤ 40 := by omega
  have hcl : (l.length : Int) ≤ (c : Int) := by omega
  have H0 := Lib.hid h0
  clear hc h0
  go_enter Tryd.func35, Tryd.ntmps35
  go_wp2_with fail
  go_loopg [6, 5] (l.length + 1 - k) (fun g s6 s5 wx => ∃ m : Nat, m + g = l.length + 1 - k ∧ s6 = .int .i64 ((k : Int) + m) ∧ AccV 24 wx w.heap.size s5 (winV b off c k m) ∧ Below w.heap.size w wx)
  case atStart => exact ⟨0, by omega, by simp, AccV.nil _ _ _, Below.refl _ _⟩
  case round =>
    obtain ⟨m, hmg, rfl, hacc, hb⟩ := hrel
    have HA := Lib.hid hacc
    have HB := Lib.hid hb
    clear hacc hb
    cases gk with
    | zero =>
      have hme : m = l.length + 1 - k := by omega
      have hz : ¬ ((k : Int) + (m : Int) ≤ (l.length : Int)) := by omega
      go_wp2_with fail
      go_ret
      refine ⟨_, rfl, ?_, HB.out⟩
      rw [← hme]
      refine HA.out.rs (by rw [winV_length, wnL_length]) fun j hj => ?_
      rw [wnL_length] at hj
      rw [winV_at _ _ _ _ _ _ hj, wnL_at _ _ _ _ hj]
      exact ((H0.out.below HB.out).more HB.out.size).win j k (by omega) (by omega)
    | succ g =>
      have hm : m + k ≤ l.length := by omega
      have hz : (k : Int) + (m : Int) ≤ (l.length : Int) := by omega
      have hz1' : (k : Int) + (m : Int) - (k : Int) = (m : Int) := by omega
      have hm0 : (m : Int) ≤ 40 := by omega
      have hmc : (m : Int) ≤ (k : Int) + (m : Int) := by omega
      have hkc : (k : Int) + (m : Int) ≤ (c : Int) := by omega
      have hne : ¬ (c = m) := by omega
      have hsub : k + m - m = k := by omega
      have HLN : Hid ((winV b off c k m).length < 1000000) := by show _ < _; rw [winV_length]; omega
      have HSUC := Lib.hid (winV_succ b off c k m)
      go_wp2_with (at_builtin; refine wpList_pushV rfl (.tmp 14) (.tmp 21) 55 rfl 24 i0 Tryd.underlying55 hi hz0 hz1 hz2 wr w w.heap.size _ (winV b off c k m) (.slice (some ⟨b, off + m, none⟩) k (c - m)) rfl rfl rfl HA.out rfl HLN.out HB.out.size HB.out ?_; intro v3 w3 ha3 hb3; have HA3 := Lib.hid ha3; have HB3 := Lib.hid hb3; clear ha3 hb3)
      clear hz1' hsub
      go_roundg g
      case measure => omega
      case rel => exact ⟨m + 1, by omega, by go_num, by rw [HSUC.out]; exact HA3.out, HB3.out⟩
set_option maxHeartbeats 2000000 in
theorem greatestRows_any (v : Value) (L : List (List Int)) (w : World) (h : RS w w.heap.size v L) (hn : L.length ≤ 40) (hr : ∀ r ∈ L, r.length ≤ 40 ∧ ∀ x ∈ r, 0 ≤ x ∧ x ≤ 1000) (hs : ∀ r ∈ L, 0 ≤ sumL r ∧ sumL r ≤ 40000) :
    Calls Tryd.prog 33 #[.func (.func 34) #[] #[], v] w (RetV w (.int .i64 (mxF sumL 0 L))) := by
  obtain ⟨V, A, c, rfl, hV, hlc, hc, hrows⟩ := h
  have hn' : (L.length : Int) ≤ 40 := by omega
  have HCE := Lib.hid hc
  have HRW := Lib.hid hrows
  have HR := Lib.hid hr
  have HS := Lib.hid hs
  clear hc hrows hr hs
  go_enter Tryd.func33, Tryd.ntmps33
  go_wp2_with fail
  go_loopg [10, 5] L.length (fun g s10 s5 wx => ∃ i : Nat, i + g = L.length ∧ s10 = .int .i64 i ∧ s5 = .int .i64 (mxF sumL 0 (L.take i)) ∧ Below w.heap.size w wx)
  case atStart => exact ⟨0, by omega, rfl, rfl, Below.refl _ _⟩
  case round =>
    obtain ⟨i, hig, rfl, rfl, hb⟩ := hrel
    have HB := Lib.hid hb
    clear hb
    cases gk with
    | zero =>
      have hie : i = L.length := by omega
      have hz : ¬ ((L.length : Int) < (L.length : Int)) := by omega
      rw [hie, List.take_length]
      clear hie hig
      go_wp2_with fail
      go_ret
      exact ⟨rfl, HB.out⟩
    | succ g =>
      have hi : i < L.length := by omega
      have hi' : (i : Int) < (L.length : Int) := by omega
      obtain ⟨b, off, rfl, hbB, hcell⟩ := HCE.out (by omega)
      have hcx := (HB.out.cell (p := ⟨b, off + i, none⟩) hbB).trans (hcell i hi)
      have hrow := HRW.out i hi
      have hge : L.getD i [] = L[i] := by simp [List.getD, hi]
      have hmem : L.getD i [] ∈ L := by rw [hge]; exact List.getElem_mem hi
      have HMX : Hid (mxF sumL 0 (L.take (i + 1)) = max (mxF sumL 0 (L.take i)) (sumL (L.getD i []))) := by show _ = _; rw [List.take_succ_eq_append_getElem hi, mxF_snoc, hge]
      have hfx := HS.out _ hmem
      have hrl := HR.out _ hmem
      have hmb := mxF_in (f := sumL) (m := 0) (b := 40000) (L := L.take i) (by omega) (fun x hx => (HS.out x (List.mem_of_mem_take hx)).2)
      clear hcell hge hmem
      obtain ⟨row, hrw⟩ : ∃ row, row = L.getD i [] := ⟨_, rfl⟩
      rw [← hrw] at HMX hfx hrl hrow
      obtain ⟨u, hu⟩ : ∃ u, u = V.getD i undef := ⟨_, rfl⟩
      rw [← hu] at hcx hrow
      have HCL := Lib.hid (sumOf_any u row wr ((hrow.below HB.out).more HB.out.size) (by omega) (fun x hx => by have := hrl.2 x hx; omega))
      obtain ⟨A2, c2, hu2, _, _⟩ := hrow
      rw [hu2] at hcx HCL
      obtain ⟨n, hn9⟩ : ∃ n, n = sumL row := ⟨_, rfl⟩
      rw [← hn9] at HMX hfx HCL
      obtain ⟨m, hm9⟩ : ∃ m, m = mxF sumL 0 (L.take i) := ⟨_, rfl⟩
      rw [← hm9] at HMX hmb ⊢
      clear hrw hu hu2 hn9 hm9 hrl
      by_cases hmn : m < n
      · rw [show max m n = n by omega] at HMX
        go_wp2_with fail
        refine HCL.out.mono ?_; rintro e w4 ⟨rfl, hb4⟩
        have HB4 := Lib.hid (HB.out.trans (hb4.mono HB.out.size))
        clear hb4
        go_wp2_with fail
        go_roundg g
        case measure => omega
        case rel => exact ⟨i + 1, by omega, by go_num, by rw [HMX.out], HB4.out⟩
      · rw [show max m n = m by omega] at HMX
        have hmn2 : n ≤ m := by omega
        go_wp2_with fail
        refine HCL.out.mono ?_; rintro e w4 ⟨rfl, hb4⟩
        have HB4 := Lib.hid (HB.out.trans (hb4.mono HB.out.size))
        clear hb4
        go_wp2_with fail
        go_roundg g
        case measure => omega
        case rel => exact ⟨i + 1, by omega, by go_num, by rw [HMX.out], HB4.out⟩
set_option maxHeartbeats 2000000 in
theorem implWindowsOf_any (v : Value) (l : List Int) (w : World) (h : RI w w.heap.size v l) (hn : l.length ≤ 1048576) :
    Calls Tryd.prog 15 #[v] w (RetLB 3 w (wnSays l).1 (wnSays l).2) := by
  have H1 := Lib.hid (implTraffic_any v l w h hn)
  have h0 := h
  obtain ⟨A, c, rfl, hlc, hc⟩ := h
  clear hc
  cases hq : trOk l
  · rw [show wnSays l = ([], false) from by simp [wnSays, hq]]
    rw [hq] at H1
    clear hq
    go_enter Tryd.func15, Tryd.ntmps15
    go_wp2_with fail
    refine H1.out.mono ?_; rintro e w' ⟨rfl, rfl⟩
    go_wp2_with fail
    go_ret2
    exact ⟨_, rfl, .inl ⟨rfl, none, 0, rfl, by simp, fun _ => rfl⟩, Below.refl _ _⟩
  rw [show wnSays l = (wnT l l.length, true) from by simp [wnSays, hq]]
  have hlen := trOk_len hq
  have hn' : (l.length : Int) ≤ 40 := by omega
  have HWN : Hid (∀ (k : Nat) W, 1 ≤ k → k ≤ l.length → Below w.heap.size w W → Calls Tryd.prog 35 #[.int .i64 (k : Int), .slice A l.length c] W fun e w' => ∃ u, e = .returned u ∧ RS w' w'.heap.size u (wnL l k (l.length + 1 - k)) ∧ Below W.heap.size W w') := fun k W h1 h2 hb => windowsOf_any _ k l W ((h0.below hb).more hb.size) hlen ⟨h1, h2⟩
  have HGR : Hid (∀ (k : Nat) W u, 1 ≤ k → RS W W.heap.size u (wnL l k (l.length + 1 - k)) → Calls Tryd.prog 33 #[.func (.func 34) #[] #[], u] W (RetV W (.int .i64 (wnX l k)))) := by
    show ∀ _ _ _, _
    intro k W u hk h
    refine greatestRows_any u _ W h (by rw [wnL_length]; omega) (fun r hr => ?_) fun r hr => ?_
    · obtain ⟨s, _, rfl⟩ := List.mem_map.1 hr
      exact ⟨by simp; omega, win_in hq s k⟩
    · obtain ⟨s, _, rfl⟩ := List.mem_map.1 hr
      exact win_sum hq s k
  rw [hq] at H1
  obtain ⟨i0, hi, hz0, hz1, hz2⟩ := info_parts int_info
  clear hq h0
  go_enter Tryd.func15, Tryd.ntmps15
  go_wp2_with fail
  refine H1.out.mono ?_; rintro e w' ⟨rfl, rfl⟩
  go_wp2_with (at_make; refine wpList_make_full _ rfl _ _ 24 rfl w.heap.size 3 i0 _ 1 Tryd.underlying24 hi hz0 hz1 _ _ _ _ l.length rfl rfl rfl rfl (by rw [hz2]; omega) (by unfold maxLen; omega) (Nat.le_refl _) ?_; intro w2 hown hg)
  have hrc : RC w2 w.heap.size l.length (wnP l 0) := by
    have h1 := RC.made hown
    rw [wnP_zero]
    exact h1
  have hb2 : Below w.heap.size w w2 := (Below.refl _ _).grown hg (Nat.le_refl _) (by intro k hk; cases hk)
  have HRC := Lib.hid hrc
  have HB2 := Lib.hid hb2
  clear hown hg hrc hb2
  go_wp2_with fail
  go_loopg [14] l.length (fun g s14 wx => ∃ k : Nat, k + g = l.length ∧ s14 = .int .i64 k ∧ RC wx w.heap.size l.length (wnP l k) ∧ Below w.heap.size w wx)
  case atStart => exact ⟨0, by omega, rfl, HRC.out, HB2.out⟩
  case round =>
    clear HRC HB2
    obtain ⟨k, hkg, rfl, hrc, hb⟩ := hrel
    have HRC := Lib.hid hrc
    have HB := Lib.hid hb
    clear hrc hb
    cases gk with
    | zero =>
      have hke : k = l.length := by omega
      have hz : ¬ ((l.length : Int) < (l.length : Int)) := by omega
      rw [hke] at HRC ⊢
      clear hke hkg
      go_wp2_with fail
      go_ret2
      have h9 := HRC.out.oi (lo := w.heap.size) (hi := wr.heap.size) (Nat.le_refl _) (Nat.le_refl _)
      rw [wnP_all, wnT_length] at h9
      exact ⟨_, rfl, h9, HB.out⟩
    | succ g =>
      have hk : k < l.length := by omega
      have hk' : (k : Int) < (l.length : Int) := by omega
      have HC1 := Lib.hid (HWN.out (k + 1) wr (by omega) (by omega) HB.out)
      have HC2 := Lib.hid fun W u h => HGR.out (k + 1) W u (by omega) h
      have hsz := HRC.out.lt
      have HSET := Lib.hid (wnP_set l k hk)
      have HLN := Lib.hid (wnP_length l k (by omega))
      have e1 : ((k + 1 : Nat) : Int) = (k : Int) + 1 := by omega
      rw [e1] at HC1
      obtain ⟨X, hX⟩ : ∃ X, X = wnX l (k + 1) := ⟨_, rfl⟩
      rw [← hX] at HC2 HSET
      clear hX e1
      go_wp2_with fail
      refine HC1.out.mono ?_; rintro e w3 ⟨u3, rfl, hrs, hb3⟩
      have HB3 := Lib.hid (HB.out.trans (hb3.mono HB.out.size))
      have HRC3 := Lib.hid (HRC.out.step hb3)
      have HC3 := Lib.hid (HC2.out w3 u3 hrs)
      clear hrs hb3
      go_wp2_with fail
      refine HC3.out.mono ?_; rintro e w4 ⟨rfl, hb4⟩
      have HB4 := Lib.hid (HB3.out.trans (hb4.mono HB3.out.size))
      have HRC4 := Lib.hid (HRC3.out.step hb4)
      have hcx : w4.cell? ⟨w.heap.size, k, none⟩ = some (.int .i64 ((wnP l k).getD k 0)) := HRC4.out.cell k (by rw [HLN.out]; exact hk)
      have hfz : w4.frozen? ⟨w.heap.size, k, none⟩ = false := HRC4.out.free k
      generalize (wnP l k).getD k 0 = u0 at hcx
      clear hb4
      go_wp2_with fail
      go_roundg g
      case measure => omega
      case rel =>
        have hs := HRC4.out.set k X
        rw [HSET.out] at hs
        have hw4 : Wr w.heap.size (w.heap.size + 1) w4 (w4.setCell ⟨w.heap.size, k, none⟩ (.int .i64 X)) := (Wr.refl w.heap.size (w.heap.size + 1) w4).setCell (p := ⟨w.heap.size, k, none⟩) (Nat.le_refl _) (Nat.lt_succ_self _) _
        exact ⟨k + 1, by omega, by go_num, hs, HB4.out.trans (hw4.below (Nat.le_refl _) HB4.out.size)⟩

end Go.Proofs.YtfncajdhdcpooaaDoor
