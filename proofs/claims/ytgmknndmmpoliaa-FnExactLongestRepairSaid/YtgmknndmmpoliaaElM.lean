/-
  Chapter 7: a map of stations and names is made out of a list by the library's iterators: all stations survive.
-/
import Derived.RangeFuncWrites
import Derived.RangeFuncLeaves
import Derived.Shelf.Abstract
import Derived.WalkKit
import Derived.OwnWalkIn
import Derived.TacticsInMore
import Derived.LoopNIn
import Derived.LoopIn
import Derived.Maps.OwnIn
import Derived.Test.YtgmknndmmpoliaaElB
namespace Go.Proofs.Ytgmknndmmpoliaa
open Go.RowKit Go.Shelf Go.Maps
set_option maxRecDepth 100000
set_option linter.unusedVariables false
attribute [local go_sem] Oper.semAt_some

/-- A key and what stands at it. -/
abbrev KV := { p : Int × Int // (Lit.int .i64 p.1).wf = true ∧ (Lit.int .i64 p.2).wf = true }
def kvT (kv : Nat → KV) (k : Nat) : List KV := (List.range k).map kv
theorem kvT_succ (kv : Nat → KV) (k : Nat) : kvT kv (k + 1) = kvT kv k ++ [kv k] := by simp [kvT, List.range_succ]
theorem kvT_length (kv : Nat → KV) (k : Nat) : (kvT kv k).length = k := by simp [kvT]
def putD (pre : List KV) : DataW Unit := pre.foldl (fun D x => D.put (.int .i64 x.1.1) (.lit (.int .i64 x.1.2))) (.map [])
theorem putD_snoc (pre : List KV) (x : KV) : putD (pre ++ [x]) = (putD pre).put (.int .i64 x.1.1) (.lit (.int .i64 x.1.2)) := by simp [putD]
theorem allOf_in (F : Fence) (n : Nat) (h : F.fn 75) (hro : F.round = none) (a : Option Addr) (len cap : Nat) (w : World) :
    CallsIn F n Try.prog 75 #[.slice a len cap] w fun e w' => e = .returned (.func (.func 87) #[] #[.pointer (some ⟨w.heap.size, 0, none⟩)]) ∧ w' = w.alloc (.cells #[.slice a len cap] 22) := by
  refine callsIn_of_wp Try.func75 rfl h ?_ hro
  simp only [Try.ntmps75, List.size_toArray, List.length_cons, List.length_nil, Nat.reduceAdd, Nat.reduceSub, Array.replicate_succ, Array.replicate_zero, List.push_toArray, List.append_toArray, List.nil_append, List.cons_append]
  gi_wp2
  go_ret
  exact ⟨rfl, rfl⟩
set_option maxHeartbeats 2000000 in
theorem allStep_in (F : Fence) (n : Nat) (h8 : F.fn 87) (hro : F.round = none) (hn : 1 ≤ n) (l0 Bs n₀ b off cap : Nat) (l : List Int) (kv : Nat → KV) (hkv : ∀ j, j < l.length → (kv j).1 = ((j : Int), l.getD j 0)) (hreach : l.length ≤ 1048576) (hb : b < n₀) (J Jx : List KV → World → Prop)
    (hY : ∀ pre x W, J pre W → pre.length < l.length → YieldAt F (n - 1) Try.prog l0 #[.int .i64 x.1.1, .int .i64 x.1.2] W fun e W' =>
      (e = .returned (.bool true) ∧ J (pre ++ [x]) W' ∧ Below n₀ W W') ∨ (e = .returned (.bool false) ∧ Jx (pre ++ [x]) W'))
    (W : World) (hBs : W.cell? ⟨Bs, 0, none⟩ = some (.slice (some ⟨b, off, none⟩) l.length cap)) (hc : ∀ j, j < l.length → W.cell? ⟨b, off + j, none⟩ = some (.int .i64 (l.getD j 0))) (h0 : J [] W) :
    CallsIn F n Try.prog 87 #[.func (.yield l0) #[] #[], .pointer (some ⟨Bs, 0, none⟩)] W fun e W' => (∃ v, e = .returned v) ∧
      ((∃ ys, ys = kvT kv l.length ∧ J ys W') ∨ (∃ pre, (∃ k, k ≤ l.length ∧ pre = kvT kv k) ∧ Jx pre W')) := by
  have hreach' : (l.length : Int) ≤ 1048576 := by omega
  refine callsIn_of_wp Try.func87 rfl h8 ?_ hro
  simp only [Try.ntmps87, List.size_toArray, List.length_cons, List.length_nil, Nat.reduceAdd, Nat.reduceSub, Array.replicate_succ, Array.replicate_zero, List.push_toArray, List.append_toArray, List.nil_append, List.cons_append]
  gi_wp2
  gi_loopw [7] (fun i wr => ∃ k : Nat, k ≤ l.length ∧ i = .int .i64 k ∧ J (kvT kv k) wr ∧ Below n₀ W wr)
    (fun i _ => l.length - (intOf i).toNat)
  case atStart => exact ⟨0, Nat.zero_le _, rfl, h0, Below.refl _ _⟩
  case round =>
    obtain ⟨k, hk, rfl, hJs, hnx⟩ := hrel
    by_cases hlt : k < l.length
    · obtain ⟨fn, tmps, assign, body, hy, hR⟩ := hY _ (kv k) wr hJs (by rw [kvT_length]; exact hlt)
      rw [hkv k hlt] at hy
      have hcx := (hnx.cell (p := ⟨b, off + k, none⟩) hb).trans (hc k hlt)
      have hlt' : (k : Int) < (l.length : Int) := by omega
      generalize l.getD k 0 = x at hy hcx
      dsimp only at hy
      gi_wp2
      refine hR.mono ?_
      rintro e W3 (⟨rfl, hJ3, hk3⟩ | ⟨rfl, hJx3⟩)
      · gi_wp2
        go_roundw
        case rel => exact ⟨k + 1, by omega, by go_num, by rw [kvT_succ]; exact hJ3, hnx.trans hk3⟩
        case measure => simp [intOf]; omega
      · gi_wp2
        refine bodyPost_ret (results_none rfl _ _ _) rfl ?_
        exact ⟨⟨_, rfl⟩, .inr ⟨_, ⟨k + 1, by omega, (kvT_succ _ _).symm⟩, hJx3⟩⟩
    · obtain rfl : k = l.length := by omega
      gi_wp2
      go_end0
      exact ⟨⟨_, rfl⟩, .inl ⟨_, rfl, hJs⟩⟩
theorem all_stops (F : Fence) (n : Nat) (h8 : F.fn 87) (hro : F.round = none) (hn : 1 ≤ n) (Bs n₀ b off cap : Nat) (l : List Int) (kv : Nat → KV) (hkv : ∀ j, j < l.length → (kv j).1 = ((j : Int), l.getD j 0)) (hreach : l.length ≤ 1048576) (hb : b < n₀)
    (w : World) (hBs : Bs < w.heap.size) (hn₀ : n₀ ≤ w.heap.size) (hcs : w.cell? ⟨Bs, 0, none⟩ = some (.slice (some ⟨b, off, none⟩) l.length cap)) (hc : ∀ j, j < l.length → w.cell? ⟨b, off + j, none⟩ = some (.int .i64 (l.getD j 0))) :
    SeqStopsK F n Try.prog 87 #[.pointer (some ⟨Bs, 0, none⟩)] (fun x : KV => #[Value.int .i64 x.1.1, Value.int .i64 x.1.2]) (Below n₀) (fun ys => ys = kvT kv l.length) (fun pre => ∃ k, k ≤ l.length ∧ pre = kvT kv k) l.length w :=
  fun l0 J Jx W hW _ _ hY h0 =>
    allStep_in F n h8 hro hn l0 Bs n₀ b off cap l kv hkv hreach hb J Jx hY W ((hW.cell (p := ⟨Bs, 0, none⟩) hBs).trans hcs) (fun j hj => (hW.cell (p := ⟨b, off + j, none⟩) (Nat.lt_of_lt_of_le hb hn₀)).trans (hc j hj)) h0
theorem cell_of_box {W : World} {B : Nat} {v : Value} {t : TypeId} (h : W.heap[B]? = some (.cells #[v] t (0, 0))) : W.cell? ⟨B, 0, none⟩ = some v := by simp [World.cell?, h]
set_option maxHeartbeats 4000000 in
/-- 'maps.Insert(m, slices.All(l))'. -/
theorem insert_in (F : Fence) (n : Nat) (hI : F.fn 86) (h8 : F.fn 87) (hro : F.round = none) (hn : 3 ≤ n) (Bs n₀ b off cap mb : Nat) (l : List Int) (kv : Nat → KV) (hkv : ∀ j, j < l.length → (kv j).1 = ((j : Int), l.getD j 0)) (hreach : l.length ≤ 1048576) (hb : b < n₀) (hmb : n₀ ≤ mb)
    (w : World) (hBs : Bs < w.heap.size) (hn₀ : n₀ ≤ w.heap.size) (hcs : w.cell? ⟨Bs, 0, none⟩ = some (.slice (some ⟨b, off, none⟩) l.length cap)) (hc : ∀ j, j < l.length → w.cell? ⟨b, off + j, none⟩ = some (.int .i64 (l.getD j 0)))
    (hown : w.ownsMap Try.prog 3 (plainElem (H := Unit) Try.prog 3) mb 0 (.map [])) :
    CallsIn F n Try.prog 86 #[.map (some mb), .func (.func 87) #[] #[.pointer (some ⟨Bs, 0, none⟩)]] w fun e W' =>
      e = .returned (.tuple #[]) ∧ W'.ownsMap Try.prog 3 (plainElem (H := Unit) Try.prog 3) mb l.length (putD (kvT kv l.length)) ∧ Below n₀ w W' := by
  have h1 : 1 ≤ n := by omega
  have hml := hown.lt
  have hreach2 : l.length ≤ maxLen := by unfold maxLen; omega
  refine callsIn_of_wp_marks Try.func86 rfl hI ?_ hro
  simp only [Try.ntmps86, List.size_toArray, List.length_cons, List.length_nil, Nat.reduceAdd, Nat.reduceSub, Array.replicate_succ, Array.replicate_zero, List.push_toArray, List.append_toArray, List.nil_append, List.cons_append]
  gi_wp2
  have hb0 := cell_of_box (World.alloc_heap_new w (.cells #[.map (some mb)] 50))
  have hbf : Below n₀ w (w.alloc (.cells #[.map (some mb)] 50)) := (Below.refl _ _).alloc hn₀ _
  have hbw : Below w.heap.size w (w.alloc (.cells #[.map (some mb)] 50)) := (Below.refl _ _).alloc (Nat.le_refl _) _
  refine wpIn_rangeFunc_ownG hro h1 (gf := 87) (lb := #[.pointer (some ⟨Bs, 0, none⟩)]) rfl h8 (enters_of Try.func87 (by kernel_rfl) rfl)
    (all_stops F (n - 1) h8 hro (by omega) Bs n₀ b off cap l kv hkv hreach hb (w.alloc (.cells #[.map (some mb)] 50)) (by simp; omega) (by simp; omega) ((hbw.cell (p := ⟨Bs, 0, none⟩) hBs).trans hcs) (fun j hj => (hbf.cell (p := ⟨b, off + j, none⟩) hb).trans (hc j hj)))
    belowK_t (belowK_b (by simp; omega)) (Below.refl _ _) (fun _ => rfl)
    (fun pre W => (W.cell? ⟨w.heap.size, 0, none⟩ = some (.map (some mb)) ∧ W.ownsMap Try.prog 3 (plainElem (H := Unit) Try.prog 3) mb pre.length (putD pre)) ∧ Below n₀ w W)
    (fun _ _ _ => False)
    (OwnFrom.and (fun s A B row hs hg hr => ⟨cell_kept hs.1 hg (fun r e => (hr r e).2), hs.2.kept hg (fun e => by have := (hr _ e.symm).1; simp at this; omega)⟩) (ownFrom_below hn₀ (by simp; omega)))
    (fun _ _ _ _ _ hs _ _ => hs)
    ⟨⟨hb0, hown.alloc _⟩, hbf⟩
    (fun x => { tmps := #[.map (some mb), .func (.func 87) #[] #[.pointer (some ⟨Bs, 0, none⟩)], .pointer (some ⟨w.heap.size, 0, none⟩), undef, .int .i64 x.1.1, .int .i64 x.1.2, .func (.func 87) #[] #[.pointer (some ⟨Bs, 0, none⟩)], .int .i64 x.1.1, .int .i64 x.1.2, undef, undef, undef], defers := [] }) ?assign ?body ?done ?stop
  case assign =>
    intro l x W K hK
    gi_wp2
    exact hK
  case body =>
    rintro l9 pre x W ⟨⟨hc9, hown9⟩, hB⟩ hlt
    gi_wp2_with (gi_at_mapUpdate; refine wpListIn_mapUpdate_own _ rfl _ _ _ 50 rfl 3 3 (int_keyed Try.underlying3) Try.underlying50 _ mb pre.length _ rfl hown9 (by omega) _ _ _ rfl rfl (keyOf_int_mk Try.underlying3 x.2.1) _ [] (plainElem_int Try.underlying3 x.2.2) ?_; intro w1 hown1 hgrow1)
    obtain ⟨es, ck, hh, _⟩ := hown9
    exact ⟨KeepsFrom.of_grownBy hgrow1 (fun j e => by cases e; simp; omega), (Below.refl _ W).grown hgrow1 (by have := hB.size; omega) (fun k e => by cases e; exact hmb),
      ⟨cell_kept hc9 hgrow1 (fun r e => by cases e; exact ⟨_, hh, rfl⟩), by rw [putD_snoc, List.length_append]; exact hown1⟩, hB.grown hgrow1 (by have := hB.size; omega) (fun k e => by cases e; exact hmb)⟩
  case done =>
    rintro D ys W hD rfl ⟨⟨hc9, hown9⟩, hB⟩ hK
    gi_wp2
    refine ⟨by simp, .inl ⟨_, _, rfl, run_takeDeferred hK, ?_⟩⟩
    refine ⟨_, results_none rfl _ _ _, rfl, ?_, ?_⟩
    · have h9 := hown9.kept (grownBy_putObj' W D (.deferred none)) (fun e => by cases e; simp at hD; omega)
      rw [kvT_length] at h9
      exact h9
    · exact hB.trans (belowK_b (w := w) hn₀ W D _ _ (by simp at hD; omega) hK rfl rfl)
  case stop =>
    rintro D c pre W _ _ h _
    exact h.elim

set_option maxHeartbeats 2000000 in
/-- 'maps.Collect(slices.All(l))'. -/
theorem collect_in (F : Fence) (n : Nat) (hC : F.fn 74) (hI : F.fn 86) (h8 : F.fn 87) (hro : F.round = none) (hn : 4 ≤ n) (Bs n₀ b off cap : Nat) (l : List Int) (kv : Nat → KV) (hkv : ∀ j, j < l.length → (kv j).1 = ((j : Int), l.getD j 0)) (hreach : l.length ≤ 1048576) (hb : b < n₀)
    (w : World) (hBs : Bs < w.heap.size) (hn₀ : n₀ ≤ w.heap.size) (hcs : w.cell? ⟨Bs, 0, none⟩ = some (.slice (some ⟨b, off, none⟩) l.length cap)) (hc : ∀ j, j < l.length → w.cell? ⟨b, off + j, none⟩ = some (.int .i64 (l.getD j 0))) :
    CallsIn F n Try.prog 74 #[.func (.func 87) #[] #[.pointer (some ⟨Bs, 0, none⟩)]] w fun e W' =>
      e = .returned (.map (some w.heap.size)) ∧ W'.ownsMap Try.prog 3 (plainElem (H := Unit) Try.prog 3) w.heap.size l.length (putD (kvT kv l.length)) ∧ Below n₀ w W' := by
  have h1 : 1 ≤ n := by omega
  have hmm := @run_makeMap Try.prog
  have hm0 := World.ownsMap_made w Try.prog 3 (plainElem (H := Unit) Try.prog 3)
  have hbf : Below n₀ w (w.alloc (.map #[] 0)) := (Below.refl _ _).alloc hn₀ _
  have hbw : Below w.heap.size w (w.alloc (.map #[] 0)) := (Below.refl _ _).alloc (Nat.le_refl _) _
  have HC := Lib.hid (insert_in F (n - 1) hI h8 hro (by omega) Bs n₀ b off cap w.heap.size l kv hkv hreach hb hn₀ (w.alloc (.map #[] 0)) (by simp; omega) (by simp; omega) ((hbw.cell (p := ⟨Bs, 0, none⟩) hBs).trans hcs) (fun j hj => (hbf.cell (p := ⟨b, off + j, none⟩) hb).trans (hc j hj)) hm0)
  clear hcs hc
  refine callsIn_of_wp Try.func74 rfl hC ?_ hro
  simp only [Try.ntmps74, List.size_toArray, List.length_cons, List.length_nil, Nat.reduceAdd, Nat.reduceSub, Array.replicate_succ, Array.replicate_zero, List.push_toArray, List.append_toArray, List.nil_append, List.cons_append]
  gi_wp2_with (gi_at_call 86; refine HC.out.mono ?_; rintro e w' ⟨rfl, hown, hb9⟩)
  go_ret
  exact ⟨rfl, hown, hbf.trans hb9⟩
/-- All stations survive: a map of each station's name. -/
theorem allSurvive_any (v : Value) (l : List Int) (w : World) (h : RI w w.heap.size v l) (hn : 0 < l.length) (hreach : l.length ≤ 1048576) (kv : Nat → KV) (hkv : ∀ j, j < l.length → (kv j).1 = ((j : Int), l.getD j 0)) :
    Calls Try.prog 58 #[v] w fun e w' => ∃ mb, e = .returned (.map (some mb)) ∧ w.heap.size ≤ mb ∧ w'.ownsMap Try.prog 3 (plainElem (H := Unit) Try.prog 3) mb l.length (putD (kvT kv l.length)) ∧ Below w.heap.size w w' := by
  obtain ⟨A, c, rfl, hlc, hc⟩ := h
  obtain ⟨b, off, rfl, hbB, hcell⟩ := hc hn
  have hb1 : Below w.heap.size w (w.alloc (.cells #[.slice (some ⟨b, off, none⟩) l.length c] 22)) := (Below.refl _ _).alloc (Nat.le_refl _) _
  have HA := Lib.hid (allOf_in Fence.wide 5 trivial rfl (some ⟨b, off, none⟩) l.length c w)
  have HC := Lib.hid (collect_in Fence.wide 5 trivial trivial trivial rfl (by omega) w.heap.size w.heap.size b off c l kv hkv hreach hbB (w.alloc (.cells #[.slice (some ⟨b, off, none⟩) l.length c] 22)) (by simp) (by simp) (cell_of_box (World.alloc_heap_new w _)) (fun j hj => (hb1.cell (p := ⟨b, off + j, none⟩) hbB).trans (hcell j hj)))
  clear hc hcell
  refine (callsIn_wide (n := 6)).1 ?_
  refine callsIn_of_wp Try.func58 rfl trivial ?_ rfl
  simp only [Try.ntmps58, List.size_toArray, List.length_cons, List.length_nil, Nat.reduceAdd, Nat.reduceSub, Array.replicate_succ, Array.replicate_zero, List.push_toArray, List.append_toArray, List.nil_append, List.cons_append]
  have hfA : Fence.wide.fn 75 := trivial
  have hfC : Fence.wide.fn 74 := trivial
  gi_wp2_with (first
    | (gi_at_call 75; refine HA.out.mono ?_; rintro e w' ⟨rfl, rfl⟩)
    | (gi_at_call 74; refine HC.out.mono ?_; rintro e w' ⟨rfl, hown, hb9⟩))
  go_ret
  exact ⟨_, rfl, by simp, by simpa using hown, hb1.trans hb9⟩
end Go.Proofs.Ytgmknndmmpoliaa
