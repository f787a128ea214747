/-
  MessageS as values: what they read as, what owns them, and the contracts of the laws' helpers on them.
-/
import Derived.Test.YtfphkgialmjfnaaMathSlot
import Derived.Test.YtfphkgialmjfnaaWordsK
import Derived.Test.YtfphkgialmjfnaaBk
import Derived.Deep.RegionHeld3
import Derived.Deep.DeepCutAuto
import Derived.RegionTactic
import Derived.BigRegion
namespace Go.Proofs.Ytfphkgialmjfnaa
open Go.RowKit
set_option maxRecDepth 100000

set_option maxHeartbeats 1000000 in
theorem toMessage_any (x : Ms) (w : World) : Calls Try.prog 34 #[MsV x] w (RetV w (MsV x)) := by
  obtain ⟨t, f, o⟩ := x
  simp only [MsV]
  go_enter Try.func34, Try.ntmps34
  go_wp2_with fail
  refine bodyPost_ret (v := .agg #[.int .i64 t, .int .i64 f, .int .i64 o]) (by simp [results, Try.results34, go_sem]) rfl ⟨rfl, ?_⟩
  repeat (first | exact Below.refl _ _ | refine Below.alloc ?_ (by simp <;> omega) _ | refine Below.setCell ?_ (by simp <;> omega) _)
/-- All numbers of a list, one behind the other. -/
def flatMs (l : List Ms) : List Int := l.flatMap fun x => [x.t, x.f, x.o]
theorem flatMs_length (l : List Ms) : (flatMs l).length = l.length * 3 := by
  induction l with
  | nil => rfl
  | cons x l ih =>
    have e : flatMs (x :: l) = [x.t, x.f, x.o] ++ flatMs l := rfl
    rw [e, List.length_append, ih]
    simp
    omega
instance : Inhabited Ms := ⟨⟨0, 0, 0⟩⟩
theorem flatMs_at (l : List Ms) (i j : Nat) (hi : i < l.length) (hj : j < 3) : (flatMs l).getD (i * 3 + j) 0 = [l[i]!.t, l[i]!.f, l[i]!.o].getD j 0 := by
  induction l generalizing i with
  | nil => simp at hi
  | cons x l ih =>
    have e : flatMs (x :: l) = [x.t, x.f, x.o] ++ flatMs l := rfl
    rw [e]
    cases i with
    | zero =>
      rw [Nat.zero_mul, Nat.zero_add]
      match j, hj with
      | 0, _ => simp
      | 1, _ => simp
      | 2, _ => simp
    | succ i =>
      have h1 : (i + 1) * 3 + j = (i * 3 + j) + 3 := by omega
      have h2 : ([x.t, x.f, x.o] ++ flatMs l).getD ((i * 3 + j) + 3) 0 = (flatMs l).getD (i * 3 + j) 0 := by
        simp only [List.getD_eq_getElem?_getD]
        rw [List.getElem?_append_right (by simp)]
        simp
      rw [h1, h2, ih i (by simp at hi; omega)]
      simp
/-- The slice value v reads as the list l, and lies below block B. -/
def RMsS (w : World) (B : Nat) (v : Value) (l : List Ms) : Prop := RK 3 w B v l.length (flatMs l)
/-- .. owns it. -/
def OMsS (w : World) (lo hi : Nat) (v : Value) (l : List Ms) : Prop := OK 3 53 w lo hi v l.length (flatMs l)
/-- What a function that makes one leaves. -/
def RetMsS (w : World) (l : List Ms) (e : Ending) (w' : World) : Prop := ∃ u, e = .returned u ∧ OMsS w' w.heap.size w'.heap.size u l ∧ Below w.heap.size w w'
/-- .. and a bool. -/
def RetMsSB (w : World) (l : List Ms) (b : Bool) (e : Ending) (w' : World) : Prop := ∃ u, e = .returned (.tuple #[u, .bool b]) ∧ OMsS w' w.heap.size w'.heap.size u l ∧ Below w.heap.size w w'
/-- The cells of an element. -/
theorem RMsS.parts {w : World} {B n c : Nat} {A : Option Addr} {l : List Ms} (h : RMsS w B (.slice A n c) l) : n = l.length ∧ l.length ≤ c ∧ c ≤ maxLen ∧ (0 < l.length → ∃ b off, A = some ⟨b, off, none⟩ ∧ b < B ∧
    ∀ i, i < l.length → w.cell? ⟨b, off + i * 3, none⟩ = some (.int .i64 l[i]!.t) ∧ w.cell? ⟨b, off + i * 3 + 1, none⟩ = some (.int .i64 l[i]!.f) ∧ w.cell? ⟨b, off + i * 3 + 2, none⟩ = some (.int .i64 l[i]!.o)) := by
  obtain ⟨A', c', hv, hl, hlc, hc⟩ := h
  injection hv with h1 h2 h3
  subst h1; subst h2; subst h3
  refine ⟨rfl, hlc.1, hlc.2.1, fun hn => ?_⟩
  obtain ⟨b, off, hA, hb, hcell⟩ := hc hn
  refine ⟨b, off, hA, hb, fun i hi => ?_⟩
  have q := fun j (hj : j < 3) => hcell (i * 3 + j) (by omega)
  have r := fun j hj => flatMs_at l i j hi hj
  exact ⟨by have := q 0 (by omega); rw [r 0 (by omega)] at this; exact this, by have := q 1 (by omega); rw [r 1 (by omega)] at this; exact this, by have := q 2 (by omega); rw [r 2 (by omega)] at this; exact this⟩

theorem message_info : (Try.prog.info? 53).map (fun i => (i.zero, i.size, i.bytes)) = some (some (.agg #[.int .i64 0, .int .i64 0, .int .i64 0]), 3, 24) := by kernel_rfl
/-- An element laid over the copy so far. -/
theorem partCopy_Ms (l : List Ms) (k : Nat) (hk : k < l.length) : (((partCopy (flatMs l) (k * 3)).set (k * 3) (.int .i64 l[k]!.t)).set (k * 3 + 1) (.int .i64 l[k]!.f)).set (k * 3 + 2) (.int .i64 l[k]!.o) = partCopy (flatMs l) ((k + 1) * 3) := by
  have hl := flatMs_length l
  have a0 : (flatMs l).getD (k * 3 + 0) 0 = l[k]!.t := by rw [flatMs_at l k 0 hk (by omega)]; rfl
  have a1 : (flatMs l).getD (k * 3 + 1) 0 = l[k]!.f := by rw [flatMs_at l k 1 hk (by omega)]; rfl
  have a2 : (flatMs l).getD (k * 3 + 2) 0 = l[k]!.o := by rw [flatMs_at l k 2 hk (by omega)]; rfl
  rw [Nat.add_zero] at a0
  rw [← a0, partCopy_succ _ _ (by omega)]
  rw [← a1, partCopy_succ _ _ (by omega)]
  rw [← a2, partCopy_succ _ _ (by omega)]
  congr 1
  omega
set_option maxHeartbeats 1000000 in
theorem toMessageS_any (v : Value) (l : List Ms) (w : World) (h : RMsS w w.heap.size v l) (hn : l.length ≤ 1048576) : Calls Try.prog 12 #[v] w (RetMsS w l) := by
  have h0 := h
  obtain ⟨A, c, rfl, hfl, hlc, hc⟩ := h
  clear hc
  obtain ⟨_, _, _, hc⟩ := h0.parts
  obtain ⟨i0, hi, hz0, hz1, hz2⟩ := info_parts message_info
  go_enter Try.func12, Try.ntmps12
  go_wp2_with (at_make; refine wpList_make_full _ rfl _ _ 31 rfl w.heap.size 53 i0 _ 3 Try.underlying31 hi hz0 hz1 _ _ _ _ l.length rfl rfl rfl rfl (by rw [hz2]; omega) (by unfold maxLen; omega) (Nat.le_refl _) ?_; intro w1 hown hg)
  have hown1 : w1.ownsRow w.heap.size 53 3 (.slice (some ⟨w.heap.size, 0, none⟩) l.length l.length) l.length (partCopy (flatMs l) (0 * 3)) := by
    rw [Nat.zero_mul, partCopy_zero, flatMs_length]
    have h1 : (Value.agg #[.int .i64 0, .int .i64 0, .int .i64 0]).cells = #[.int .i64 0, .int .i64 0, .int .i64 0] := rfl
    rw [h1, madeCells_noughts 3 l.length (by omega) #[.int .i64 0, .int .i64 0, .int .i64 0] rfl] at hown
    exact hown
  have hb1 : Below w.heap.size w w1 := (Below.refl _ _).grown hg (Nat.le_refl _) (by intro k hk; cases hk)
  have hn' : (l.length : Int) ≤ 1048576 := by omega
  clear hown hg
  go_loopw [4] (fun i wr => ∃ k : Nat, k ≤ l.length ∧ i = .int .i64 k ∧ wr.ownsRow w.heap.size 53 3 (.slice (some ⟨w.heap.size, 0, none⟩) l.length l.length) l.length (partCopy (flatMs l) (k * 3)) ∧ Below w.heap.size w wr)
    (fun i _ => l.length - (intOf i).toNat)
  case atStart => exact ⟨0, Nat.zero_le _, rfl, hown1, hb1⟩
  case round =>
    obtain ⟨k, hk, rfl, hown, hb⟩ := hrel
    by_cases hlt : k < l.length
    · obtain ⟨b, off, rfl, hbB, hcell⟩ := hc (by omega)
      obtain ⟨hd0, hd1, hd2⟩ := hcell k hlt
      have hc0 := (hb.cell (p := ⟨b, off + k * 3, none⟩) hbB).trans hd0
      have hc1 := (hb.cell (p := ⟨b, off + k * 3 + 1, none⟩) hbB).trans hd1
      have hc2 := (hb.cell (p := ⟨b, off + k * 3 + 2, none⟩) hbB).trans hd2
      clear hd0 hd1 hd2
      have hset := partCopy_Ms l k hlt
      generalize l[k]! = x at hc0 hc1 hc2 hset
      have HT := Lib.hid (toMessage_any x)
      obtain ⟨xt, xf, xo⟩ := x
      simp only [MsV] at hc0 hc1 hc2 hset HT
      have HS := Lib.hid hset
      have HO := Lib.hid hown
      have hi : (k : Int) < (l.length : Int) := by omega
      clear hset hown hc hcell h0 hfl
      go_wp2_with fail
      refine (HT.out _).mono ?_; rintro e w2 ⟨rfl, hb2⟩
      obtain ⟨hgl, hgs, _⟩ := rowk_parts HO.out
      have hown2 := rowk_far HO.out (Wr.of_below hb2 wr.heap.size wr.heap.size) (.inl hgs)
      have hpl : (partCopy (flatMs l) (k * 3)).length = l.length * 3 := hown2.1
      have hz0 : ∃ u, w2.cell? ⟨w.heap.size, k * 3, none⟩ = some u := by
        rw [World.ownsRow.cellAt hown2 (k * 3) (by omega)]
        exact ⟨_, List.getElem?_eq_getElem (by omega)⟩
      obtain ⟨u0_, hz0⟩ := hz0
      have hz1 : ∃ u, w2.cell? ⟨w.heap.size, k * 3 + 1, none⟩ = some u := by
        rw [World.ownsRow.cellAt hown2 (k * 3 + 1) (by omega)]
        exact ⟨_, List.getElem?_eq_getElem (by omega)⟩
      obtain ⟨u1_, hz1⟩ := hz1
      have hz2 : ∃ u, w2.cell? ⟨w.heap.size, k * 3 + 2, none⟩ = some u := by
        rw [World.ownsRow.cellAt hown2 (k * 3 + 2) (by omega)]
        exact ⟨_, List.getElem?_eq_getElem (by omega)⟩
      obtain ⟨u2_, hz2⟩ := hz2
      have hfz0 := World.ownsRow.frozenAt hown2 (k * 3)
      have hfz1 := World.ownsRow.frozenAt hown2 (k * 3 + 1)
      have hfz2 := World.ownsRow.frozenAt hown2 (k * 3 + 2)
      have hst0 := World.ownsRow.stored hown2 (k * 3) (.int .i64 xt)
      have hst1 := World.ownsRow.stored hst0.1 (k * 3 + 1) (.int .i64 xf)
      have hst2 := World.ownsRow.stored hst1.1 (k * 3 + 2) (.int .i64 xo)
      rw [HS.out] at hst2
      have HS1 := Lib.hid hst2.1
      have HB2 := Lib.hid ((((hb.trans (hb2.mono (by omega))).setCell (p := ⟨w.heap.size, k * 3, none⟩) (Nat.le_refl _) (.int .i64 xt)).setCell (p := ⟨w.heap.size, k * 3 + 1, none⟩) (Nat.le_refl _) (.int .i64 xf)).setCell (p := ⟨w.heap.size, k * 3 + 2, none⟩) (Nat.le_refl _) (.int .i64 xo))
      clear hown2 hst0 hst1 hst2 hb2 hpl
      go_wp2_with fail
      go_roundw
      case rel => exact ⟨k + 1, by omega, by go_num, HS1.out, HB2.out⟩
      case measure => simp [intOf]; omega
    · obtain rfl : k = l.length := by omega
      have e1 : partCopy (flatMs l) (l.length * 3) = ics (flatMs l) := by rw [← flatMs_length]; exact partCopy_all _
      rw [e1] at hown
      go_wp2
      go_ret
      exact ⟨_, rfl, OK.of_row (flatMs_length l) hown, hb⟩

theorem eqMessage_same (x : Ms) (w : World) : Calls Try.prog 39 #[MsV x, MsV x] w (RetV w (.bool true)) := by
  obtain ⟨xt, xf, xo⟩ := x
  simp only [MsV]
  have hW : Below w.heap.size w ((w.alloc (.cells #[.int .i64 xt, .int .i64 xf, .int .i64 xo] 53)).alloc (.cells #[.int .i64 xt, .int .i64 xf, .int .i64 xo] 53)) := ((Below.refl _ _).alloc (Nat.le_refl _) _).alloc (by simp) _
  go_enter Try.func39, Try.ntmps39
  go_wp2_with fail
  go_ret
  exact ⟨rfl, hW⟩
theorem szMessageS_any (v : Value) (l : List Ms) (n : Int) (w : World) (h : RMsS w w.heap.size v l) (h0 : 0 ≤ n) (h1 : n ≤ 1048576) (h2 : l.length ≤ maxLen) :
    Calls Try.prog 9 #[v, .int .i64 n] w (RetV w (.int .i64 (if n < l.length then -1 else n - l.length))) := by
  obtain ⟨A, c, rfl, hfl, hlc, hc⟩ := h
  clear hc hfl
  unfold maxLen at h2
  have h3 : (l.length : Int) ≤ 9223372036854775807 := by omega
  rcases Int.lt_or_le n l.length with hlt | hlt
  · rw [if_pos hlt]
    have hneg : n - (l.length : Int) < 0 := by omega
    go_enter Try.func9, Try.ntmps9
    go_wp2
    go_ret
    exact ⟨rfl, Below.refl _ _⟩
  · rw [if_neg (by omega)]
    have hneg : 0 ≤ n - (l.length : Int) := by omega
    go_enter Try.func9, Try.ntmps9
    go_wp2
    go_ret
    exact ⟨rfl, Below.refl _ _⟩
set_option maxHeartbeats 1000000 in
theorem eqMessageS_same (v u : Value) (l : List Ms) (w : World) (h : RMsS w w.heap.size v l) (h' : RMsS w w.heap.size u l) (hn : l.length ≤ 1048576) :
    Calls Try.prog 15 #[v, u] w (RetV w (.bool true)) := by
  have h0 := h
  have h0' := h'
  obtain ⟨A, c, rfl, hfl, hlc, hc⟩ := h
  obtain ⟨A', c', rfl, hfl', hlc', hc'⟩ := h'
  clear hc hc'
  obtain ⟨_, _, _, hc⟩ := h0.parts
  obtain ⟨_, _, _, hc'⟩ := h0'.parts
  have hn' : (l.length : Int) ≤ 1048576 := by omega
  go_enter Try.func15, Try.ntmps15
  go_wp2
  go_loopw [5] (fun i wr => ∃ k : Nat, k ≤ l.length ∧ i = .int .i64 k ∧ Below w.heap.size w wr) (fun i _ => l.length - (intOf i).toNat)
  case atStart => exact ⟨0, Nat.zero_le _, rfl, Below.refl _ _⟩
  case round =>
    obtain ⟨k, hk, rfl, hb⟩ := hrel
    by_cases hlt : k < l.length
    · obtain ⟨b, off, rfl, hbB, hcell⟩ := hc (by omega)
      obtain ⟨b', off', rfl, hbB', hcell'⟩ := hc' (by omega)
      obtain ⟨hd0, hd1, hd2⟩ := hcell k hlt
      obtain ⟨he0, he1, he2⟩ := hcell' k hlt
      have hc0 := (hb.cell (p := ⟨b, off + k * 3, none⟩) hbB).trans hd0
      have hc1 := (hb.cell (p := ⟨b, off + k * 3 + 1, none⟩) hbB).trans hd1
      have hc2 := (hb.cell (p := ⟨b, off + k * 3 + 2, none⟩) hbB).trans hd2
      clear hd0 hd1 hd2
      have hf0 := (hb.cell (p := ⟨b', off' + k * 3, none⟩) hbB').trans he0
      have hf1 := (hb.cell (p := ⟨b', off' + k * 3 + 1, none⟩) hbB').trans he1
      have hf2 := (hb.cell (p := ⟨b', off' + k * 3 + 2, none⟩) hbB').trans he2
      clear he0 he1 he2
      generalize l[k]! = x at hc0 hc1 hc2 hf0 hf1 hf2
      have HE := Lib.hid (eqMessage_same x)
      obtain ⟨xt, xf, xo⟩ := x
      simp only [MsV] at hc0 hc1 hc2 hf0 hf1 hf2 HE
      have hi : (k : Int) < (l.length : Int) := by omega
      have HB := Lib.hid hb
      have HZ := Lib.hid (show b < wr.heap.size by have := hb.size; omega)
      have HZ' := Lib.hid (show b' < wr.heap.size by have := hb.size; omega)
      clear hb hc hc' hcell hcell' h0 h0' hfl hfl'
      go_upto_region 6 with fail
      go_region_held3 (fun w' => w'.cell? ⟨b, off + k * 3, none⟩ = some (.int .i64 xt) ∧ w'.cell? ⟨b, off + k * 3 + 1, none⟩ = some (.int .i64 xf) ∧ w'.cell? ⟨b, off + k * 3 + 2, none⟩ = some (.int .i64 xo) ∧ w'.cell? ⟨b', off' + k * 3, none⟩ = some (.int .i64 xt) ∧ w'.cell? ⟨b', off' + k * 3 + 1, none⟩ = some (.int .i64 xf) ∧ w'.cell? ⟨b', off' + k * 3 + 2, none⟩ = some (.int .i64 xo)) (with_reducible first | exact ⟨hc0, hc1, hc2, hf0, hf1, hf2⟩ | (refine ⟨?_, ?_, ?_, ?_, ?_, ?_⟩ <;> assumption) | go_keep)
        (first | (go_at_call 39; (with_reducible refine (HE.out _).mono ?_); rintro e w7 ⟨rfl, hb7⟩; have ia0 := (hb7.cell (p := ⟨b, off + k * 3, none⟩) HZ.out).trans hc0; have ia1 := (hb7.cell (p := ⟨b, off + k * 3 + 1, none⟩) HZ.out).trans hc1; have ia2 := (hb7.cell (p := ⟨b, off + k * 3 + 2, none⟩) HZ.out).trans hc2; have ib0 := (hb7.cell (p := ⟨b', off' + k * 3, none⟩) HZ'.out).trans hf0; have ib1 := (hb7.cell (p := ⟨b', off' + k * 3 + 1, none⟩) HZ'.out).trans hf1; have ib2 := (hb7.cell (p := ⟨b', off' + k * 3 + 2, none⟩) HZ'.out).trans hf2))
      · have HB7 := Lib.hid (HB.out.drew.trans (hb7.mono HB.out.size))
        clear hb7
        go_wp2_with fail
        go_roundw
        case rel => exact ⟨k + 1, by omega, by go_num, HB7.out⟩
        case measure => simp [intOf]; omega
    · obtain rfl : k = l.length := by omega
      go_wp2
      go_ret
      exact ⟨rfl, hb⟩

set_option maxHeartbeats 1000000 in
theorem markMessageS_any (lo hi : Nat) (v : Value) (l : List Ms) (m : Int) (w : World) (h : OMsS w lo hi v l) (hn : l.length ≤ 1048576) (hm : 0 ≤ m) (hm' : m ≤ 100000000) :
    Calls Try.prog 16 #[v, .int .i64 m] w fun e w' => e = .returned (.int .i64 (m + (l.length : Int) * 3)) ∧ OK 3 53 w' lo hi v l.length (marks m (l.length * 3)) ∧ Wr lo hi w w' := by
  have hn' : (l.length : Int) ≤ 1048576 := by omega
  have hfl := flatMs_length l
  rcases h with ⟨hl0, he, A, c, rfl, hcm⟩ | ⟨g, c, rfl, hg, hgh, _, hr⟩
  · rw [hl0]
    go_enter Try.func16, Try.ntmps16
    go_wp2
    go_loopw [1, 5] (fun u i wr => u = .int .i64 m ∧ i = .int .i64 0 ∧ wr = w) (fun _ _ _ => 0)
    case atStart => exact ⟨rfl, rfl, rfl⟩
    case round =>
      obtain ⟨rfl, rfl, rfl⟩ := hrel
      go_wp2
      go_ret
      exact ⟨by simp, .inl ⟨rfl, rfl, A, c, rfl, hcm⟩, Wr.refl _ _ _⟩
  · have hrow : w.ownsRow lo 53 3 (.slice (some ⟨g, 0, none⟩) l.length c) l.length (partMark (flatMs l) m (0 * 3)) := by rw [Nat.zero_mul, partMark_zero]; exact hr
    go_enter Try.func16, Try.ntmps16
    go_wp2
    go_loopw [1, 5] (fun u i wr => ∃ k : Nat, k ≤ l.length ∧ u = .int .i64 (m + (k : Int) * 3) ∧ i = .int .i64 k ∧ wr.ownsRow lo 53 3 (.slice (some ⟨g, 0, none⟩) l.length c) l.length (partMark (flatMs l) m (k * 3)) ∧ w.grownBy wr (some g))
      (fun _ i _ => l.length - (intOf i).toNat)
    case atStart => exact ⟨0, Nat.zero_le _, by simp, rfl, hrow, World.grownBy.refl _ _⟩
    case round =>
      obtain ⟨k, hk, rfl, rfl, hown, hb⟩ := hrel
      by_cases hkl : k < l.length
      · have hpl : (partMark (flatMs l) m (k * 3)).length = l.length * 3 := hown.1
        have hz0 : ∃ u, wr.cell? ⟨g, k * 3, none⟩ = some u := by
          rw [World.ownsRow.cellAt hown (k * 3) (by omega)]
          exact ⟨_, List.getElem?_eq_getElem (by omega)⟩
        obtain ⟨u0_, hz0⟩ := hz0
        have hz1 : ∃ u, wr.cell? ⟨g, k * 3 + 1, none⟩ = some u := by
          rw [World.ownsRow.cellAt hown (k * 3 + 1) (by omega)]
          exact ⟨_, List.getElem?_eq_getElem (by omega)⟩
        obtain ⟨u1_, hz1⟩ := hz1
        have hz2 : ∃ u, wr.cell? ⟨g, k * 3 + 2, none⟩ = some u := by
          rw [World.ownsRow.cellAt hown (k * 3 + 2) (by omega)]
          exact ⟨_, List.getElem?_eq_getElem (by omega)⟩
        obtain ⟨u2_, hz2⟩ := hz2
        have hfz0 := World.ownsRow.frozenAt hown (k * 3)
        have hfz1 := World.ownsRow.frozenAt hown (k * 3 + 1)
        have hfz2 := World.ownsRow.frozenAt hown (k * 3 + 2)
        have hst0 := World.ownsRow.stored hown (k * 3) (.int .i64 (m + (k : Int) * 3))
        rw [show (m + (k : Int) * 3) = m + ((k * 3 : Nat) : Int) from by omega, partMark_succ _ m (k * 3) (by omega), show m + ((k * 3 : Nat) : Int) = (m + (k : Int) * 3) from by omega] at hst0
        have hst1 := World.ownsRow.stored hst0.1 (k * 3 + 1) (.int .i64 (m + (k : Int) * 3 + 1))
        rw [show (m + (k : Int) * 3 + 1) = m + ((k * 3 + 1 : Nat) : Int) from by omega, partMark_succ _ m (k * 3 + 1) (by omega), show m + ((k * 3 + 1 : Nat) : Int) = (m + (k : Int) * 3 + 1) from by omega] at hst1
        have hst2 := World.ownsRow.stored hst1.1 (k * 3 + 2) (.int .i64 (m + (k : Int) * 3 + 1 + 1))
        rw [show (m + (k : Int) * 3 + 1 + 1) = m + ((k * 3 + 2 : Nat) : Int) from by omega, partMark_succ _ m (k * 3 + 2) (by omega), show m + ((k * 3 + 2 : Nat) : Int) = (m + (k : Int) * 3 + 1 + 1) from by omega] at hst2
        have hi : (k : Int) < (l.length : Int) := by omega
        have HS1 := Lib.hid hst2.1
        have HB2 := Lib.hid (grown_trans (grown_trans (grown_trans (hb) hst0.2) hst1.2) hst2.2)
        clear hown hst0 hst1 hst2 hb hpl hfl
        go_wp2_with fail
        go_roundw
        case rel => exact ⟨k + 1, by omega, by go_num, by go_num, by have := HS1.out; rw [show (k + 1) * 3 = k * 3 + 1 + 1 + 1 from by omega]; exact this, HB2.out⟩
        case measure => simp [intOf]; omega
      · obtain rfl : k = l.length := by omega
        rw [← hfl, partMark_all, hfl] at hown
        go_wp2
        go_ret
        exact ⟨rfl, .inr ⟨g, c, rfl, hg, hgh, by rw [marks_length], hown⟩, Wr.of_row hb hg hgh⟩

end Go.Proofs.Ytfphkgialmjfnaa
