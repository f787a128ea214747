/-
  The draws of FnTrafficAdded: two of traffic, two buckets, one bucket, traffic alone.
-/
import Derived.Test.YtfncajdhdcpooaaDoorCurT
namespace Go.Proofs.YtfncajdhdcpooaaDoor
open Go.RowKit
set_option maxRecDepth 100000
set_option linter.unusedVariables false

def RetDrawJoinBuckets (w : World) (e : Ending) (w' : World) : Prop := ∃ (x0 : Bu) (x1 : Bu), e = .returned (.tuple #[BuV x0, BuV x1]) ∧ Below w.heap.size w w'
set_option maxHeartbeats 2000000 in
theorem drawJoinBuckets_any (v : Value) (n : Nat) (w : World) (h : RB w w.heap.size v n) (hn : n ≤ 1048576) :
    Calls Tryd.prog 10 #[v] w (RetDrawJoinBuckets w) := by
  have b0_0 := BK.made w 32 #[.int .i64 0, .int .i64 0]
  have b1_0 := BK.made (w.alloc (.cells #[.int .i64 0, .int .i64 0] 32)) 32 #[.int .i64 0, .int .i64 0]
  rw [World.size_alloc] at b1_0
  have b0_0 := b0_0.alloc (.cells #[.int .i64 0, .int .i64 0] 32)
  have hA : Below w.heap.size w ((w.alloc (.cells #[.int .i64 0, .int .i64 0] 32)).alloc (.cells #[.int .i64 0, .int .i64 0] 32)) := ((Below.refl _ _).alloc (Nat.le_refl _) _).alloc (by simp) _
  have h0 := CurAt.made ((h.below hA).more hA.size)
  have eG : ((w.alloc (.cells #[.int .i64 0, .int .i64 0] 32)).alloc (.cells #[.int .i64 0, .int .i64 0] 32)).heap.size = w.heap.size + 1 + 1 := by simp
  rw [eG] at h0
  clear eG
  obtain ⟨A, c, rfl, hlc, hc⟩ := h
  clear hc
  have b0_0 := b0_0.alloc (.cells #[.slice A n c, .int .i64 0, .int .u64 0] 49)
  have b1_0 := b1_0.alloc (.cells #[.slice A n c, .int .i64 0, .int .u64 0] 49)
  have t0 : Below w.heap.size w (((w.alloc (.cells #[.int .i64 0, .int .i64 0] 32)).alloc (.cells #[.int .i64 0, .int .i64 0] 32)).alloc (.cells #[.slice A n c, .int .i64 0, .int .u64 0] 49)) := hA.alloc hA.size _
  have z0 : w.heap.size + 3 ≤ (((w.alloc (.cells #[.int .i64 0, .int .i64 0] 32)).alloc (.cells #[.int .i64 0, .int .i64 0] 32)).alloc (.cells #[.slice A n c, .int .i64 0, .int .u64 0] 49)).heap.size := by simp
  clear hA
  go_enter Tryd.func10, Tryd.ntmps10
  go_wp2_with fail
  refine (curBu_any (w.heap.size + 1 + 1) _ n _ _ h0 (by omega) hn).mono ?_; rintro e w1 ⟨x0, rfl, h1, g1⟩
  obtain ⟨x0a, x0b⟩ := x0
  simp only [BuV]
  have z1 := g1.size
  have t1 := t0.trans (g1.below (B := w.heap.size) (by omega) (by omega))
  have b0_1 := b0_0.far g1 (.inl (by omega))
  have b1_1 := b1_0.far g1 (.inl (by omega))
  clear b0_0 b1_0 g1 h0
  go_wp2_with fail
  refine (curBu_any (w.heap.size + 1 + 1) _ n _ _ h1 (by omega) hn).mono ?_; rintro e w2 ⟨x1, rfl, h2, g2⟩
  obtain ⟨x1a, x1b⟩ := x1
  simp only [BuV]
  have z2 := g2.size
  have t2 := t1.trans (g2.below (B := w.heap.size) (by omega) (by omega))
  have b0_2 := b0_1.far g2 (.inl (by omega))
  have b1_2 := b1_1.far g2 (.inl (by omega))
  clear b0_1 b1_1 g2 h1
  have c00 := b0_2.cell 0
  have f00 := b0_2.free 0
  have c01 := b0_2.cell 1
  have f01 := b0_2.free 1
  have c10 := b1_2.cell 0
  have f10 := b1_2.free 0
  have c11 := b1_2.cell 1
  have f11 := b1_2.free 1
  simp at c00 c01 c10 c11
  go_wp2_with fail
  have gz : Wr w.heap.size (w.heap.size + 2) w2 ((((w2.setCell ⟨w.heap.size, 0, none⟩ (.int .i64 x0a)).setCell ⟨w.heap.size, 1, none⟩ (.int .i64 x0b)).setCell ⟨w.heap.size + 1, 0, none⟩ (.int .i64 x1a)).setCell ⟨w.heap.size + 1, 1, none⟩ (.int .i64 x1b)) := (((((Wr.refl w.heap.size (w.heap.size + 2) w2).setCell (p := ⟨w.heap.size, 0, none⟩) (by simp) (by simp) (.int .i64 x0a)).setCell (p := ⟨w.heap.size, 1, none⟩) (by simp) (by simp) (.int .i64 x0b)).setCell (p := ⟨w.heap.size + 1, 0, none⟩) (by simp) (by simp) (.int .i64 x1a)).setCell (p := ⟨w.heap.size + 1, 1, none⟩) (by simp) (by simp) (.int .i64 x1b))
  refine bodyPost_ret (v := .tuple #[BuV ⟨x0a, x0b⟩, BuV ⟨x1a, x1b⟩]) (by simp [results, Tryd.results10, go_sem, BuV, c00, c01, c10, c11]) rfl ⟨⟨x0a, x0b⟩, ⟨x1a, x1b⟩, rfl, t2.trans (gz.below (Nat.le_refl _) (by omega))⟩
def RetDrawIsBucket (w : World) (e : Ending) (w' : World) : Prop := ∃ (x0 : Bu), e = .returned (BuV x0) ∧ Below w.heap.size w w'
set_option maxHeartbeats 2000000 in
theorem drawIsBucket_any (v : Value) (n : Nat) (w : World) (h : RB w w.heap.size v n) (hn : n ≤ 1048576) :
    Calls Tryd.prog 22 #[v] w (RetDrawIsBucket w) := by
  have b0_0 := BK.made w 32 #[.int .i64 0, .int .i64 0]
  have hA : Below w.heap.size w (w.alloc (.cells #[.int .i64 0, .int .i64 0] 32)) := (Below.refl _ _).alloc (Nat.le_refl _) _
  have h0 := CurAt.made ((h.below hA).more hA.size)
  have eG : (w.alloc (.cells #[.int .i64 0, .int .i64 0] 32)).heap.size = w.heap.size + 1 := by simp
  rw [eG] at h0
  clear eG
  obtain ⟨A, c, rfl, hlc, hc⟩ := h
  clear hc
  have b0_0 := b0_0.alloc (.cells #[.slice A n c, .int .i64 0, .int .u64 0] 49)
  have t0 : Below w.heap.size w ((w.alloc (.cells #[.int .i64 0, .int .i64 0] 32)).alloc (.cells #[.slice A n c, .int .i64 0, .int .u64 0] 49)) := hA.alloc hA.size _
  have z0 : w.heap.size + 2 ≤ ((w.alloc (.cells #[.int .i64 0, .int .i64 0] 32)).alloc (.cells #[.slice A n c, .int .i64 0, .int .u64 0] 49)).heap.size := by simp
  clear hA
  go_enter Tryd.func22, Tryd.ntmps22
  go_wp2_with fail
  refine (curBu_any (w.heap.size + 1) _ n _ _ h0 (by omega) hn).mono ?_; rintro e w1 ⟨x0, rfl, h1, g1⟩
  obtain ⟨x0a, x0b⟩ := x0
  simp only [BuV]
  have z1 := g1.size
  have t1 := t0.trans (g1.below (B := w.heap.size) (by omega) (by omega))
  have b0_1 := b0_0.far g1 (.inl (by omega))
  clear b0_0 g1 h0
  have c00 := b0_1.cell 0
  have f00 := b0_1.free 0
  have c01 := b0_1.cell 1
  have f01 := b0_1.free 1
  simp at c00 c01
  go_wp2_with fail
  have gz : Wr w.heap.size (w.heap.size + 1) w1 ((w1.setCell ⟨w.heap.size, 0, none⟩ (.int .i64 x0a)).setCell ⟨w.heap.size, 1, none⟩ (.int .i64 x0b)) := (((Wr.refl w.heap.size (w.heap.size + 1) w1).setCell (p := ⟨w.heap.size, 0, none⟩) (by simp) (by simp) (.int .i64 x0a)).setCell (p := ⟨w.heap.size, 1, none⟩) (by simp) (by simp) (.int .i64 x0b))
  refine bodyPost_ret (v := BuV ⟨x0a, x0b⟩) (by simp [results, Tryd.results22, go_sem, BuV, c00, c01]) rfl ⟨⟨x0a, x0b⟩, rfl, t1.trans (gz.below (Nat.le_refl _) (by omega))⟩
def RetTr9 (w : World) (e : Ending) (w' : World) : Prop := ∃ (u : Value) (l : List Int), e = .returned u ∧ l.length ≤ 41 ∧ OI 3 w' w.heap.size w'.heap.size u l ∧ Below w.heap.size w w'
theorem drawIsTraffic_any (v : Value) (n : Nat) (w : World) (h : RB w w.heap.size v n) (hn : n ≤ 1048576) : Calls Tryd.prog 32 #[v] w (RetTr9 w) := by
  have h0 := CurAt.made h
  obtain ⟨A, c, rfl, hlc, hc⟩ := h
  clear hc
  have t0 : Below w.heap.size w (w.alloc (.cells #[.slice A n c, .int .i64 0, .int .u64 0] 49)) := (Below.refl _ _).alloc (Nat.le_refl _) _
  have z0 : w.heap.size + 1 ≤ (w.alloc (.cells #[.slice A n c, .int .i64 0, .int .u64 0] 49)).heap.size := by simp
  go_enter Tryd.func32, Tryd.ntmps32
  go_wp2_with fail
  refine (curTr_any (w.heap.size) _ n _ _ h0 (by omega) hn).mono ?_; rintro e w1 ⟨u, l, rfl, hl, o1, h1, g1⟩
  have z1 := g1.size
  have t1 := t0.trans (g1.below (B := w.heap.size) (by omega) (by omega))
  go_wp2_with fail
  go_ret
  exact ⟨u, l, rfl, hl, o1.wide (by omega) (Nat.le_refl _), t1⟩
theorem drawWindowsOf_any (v : Value) (n : Nat) (w : World) (h : RB w w.heap.size v n) (hn : n ≤ 1048576) : Calls Tryd.prog 14 #[v] w (RetTr9 w) := by
  have H := Lib.hid (drawIsTraffic_any v n w h hn)
  go_enter Tryd.func14, Tryd.ntmps14
  go_wp2_with fail
  refine H.out.mono ?_; rintro e w1 ⟨u, l, rfl, hl, o1, t1⟩
  go_wp2_with fail
  go_ret
  exact ⟨u, l, rfl, hl, o1, t1⟩
def RetTr2 (w : World) (e : Ending) (w' : World) : Prop := ∃ (u u' : Value) (l l' : List Int), e = .returned (.tuple #[u, u']) ∧ l.length ≤ 41 ∧ l'.length ≤ 41 ∧ OI 3 w' w.heap.size w'.heap.size u l ∧ OI 3 w' w.heap.size w'.heap.size u' l' ∧ Below w.heap.size w w'
theorem drawAddTraffic_any (v : Value) (n : Nat) (w : World) (h : RB w w.heap.size v n) (hn : n ≤ 1048576) : Calls Tryd.prog 5 #[v] w (RetTr2 w) := by
  have h0 := CurAt.made h
  obtain ⟨A, c, rfl, hlc, hc⟩ := h
  clear hc
  have t0 : Below w.heap.size w (w.alloc (.cells #[.slice A n c, .int .i64 0, .int .u64 0] 49)) := (Below.refl _ _).alloc (Nat.le_refl _) _
  have z0 : w.heap.size + 1 ≤ (w.alloc (.cells #[.slice A n c, .int .i64 0, .int .u64 0] 49)).heap.size := by simp
  go_enter Tryd.func5, Tryd.ntmps5
  go_wp2_with fail
  refine (curTr_any (w.heap.size) _ n _ _ h0 (by omega) hn).mono ?_; rintro e w1 ⟨u, l, rfl, hl, o1, h1, g1⟩
  have z1 := g1.size
  have t1 := t0.trans (g1.below (B := w.heap.size) (by omega) (by omega))
  go_wp2_with fail
  refine (curTr_any (w.heap.size) _ n _ _ h1 (by omega) hn).mono ?_; rintro e w2 ⟨u', l', rfl, hl', o2, h2, g2⟩
  have z2 := g2.size
  have t2 := t1.trans (g2.below (B := w.heap.size) (by omega) (by omega))
  have o3 := o1.far g2 (.inr (by omega))
  go_wp2_with fail
  go_ret2
  exact ⟨u, u', l, l', rfl, hl, hl', o3.wide (by omega) (by omega), o2.wide (by omega) (Nat.le_refl _), t2⟩
end Go.Proofs.YtfncajdhdcpooaaDoor
