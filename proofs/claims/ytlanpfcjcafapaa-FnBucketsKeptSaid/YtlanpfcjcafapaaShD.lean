/-
  Chapter 8: the contracts of KeepsBoth, LeastRate and JoinBuckets, both sides.
-/
import Derived.Test.YtlanpfcjcafapaaShC
import Derived.Test.YtlanpfcjcafapaaSBucket
namespace Go.Proofs.Ytlanpfcjcafapaa
open Go.RowKit
set_option maxRecDepth 100000
set_option linter.unusedVariables false

set_option maxHeartbeats 1000000 in
theorem implKeepsBoth_any (v : Value) (x y : Bu) (l : List Int) (w : World) (h : RI w w.heap.size v l) (hn : l.length ≤ 1048576) :
    Calls Try.prog 47 #[BuV x, BuV y, v] w (RetV w (.tuple #[.bool (bothSays x y l).1, .bool (bothSays x y l).2])) := by
  have HA : Hid (∀ w', Below w.heap.size w w' → Calls Try.prog 73 #[BuV x, v] w' (RetV w' (.bool (askOk x l)))) := fun w' hb => implAsk_any x v l w' ((h.below hb).more hb.size) hn
  have HB : Hid (∀ w', Below w.heap.size w w' → Calls Try.prog 39 #[BuV y] w' (RetV w' (.bool (buOk y)))) := fun w' hb => implBucket_any y w'
  have HC : Hid (buOk x = true → trOk l = true → ∀ w', Below w.heap.size w w' → Calls Try.prog 74 #[BuV x, v] w' (RetV w' (.bool (kpN x l l.length)))) := fun hx hl w' hb => keepsBucket_any v x l w' ((h.below hb).more hb.size) hx hl
  have HD : Hid (buOk y = true → trOk l = true → ∀ w', Below w.heap.size w w' → Calls Try.prog 74 #[BuV y, v] w' (RetV w' (.bool (kpN y l l.length)))) := fun hx hl w' hb => keepsBucket_any v y l w' ((h.below hb).more hb.size) hx hl
  have hsz : (w.alloc (.cells #[.int .i64 x.r, .int .i64 x.d] 36)).heap.size = w.heap.size + 1 := by simp
  have hW : Below w.heap.size w ((w.alloc (.cells #[.int .i64 x.r, .int .i64 x.d] 36)).alloc (.cells #[.int .i64 y.r, .int .i64 y.d] 36)) := ((Below.refl _ _).alloc (Nat.le_refl _) _).alloc (by rw [hsz]; omega) _
  have p0 := (BK.made w 36 #[.int .i64 x.r, .int .i64 x.d]).alloc (.cells #[.int .i64 y.r, .int .i64 y.d] 36)
  have q0 := BK.made (w.alloc (.cells #[.int .i64 x.r, .int .i64 x.d] 36)) 36 #[.int .i64 y.r, .int .i64 y.d]
  rw [hsz] at q0
  have hsays : bothSays x y l = if (askOk x l && buOk y) = true then (kpN x l l.length && kpN y l l.length, true) else (false, false) := by unfold bothSays askOk; cases buOk x <;> cases buOk y <;> cases trOk l <;> rfl
  have hyes : askOk x l = true → buOk y = true → buOk x = true ∧ buOk y = true ∧ trOk l = true := by unfold askOk; cases buOk x <;> cases buOk y <;> cases trOk l <;> simp
  rw [hsays]
  clear h hsays hsz
  cases g1 : askOk x l
  · rw [g1] at HA
    clear hyes HB HC HD g1
    obtain ⟨xr, xd⟩ := x
    obtain ⟨yr, yd⟩ := y
    simp only [BuV] at *
    go_enter Try.func47, Try.ntmps47
    go_wp2_with fail
    refine ((HA.out _ hW)).mono ?_; rintro e w1 ⟨rfl, hb1⟩
    have t1 := hW.trans (hb1.mono hW.size)
    have p1 := p0.step hb1
    have q1 := q0.step hb1
    have c1_0 := p1.cell 0
    have c1_1 := p1.cell 1
    have c1_2 := q1.cell 0
    have c1_3 := q1.cell 1
    simp at c1_0 c1_1 c1_2 c1_3
    go_wp2_with fail
    go_ret2
    exact ⟨rfl, t1⟩
  cases g2 : buOk y
  · rw [g1] at HA
    rw [g2] at HB
    clear hyes HC HD g1 g2
    obtain ⟨xr, xd⟩ := x
    obtain ⟨yr, yd⟩ := y
    simp only [BuV] at *
    go_enter Try.func47, Try.ntmps47
    go_wp2_with fail
    refine ((HA.out _ hW)).mono ?_; rintro e w1 ⟨rfl, hb1⟩
    have t1 := hW.trans (hb1.mono hW.size)
    have p1 := p0.step hb1
    have q1 := q0.step hb1
    have c1_0 := p1.cell 0
    have c1_1 := p1.cell 1
    have c1_2 := q1.cell 0
    have c1_3 := q1.cell 1
    simp at c1_0 c1_1 c1_2 c1_3
    go_wp2_with fail
    refine ((HB.out _ t1)).mono ?_; rintro e w2 ⟨rfl, hb2⟩
    have t2 := t1.trans (hb2.mono t1.size)
    have p2 := p1.step hb2
    have q2 := q1.step hb2
    clear c1_0 c1_1 c1_2 c1_3 p1 q1
    have c2_0 := p2.cell 0
    have c2_1 := p2.cell 1
    have c2_2 := q2.cell 0
    have c2_3 := q2.cell 1
    simp at c2_0 c2_1 c2_2 c2_3
    go_wp2_with fail
    go_ret2
    exact ⟨rfl, t2⟩
  have hy := hyes g1 g2
  have HC := Lib.hid (HC.out hy.1 hy.2.2)
  have HD := Lib.hid (HD.out hy.2.1 hy.2.2)
  rw [g1] at HA
  rw [g2] at HB
  rw [show (if (true && true) = true then (kpN x l l.length && kpN y l l.length, true) else (false, false)) = (kpN x l l.length && kpN y l l.length, true) from rfl]
  simp only
  clear hyes hy g1 g2
  generalize kpN y l l.length = b4 at HD ⊢
  cases g3 : kpN x l l.length
  · rw [g3] at HC
    clear HD g3
    obtain ⟨xr, xd⟩ := x
    obtain ⟨yr, yd⟩ := y
    simp only [BuV] at *
    go_enter Try.func47, Try.ntmps47
    go_wp2_with fail
    refine ((HA.out _ hW)).mono ?_; rintro e w1 ⟨rfl, hb1⟩
    have t1 := hW.trans (hb1.mono hW.size)
    have p1 := p0.step hb1
    have q1 := q0.step hb1
    have c1_0 := p1.cell 0
    have c1_1 := p1.cell 1
    have c1_2 := q1.cell 0
    have c1_3 := q1.cell 1
    simp at c1_0 c1_1 c1_2 c1_3
    go_wp2_with fail
    refine ((HB.out _ t1)).mono ?_; rintro e w2 ⟨rfl, hb2⟩
    have t2 := t1.trans (hb2.mono t1.size)
    have p2 := p1.step hb2
    have q2 := q1.step hb2
    clear c1_0 c1_1 c1_2 c1_3 p1 q1
    have c2_0 := p2.cell 0
    have c2_1 := p2.cell 1
    have c2_2 := q2.cell 0
    have c2_3 := q2.cell 1
    simp at c2_0 c2_1 c2_2 c2_3
    go_wp2_with fail
    refine ((HC.out _ t2)).mono ?_; rintro e w3 ⟨rfl, hb3⟩
    have t3 := t2.trans (hb3.mono t2.size)
    have p3 := p2.step hb3
    have q3 := q2.step hb3
    clear c2_0 c2_1 c2_2 c2_3 p2 q2
    have c3_0 := p3.cell 0
    have c3_1 := p3.cell 1
    have c3_2 := q3.cell 0
    have c3_3 := q3.cell 1
    simp at c3_0 c3_1 c3_2 c3_3
    go_wp2_with fail
    go_ret2
    exact ⟨rfl, t3⟩
  · rw [g3] at HC
    clear g3
    obtain ⟨xr, xd⟩ := x
    obtain ⟨yr, yd⟩ := y
    simp only [BuV] at *
    go_enter Try.func47, Try.ntmps47
    go_wp2_with fail
    refine ((HA.out _ hW)).mono ?_; rintro e w1 ⟨rfl, hb1⟩
    have t1 := hW.trans (hb1.mono hW.size)
    have p1 := p0.step hb1
    have q1 := q0.step hb1
    have c1_0 := p1.cell 0
    have c1_1 := p1.cell 1
    have c1_2 := q1.cell 0
    have c1_3 := q1.cell 1
    simp at c1_0 c1_1 c1_2 c1_3
    go_wp2_with fail
    refine ((HB.out _ t1)).mono ?_; rintro e w2 ⟨rfl, hb2⟩
    have t2 := t1.trans (hb2.mono t1.size)
    have p2 := p1.step hb2
    have q2 := q1.step hb2
    clear c1_0 c1_1 c1_2 c1_3 p1 q1
    have c2_0 := p2.cell 0
    have c2_1 := p2.cell 1
    have c2_2 := q2.cell 0
    have c2_3 := q2.cell 1
    simp at c2_0 c2_1 c2_2 c2_3
    go_wp2_with fail
    refine ((HC.out _ t2)).mono ?_; rintro e w3 ⟨rfl, hb3⟩
    have t3 := t2.trans (hb3.mono t2.size)
    have p3 := p2.step hb3
    have q3 := q2.step hb3
    clear c2_0 c2_1 c2_2 c2_3 p2 q2
    have c3_0 := p3.cell 0
    have c3_1 := p3.cell 1
    have c3_2 := q3.cell 0
    have c3_3 := q3.cell 1
    simp at c3_0 c3_1 c3_2 c3_3
    go_wp2_with fail
    refine ((HD.out _ t3)).mono ?_; rintro e w4 ⟨rfl, hb4⟩
    have t4 := t3.trans (hb4.mono t3.size)
    have p4 := p3.step hb4
    have q4 := q3.step hb4
    clear c3_0 c3_1 c3_2 c3_3 p3 q3
    have c4_0 := p4.cell 0
    have c4_1 := p4.cell 1
    have c4_2 := q4.cell 0
    have c4_3 := q4.cell 1
    simp at c4_0 c4_1 c4_2 c4_3
    go_wp2_with fail
    go_ret2
    exact ⟨rfl, t4⟩
set_option maxHeartbeats 1000000 in
theorem specKeepsBoth_any (v : Value) (x y : Bu) (l : List Int) (w : World) (h : RI w w.heap.size v l) (hn : l.length ≤ 1048576) :
    Calls Try.prog 48 #[BuV x, BuV y, v] w (RetV w (.tuple #[.bool (bothSays x y l).1, .bool (bothSays x y l).2])) := by
  have HA : Hid (∀ w', Below w.heap.size w w' → Calls Try.prog 79 #[BuV x] w' (RetV w' (.bool (buOk x)))) := fun w' hb => shBucket_any x w'
  have HB : Hid (∀ w', Below w.heap.size w w' → Calls Try.prog 88 #[BuV y, v] w' (RetV w' (.bool (askOk y l)))) := fun w' hb => shAsk_any y v l w' ((h.below hb).more hb.size) hn
  have HC : Hid (buOk x = true → trOk l = true → ∀ w', Below w.heap.size w w' → Calls Try.prog 90 #[BuV x, v] w' (RetV w' (.bool (kpN x l l.length)))) := fun hx hl w' hb => shKeeps_any v x l w' ((h.below hb).more hb.size) hx hl
  have HD : Hid (buOk y = true → trOk l = true → ∀ w', Below w.heap.size w w' → Calls Try.prog 90 #[BuV y, v] w' (RetV w' (.bool (kpN y l l.length)))) := fun hx hl w' hb => shKeeps_any v y l w' ((h.below hb).more hb.size) hx hl
  have hsz : (w.alloc (.cells #[.int .i64 x.r, .int .i64 x.d] 36)).heap.size = w.heap.size + 1 := by simp
  have hW : Below w.heap.size w ((w.alloc (.cells #[.int .i64 x.r, .int .i64 x.d] 36)).alloc (.cells #[.int .i64 y.r, .int .i64 y.d] 36)) := ((Below.refl _ _).alloc (Nat.le_refl _) _).alloc (by rw [hsz]; omega) _
  have p0 := (BK.made w 36 #[.int .i64 x.r, .int .i64 x.d]).alloc (.cells #[.int .i64 y.r, .int .i64 y.d] 36)
  have q0 := BK.made (w.alloc (.cells #[.int .i64 x.r, .int .i64 x.d] 36)) 36 #[.int .i64 y.r, .int .i64 y.d]
  rw [hsz] at q0
  have hsays : bothSays x y l = if (buOk x && askOk y l) = true then (kpN x l l.length && kpN y l l.length, true) else (false, false) := by unfold bothSays askOk; cases buOk x <;> cases buOk y <;> cases trOk l <;> rfl
  have hyes : buOk x = true → askOk y l = true → buOk x = true ∧ buOk y = true ∧ trOk l = true := by unfold askOk; cases buOk x <;> cases buOk y <;> cases trOk l <;> simp
  rw [hsays]
  clear h hsays hsz
  cases g1 : buOk x
  · rw [g1] at HA
    clear hyes HB HC HD g1
    obtain ⟨xr, xd⟩ := x
    obtain ⟨yr, yd⟩ := y
    simp only [BuV] at *
    go_enter Try.func48, Try.ntmps48
    go_wp2_with fail
    refine ((HA.out _ hW)).mono ?_; rintro e w1 ⟨rfl, hb1⟩
    have t1 := hW.trans (hb1.mono hW.size)
    have p1 := p0.step hb1
    have q1 := q0.step hb1
    have c1_0 := p1.cell 0
    have c1_1 := p1.cell 1
    have c1_2 := q1.cell 0
    have c1_3 := q1.cell 1
    simp at c1_0 c1_1 c1_2 c1_3
    go_wp2_with fail
    go_ret2
    exact ⟨rfl, t1⟩
  cases g2 : askOk y l
  · rw [g1] at HA
    rw [g2] at HB
    clear hyes HC HD g1 g2
    obtain ⟨xr, xd⟩ := x
    obtain ⟨yr, yd⟩ := y
    simp only [BuV] at *
    go_enter Try.func48, Try.ntmps48
    go_wp2_with fail
    refine ((HA.out _ hW)).mono ?_; rintro e w1 ⟨rfl, hb1⟩
    have t1 := hW.trans (hb1.mono hW.size)
    have p1 := p0.step hb1
    have q1 := q0.step hb1
    have c1_0 := p1.cell 0
    have c1_1 := p1.cell 1
    have c1_2 := q1.cell 0
    have c1_3 := q1.cell 1
    simp at c1_0 c1_1 c1_2 c1_3
    go_wp2_with fail
    refine ((HB.out _ t1)).mono ?_; rintro e w2 ⟨rfl, hb2⟩
    have t2 := t1.trans (hb2.mono t1.size)
    have p2 := p1.step hb2
    have q2 := q1.step hb2
    clear c1_0 c1_1 c1_2 c1_3 p1 q1
    have c2_0 := p2.cell 0
    have c2_1 := p2.cell 1
    have c2_2 := q2.cell 0
    have c2_3 := q2.cell 1
    simp at c2_0 c2_1 c2_2 c2_3
    go_wp2_with fail
    go_ret2
    exact ⟨rfl, t2⟩
  have hy := hyes g1 g2
  have HC := Lib.hid (HC.out hy.1 hy.2.2)
  have HD := Lib.hid (HD.out hy.2.1 hy.2.2)
  rw [g1] at HA
  rw [g2] at HB
  rw [show (if (true && true) = true then (kpN x l l.length && kpN y l l.length, true) else (false, false)) = (kpN x l l.length && kpN y l l.length, true) from rfl]
  simp only
  clear hyes hy g1 g2
  generalize kpN y l l.length = b4 at HD ⊢
  cases g3 : kpN x l l.length
  · rw [g3] at HC
    clear HD g3
    obtain ⟨xr, xd⟩ := x
    obtain ⟨yr, yd⟩ := y
    simp only [BuV] at *
    go_enter Try.func48, Try.ntmps48
    go_wp2_with fail
    refine ((HA.out _ hW)).mono ?_; rintro e w1 ⟨rfl, hb1⟩
    have t1 := hW.trans (hb1.mono hW.size)
    have p1 := p0.step hb1
    have q1 := q0.step hb1
    have c1_0 := p1.cell 0
    have c1_1 := p1.cell 1
    have c1_2 := q1.cell 0
    have c1_3 := q1.cell 1
    simp at c1_0 c1_1 c1_2 c1_3
    go_wp2_with fail
    refine ((HB.out _ t1)).mono ?_; rintro e w2 ⟨rfl, hb2⟩
    have t2 := t1.trans (hb2.mono t1.size)
    have p2 := p1.step hb2
    have q2 := q1.step hb2
    clear c1_0 c1_1 c1_2 c1_3 p1 q1
    have c2_0 := p2.cell 0
    have c2_1 := p2.cell 1
    have c2_2 := q2.cell 0
    have c2_3 := q2.cell 1
    simp at c2_0 c2_1 c2_2 c2_3
    go_wp2_with fail
    refine ((HC.out _ t2)).mono ?_; rintro e w3 ⟨rfl, hb3⟩
    have t3 := t2.trans (hb3.mono t2.size)
    have p3 := p2.step hb3
    have q3 := q2.step hb3
    clear c2_0 c2_1 c2_2 c2_3 p2 q2
    have c3_0 := p3.cell 0
    have c3_1 := p3.cell 1
    have c3_2 := q3.cell 0
    have c3_3 := q3.cell 1
    simp at c3_0 c3_1 c3_2 c3_3
    go_wp2_with fail
    go_ret2
    exact ⟨rfl, t3⟩
  · rw [g3] at HC
    clear g3
    obtain ⟨xr, xd⟩ := x
    obtain ⟨yr, yd⟩ := y
    simp only [BuV] at *
    go_enter Try.func48, Try.ntmps48
    go_wp2_with fail
    refine ((HA.out _ hW)).mono ?_; rintro e w1 ⟨rfl, hb1⟩
    have t1 := hW.trans (hb1.mono hW.size)
    have p1 := p0.step hb1
    have q1 := q0.step hb1
    have c1_0 := p1.cell 0
    have c1_1 := p1.cell 1
    have c1_2 := q1.cell 0
    have c1_3 := q1.cell 1
    simp at c1_0 c1_1 c1_2 c1_3
    go_wp2_with fail
    refine ((HB.out _ t1)).mono ?_; rintro e w2 ⟨rfl, hb2⟩
    have t2 := t1.trans (hb2.mono t1.size)
    have p2 := p1.step hb2
    have q2 := q1.step hb2
    clear c1_0 c1_1 c1_2 c1_3 p1 q1
    have c2_0 := p2.cell 0
    have c2_1 := p2.cell 1
    have c2_2 := q2.cell 0
    have c2_3 := q2.cell 1
    simp at c2_0 c2_1 c2_2 c2_3
    go_wp2_with fail
    refine ((HC.out _ t2)).mono ?_; rintro e w3 ⟨rfl, hb3⟩
    have t3 := t2.trans (hb3.mono t2.size)
    have p3 := p2.step hb3
    have q3 := q2.step hb3
    clear c2_0 c2_1 c2_2 c2_3 p2 q2
    have c3_0 := p3.cell 0
    have c3_1 := p3.cell 1
    have c3_2 := q3.cell 0
    have c3_3 := q3.cell 1
    simp at c3_0 c3_1 c3_2 c3_3
    go_wp2_with fail
    refine ((HD.out _ t3)).mono ?_; rintro e w4 ⟨rfl, hb4⟩
    have t4 := t3.trans (hb4.mono t3.size)
    have p4 := p3.step hb4
    have q4 := q3.step hb4
    clear c3_0 c3_1 c3_2 c3_3 p3 q3
    have c4_0 := p4.cell 0
    have c4_1 := p4.cell 1
    have c4_2 := q4.cell 0
    have c4_3 := q4.cell 1
    simp at c4_0 c4_1 c4_2 c4_3
    go_wp2_with fail
    go_ret2
    exact ⟨rfl, t4⟩
set_option maxHeartbeats 1000000 in
theorem implLeastRate_any (v : Value) (d : Int) (l : List Int) (w : World) (h : RI w w.heap.size v l) (hn : l.length ≤ 1048576) (hx : (Lit.int .i64 d).wf = true) :
    Calls Try.prog 44 #[.int .i64 d, v] w (RetV w (.tuple #[.int .i64 (rateSays d l).1, .bool (rateSays d l).2])) := by
  have H1 : Hid (∀ w, Calls Try.prog 76 #[.int .i64 d] w fun e w' => e = .returned (.bool (wi d 1 1000)) ∧ w = w') := fun w => implDepth_any d w
  have H2 := Lib.hid (implTraffic_any v l w h hn)
  have HK : Hid (wi d 1 1000 = true → trOk l = true → ∀ (k : Nat) w', k < 100 → Below w.heap.size w w' → Calls Try.prog 74 #[.agg #[.int .i64 ((k : Int) + 1), .int .i64 d], v] w' (RetV w' (.bool (kpN ⟨(k : Int) + 1, d⟩ l l.length)))) := by
    show _ → _ → _
    intro hd hl k w' hk hb
    exact keepsBucket_any v ⟨(k : Int) + 1, d⟩ l w' ((h.below hb).more hb.size) (by simp [wi] at hd; simp [buOk, wi]; omega) hl
  clear h hx
  cases g1 : wi d 1 1000
  · rw [show rateSays d l = (0, false) from by simp [rateSays, g1]]
    rw [g1] at H1
    clear HK g1
    go_enter Try.func44, Try.ntmps44
    go_wp2_with fail
    refine (H1.out _).mono ?_; rintro e w' ⟨rfl, rfl⟩
    go_wp2_with fail
    go_ret2
    exact ⟨rfl, Below.refl _ _⟩
  cases g2 : trOk l
  · rw [show rateSays d l = (0, false) from by simp [rateSays, g2]]
    rw [g1] at H1
    rw [g2] at H2
    clear HK g1 g2
    go_enter Try.func44, Try.ntmps44
    go_wp2_with fail
    refine (H1.out _).mono ?_; rintro e w' ⟨rfl, rfl⟩
    go_wp2_with fail
    refine H2.out.mono ?_; rintro e w' ⟨rfl, rfl⟩
    go_wp2_with fail
    go_ret2
    exact ⟨rfl, Below.refl _ _⟩
  have HK := Lib.hid (HK.out g1 g2)
  rw [show rateSays d l = optN (rateN d l 0 100) from by simp [rateSays, g1, g2]]
  rw [g1] at H1
  rw [g2] at H2
  clear g1 g2
  obtain ⟨R, hR⟩ : ∃ R, R = rateN d l 0 100 := ⟨_, rfl⟩
  rw [← hR]
  have HR := Lib.hid hR
  clear hR
  go_enter Try.func44, Try.ntmps44
  go_wp2_with fail
  refine (H1.out _).mono ?_; rintro e w' ⟨rfl, rfl⟩
  go_wp2_with fail
  refine H2.out.mono ?_; rintro e w' ⟨rfl, rfl⟩
  go_wp2_with fail
  go_loopg [6] 100 (fun g s6 wx => ∃ k : Nat, k + g = 100 ∧ s6 = .int .i64 ((k : Int) + 1) ∧ R = rateN d l k g ∧ Below w.heap.size w wx)
  case atStart => exact ⟨0, by omega, rfl, HR.out, Below.refl _ _⟩
  case round =>
    obtain ⟨k, hkg, rfl, hr, hb⟩ := hrel
    have HB := Lib.hid hb
    have HRR := Lib.hid hr
    clear hr hb
    cases gk with
    | zero =>
      obtain rfl : k = 100 := by omega
      go_wp2_with fail
      refine (implRate_any _ _).mono ?_; rintro e w' ⟨rfl, rfl⟩
      rw [show wi _ 1 100 = false from by simp [wi]]
      go_wp2_with fail
      go_ret2
      rw [HRR.out]
      exact ⟨rfl, HB.out⟩
    | succ g =>
      have hk : (k : Int) + 1 ≤ 100 := by omega
      have HC := Lib.hid (HK.out k wr (by omega) HB.out)
      cases g3 : kpN ⟨(k : Int) + 1, d⟩ l l.length
      · have HN : Hid (R = rateN d l (k + 1) g) := by show _ = _; rw [HRR.out, rateN, if_neg (by rw [g3]; simp)]
        rw [g3] at HC
        clear g3
        go_wp2_with fail
        refine (implRate_any _ _).mono ?_; rintro e w' ⟨rfl, rfl⟩
        rw [show wi ((k : Int) + 1) 1 100 = true from by simp [wi]; omega]
        go_wp2_with fail
        refine HC.out.mono ?_; rintro e w1 ⟨rfl, hb1⟩
        have HB1 := Lib.hid (HB.out.trans (hb1.mono HB.out.size))
        clear hb1
        go_wp2_with fail
        go_roundg g
        case measure => omega
        case rel => exact ⟨k + 1, by omega, by go_num, HN.out, HB1.out⟩
      · have HN : Hid (R = some (k + 1)) := by show _ = _; rw [HRR.out, rateN, if_pos g3]
        rw [g3] at HC
        clear g3
        go_wp2_with fail
        refine (implRate_any _ _).mono ?_; rintro e w' ⟨rfl, rfl⟩
        rw [show wi ((k : Int) + 1) 1 100 = true from by simp [wi]; omega]
        go_wp2_with fail
        refine HC.out.mono ?_; rintro e w1 ⟨rfl, hb1⟩
        have HB1 := Lib.hid (HB.out.trans (hb1.mono HB.out.size))
        clear hb1
        go_wp2_with fail
        go_ret2
        rw [HN.out]
        exact ⟨by simp [optN], HB1.out⟩
set_option maxHeartbeats 1000000 in
theorem specLeastRate_any (v : Value) (d : Int) (l : List Int) (w : World) (h : RI w w.heap.size v l) (hn : l.length ≤ 1048576) (hx : (Lit.int .i64 d).wf = true) :
    Calls Try.prog 45 #[.int .i64 d, v] w (RetV w (.tuple #[.int .i64 (rateSays d l).1, .bool (rateSays d l).2])) := by
  have H1 : Hid (∀ w, Calls Try.prog 85 #[.int .i64 d, .int .i64 1, .int .i64 1000] w fun e w' => e = .returned (.bool (wi d 1 1000)) ∧ w = w') := fun w => l1In_wi d 1 1000 w
  have H2 := Lib.hid (shTraffic_any v l w h hn)
  have HK : Hid (wi d 1 1000 = true → trOk l = true → ∀ (k : Nat) w', k < 100 → Below w.heap.size w w' → Calls Try.prog 90 #[.agg #[.int .i64 ((k : Int) + 1), .int .i64 d], v] w' (RetV w' (.bool (kpN ⟨(k : Int) + 1, d⟩ l l.length)))) := by
    show _ → _ → _
    intro hd hl k w' hk hb
    exact shKeeps_any v ⟨(k : Int) + 1, d⟩ l w' ((h.below hb).more hb.size) (by simp [wi] at hd; simp [buOk, wi]; omega) hl
  clear h hx
  cases g1 : wi d 1 1000
  · rw [show rateSays d l = (0, false) from by simp [rateSays, g1]]
    rw [g1] at H1
    clear HK g1
    go_enter Try.func45, Try.ntmps45
    go_wp2_with fail
    refine (H1.out _).mono ?_; rintro e w' ⟨rfl, rfl⟩
    go_wp2_with fail
    go_ret2
    exact ⟨rfl, Below.refl _ _⟩
  cases g2 : trOk l
  · rw [show rateSays d l = (0, false) from by simp [rateSays, g2]]
    rw [g1] at H1
    rw [g2] at H2
    clear HK g1 g2
    go_enter Try.func45, Try.ntmps45
    go_wp2_with fail
    refine (H1.out _).mono ?_; rintro e w' ⟨rfl, rfl⟩
    go_wp2_with fail
    refine H2.out.mono ?_; rintro e w' ⟨rfl, rfl⟩
    go_wp2_with fail
    go_ret2
    exact ⟨rfl, Below.refl _ _⟩
  have HK := Lib.hid (HK.out g1 g2)
  rw [show rateSays d l = optN (rateN d l 0 100) from by simp [rateSays, g1, g2]]
  rw [g1] at H1
  rw [g2] at H2
  clear g1 g2
  obtain ⟨R, hR⟩ : ∃ R, R = rateN d l 0 100 := ⟨_, rfl⟩
  rw [← hR]
  have HR := Lib.hid hR
  clear hR
  go_enter Try.func45, Try.ntmps45
  go_wp2_with fail
  refine (H1.out _).mono ?_; rintro e w' ⟨rfl, rfl⟩
  go_wp2_with fail
  refine H2.out.mono ?_; rintro e w' ⟨rfl, rfl⟩
  go_wp2_with fail
  go_loopg [6] 100 (fun g s6 wx => ∃ k : Nat, k + g = 100 ∧ s6 = .int .i64 ((k : Int) + 1) ∧ R = rateN d l k g ∧ Below w.heap.size w wx)
  case atStart => exact ⟨0, by omega, rfl, HR.out, Below.refl _ _⟩
  case round =>
    obtain ⟨k, hkg, rfl, hr, hb⟩ := hrel
    have HB := Lib.hid hb
    have HRR := Lib.hid hr
    clear hr hb
    cases gk with
    | zero =>
      obtain rfl : k = 100 := by omega
      go_wp2_with fail
      go_ret2
      rw [HRR.out]
      exact ⟨rfl, HB.out⟩
    | succ g =>
      have hk : (k : Int) + 1 ≤ 100 := by omega
      have HC := Lib.hid (HK.out k wr (by omega) HB.out)
      cases g3 : kpN ⟨(k : Int) + 1, d⟩ l l.length
      · have HN : Hid (R = rateN d l (k + 1) g) := by show _ = _; rw [HRR.out, rateN, if_neg (by rw [g3]; simp)]
        rw [g3] at HC
        clear g3
        go_wp2_with fail
        refine HC.out.mono ?_; rintro e w1 ⟨rfl, hb1⟩
        have HB1 := Lib.hid (HB.out.trans (hb1.mono HB.out.size))
        clear hb1
        go_wp2_with fail
        go_roundg g
        case measure => omega
        case rel => exact ⟨k + 1, by omega, by go_num, HN.out, HB1.out⟩
      · have HN : Hid (R = some (k + 1)) := by show _ = _; rw [HRR.out, rateN, if_pos g3]
        rw [g3] at HC
        clear g3
        go_wp2_with fail
        refine HC.out.mono ?_; rintro e w1 ⟨rfl, hb1⟩
        have HB1 := Lib.hid (HB.out.trans (hb1.mono HB.out.size))
        clear hb1
        go_wp2_with fail
        go_ret2
        rw [HN.out]
        exact ⟨by simp [optN], HB1.out⟩
end Go.Proofs.Ytlanpfcjcafapaa
