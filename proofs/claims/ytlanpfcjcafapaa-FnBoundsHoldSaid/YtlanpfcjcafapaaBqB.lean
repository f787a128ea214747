/-
  Chapter 9: the recovered door, and ServedBy: the program.
-/
import Derived.Test.YtlanpfcjcafapaaBqA
import Derived.Defers
import Derived.Recover
import Derived.Laws.Pointers
namespace Go.Proofs.Ytlanpfcjcafapaa
open Go.RowKit
set_option maxRecDepth 100000
set_option linter.unusedVariables false

theorem assertB_is (b : Int) (w : World) : (Instr.typeAssert (.iface 100 (.agg #[.int .i64 b])) 20 100 true).run Try.prog w = .ok (.tuple #[.agg #[.int .i64 b], .bool true]) w := by kernel_rfl
theorem assertB_not (w : World) : (Instr.typeAssert .nilIface 20 100 true).run Try.prog w = .ok (.tuple #[.agg #[.int .i64 0], .bool false]) w := by kernel_rfl
set_option maxHeartbeats 1000000 in
theorem doorPanic_any (g h : Nat) (b : Int) (w : World) (c0 : w.cell? ⟨g, 0, none⟩ = some (.int .i64 0)) (c1 : w.cell? ⟨h, 0, none⟩ = some (.bool false)) (z0 : w.frozen? ⟨g, 0, none⟩ = false) (z1 : w.frozen? ⟨h, 0, none⟩ = false) (hgh : g ≠ h) (hg : g < w.heap.size) (hh : h < w.heap.size) :
    CallsD Try.prog 100 #[.pointer (some ⟨g, 0, none⟩), .pointer (some ⟨h, 0, none⟩)] (.panicking [{ v := .iface 100 (.agg #[.int .i64 b]), recovered := false }]) w fun e u' w' =>
      e = .returned (.tuple #[]) ∧ u' = .panicking [{ v := .iface 100 (.agg #[.int .i64 b]), recovered := true }] ∧ w' = ((w.alloc (.cells #[.int .i64 b] 100)).setCell ⟨g, 0, none⟩ (.int .i64 b)).setCell ⟨h, 0, none⟩ (.bool true) := by
  refine callsD_of_wpS Try.func100 rfl fun c₀ cs hu => ?_
  apply wpS_seq
  apply wpS_region
  simp [wpOpsS, go_sem, recoverD, hu, Try.ntmps100, Exit.thenS, assertB_is, Array.replicate]
  have hA : Below w.heap.size w (w.alloc (.cells #[.int .i64 b] 100)) := (Below.refl _ _).alloc (Nat.le_refl _) _
  have d0 := (hA.cell (p := ⟨g, 0, none⟩) hg).trans c0
  have d1 := (hA.cell (p := ⟨h, 0, none⟩) hh).trans c1
  have y0 := (World.frozen?_alloc_old w (.cells #[.int .i64 b] 100) ⟨g, 0, none⟩ (by simp <;> omega)).trans z0
  have y1 := (World.frozen?_alloc_old w (.cells #[.int .i64 b] 100) ⟨h, 0, none⟩ (by simp <;> omega)).trans z1
  have dn := (BK.made w 100 #[.int .i64 b]).cell 0
  simp at dn
  have hhg : h ≠ g := fun e => hgh e.symm
  have d2 : ((w.alloc (.cells #[.int .i64 b] 100)).setCell ⟨g, 0, none⟩ (.int .i64 b)).cell? ⟨h, 0, none⟩ = some (.bool false) := by rw [World.cell?_setCell_other _ _ _ _ (by first | omega | (simp <;> omega))]; exact d1
  have y2 : ((w.alloc (.cells #[.int .i64 b] 100)).setCell ⟨g, 0, none⟩ (.int .i64 b)).frozen? ⟨h, 0, none⟩ = false := by rw [World.frozen?_setCell]; exact y1
  apply wpS_seq
  apply wpS_region
  simp [wpOpsS, go_sem, Exit.thenS]
  refine wpS_cond (t := true) (by simp [Act.eval]) ?_
  simp only [if_true]
  apply wpS_region
  simp [wpOpsS, go_sem, d0, y0, d2, y2, bodyPostS, results, Try.results100]
set_option maxHeartbeats 1000000 in
theorem doorIdle_any (g h : Nat) (w : World) :
    CallsD Try.prog 100 #[.pointer (some ⟨g, 0, none⟩), .pointer (some ⟨h, 0, none⟩)] .returning w fun e u' w' =>
      e = .returned (.tuple #[]) ∧ u' = .returning ∧ w' = w.alloc (.cells #[.int .i64 0] 100) := by
  refine callsD_of_wpS Try.func100 rfl fun c₀ cs hu => ?_
  apply wpS_seq
  apply wpS_region
  simp [wpOpsS, go_sem, recoverD, hu, Try.ntmps100, Exit.thenS, assertB_not, Array.replicate]
  apply wpS_seq
  apply wpS_region
  simp [wpOpsS, go_sem, Exit.thenS]
  refine wpS_cond (t := false) (by simp [Act.eval]) ?_
  simp only [Bool.false_eq_true, if_false]
  refine wpS_of_wp (wp_skip ?_)
  cases c₀
  simp_all [bodyPostS, results, Try.results100]
theorem sends_any (sn tb : Nat) (w : World) (v : Value) (x : Sv) (l : List Int) (hi : SvI w sn w.heap.size x 0 []) (hc : w.cell? ⟨tb, 0, none⟩ = some v) (h : RI w sn v l) (hx : svOk x = true) (hl : trOk l = true) :
    Calls Try.prog 62 #[.pointer (some ⟨sn, 0, none⟩), .pointer (some ⟨tb, 0, none⟩)] w (SrvE w sn x l) := by
  have H1 := Lib.hid (serve_any sn w v x l hi h hx hl)
  obtain ⟨A, c, rfl, _, _⟩ := h
  obtain ⟨POST, hP⟩ : ∃ P, P = SrvE w sn x l := ⟨_, rfl⟩
  have HPO := Lib.hid hP
  rw [← hP]
  rw [← hP] at H1
  clear hP hi hl hx
  go_enter Try.func62, Try.ntmps62
  go_wp2_with fail
  refine H1.out.mono ?_; intro e w2 h2
  have h3 := h2
  rw [HPO.out] at h3
  rcases h3.2 with ⟨n, b, hr, rfl, hi⟩ | ⟨b, hr, hb, rfl⟩
  · go_wp2_with fail
    go_end0
    exact h2
  · unfold fellB at h2 ⊢
    exact ⟨rfl, h2⟩
/-- What the door leaves. -/
def DoorE (w : World) (sn : Nat) (x : Sv) (l : List Int) (e : Ending) (w' : World) : Prop :=
  Wr sn (sn + 1) w w' ∧ ((∃ n b, svRg x l = some n ∧ e = .returned (.tuple #[.int .i64 0, .bool true]) ∧ SvI w' sn w.heap.size x b (svT x l n)) ∨ (∃ b, svRg x l = none ∧ 0 < b ∧ e = .returned (.tuple #[.int .i64 b, .bool true])))
theorem Acc.lower {E : TypeId} {w : World} {lo lo' : Nat} {v : Value} {l : List Int} (h : Acc E w lo v l) (hl : lo' ≤ lo) : Acc E w lo' v l := by
  rcases h.2 with ⟨rfl, hn⟩ | ⟨g, c, cur, rfl, hg1, h2⟩
  · exact ⟨h.1, .inl ⟨rfl, hn⟩⟩
  · exact ⟨h.1, .inr ⟨g, c, cur, rfl, by omega, h2⟩⟩
theorem door_out {sn : Nat} {w w0 w2 W4 : World} (hsn : sn < w.heap.size) (h1 : Below w.heap.size w w0) (hs : w0.heap.size = w.heap.size + 2) (h2 : Wr sn (sn + 1) w0 w2) (h3 : Wr w.heap.size (w.heap.size + 2) w2 W4) :
    Wr sn (sn + 1) w W4 ∧ ∀ x b L, SvI w2 sn w0.heap.size x b L → SvI W4 sn w.heap.size x b L := by
  refine ⟨⟨h3.os.trans (h2.os.trans h1.os), h3.tape.trans (h2.tape.trans h1.tape), h3.output.trans (h2.output.trans h1.output), Nat.le_trans h1.size (Nat.le_trans h2.size h3.size), fun k hk hn => ?_⟩, ?_⟩
  · have e1 := h1.size
    have e2 := h2.size
    exact (h3.block k (by omega) (.inl hk)).trans ((h2.block k (by omega) hn).trans (h1.block k hk))
  · rintro x b L ⟨_, u, hb, ha⟩
    exact ⟨hsn, u, hb.far h3 (.inl hsn), (ha.far9 h3 (by omega)).lower (by omega)⟩
set_option maxHeartbeats 1000000 in
theorem leftAtDoor_any (sn tb : Nat) (w : World) (v : Value) (x : Sv) (l : List Int) (hi : BK w sn 72 #[.int .i64 x.r, .int .i64 x.l, .slice none 0 0, .int .i64 0]) (hc : w.cell? ⟨tb, 0, none⟩ = some v) (ht : tb < sn) (h : RI w sn v l) (hx : svOk x = true) (hl : trOk l = true) :
    Calls Try.prog 61 #[.func (.func 62) #[] #[.pointer (some ⟨sn, 0, none⟩), .pointer (some ⟨tb, 0, none⟩)]] w (DoorE w sn x l) := by
  have hmf : ∀ (fn : Fn) (first cap : Array Value) (w : World), (Instr.makeFunc fn first cap).run Try.prog w = .ok (.func fn first cap) w := fun _ _ _ _ => rfl
  have hsn := hi.1
  have hs1 : (w.alloc (.cells #[.int .i64 0] 3)).heap.size = w.heap.size + 1 := by simp
  have hW : Below w.heap.size w ((w.alloc (.cells #[.int .i64 0] 3)).alloc (.cells #[.bool false] 4)) := ((Below.refl _ _).alloc (Nat.le_refl _) _).alloc (by rw [hs1]; omega) _
  have g0 := (BK.made w 3 #[.int .i64 0]).alloc (.cells #[.bool false] 4)
  have h0 := BK.made (w.alloc (.cells #[.int .i64 0] 3)) 4 #[.bool false]
  rw [hs1] at h0
  obtain ⟨w0, hw0⟩ : ∃ w0, w0 = (w.alloc (.cells #[.int .i64 0] 3)).alloc (.cells #[.bool false] 4) := ⟨_, rfl⟩
  have hs2 : w0.heap.size = w.heap.size + 2 := by rw [hw0]; simp
  rw [← hw0] at hW g0 h0
  have H1 : Hid (Calls Try.prog 62 #[.pointer (some ⟨sn, 0, none⟩), .pointer (some ⟨tb, 0, none⟩)] w0 (SrvE w0 sn x l)) :=
    sends_any sn tb w0 v x l ⟨by omega, _, hi.step hW, Acc.nil _ _ _⟩ ((hW.cell (p := ⟨tb, 0, none⟩) (by simp <;> omega)).trans hc) (h.step hW (by omega)) hx hl
  have HW0 := Lib.hid hw0
  have HG0 := Lib.hid g0
  have HH0 := Lib.hid h0
  have HS2 := Lib.hid hs2
  have HSN := Lib.hid hsn
  have HWW := Lib.hid hW
  obtain ⟨POST, hP⟩ : ∃ P, P = DoorE w sn x l := ⟨_, rfl⟩
  have HPO := Lib.hid hP
  rw [← hP]
  clear hP hi hl hx h hc hW g0 h0 hs1 hs2 hsn hw0
  go_enter_defers Try.func61, Try.ntmps61
  go_wp2_with fail
  rw [← HW0.out]
  refine H1.out.mono ?_; intro e w2 h2
  obtain ⟨hw2, h3⟩ := h2
  have g2 := HG0.out.far hw2 (.inr (by have := HSN.out; omega))
  have k2 := HH0.out.far hw2 (.inr (by have := HSN.out; omega))
  have HW2 := Lib.hid hw2
  have HOUT := Lib.hid fun (W4 : World) (hw : Wr w.heap.size (w.heap.size + 2) w2 W4) => door_out HSN.out HWW.out HS2.out HW2.out hw
  clear hw2
  have c0 := g2.cell 0
  have c1 := k2.cell 0
  have z0 := g2.free 0
  have z1 := k2.free 0
  simp at c0 c1
  rcases h3 with ⟨n, b, hr, rfl, hi⟩ | ⟨b, hr, hb, rfl⟩
  · have HI := Lib.hid hi
    clear hi
    have g3 := (g2.put 0 (.int .i64 0)).far ((Wr.refl (w.heap.size + 1) (w.heap.size + 2) _).setCell (p := ⟨w.heap.size + 1, 0, none⟩) (Nat.le_refl _) (Nat.lt_succ_self _) (.bool true)) (.inl (Nat.lt_succ_self _))
    have k3 := ((k2.far ((Wr.refl w.heap.size (w.heap.size + 1) w2).setCell (p := ⟨w.heap.size, 0, none⟩) (Nat.le_refl _) (Nat.lt_succ_self _) (.int .i64 0)) (.inr (Nat.le_refl _))).put 0 (.bool true))
    have d0 := (g3.alloc (.cells #[.int .i64 0] 100)).cell 0
    have d1 := (k3.alloc (.cells #[.int .i64 0] 100)).cell 0
    simp at d0 d1
    have HWR := Lib.hid ((((Wr.refl w.heap.size (w.heap.size + 2) w2).setCell (p := ⟨w.heap.size, 0, none⟩) (Nat.le_refl _) (Nat.lt_add_of_pos_right (by omega)) (.int .i64 0)).setCell (p := ⟨w.heap.size + 1, 0, none⟩) (Nat.le_succ _) (Nat.lt_succ_self _) (.bool true)).trans (Wr.of_below ((Below.refl _ _).alloc (Nat.le_refl _) (.cells #[.int .i64 0] 100)) _ _))
    clear g2 k2 g3 k3
    go_wp2_with fail
    refine leaves_cons (f := 100) (args := #[.pointer (some ⟨w.heap.size, 0, none⟩), .pointer (some ⟨w.heap.size + 1, 0, none⟩)]) (by simp) (by simp [go_sem]) ?_
    refine (doorIdle_any _ _ _).mono ?_
    rintro e u' w'' ⟨rfl, rfl, rfl⟩
    simp [Leaves, settle, results, Try.results61, go_sem, d0, d1]
    rw [HPO.out]
    exact ⟨(HOUT.out _ HWR.out).1, .inl ⟨n, b, hr, rfl, (HOUT.out _ HWR.out).2 _ _ _ HI.out⟩⟩
  · have hA : Below w2.heap.size w2 (w2.alloc (.cells #[.int .i64 b] 100)) := (Below.refl _ _).alloc (Nat.le_refl _) _
    have g3 := ((g2.step hA).put 0 (.int .i64 b)).far ((Wr.refl (w.heap.size + 1) (w.heap.size + 2) _).setCell (p := ⟨w.heap.size + 1, 0, none⟩) (Nat.le_refl _) (Nat.lt_succ_self _) (.bool true)) (.inl (Nat.lt_succ_self _))
    have k3 := (((k2.step hA).far ((Wr.refl w.heap.size (w.heap.size + 1) _).setCell (p := ⟨w.heap.size, 0, none⟩) (Nat.le_refl _) (Nat.lt_succ_self _) (.int .i64 b)) (.inr (Nat.le_refl _))).put 0 (.bool true))
    have d0 := g3.cell 0
    have d1 := k3.cell 0
    simp at d0 d1
    have HWR := Lib.hid (((Wr.of_below hA w.heap.size (w.heap.size + 2)).setCell (p := ⟨w.heap.size, 0, none⟩) (Nat.le_refl _) (Nat.lt_add_of_pos_right (by omega)) (.int .i64 b)).setCell (p := ⟨w.heap.size + 1, 0, none⟩) (Nat.le_succ _) (Nat.lt_succ_self _) (.bool true))
    have hl1 := g2.1
    have hl2 := k2.1
    clear g2 k2 g3 k3
    unfold fellB
    refine leaves_cons (f := 100) (args := #[.pointer (some ⟨w.heap.size, 0, none⟩), .pointer (some ⟨w.heap.size + 1, 0, none⟩)]) (by simp) (by simp [go_sem]) ?_
    refine (doorPanic_any _ _ b _ c0 c1 z0 z1 (by omega) hl1 hl2).mono ?_
    rintro e u' w'' ⟨rfl, rfl, rfl⟩
    simp [Leaves, settle, results, Try.results61, go_sem, d0, d1]
    rw [HPO.out]
    exact ⟨(HOUT.out _ HWR.out).1, .inr ⟨b, hr, hb, rfl⟩⟩
end Go.Proofs.Ytlanpfcjcafapaa
