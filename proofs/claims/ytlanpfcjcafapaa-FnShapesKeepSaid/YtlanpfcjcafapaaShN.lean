/-
  Chapter 8: the contracts of ShapeOf and LeakOf, both sides.
-/
import Derived.Test.YtlanpfcjcafapaaShL
import Derived.Test.YtlanpfcjcafapaaShM
namespace Go.Proofs.Ytlanpfcjcafapaa
open Go.RowKit
set_option maxRecDepth 100000
set_option linter.unusedVariables false

set_option maxHeartbeats 1000000 in
theorem implShapeOf_any (v : Value) (x : Bu) (l : List Int) (w : World) (h : RI w w.heap.size v l) (hn : l.length ≤ 1048576) :
    Calls Try.prog 50 #[BuV x, v] w (RetLB 3 w (shpSays x l).1 (shpSays x l).2) := by
  have H1 : Hid (∀ w', Below w.heap.size w w' → Calls Try.prog 73 #[BuV x, v] w' (RetV w' (.bool (askOk x l)))) := fun w' hb => implAsk_any x v l w' ((h.below hb).more hb.size) hn
  cases hg : askOk x l
  · rw [show shpSays x l = ([], false) from by simp [shpSays, hg]]
    rw [hg] at H1
    clear h hg
    obtain ⟨r, d⟩ := x
    simp only [BuV] at H1 ⊢
    have hW : Below w.heap.size w (w.alloc (.cells #[.int .i64 r, .int .i64 d] 36)) := (Below.refl _ _).alloc (Nat.le_refl _) _
    go_enter Try.func50, Try.ntmps50
    go_wp2_with fail
    refine (H1.out _ hW).mono ?_; rintro e w1 ⟨rfl, hb⟩
    have hT := hW.trans (hb.mono hW.size)
    go_wp2_with fail
    go_ret2
    exact ⟨_, rfl, .inl ⟨rfl, none, 0, rfl, by simp, fun _ => rfl⟩, hT⟩
  have hq := askOk_in hg
  rw [show shpSays x l = outO x l (snRg x l) from by simp [shpSays, hg]]
  rw [hg] at H1

  have H2 := Lib.hid fun w => permitsOf_any x w
  have H3 : Hid (∀ W pn pb, Below w.heap.size w W → PM W pn pb x x.d → w.heap.size ≤ pn → Calls Try.prog 97 #[permitV pn pb, v] W fun e w' => ∃ u, e = .returned (.tuple #[u, .bool (outO x l (snRg x l)).2]) ∧ OI 3 w' W.heap.size w'.heap.size u (outO x l (snRg x l)).1 ∧ Wr pn (pn + 1) W w') :=
    fun W pn pb hb hp hB => sentBy_any v pn pb w.heap.size x l W (h.below hb) hp hB hq.1 hq.2
  generalize outO x l (snRg x l) = RR at H3 ⊢
  obtain ⟨L, bb⟩ := RR
  simp only at H3 ⊢
  obtain ⟨r, d, hrd⟩ : ∃ r d, x = ⟨r, d⟩ := ⟨x.r, x.d, rfl⟩
  have hBV : BuV x = .agg #[.int .i64 r, .int .i64 d] := by rw [hrd]; rfl
  rw [hBV] at H1 H2 ⊢
  have hW : Below w.heap.size w (w.alloc (.cells #[.int .i64 r, .int .i64 d] 36)) := (Below.refl _ _).alloc (Nat.le_refl _) _
  have hbk := BK.made w 36 #[.int .i64 r, .int .i64 d]
  clear h hg hq hrd hBV
  go_enter Try.func50, Try.ntmps50
  go_wp2_with fail
  refine (H1.out _ hW).mono ?_; rintro e w1 ⟨rfl, hb⟩
  have hT := hW.trans (hb.mono hW.size)
  have hbk1 := hbk.step hb
  have c0 := hbk1.cell 0
  have c1 := hbk1.cell 1
  simp at c0 c1
  have HT := Lib.hid hT
  clear hbk hbk1 hb hT
  go_wp2_with fail
  refine (H2.out _).mono ?_; rintro e w2 ⟨pn, pb, rfl, hpn, hpb, hpm, hb2⟩
  have HT2 := Lib.hid (HT.out.trans (hb2.mono HT.out.size))
  have HPN : Hid (w.heap.size ≤ pn) := Nat.le_trans HT.out.size hpn
  have HC := Lib.hid (H3.out w2 pn pb HT2.out hpm HPN.out)
  clear hpn hpb hpm hb2
  go_wp2_with fail
  refine HC.out.mono ?_; rintro e w3 ⟨u, rfl, ho, hw3⟩
  have HT3 := Lib.hid (HT2.out.trans (hw3.below HPN.out HT2.out.size))
  have HO := Lib.hid (ho.wide HT2.out.size (Nat.le_refl _))
  clear hw3 ho
  go_wp2_with fail
  go_ret2
  exact ⟨_, rfl, HO.out, HT3.out⟩
set_option maxHeartbeats 1000000 in
theorem specShapeOf_any (v : Value) (x : Bu) (l : List Int) (w : World) (h : RI w w.heap.size v l) (hn : l.length ≤ 1048576) :
    Calls Try.prog 51 #[BuV x, v] w (RetLB 3 w (shpSays x l).1 (shpSays x l).2) := by
  have H1 : Hid (∀ w', Below w.heap.size w w' → Calls Try.prog 88 #[BuV x, v] w' (RetV w' (.bool (askOk x l)))) := fun w' hb => shAsk_any x v l w' ((h.below hb).more hb.size) hn
  cases hg : askOk x l
  · rw [show shpSays x l = ([], false) from by simp [shpSays, hg]]
    rw [hg] at H1
    clear h hg
    obtain ⟨r, d⟩ := x
    simp only [BuV] at H1 ⊢
    have hW : Below w.heap.size w (w.alloc (.cells #[.int .i64 r, .int .i64 d] 36)) := (Below.refl _ _).alloc (Nat.le_refl _) _
    go_enter Try.func51, Try.ntmps51
    go_wp2_with fail
    refine (H1.out _ hW).mono ?_; rintro e w1 ⟨rfl, hb⟩
    have hT := hW.trans (hb.mono hW.size)
    go_wp2_with fail
    go_ret2
    exact ⟨_, rfl, .inl ⟨rfl, none, 0, rfl, by simp, fun _ => rfl⟩, hT⟩
  have hq := askOk_in hg
  rw [show shpSays x l = outO x l (snRg x l) from by simp [shpSays, hg]]
  rw [hg] at H1

  have H2 : Hid (∀ W, Below w.heap.size w W → Calls Try.prog 99 #[.int .i64 x.r, .int .i64 x.d, v] W fun e w' => ∃ u1 u2, e = .returned (.tuple #[u1, u2, .bool (outO x l (snRg x l)).2]) ∧ OI 3 w' W.heap.size w'.heap.size u1 (outO x l (snRg x l)).1 ∧ OI 3 w' W.heap.size w'.heap.size u2 (outB x l (snRg x l)) ∧ Below W.heap.size W w') :=
    fun W hb => shSend_any v x l W ((h.below hb).more hb.size) hq.1 hq.2
  generalize outB x l (snRg x l) = LB at H2
  generalize outO x l (snRg x l) = RR at H2 ⊢
  obtain ⟨L, bb⟩ := RR
  simp only at H2 ⊢
  clear h hg hq
  obtain ⟨r, d⟩ := x
  simp only [BuV] at H1 H2 ⊢
  have hW : Below w.heap.size w (w.alloc (.cells #[.int .i64 r, .int .i64 d] 36)) := (Below.refl _ _).alloc (Nat.le_refl _) _
  have hbk := BK.made w 36 #[.int .i64 r, .int .i64 d]
  go_enter Try.func51, Try.ntmps51
  go_wp2_with fail
  refine (H1.out _ hW).mono ?_; rintro e w1 ⟨rfl, hb⟩
  have hT := hW.trans (hb.mono hW.size)
  have hbk1 := hbk.step hb
  have c0 := hbk1.cell 0
  have c1 := hbk1.cell 1
  simp at c0 c1
  have HT := Lib.hid hT
  clear hbk hbk1 hb hT
  go_wp2_with fail
  refine (H2.out _ HT.out).mono ?_; rintro e w2 ⟨u1, u2, rfl, ho1, ho2, hb2⟩
  have HT2 := Lib.hid (HT.out.trans (hb2.mono HT.out.size))
  have HO := Lib.hid (ho1.wide HT.out.size (Nat.le_refl _))
  clear ho1 ho2 hb2
  go_wp2_with fail
  go_ret2
  exact ⟨_, rfl, HO.out, HT2.out⟩
set_option maxHeartbeats 1000000 in
theorem implLeakOf_any (v : Value) (r : Int) (l : List Int) (w : World) (h : RI w w.heap.size v l) (hn : l.length ≤ 1048576) (hx : (Lit.int .i64 r).wf = true) :
    Calls Try.prog 57 #[.int .i64 r, v] w (RetLB 3 w (leakSays r l).1 (leakSays r l).2) := by
  have H1 := Lib.hid (implRate_any r w)
  have H2 := Lib.hid (implTraffic_any v l w h hn)
  cases g1 : wi r 1 100
  · rw [show leakSays r l = ([], false) from by simp [leakSays, g1]]
    rw [g1] at H1
    clear g1 h
    go_enter Try.func57, Try.ntmps57
    go_wp2_with fail
    refine H1.out.mono ?_; rintro e w' ⟨rfl, rfl⟩
    go_wp2_with fail
    go_ret2
    exact ⟨_, rfl, .inl ⟨rfl, none, 0, rfl, by simp, fun _ => rfl⟩, Below.refl _ _⟩
  cases hq : trOk l
  · rw [show leakSays r l = ([], false) from by simp [leakSays, hq]]
    rw [g1] at H1
    rw [hq] at H2
    clear g1 hq h
    go_enter Try.func57, Try.ntmps57
    go_wp2_with fail
    refine H1.out.mono ?_; rintro e w' ⟨rfl, rfl⟩
    go_wp2_with fail
    refine H2.out.mono ?_; rintro e w' ⟨rfl, rfl⟩
    go_wp2_with fail
    go_ret2
    exact ⟨_, rfl, .inl ⟨rfl, none, 0, rfl, by simp, fun _ => rfl⟩, Below.refl _ _⟩
  have hbu : buOk ⟨r, r⟩ = true := by simp [wi] at g1; simp [buOk, wi]; omega
  rw [show leakSays r l = outO ⟨r, r⟩ l (snRg ⟨r, r⟩ l) from by simp [leakSays, g1, hq]]
  rw [g1] at H1
  rw [hq] at H2

  have H3 := Lib.hid fun w => permitsOf_any ⟨r, r⟩ w
  have H4 : Hid (∀ W pn pb, Below w.heap.size w W → PM W pn pb ⟨r, r⟩ r → w.heap.size ≤ pn → Calls Try.prog 97 #[permitV pn pb, v] W fun e w' => ∃ u, e = .returned (.tuple #[u, .bool (outO ⟨r, r⟩ l (snRg ⟨r, r⟩ l)).2]) ∧ OI 3 w' W.heap.size w'.heap.size u (outO ⟨r, r⟩ l (snRg ⟨r, r⟩ l)).1 ∧ Wr pn (pn + 1) W w') :=
    fun W pn pb hb hp hB => sentBy_any v pn pb w.heap.size ⟨r, r⟩ l W (h.below hb) hp hB hbu hq
  generalize outO ⟨r, r⟩ l (snRg ⟨r, r⟩ l) = RR at H4 ⊢
  obtain ⟨L, bb⟩ := RR
  simp only [BuV] at H3 H4 ⊢
  clear h g1 hq hbu hx
  go_enter Try.func57, Try.ntmps57
  go_wp2_with fail
  refine H1.out.mono ?_; rintro e w' ⟨rfl, rfl⟩
  go_wp2_with fail
  refine H2.out.mono ?_; rintro e w' ⟨rfl, rfl⟩
  go_wp2_with fail
  refine (H3.out _).mono ?_; rintro e w2 ⟨pn, pb, rfl, hpn, hpb, hpm, hb2⟩
  have HT2 := Lib.hid hb2
  have HPN : Hid (w.heap.size ≤ pn) := hpn
  have HC := Lib.hid (H4.out w2 pn pb HT2.out hpm HPN.out)
  clear hpn hpb hpm hb2
  go_wp2_with fail
  refine HC.out.mono ?_; rintro e w3 ⟨u, rfl, ho, hw3⟩
  have HT3 := Lib.hid (HT2.out.trans (hw3.below HPN.out HT2.out.size))
  have HO := Lib.hid (ho.wide HT2.out.size (Nat.le_refl _))
  clear hw3 ho
  go_wp2_with fail
  go_ret2
  exact ⟨_, rfl, HO.out, HT3.out⟩
set_option maxHeartbeats 1000000 in
theorem specLeakOf_any (v : Value) (r : Int) (l : List Int) (w : World) (h : RI w w.heap.size v l) (hn : l.length ≤ 1048576) (hx : (Lit.int .i64 r).wf = true) :
    Calls Try.prog 58 #[.int .i64 r, v] w (RetLB 3 w (leakSays r l).1 (leakSays r l).2) := by
  have H1 := Lib.hid (specRate_any r w)
  have H2 := Lib.hid (shTraffic_any v l w h hn)
  cases g1 : wi r 1 100
  · rw [show leakSays r l = ([], false) from by simp [leakSays, g1]]
    rw [g1] at H1
    clear g1 h
    go_enter Try.func58, Try.ntmps58
    go_wp2_with fail
    refine H1.out.mono ?_; rintro e w' ⟨rfl, rfl⟩
    go_wp2_with fail
    go_ret2
    exact ⟨_, rfl, .inl ⟨rfl, none, 0, rfl, by simp, fun _ => rfl⟩, Below.refl _ _⟩
  cases hq : trOk l
  · rw [show leakSays r l = ([], false) from by simp [leakSays, hq]]
    rw [g1] at H1
    rw [hq] at H2
    clear g1 hq h
    go_enter Try.func58, Try.ntmps58
    go_wp2_with fail
    refine H1.out.mono ?_; rintro e w' ⟨rfl, rfl⟩
    go_wp2_with fail
    refine H2.out.mono ?_; rintro e w' ⟨rfl, rfl⟩
    go_wp2_with fail
    go_ret2
    exact ⟨_, rfl, .inl ⟨rfl, none, 0, rfl, by simp, fun _ => rfl⟩, Below.refl _ _⟩
  have hbu : buOk ⟨r, r⟩ = true := by simp [wi] at g1; simp [buOk, wi]; omega
  rw [show leakSays r l = outO ⟨r, r⟩ l (snRg ⟨r, r⟩ l) from by simp [leakSays, g1, hq]]
  rw [g1] at H1
  rw [hq] at H2

  have H3 := Lib.hid (shSend_any v ⟨r, r⟩ l w h hbu hq)
  generalize outB ⟨r, r⟩ l (snRg ⟨r, r⟩ l) = LB at H3
  generalize outO ⟨r, r⟩ l (snRg ⟨r, r⟩ l) = RR at H3 ⊢
  obtain ⟨L, bb⟩ := RR
  simp only at H3 ⊢
  clear h g1 hq hbu hx
  go_enter Try.func58, Try.ntmps58
  go_wp2_with fail
  refine H1.out.mono ?_; rintro e w' ⟨rfl, rfl⟩
  go_wp2_with fail
  refine H2.out.mono ?_; rintro e w' ⟨rfl, rfl⟩
  go_wp2_with fail
  refine H3.out.mono ?_; rintro e w2 ⟨u1, u2, rfl, ho1, ho2, hb2⟩
  have HT2 := Lib.hid hb2
  have HO := Lib.hid ho1
  clear ho1 ho2 hb2
  go_wp2_with fail
  go_ret2
  exact ⟨_, rfl, HO.out, HT2.out⟩
end Go.Proofs.Ytlanpfcjcafapaa
