/-
  Desks as values: what they read as, what owns them, and the contracts of the laws' helpers on them.
-/
import Derived.Test.YtmghhhceemmdpaaIsFrB
import Derived.Test.YtmghhhceemmdpaaFrm2B
import Derived.Test.YtmghhhceemmdpaaIsRing
namespace Go.Proofs.Ytmghhhceemmdpaa
open Go.RowKit
set_option maxRecDepth 100000
set_option linter.unusedVariables false

/-- A desk as data. -/
structure Dk where
  r : Rg
  f : Fr
def DkV (x : Dk) (s t : Value) : Value := .agg #[.int .i64 x.r.k, s, .int .i64 x.f.f, .int .i64 x.f.t, .int .i64 x.f.p, t]
def RDk (w : World) (B : Nat) (v : Value) (x : Dk) : Prop := ∃ s t, v = DkV x s t ∧ RI w B s x.r.d ∧ RI w B t x.f.d

theorem eqDesk_same (v u : Value) (x : Dk) (w : World) (h : RDk w w.heap.size v x) (h' : RDk w w.heap.size u x) (hn : x.r.d.length ≤ 1048576) (hm : x.f.d.length ≤ 1048576) :
    Calls Try.prog 7 #[v, u] w (RetV w (.bool true)) := by
  obtain ⟨s, t, rfl, h, k⟩ := h
  obtain ⟨s', t', rfl, h', k'⟩ := h'
  obtain ⟨⟨rk, rd⟩, ⟨ff, ft, fp, fd⟩⟩ := x
  simp only [DkV] at h h' hn hm k k' ⊢
  have h3 := h
  have h3' := h'
  have k3 := k
  have k3' := k'
  obtain ⟨A, c, rfl, hlc, hc⟩ := h
  obtain ⟨A', c', rfl, hlc', hc'⟩ := h'
  obtain ⟨B, e, rfl, hle, he⟩ := k
  obtain ⟨B', e', rfl, hle', he'⟩ := k'
  have b2 := (BK.made w 28 #[.int .i64 rk, .slice A rd.length c, .int .i64 ff, .int .i64 ft, .int .i64 fp, .slice B fd.length e]).alloc (.cells #[.int .i64 rk, .slice A' rd.length c', .int .i64 ff, .int .i64 ft, .int .i64 fp, .slice B' fd.length e'] 28)
  have b3 := BK.made (w.alloc (.cells #[.int .i64 rk, .slice A rd.length c, .int .i64 ff, .int .i64 ft, .int .i64 fp, .slice B fd.length e] 28)) 28 #[.int .i64 rk, .slice A' rd.length c', .int .i64 ff, .int .i64 ft, .int .i64 fp, .slice B' fd.length e']
  have hW : Below w.heap.size w ((w.alloc (.cells #[.int .i64 rk, .slice A rd.length c, .int .i64 ff, .int .i64 ft, .int .i64 fp, .slice B fd.length e] 28)).alloc (.cells #[.int .i64 rk, .slice A' rd.length c', .int .i64 ff, .int .i64 ft, .int .i64 fp, .slice B' fd.length e'] 28)) := ((Below.refl _ _).alloc (Nat.le_refl _) _).alloc (by simp) _
  have h4 := (h3.below hW).more hW.size
  have h4' := (h3'.below hW).more hW.size
  clear hc hc' he he'
  go_enter Try.func7, Try.ntmps7
  go_wp2_with fail
  refine (eqRing_same _ _ ⟨rk, rd⟩ _ ⟨_, rfl, h4⟩ ⟨_, rfl, h4'⟩ hn).mono ?_; rintro e w1 ⟨rfl, hb⟩
  have hs := hb.size
  have hX := hW.trans (hb.mono hW.size)
  have k4 := (k3.below hX).more hX.size
  have k4' := (k3'.below hX).more hX.size
  have b2' := b2.step hb
  have b3' := b3.step hb
  have c0 := b2'.cell 2
  have c1 := b2'.cell 3
  have c2 := b2'.cell 4
  have c3 := b2'.cell 5
  have d0 := b3'.cell 2
  have d1 := b3'.cell 3
  have d2 := b3'.cell 4
  have d3 := b3'.cell 5
  simp at c0 c1 c2 c3 d0 d1 d2 d3
  go_wp2_with fail
  refine (eqFrame_same _ _ ⟨ff, ft, fp, fd⟩ _ ⟨_, rfl, k4⟩ ⟨_, rfl, k4'⟩ hm).mono ?_; rintro e w2 ⟨rfl, hb2⟩
  go_wp2_with fail
  go_ret
  exact ⟨rfl, hX.trans (hb2.mono hX.size)⟩

theorem szDesk_any (v : Value) (x : Dk) (n : Int) (w : World) (h : RDk w w.heap.size v x) (h0 : 0 ≤ n) (h1 : n ≤ 1048576) (h2 : x.r.d.length ≤ maxLen) (h3 : x.f.d.length ≤ maxLen) :
    Calls Try.prog 10 #[v, .int .i64 n] w (RetV w (.int .i64 (if n < x.r.d.length then -1 else szLeft (n - x.r.d.length) x.f.d))) := by
  obtain ⟨s, t, rfl, h, k⟩ := h
  obtain ⟨⟨rk, rd⟩, ⟨ff, ft, fp, fd⟩⟩ := x
  simp only [DkV] at h h2 h3 k ⊢
  have hh := h
  have kk := k
  obtain ⟨A, c, rfl, hlc, hc⟩ := h
  obtain ⟨B, e, rfl, hle, he⟩ := k
  have b2 := BK.made w 36 #[.int .i64 rk, .slice A rd.length c, .int .i64 ff, .int .i64 ft, .int .i64 fp, .slice B fd.length e]
  have hW : Below w.heap.size w (w.alloc (.cells #[.int .i64 rk, .slice A rd.length c, .int .i64 ff, .int .i64 ft, .int .i64 fp, .slice B fd.length e] 36)) := (Below.refl _ _).alloc (Nat.le_refl _) _
  have h4 := (hh.below hW).more hW.size
  clear hc he
  by_cases hlt : n < rd.length
  · rw [if_pos hlt]
    have e4 : szLeft n rd = -1 := szLeft_neg hlt
    go_enter Try.func10, Try.ntmps10
    go_wp2_with fail
    refine (szRing_any _ ⟨rk, rd⟩ _ _ ⟨_, rfl, h4⟩ h0 h1 h2).mono ?_; rintro e w1 ⟨rfl, hb⟩
    simp only [e4]
    go_wp2_with fail
    go_ret
    exact ⟨rfl, hW.trans (hb.mono hW.size)⟩
  · rw [if_neg hlt]
    have e4 : szLeft n rd = n - rd.length := szLeft_pos hlt
    have h5 : 0 ≤ n - (rd.length : Int) := by omega
    have h6 : n - (rd.length : Int) ≤ 1048576 := by omega
    go_enter Try.func10, Try.ntmps10
    go_wp2_with fail
    refine (szRing_any _ ⟨rk, rd⟩ _ _ ⟨_, rfl, h4⟩ h0 h1 h2).mono ?_; rintro e w1 ⟨rfl, hb⟩
    simp only [e4]
    have hX := hW.trans (hb.mono hW.size)
    have k4 := (kk.below hX).more hX.size
    have b3 := b2.step hb
    have c0 := b3.cell 2
    have c1 := b3.cell 3
    have c2 := b3.cell 4
    have c3 := b3.cell 5
    simp at c0 c1 c2 c3
    go_wp2_with fail
    refine (szFrame_any _ ⟨ff, ft, fp, fd⟩ _ _ ⟨_, rfl, k4⟩ h5 h6 h3).mono ?_; rintro e w2 ⟨rfl, hb2⟩
    by_cases hl2 : n - (rd.length : Int) < fd.length
    · have e5 := szLeft_neg hl2
      simp only [e5]
      go_wp2_with fail
      go_ret
      exact ⟨by first | rfl | (rw [e5]; rfl), hX.trans (hb2.mono hX.size)⟩
    · have e5 := szLeft_pos hl2
      simp only [e5]
      have h7 : 0 ≤ n - (rd.length : Int) - fd.length := by omega
      go_wp2_with fail
      go_ret
      exact ⟨by first | rfl | (rw [e5]; rfl), hX.trans (hb2.mono hX.size)⟩

def ODk (E : TypeId) (w : World) (lo hi : Nat) (v : Value) (x : Dk) : Prop := ∃ s t m, v = DkV x s t ∧ OI E w lo m s x.r.d ∧ OI E w m hi t x.f.d ∧ lo ≤ m ∧ m ≤ hi
theorem ODk.rd {E : TypeId} {w : World} {lo hi : Nat} {v : Value} {x : Dk} (h : ODk E w lo hi v x) : RDk w hi v x := by
  obtain ⟨s, t, m, hv, h1, h2, h3, h4⟩ := h
  exact ⟨s, t, hv, h1.ri.more h4, h2.ri⟩
theorem ODk.far {E : TypeId} {w w' : World} {lo hi a b : Nat} {v : Value} {x : Dk} (h : ODk E w lo hi v x) (hg : Wr a b w w') (hne : hi ≤ a ∨ b ≤ lo) : ODk E w' lo hi v x := by
  obtain ⟨s, t, m, hv, h1, h2, h3, h4⟩ := h
  exact ⟨s, t, m, hv, h1.far hg (by omega), h2.far hg (by omega), h3, h4⟩
theorem ODk.step {E : TypeId} {w w' : World} {lo hi : Nat} {v : Value} {x : Dk} (h : ODk E w lo hi v x) (hb : Below w.heap.size w w') : ODk E w' lo hi v x := by
  obtain ⟨s, t, m, hv, h1, h2, h3, h4⟩ := h
  exact ⟨s, t, m, hv, h1.step hb, h2.step hb, h3, h4⟩
theorem RDk.step {w w' : World} {B : Nat} {v : Value} {x : Dk} (h : RDk w B v x) (hb : Below w.heap.size w w') (hB : B ≤ w.heap.size) : RDk w' B v x := by
  obtain ⟨s, t, hv, h1, h2⟩ := h
  exact ⟨s, t, hv, h1.step hb hB, h2.step hb hB⟩
theorem RDk.more {w : World} {B B' : Nat} {v : Value} {x : Dk} (h : RDk w B v x) (hB : B ≤ B') : RDk w B' v x := by
  obtain ⟨s, t, hv, h1, h2⟩ := h
  exact ⟨s, t, hv, h1.more hB, h2.more hB⟩
/-- What a function that makes a desk leaves. -/
def RetDk (E : TypeId) (w : World) (x : Dk) (e : Ending) (w' : World) : Prop := ∃ u, e = .returned u ∧ ODk E w' w.heap.size w'.heap.size u x ∧ Below w.heap.size w w'

theorem markDesk_any (lo hi : Nat) (v : Value) (x : Dk) (m : Int) (w : World) (h : ODk 3 w lo hi v x) (hn : x.r.d.length ≤ 1048576) (hn2 : x.f.d.length ≤ 1048576) (hm : 0 ≤ m) (hm' : m ≤ 1000000) (hhi : hi ≤ w.heap.size) :
    Calls Try.prog 8 #[v, .int .i64 m] w (fun e w' => e = .returned (.int .i64 (m + x.r.d.length + x.f.d.length)) ∧
      ODk 3 w' lo hi v ⟨{ x.r with d := marks m x.r.d.length }, { x.f with d := marks (m + x.r.d.length) x.f.d.length }⟩ ∧ Wr lo hi w w') := by
  obtain ⟨s, t, mid, rfl, h, k, hlm, hmh⟩ := h
  obtain ⟨⟨rk, rd⟩, ⟨ff, ft, fp, fd⟩⟩ := x
  simp only [DkV] at h hn hn2 k ⊢
  have hh := h
  have kk := k
  obtain ⟨A, c, rfl, _, _⟩ := h.ri
  obtain ⟨B, e, rfl, _, _⟩ := k.ri
  have b2 := BK.made w 28 #[.int .i64 rk, .slice A rd.length c, .int .i64 ff, .int .i64 ft, .int .i64 fp, .slice B fd.length e]
  have hW : Below w.heap.size w (w.alloc (.cells #[.int .i64 rk, .slice A rd.length c, .int .i64 ff, .int .i64 ft, .int .i64 fp, .slice B fd.length e] 28)) := (Below.refl _ _).alloc (Nat.le_refl _) _
  have h4 := hh.step hW
  have k4 := kk.step hW
  go_enter Try.func8, Try.ntmps8
  go_wp2_with fail
  refine (markRing_any _ _ _ ⟨rk, rd⟩ m _ ⟨_, rfl, h4⟩ hn hm (by omega)).mono ?_; rintro e w1 ⟨rfl, ⟨s1, hs1, ho⟩, hg⟩
  have b3 := b2.far hg (by right; omega)
  have k5 := k4.far hg (by right; exact Nat.le_refl _)
  have c0 := b3.cell 2
  have c1 := b3.cell 3
  have c2 := b3.cell 4
  have c3 := b3.cell 5
  simp at c0 c1 c2 c3
  have hm2 : 0 ≤ m + (rd.length : Int) := by omega
  simp only
  go_wp2_with fail
  refine (markFrame_any _ _ _ ⟨ff, ft, fp, fd⟩ _ _ ⟨_, rfl, k5⟩ hn2 hm2 (by omega)).mono ?_; rintro e w2 ⟨rfl, ⟨s2, hs2, ho2⟩, hg2⟩
  simp only
  go_wp2_with fail
  go_ret
  simp only [RgV, frV] at hs1 hs2
  injection hs1 with hs1; injection hs2 with hs2
  obtain rfl : s1 = .slice A rd.length c := by simpa using hs1.symm
  obtain rfl : s2 = .slice B fd.length e := by simpa using hs2.symm
  exact ⟨rfl, ⟨_, _, mid, rfl, ho.far hg2 (by left; exact Nat.le_refl _), ho2, hlm, hmh⟩, (Wr.of_below hW lo hi).trans ((hg.wide (Nat.le_refl _) hmh).trans (hg2.wide hlm (Nat.le_refl _)))⟩

theorem heldDesk_any (v : Value) (x : Dk) (n n2 : Nat) (m : Int) (w : World) (h : RDk w w.heap.size v ⟨{ x.r with d := marks m n }, { x.f with d := marks (m + n) n2 }⟩) (hn : n ≤ 1048576) (hn2 : n2 ≤ 1048576) (hm : 0 ≤ m) (hm' : m ≤ 1000000) :
    Calls Try.prog 9 #[v, .int .i64 m] w (RetV w (.int .i64 (m + n + n2))) := by
  obtain ⟨s, t, rfl, h, k⟩ := h
  obtain ⟨⟨rk, rd⟩, ⟨ff, ft, fp, fd⟩⟩ := x
  simp only [DkV] at h k ⊢
  obtain ⟨A, c, rfl, hlc, hc⟩ := id h
  obtain ⟨B, e, rfl, hle, he⟩ := id k
  have b2 := BK.made w 28 #[.int .i64 rk, .slice A (marks m n).length c, .int .i64 ff, .int .i64 ft, .int .i64 fp, .slice B (marks (m + n) n2).length e]
  have hW : Below w.heap.size w (w.alloc (.cells #[.int .i64 rk, .slice A (marks m n).length c, .int .i64 ff, .int .i64 ft, .int .i64 fp, .slice B (marks (m + n) n2).length e] 28)) := (Below.refl _ _).alloc (Nat.le_refl _) _
  have h4 := (h.below hW).more hW.size
  clear hc he
  have hm2 : 0 ≤ m + (n : Int) := by omega
  go_enter Try.func9, Try.ntmps9
  go_wp2_with fail
  refine (heldRing_any _ ⟨rk, rd⟩ n m _ ⟨_, rfl, h4⟩ hn hm (by omega)).mono ?_; rintro e w1 ⟨rfl, hb⟩
  have hX := hW.trans (hb.mono hW.size)
  have k4 := (k.below hX).more hX.size
  have b3 := b2.step hb
  have c0 := b3.cell 2
  have c1 := b3.cell 3
  have c2 := b3.cell 4
  have c3 := b3.cell 5
  simp at c0 c1 c2 c3
  go_wp2_with fail
  refine (heldFrame_any _ ⟨ff, ft, fp, fd⟩ n2 _ _ ⟨_, rfl, k4⟩ hn2 hm2 (by omega)).mono ?_; rintro e w2 ⟨rfl, hb2⟩
  go_wp2_with fail
  go_ret
  exact ⟨rfl, hX.trans (hb2.mono hX.size)⟩

set_option maxHeartbeats 1000000 in
theorem toDesk_any (v : Value) (x : Dk) (w : World) (h : RDk w w.heap.size v x) (hn : x.r.d.length ≤ 1048576) (hn2 : x.f.d.length ≤ 1048576) :
    Calls Try.prog 12 #[v] w (RetDk 3 w x) := by
  obtain ⟨s, t, rfl, h, k⟩ := h
  obtain ⟨⟨rk, rd⟩, ⟨ff, ft, fp, fd⟩⟩ := x
  simp only [DkV] at h hn hn2 k ⊢
  obtain ⟨A, c, rfl, hlc, hc⟩ := id h
  obtain ⟨B, e, rfl, hle, he⟩ := id k
  clear hc he
  have hW : Below w.heap.size w (((w.alloc (.cells #[.int .i64 rk, .slice A rd.length c, .int .i64 ff, .int .i64 ft, .int .i64 fp, .slice B fd.length e] 36)).alloc (.cells #[.int .i64 0, .slice none 0 0, .int .i64 0, .int .i64 0, .int .i64 0, .slice none 0 0] 28)).alloc (.cells #[.int .i64 0, .slice none 0 0, .int .i64 0, .int .i64 0, .int .i64 0, .slice none 0 0] 28)) := (((Below.refl _ _).alloc (Nat.le_refl _) _).alloc (by simp) _).alloc (by simp; omega) _
  have hri := (h.below hW).more hW.size
  have b1 := ((BK.made w 36 #[.int .i64 rk, .slice A rd.length c, .int .i64 ff, .int .i64 ft, .int .i64 fp, .slice B fd.length e]).alloc (.cells #[.int .i64 0, .slice none 0 0, .int .i64 0, .int .i64 0, .int .i64 0, .slice none 0 0] 28)).alloc (.cells #[.int .i64 0, .slice none 0 0, .int .i64 0, .int .i64 0, .int .i64 0, .slice none 0 0] 28)
  have b2 := (BK.made (w.alloc (.cells #[.int .i64 rk, .slice A rd.length c, .int .i64 ff, .int .i64 ft, .int .i64 fp, .slice B fd.length e] 36)) 28 #[.int .i64 0, .slice none 0 0, .int .i64 0, .int .i64 0, .int .i64 0, .slice none 0 0]).alloc (.cells #[.int .i64 0, .slice none 0 0, .int .i64 0, .int .i64 0, .int .i64 0, .slice none 0 0] 28)
  have b3 := BK.made ((w.alloc (.cells #[.int .i64 rk, .slice A rd.length c, .int .i64 ff, .int .i64 ft, .int .i64 fp, .slice B fd.length e] 36)).alloc (.cells #[.int .i64 0, .slice none 0 0, .int .i64 0, .int .i64 0, .int .i64 0, .slice none 0 0] 28)) 28 #[.int .i64 0, .slice none 0 0, .int .i64 0, .int .i64 0, .int .i64 0, .slice none 0 0]
  go_enter Try.func12, Try.ntmps12
  go_wp2_with fail
  refine (toRing_any _ ⟨rk, rd⟩ _ ⟨_, rfl, hri⟩ hn).mono ?_
  rintro e1 w1 ⟨u, rfl, ⟨s1, rfl, ho⟩, hb⟩
  have hX := hW.trans (hb.mono hW.size)
  have hs := hb.size
  have d1 := b1.step hb
  have d2 := b2.step hb
  have d3 := b3.step hb
  simp only [World.size_alloc] at hs ho d2 d3
  clear b1 b2 b3 hW hri hb
  obtain ⟨A1, c1, rfl, _, _⟩ := ho.ri
  simp only [RgV]
  have c12 := d1.cell 2
  have c13 := d1.cell 3
  have c14 := d1.cell 4
  have c15 := d1.cell 5
  have c30 := d3.cell 0
  have c31 := d3.cell 1
  have f30 := d3.free 0
  have f31 := d3.free 1
  simp at c12 c13 c14 c15 c30 c31
  have d3' := (d3.put 0 (.int .i64 rk)).put 1 (.slice A1 rd.length c1)
  have g1 : Wr (w.heap.size + 1) (w.heap.size + 3) w1 ((w1.setCell ⟨w.heap.size + 1 + 1, 0, none⟩ (.int .i64 rk)).setCell ⟨w.heap.size + 1 + 1, 1, none⟩ (.slice A1 rd.length c1)) :=
    ((Wr.refl (w.heap.size + 1) (w.heap.size + 3) w1).setCell (p := ⟨w.heap.size + 1 + 1, 0, none⟩) (by simp) (by simp) _).setCell (p := ⟨w.heap.size + 1 + 1, 1, none⟩) (by simp) (by simp) _
  have d1' := d1.far g1 (by left; omega)
  have hX2 := hX.trans (g1.below (B := w.heap.size) (by omega) hX.size)
  have k4 := (k.below hX2).more hX2.size
  go_wp2_with fail
  have ho' := ho.far g1 (by right; omega)
  have d2' := d2.far (Wr.refl (w.heap.size + 1 + 1) (w.heap.size + 3) w1 |>.setCell (p := ⟨w.heap.size + 1 + 1, 0, none⟩) (by simp) (by simp) (.int .i64 rk) |>.setCell (p := ⟨w.heap.size + 1 + 1, 1, none⟩) (by simp) (by simp) (.slice A1 rd.length c1)) (by left; omega)
  have hs2 := g1.size
  generalize hwx : ((w1.setCell ⟨w.heap.size + 1 + 1, 0, none⟩ (.int .i64 rk)).setCell ⟨w.heap.size + 1 + 1, 1, none⟩ (.slice A1 rd.length c1)) = wx at *
  refine (toFrame_any _ ⟨ff, ft, fp, fd⟩ _ ⟨_, rfl, k4⟩ hn2).mono ?_
  rintro e2 w2 ⟨u, rfl, ⟨s2, rfl, ho2⟩, hb2⟩
  have hX3 := hX2.trans (hb2.mono hX2.size)
  have hs3 := hb2.size
  have e3 := d3'.step hb2
  have e2 := d2'.step hb2
  have ho1 := ho'.step hb2
  clear d1' d3' d2' hX2 hb2 k4 hX d1 d2 d3 c12 c13 c14 c15 c30 c31 f30 f31
  obtain ⟨B2, c2, rfl, _, _⟩ := ho2.ri
  simp only [frV]
  have p0 := e3.cell 0
  have p1 := e3.cell 1
  have p2 := e3.cell 2
  have p3 := e3.cell 3
  have p4 := e3.cell 4
  have p5 := e3.cell 5
  have q0 := e2.cell 0
  have q1 := e2.cell 1
  have q2 := e2.cell 2
  have q3 := e2.cell 3
  have q4 := e2.cell 4
  have q5 := e2.cell 5
  have r2 := e3.free 2
  have r3 := e3.free 3
  have r4 := e3.free 4
  have r5 := e3.free 5
  have t0 := e2.free 0
  have t1 := e2.free 1
  have t2 := e2.free 2
  have t3 := e2.free 3
  have t4 := e2.free 4
  have t5 := e2.free 5
  simp at p0 p1 p2 p3 p4 p5 q0 q1 q2 q3 q4 q5
  go_wp2_with fail
  have g9 : Wr (w.heap.size + 1) (w.heap.size + 3) w2 ((((((((((w2.setCell ⟨w.heap.size + 1 + 1, 2, none⟩ (.int .i64 ff)).setCell ⟨w.heap.size + 1 + 1, 3, none⟩ (.int .i64 ft)).setCell ⟨w.heap.size + 1 + 1, 4, none⟩ (.int .i64 fp)).setCell ⟨w.heap.size + 1 + 1, 5, none⟩ (.slice B2 fd.length c2)).setCell ⟨w.heap.size + 1, 0, none⟩ (.int .i64 rk)).setCell ⟨w.heap.size + 1, 1, none⟩ (.slice A1 rd.length c1)).setCell ⟨w.heap.size + 1, 2, none⟩ (.int .i64 ff)).setCell ⟨w.heap.size + 1, 3, none⟩ (.int .i64 ft)).setCell ⟨w.heap.size + 1, 4, none⟩ (.int .i64 fp)).setCell ⟨w.heap.size + 1, 5, none⟩ (.slice B2 fd.length c2)) := (((((((((((Wr.refl (w.heap.size + 1) (w.heap.size + 3) w2).setCell (p := ⟨w.heap.size + 1 + 1, 2, none⟩) (by simp) (by simp) (.int .i64 ff)).setCell (p := ⟨w.heap.size + 1 + 1, 3, none⟩) (by simp) (by simp) (.int .i64 ft)).setCell (p := ⟨w.heap.size + 1 + 1, 4, none⟩) (by simp) (by simp) (.int .i64 fp)).setCell (p := ⟨w.heap.size + 1 + 1, 5, none⟩) (by simp) (by simp) (.slice B2 fd.length c2)).setCell (p := ⟨w.heap.size + 1, 0, none⟩) (by simp) (by simp) (.int .i64 rk)).setCell (p := ⟨w.heap.size + 1, 1, none⟩) (by simp) (by simp) (.slice A1 rd.length c1)).setCell (p := ⟨w.heap.size + 1, 2, none⟩) (by simp) (by simp) (.int .i64 ff)).setCell (p := ⟨w.heap.size + 1, 3, none⟩) (by simp) (by simp) (.int .i64 ft)).setCell (p := ⟨w.heap.size + 1, 4, none⟩) (by simp) (by simp) (.int .i64 fp)).setCell (p := ⟨w.heap.size + 1, 5, none⟩) (by simp) (by simp) (.slice B2 fd.length c2))
  refine bodyPost_ret (v := DkV ⟨⟨rk, rd⟩, ⟨ff, ft, fp, fd⟩⟩ (.slice A1 rd.length c1) (.slice B2 fd.length c2)) (by simp [results, Try.results12, go_sem, DkV, q0, q1, q2, q3, q4, q5]) rfl ⟨_, rfl, ⟨_, _, w1.heap.size, rfl, ?_, ?_, ?_, ?_⟩, ?_⟩
  · exact (ho1.far g9 (by right; omega)).wide (by omega) (by omega)
  · exact (ho2.far g9 (by right; omega)).wide (by omega) g9.size
  · omega
  · have := g9.size; omega
  · exact hX3.trans (g9.below (by omega) hX3.size)
end Go.Proofs.Ytmghhhceemmdpaa
