/-
  IsDesk and FirstDesk, the program's and the model's.
-/
import Derived.Test.YtmghhhceemmdpaaDk
namespace Go.Proofs.Ytmghhhceemmdpaa
open Go.RowKit
set_option maxRecDepth 100000
set_option linter.unusedVariables false

def isDk (x : Dk) : Bool := isRg x.r && isFr x.f
theorem implIsDesk_any (v : Value) (x : Dk) (w : World) (h : RDk w w.heap.size v x) (hn : x.r.d.length ≤ 1048576) (hm : x.f.d.length ≤ 1048576) :
    Calls Try.prog 13 #[v] w (RetV w (.bool (isDk x))) := by
  obtain ⟨s, t, rfl, h, k⟩ := h
  obtain ⟨⟨rk, rd⟩, ⟨ff, ft, fp, fd⟩⟩ := x
  simp only [DkV] at h hn hm k ⊢
  have h3 := h
  have k3 := k
  obtain ⟨A, c, rfl, hlc, hc⟩ := h
  obtain ⟨B, e, rfl, hle, he⟩ := k
  have b2 := BK.made w 28 #[.int .i64 rk, .slice A rd.length c, .int .i64 ff, .int .i64 ft, .int .i64 fp, .slice B fd.length e]
  have hW : Below w.heap.size w (w.alloc (.cells #[.int .i64 rk, .slice A rd.length c, .int .i64 ff, .int .i64 ft, .int .i64 fp, .slice B fd.length e] 28)) := (Below.refl _ _).alloc (Nat.le_refl _) _
  have h4 := (h3.below hW).more hW.size
  clear hc he
  cases hR : isRg ⟨rk, rd⟩
  · go_enter Try.func13, Try.ntmps13
    go_wp2_with fail
    refine (implIsRing_any _ ⟨rk, rd⟩ _ ⟨_, rfl, h4⟩ hn).mono ?_; rintro e w1 ⟨rfl, hb⟩
    simp only [hR]
    go_wp2_with fail
    go_ret
    exact ⟨ret_bool (by simp [isDk, hR]), hW.trans (hb.mono hW.size)⟩
  · go_enter Try.func13, Try.ntmps13
    go_wp2_with fail
    refine (implIsRing_any _ ⟨rk, rd⟩ _ ⟨_, rfl, h4⟩ hn).mono ?_; rintro e w1 ⟨rfl, hb⟩
    simp only [hR]
    have hX := hW.trans (hb.mono hW.size)
    have k4 := (k3.below hX).more hX.size
    have b3 := b2.step hb
    have c0 := b3.cell 2
    have c1 := b3.cell 3
    have c2 := b3.cell 4
    have c3 := b3.cell 5
    simp at c0 c1 c2 c3
    go_wp2_with fail
    refine (implIsFrame_any _ ⟨ff, ft, fp, fd⟩ _ ⟨_, rfl, k4⟩ hm).mono ?_; rintro e w2 ⟨rfl, hb2⟩
    go_wp2_with fail
    go_ret
    exact ⟨ret_bool (by simp [isDk, hR]), hX.trans (hb2.mono hX.size)⟩
theorem coGood_any (v : Value) (x : Dk) (w : World) (h : RDk w w.heap.size v x) (hn : x.r.d.length ≤ 1048576) (hm : x.f.d.length ≤ 1048576) :
    Calls Try.prog 22 #[v] w (RetV w (.bool (isDk x))) := by
  obtain ⟨s, t, rfl, h, k⟩ := h
  obtain ⟨⟨rk, rd⟩, ⟨ff, ft, fp, fd⟩⟩ := x
  simp only [DkV] at h hn hm k ⊢
  have h3 := h
  have k3 := k
  obtain ⟨A, c, rfl, hlc, hc⟩ := h
  obtain ⟨B, e, rfl, hle, he⟩ := k
  have b2 := BK.made w 28 #[.int .i64 rk, .slice A rd.length c, .int .i64 ff, .int .i64 ft, .int .i64 fp, .slice B fd.length e]
  have hW : Below w.heap.size w (w.alloc (.cells #[.int .i64 rk, .slice A rd.length c, .int .i64 ff, .int .i64 ft, .int .i64 fp, .slice B fd.length e] 28)) := (Below.refl _ _).alloc (Nat.le_refl _) _
  have h4 := (h3.below hW).more hW.size
  clear hc he
  cases hR : isRg ⟨rk, rd⟩
  · go_enter Try.func22, Try.ntmps22
    go_wp2_with fail
    refine (riGood_any _ ⟨rk, rd⟩ _ ⟨_, rfl, h4⟩ hn).mono ?_; rintro e w1 ⟨rfl, hb⟩
    simp only [hR]
    go_wp2_with fail
    go_ret
    exact ⟨ret_bool (by simp [isDk, hR]), hW.trans (hb.mono hW.size)⟩
  · go_enter Try.func22, Try.ntmps22
    go_wp2_with fail
    refine (riGood_any _ ⟨rk, rd⟩ _ ⟨_, rfl, h4⟩ hn).mono ?_; rintro e w1 ⟨rfl, hb⟩
    simp only [hR]
    have hX := hW.trans (hb.mono hW.size)
    have k4 := (k3.below hX).more hX.size
    have b3 := b2.step hb
    have c0 := b3.cell 2
    have c1 := b3.cell 3
    have c2 := b3.cell 4
    have c3 := b3.cell 5
    simp at c0 c1 c2 c3
    go_wp2_with fail
    refine (frGood_any _ ⟨ff, ft, fp, fd⟩ _ ⟨_, rfl, k4⟩ hm).mono ?_; rintro e w2 ⟨rfl, hb2⟩
    go_wp2_with fail
    go_ret
    exact ⟨ret_bool (by simp [isDk, hR]), hX.trans (hb2.mono hX.size)⟩
theorem specIsDesk_any (v : Value) (x : Dk) (w : World) (h : RDk w w.heap.size v x) (hn : x.r.d.length ≤ 1048576) (hm : x.f.d.length ≤ 1048576) :
    Calls Try.prog 11 #[v] w (RetV w (.bool (isDk x))) := by
  obtain ⟨s, t, rfl, h, k⟩ := h
  obtain ⟨⟨rk, rd⟩, ⟨ff, ft, fp, fd⟩⟩ := x
  simp only [DkV] at h hn hm k ⊢
  have h3 := h
  have k3 := k
  obtain ⟨A, c, rfl, hlc, hc⟩ := h
  obtain ⟨B, e, rfl, hle, he⟩ := k
  have hW : Below w.heap.size w (w.alloc (.cells #[.int .i64 rk, .slice A rd.length c, .int .i64 ff, .int .i64 ft, .int .i64 fp, .slice B fd.length e] 28)) := (Below.refl _ _).alloc (Nat.le_refl _) _
  have h4 := (h3.below hW).more hW.size
  have k4 := (k3.below hW).more hW.size
  clear hc he
  go_enter Try.func11, Try.ntmps11
  go_wp2_with fail
  refine (coGood_any _ ⟨⟨rk, rd⟩, ⟨ff, ft, fp, fd⟩⟩ _ ⟨_, _, rfl, h4, k4⟩ hn hm).mono ?_; rintro e w1 ⟨rfl, hb⟩
  go_wp2_with fail
  go_ret
  exact ⟨rfl, hW.trans (hb.mono hW.size)⟩
theorem accLitTwo {E : TypeId} {w : World} {lo : Nat} {x y : Int} {g : Nat} (hg : g = w.heap.size) (hlo : g = lo := by rfl) : Acc E (w.alloc (.cells #[.int .i64 x, .int .i64 y] E)) lo (.slice (some ⟨g, 0, none⟩) 2 2) [x, y] := by
  subst hg
  subst hlo
  exact ⟨rfl, .inr ⟨_, 2, _, rfl, Nat.le_refl _, heap_alloc_new w _, Nat.le_refl _, by unfold maxLen; omega, rfl, rfl⟩⟩
/-- The desk with the ring 5:1,3 and the frame 1>2:3:ff. -/
def firstDk : Dk := ⟨⟨5, [1, 3]⟩, ⟨1, 2, 3, [255]⟩⟩
theorem implFirstDesk_any (w : World) : Calls Try.prog 6 #[] w (RetDk 3 w firstDk) := by
  have h1 : OI 3 ((w.alloc (.cells #[.int .i64 5, .slice (some ⟨w.heap.size + 1, 0, none⟩) 2 2, .int .i64 1, .int .i64 2, .int .i64 3, .slice (some ⟨w.heap.size + 1 + 1, 0, none⟩) 1 1] 28)).alloc (.cells #[.int .i64 1, .int .i64 3] 3)) (w.heap.size + 1) (w.heap.size + 1 + 1) (.slice (some ⟨w.heap.size + 1, 0, none⟩) 2 2) [1, 3] := by
    have := (accLitTwo (w := (w.alloc (.cells #[.int .i64 5, .slice (some ⟨w.heap.size + 1, 0, none⟩) 2 2, .int .i64 1, .int .i64 2, .int .i64 3, .slice (some ⟨w.heap.size + 1 + 1, 0, none⟩) 1 1] 28))) (x := 1) (y := 3) (E := 3) (g := w.heap.size + 1) (by simp)).oi
    simpa using this
  have h2 : OI 3 (((w.alloc (.cells #[.int .i64 5, .slice (some ⟨w.heap.size + 1, 0, none⟩) 2 2, .int .i64 1, .int .i64 2, .int .i64 3, .slice (some ⟨w.heap.size + 1 + 1, 0, none⟩) 1 1] 28)).alloc (.cells #[.int .i64 1, .int .i64 3] 3)).alloc (.cells #[.int .i64 255] 3)) (w.heap.size + 1 + 1) (w.heap.size + 1 + 1 + 1) (.slice (some ⟨w.heap.size + 1 + 1, 0, none⟩) 1 1) [255] := by
    have := (Acc.lit1 (w := ((w.alloc (.cells #[.int .i64 5, .slice (some ⟨w.heap.size + 1, 0, none⟩) 2 2, .int .i64 1, .int .i64 2, .int .i64 3, .slice (some ⟨w.heap.size + 1 + 1, 0, none⟩) 1 1] 28)).alloc (.cells #[.int .i64 1, .int .i64 3] 3))) (x := 255) (E := 3) (g := w.heap.size + 1 + 1) (by simp)).oi
    simpa using this
  have h3 := h1.step ((Below.refl _ _).alloc (Nat.le_refl _) (.cells #[.int .i64 255] 3))
  have b2 := ((BK.made w 28 #[.int .i64 5, .slice (some ⟨w.heap.size + 1, 0, none⟩) 2 2, .int .i64 1, .int .i64 2, .int .i64 3, .slice (some ⟨w.heap.size + 1 + 1, 0, none⟩) 1 1]).alloc (.cells #[.int .i64 1, .int .i64 3] 3)).alloc (.cells #[.int .i64 255] 3)
  have q0 := b2.cell 0
  have q1 := b2.cell 1
  have q2 := b2.cell 2
  have q3 := b2.cell 3
  have q4 := b2.cell 4
  have q5 := b2.cell 5
  simp at q0 q1 q2 q3 q4 q5
  have hW : Below w.heap.size w (((w.alloc (.cells #[.int .i64 5, .slice (some ⟨w.heap.size + 1, 0, none⟩) 2 2, .int .i64 1, .int .i64 2, .int .i64 3, .slice (some ⟨w.heap.size + 1 + 1, 0, none⟩) 1 1] 28)).alloc (.cells #[.int .i64 1, .int .i64 3] 3)).alloc (.cells #[.int .i64 255] 3)) := (((Below.refl _ _).alloc (Nat.le_refl _) _).alloc (by simp) _).alloc (by simp; omega) _
  go_enter Try.func6, Try.ntmps6
  go_wp2_with fail
  refine bodyPost_ret (v := DkV firstDk (.slice (some ⟨w.heap.size + 1, 0, none⟩) 2 2) (.slice (some ⟨w.heap.size + 1 + 1, 0, none⟩) 1 1)) (by simp [results, Try.results6, go_sem, DkV, firstDk]) rfl ⟨_, rfl, ⟨_, _, w.heap.size + 1 + 1, rfl, ?_, ?_, ?_, ?_⟩, hW⟩
  · exact h3.wide (by omega) (Nat.le_refl _)
  · exact h2.wide (Nat.le_refl _) (by simp)
  · omega
  · simp
theorem specFirstDesk_any (w : World) : Calls Try.prog 5 #[] w (RetDk 3 w firstDk) := by
  have h1 : OI 3 ((w.alloc (.cells #[.int .i64 5, .slice (some ⟨w.heap.size + 1, 0, none⟩) 2 2, .int .i64 1, .int .i64 2, .int .i64 3, .slice (some ⟨w.heap.size + 1 + 1, 0, none⟩) 1 1] 28)).alloc (.cells #[.int .i64 1, .int .i64 3] 3)) (w.heap.size + 1) (w.heap.size + 1 + 1) (.slice (some ⟨w.heap.size + 1, 0, none⟩) 2 2) [1, 3] := by
    have := (accLitTwo (w := (w.alloc (.cells #[.int .i64 5, .slice (some ⟨w.heap.size + 1, 0, none⟩) 2 2, .int .i64 1, .int .i64 2, .int .i64 3, .slice (some ⟨w.heap.size + 1 + 1, 0, none⟩) 1 1] 28))) (x := 1) (y := 3) (E := 3) (g := w.heap.size + 1) (by simp)).oi
    simpa using this
  have h2 : OI 3 (((w.alloc (.cells #[.int .i64 5, .slice (some ⟨w.heap.size + 1, 0, none⟩) 2 2, .int .i64 1, .int .i64 2, .int .i64 3, .slice (some ⟨w.heap.size + 1 + 1, 0, none⟩) 1 1] 28)).alloc (.cells #[.int .i64 1, .int .i64 3] 3)).alloc (.cells #[.int .i64 255] 3)) (w.heap.size + 1 + 1) (w.heap.size + 1 + 1 + 1) (.slice (some ⟨w.heap.size + 1 + 1, 0, none⟩) 1 1) [255] := by
    have := (Acc.lit1 (w := ((w.alloc (.cells #[.int .i64 5, .slice (some ⟨w.heap.size + 1, 0, none⟩) 2 2, .int .i64 1, .int .i64 2, .int .i64 3, .slice (some ⟨w.heap.size + 1 + 1, 0, none⟩) 1 1] 28)).alloc (.cells #[.int .i64 1, .int .i64 3] 3))) (x := 255) (E := 3) (g := w.heap.size + 1 + 1) (by simp)).oi
    simpa using this
  have h3 := h1.step ((Below.refl _ _).alloc (Nat.le_refl _) (.cells #[.int .i64 255] 3))
  have b2 := ((BK.made w 28 #[.int .i64 5, .slice (some ⟨w.heap.size + 1, 0, none⟩) 2 2, .int .i64 1, .int .i64 2, .int .i64 3, .slice (some ⟨w.heap.size + 1 + 1, 0, none⟩) 1 1]).alloc (.cells #[.int .i64 1, .int .i64 3] 3)).alloc (.cells #[.int .i64 255] 3)
  have q0 := b2.cell 0
  have q1 := b2.cell 1
  have q2 := b2.cell 2
  have q3 := b2.cell 3
  have q4 := b2.cell 4
  have q5 := b2.cell 5
  simp at q0 q1 q2 q3 q4 q5
  have hW : Below w.heap.size w (((w.alloc (.cells #[.int .i64 5, .slice (some ⟨w.heap.size + 1, 0, none⟩) 2 2, .int .i64 1, .int .i64 2, .int .i64 3, .slice (some ⟨w.heap.size + 1 + 1, 0, none⟩) 1 1] 28)).alloc (.cells #[.int .i64 1, .int .i64 3] 3)).alloc (.cells #[.int .i64 255] 3)) := (((Below.refl _ _).alloc (Nat.le_refl _) _).alloc (by simp) _).alloc (by simp; omega) _
  go_enter Try.func5, Try.ntmps5
  go_wp2_with fail
  refine bodyPost_ret (v := DkV firstDk (.slice (some ⟨w.heap.size + 1, 0, none⟩) 2 2) (.slice (some ⟨w.heap.size + 1 + 1, 0, none⟩) 1 1)) (by simp [results, Try.results5, go_sem, DkV, firstDk]) rfl ⟨_, rfl, ⟨_, _, w.heap.size + 1 + 1, rfl, ?_, ?_, ?_, ?_⟩, hW⟩
  · exact h3.wide (by omega) (Nat.le_refl _)
  · exact h2.wide (Nat.le_refl _) (by simp)
  · omega
  · simp
end Go.Proofs.Ytmghhhceemmdpaa
