/-
  The contracts of the laws' helpers on frames, and of IsFrame.
-/
import Derived.Test.YtmghhhceemmdpaaFrB
import Derived.Test.YtmghhhceemmdpaaValB
namespace Go.Proofs.Ytmghhhceemmdpaa
open Go.RowKit
set_option maxRecDepth 100000

theorem szFrame_any (v : Value) (x : Fr) (n : Int) (w : World) (h : RF w w.heap.size v x) (h0 : 0 ≤ n) (h1 : n ≤ 1048576) (h2 : x.d.length ≤ maxLen) :
    Calls Try.prog 21 #[v, .int .i64 n] w (RetV w (.int .i64 (szLeft n x.d))) := by
  obtain ⟨s, rfl, h⟩ := h
  obtain ⟨f, t, p, d⟩ := x
  simp only [frV] at h h2 ⊢
  have h3 := h
  obtain ⟨A, c, rfl, hlc, hc⟩ := h
  have hW : Below w.heap.size w (w.alloc (.cells #[.int .i64 f, .int .i64 t, .int .i64 p, .slice A d.length c] 34)) := (Below.refl _ _).alloc (Nat.le_refl _) _
  have h4 := (h3.below hW).more hW.size
  clear hc
  by_cases hlt : n < d.length
  · rw [szLeft_neg hlt]
    go_enter Try.func21, Try.ntmps21
    go_wp2_with fail
    refine (szIntS_any _ d _ _ h4 h0 h1 h2).mono ?_; rintro e w' ⟨rfl, rfl⟩
    rw [if_pos (by omega)]
    go_wp2_with fail
    go_ret
    exact ⟨rfl, hW⟩
  · rw [szLeft_pos hlt]
    have h5 : 0 ≤ n - (d.length : Int) := by omega
    go_enter Try.func21, Try.ntmps21
    go_wp2_with fail
    refine (szIntS_any _ d _ _ h4 h0 h1 h2).mono ?_; rintro e w' ⟨rfl, rfl⟩
    rw [if_neg (by omega)]
    go_wp2_with fail
    go_ret
    exact ⟨rfl, hW⟩
theorem eqFrame_same (v u : Value) (x : Fr) (w : World) (h : RF w w.heap.size v x) (h' : RF w w.heap.size u x) (hn : x.d.length ≤ 1048576) :
    Calls Try.prog 15 #[v, u] w (RetV w (.bool true)) := by
  obtain ⟨s, rfl, h⟩ := h
  obtain ⟨s', rfl, h'⟩ := h'
  obtain ⟨f, t, p, d⟩ := x
  simp only [frV] at h h' hn ⊢
  have h3 := h
  have h3' := h'
  obtain ⟨A, c, rfl, hlc, hc⟩ := h
  obtain ⟨A', c', rfl, hlc', hc'⟩ := h'
  have hW : Below w.heap.size w ((w.alloc (.cells #[.int .i64 f, .int .i64 t, .int .i64 p, .slice A d.length c] 26)).alloc (.cells #[.int .i64 f, .int .i64 t, .int .i64 p, .slice A' d.length c'] 26)) := ((Below.refl _ _).alloc (Nat.le_refl _) _).alloc (by simp) _
  have h4 := (h3.below hW).more hW.size
  have h4' := (h3'.below hW).more hW.size
  clear hc hc'
  go_enter Try.func15, Try.ntmps15
  go_wp2_with fail
  refine (eqIntS_same _ _ d _ h4 h4' hn).mono ?_; rintro e w1 ⟨rfl, hb⟩
  go_wp2_with fail
  go_ret
  exact ⟨rfl, hW.trans (hb.mono hW.size)⟩
theorem frStation_wi (n : Int) (w : World) : Calls Try.prog 39 #[.int .i64 n] w fun e w' => e = .returned (.bool (wi n 0 11)) ∧ w = w' := by
  go_enter Try.func39, Try.ntmps39
  go_wp2_with (go_at_call 37; refine (l1In_wi _ _ _ _).mono ?_; rintro e w' ⟨rfl, rfl⟩)
  go_ret
  exact ⟨rfl, rfl⟩
/-- What IsFrame says. -/
def isFr (x : Fr) : Bool := wi x.f 0 11 && (wi x.t 0 11 && (wi x.p 0 7 && (decide (x.d.length ≤ 16) && okAll 0 255 x.d)))
theorem areB_16 {l : List Int} (h : l.length ≤ 16) : areB l = okAll 0 255 l := by
  unfold areB
  rw [decide_eq_true (by omega), Bool.true_and]

theorem implIsFrame_any (v : Value) (x : Fr) (w : World) (h : RF w w.heap.size v x) (hn : x.d.length ≤ 1048576) :
    Calls Try.prog 26 #[v] w (RetV w (.bool (isFr x))) := by
  obtain ⟨s, rfl, h⟩ := h
  obtain ⟨f, t, p, d⟩ := x
  simp only [frV] at h hn ⊢
  have h3 := h
  obtain ⟨A, c, rfl, hlc, hc⟩ := h
  have hW : Below w.heap.size w (w.alloc (.cells #[.int .i64 f, .int .i64 t, .int .i64 p, .slice A d.length c] 26)) := (Below.refl _ _).alloc (Nat.le_refl _) _
  have h4 := (h3.below hW).more hW.size
  clear hc
  have hz : (d.length : Int) ≤ 1048576 := by omega
  cases hf : wi f 0 11
  · go_enter Try.func26, Try.ntmps26
    go_wp2_with (first | (go_at_call 34; refine (isWithin_wi _ _ _ _).mono ?_; rintro e w' ⟨rfl, rfl⟩) | (go_at_call 36; refine (areBytes_any _ d _ h4 hn).mono ?_; rintro e w' ⟨rfl, rfl⟩))
    go_ret
    exact ⟨ret_bool (by simp [isFr, hf]), hW⟩
  cases ht : wi t 0 11
  · go_enter Try.func26, Try.ntmps26
    go_wp2_with (first | (go_at_call 34; refine (isWithin_wi _ _ _ _).mono ?_; rintro e w' ⟨rfl, rfl⟩) | (go_at_call 36; refine (areBytes_any _ d _ h4 hn).mono ?_; rintro e w' ⟨rfl, rfl⟩))
    go_ret
    exact ⟨ret_bool (by simp [isFr, hf, ht]), hW⟩
  cases hp : wi p 0 7
  · go_enter Try.func26, Try.ntmps26
    go_wp2_with (first | (go_at_call 34; refine (isWithin_wi _ _ _ _).mono ?_; rintro e w' ⟨rfl, rfl⟩) | (go_at_call 36; refine (areBytes_any _ d _ h4 hn).mono ?_; rintro e w' ⟨rfl, rfl⟩))
    go_ret
    exact ⟨ret_bool (by simp [isFr, hf, ht, hp]), hW⟩
  rcases Nat.lt_or_ge 16 d.length with hl | hl
  · have hl' : (16 : Int) < d.length := by omega
    go_enter Try.func26, Try.ntmps26
    go_wp2_with (first | (go_at_call 34; refine (isWithin_wi _ _ _ _).mono ?_; rintro e w' ⟨rfl, rfl⟩) | (go_at_call 36; refine (areBytes_any _ d _ h4 hn).mono ?_; rintro e w' ⟨rfl, rfl⟩))
    go_ret
    exact ⟨ret_bool (by simp [isFr, hf, ht, hp]; omega), hW⟩
  have hl' : (d.length : Int) ≤ 16 := by omega
  have H16 := Lib.hid (areB_16 hl)
  go_enter Try.func26, Try.ntmps26
  go_wp2_with (first | (go_at_call 34; refine (isWithin_wi _ _ _ _).mono ?_; rintro e w' ⟨rfl, rfl⟩) | (go_at_call 36; refine (areBytes_any _ d _ h4 hn).mono ?_; rintro e w' ⟨rfl, rfl⟩))
  go_ret
  exact ⟨ret_bool (by simp [isFr, hf, ht, hp, hl, H16.out]), hW⟩

theorem frGood_any (v : Value) (x : Fr) (w : World) (h : RF w w.heap.size v x) (hn : x.d.length ≤ 1048576) :
    Calls Try.prog 32 #[v] w (RetV w (.bool (isFr x))) := by
  obtain ⟨s, rfl, h⟩ := h
  obtain ⟨f, t, p, d⟩ := x
  simp only [frV] at h hn ⊢
  have h3 := h
  obtain ⟨A, c, rfl, hlc, hc⟩ := h
  have hW : Below w.heap.size w (w.alloc (.cells #[.int .i64 f, .int .i64 t, .int .i64 p, .slice A d.length c] 26)) := (Below.refl _ _).alloc (Nat.le_refl _) _
  have h4 := (h3.below hW).more hW.size
  clear hc
  have hz : (d.length : Int) ≤ 1048576 := by omega
  cases hf : wi f 0 11
  · go_enter Try.func32, Try.ntmps32
    go_wp2_with (first | (go_at_call 39; refine (frStation_wi _ _).mono ?_; rintro e w' ⟨rfl, rfl⟩) | (go_at_call 37; refine (l1In_wi _ _ _ _).mono ?_; rintro e w' ⟨rfl, rfl⟩) | (go_at_call 40; refine (l1All_any _ d _ _ _ h4 hn).mono ?_; rintro e w' ⟨rfl, rfl⟩))
    go_ret
    exact ⟨ret_bool (by simp [isFr, hf]), hW⟩
  cases ht : wi t 0 11
  · go_enter Try.func32, Try.ntmps32
    go_wp2_with (first | (go_at_call 39; refine (frStation_wi _ _).mono ?_; rintro e w' ⟨rfl, rfl⟩) | (go_at_call 37; refine (l1In_wi _ _ _ _).mono ?_; rintro e w' ⟨rfl, rfl⟩) | (go_at_call 40; refine (l1All_any _ d _ _ _ h4 hn).mono ?_; rintro e w' ⟨rfl, rfl⟩))
    go_ret
    exact ⟨ret_bool (by simp [isFr, hf, ht]), hW⟩
  cases hp : wi p 0 7
  · go_enter Try.func32, Try.ntmps32
    go_wp2_with (first | (go_at_call 39; refine (frStation_wi _ _).mono ?_; rintro e w' ⟨rfl, rfl⟩) | (go_at_call 37; refine (l1In_wi _ _ _ _).mono ?_; rintro e w' ⟨rfl, rfl⟩) | (go_at_call 40; refine (l1All_any _ d _ _ _ h4 hn).mono ?_; rintro e w' ⟨rfl, rfl⟩))
    go_ret
    exact ⟨ret_bool (by simp [isFr, hf, ht, hp]), hW⟩
  rcases Nat.lt_or_ge 16 d.length with hl | hl
  · have hl' : (16 : Int) < d.length := by omega
    go_enter Try.func32, Try.ntmps32
    go_wp2_with (first | (go_at_call 39; refine (frStation_wi _ _).mono ?_; rintro e w' ⟨rfl, rfl⟩) | (go_at_call 37; refine (l1In_wi _ _ _ _).mono ?_; rintro e w' ⟨rfl, rfl⟩) | (go_at_call 40; refine (l1All_any _ d _ _ _ h4 hn).mono ?_; rintro e w' ⟨rfl, rfl⟩))
    go_ret
    exact ⟨ret_bool (by simp [isFr, hf, ht, hp]; omega), hW⟩
  have hl' : (d.length : Int) ≤ 16 := by omega
  go_enter Try.func32, Try.ntmps32
  go_wp2_with (first | (go_at_call 39; refine (frStation_wi _ _).mono ?_; rintro e w' ⟨rfl, rfl⟩) | (go_at_call 37; refine (l1In_wi _ _ _ _).mono ?_; rintro e w' ⟨rfl, rfl⟩) | (go_at_call 40; refine (l1All_any _ d _ _ _ h4 hn).mono ?_; rintro e w' ⟨rfl, rfl⟩))
  go_ret
  exact ⟨ret_bool (by simp [isFr, hf, ht, hp, hl]), hW⟩

end Go.Proofs.Ytmghhhceemmdpaa
