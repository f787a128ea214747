/-
  impl.wrapFrom: the contract. A scope with labels that the run jumps to from each other: a law of one's own, after the library's for one label.
-/
import Derived.Test.YtffmpkdkifecpaaRStep
import Derived.Test.YtffmpkdkifecpaaMathWrap
import Derived.Test.YtffmpkdkifecpaaAcc
import Derived.Test.YtffmpkdkifecpaaCat
import Derived.ScopeJumps
import Derived.WalkMore
namespace Go.Proofs.Ytffmpkdkifecpaa
section
variable {P : Program} {a : Act} {w : World} {Q : Exit → Act → World → Prop}
/-- What holds where a code within a scope is left: J of the label, where it is left by a goto; else Q. -/
def ManyE (J : Nat → Act → World → Prop) (Q : Exit → Act → World → Prop) (e : Exit) (a : Act) (w : World) : Prop :=
  match e with
  | .goto l => J l a w
  | e => Q e a w
theorem manyE_ret {J : Nat → Act → World → Prop} : ManyE J Q .ret a w = Q .ret a w := rfl
theorem manyE_else {J : Nat → Act → World → Prop} {e : Exit} (he : ¬ ∃ l, e = .goto l) (h : ManyE J Q e a w) : Q e a w := by
  cases e <;> first | exact h | exact absurd ⟨_, rfl⟩ he
/-- Behind a scope's end one stands where one stood within it, a goto apart. -/
theorem out_of_scope {m : Machine} {b : Frame} {c : Code} {k : List Item} {cs : List Frame} {e : Exit} (he : ¬ ∃ l, e = .goto l) (h : Arrives P m b (.inScope c :: k) cs e a w) : Arrives P m b k cs e a w := by
  cases e
  case goto l => exact absurd ⟨l, rfl⟩ he
  case normal => exact Steps.trans h (.one step_inScope)
  case exit id => exact fun k' hk => h k' (by simp [exitTo, hk])
  all_goals exact h
/-- A scope that is left, or gone on with at a label whose number is less each time. -/
theorem scope_runs {c : Code} {b : Frame} {k : List Item} {cs : List Frame} {J : Nat → Act → World → Prop} {μ : Nat → Act → World → Nat}
    (pass : ∀ l a w, J l a w → ∃ rest, findLabel c l = some rest ∧ rest.wp P (ManyE (fun l' a' w' => J l' a' w' ∧ μ l' a' w' < μ l a w) Q) a w) (n : Nat) :
    ∀ e a w m, ManyE (fun l a w => J l a w ∧ μ l a w < n) Q e a w → Arrives P m b (.inScope c :: k) cs e a w → ∃ e' a' w', Q e' a' w' ∧ Arrives P m b k cs e' a' w' := by
  induction n using Nat.strongRecOn with
  | _ n less =>
    intro e a w m hq hm
    by_cases he : ∃ l, e = .goto l
    · obtain ⟨l, rfl⟩ := he
      have hq' : J l a w ∧ μ l a w < n := hq
      obtain ⟨rest, hf, hrest⟩ := pass l a w hq'.1
      obtain ⟨e1, a1, w1, hq1, hm1⟩ := hrest b (.inScope c :: k) cs
      obtain ⟨e2, a2, w2, hq2, hm2⟩ := less _ hq'.2 e1 a1 w1 _ hq1 hm1
      have hg : gotoIn l (.inScope c :: k) = some (.code rest :: .inScope c :: k) := by simp [gotoIn, hf]
      exact ⟨e2, a2, w2, hq2, .of_steps (hm _ hg) hm2⟩
    · exact ⟨e, a, w, manyE_else he hq, out_of_scope he hm⟩
theorem wp_scope_many {c : Code} (J : Nat → Act → World → Prop) (μ : Nat → Act → World → Nat) (first : c.wp P (ManyE J Q) a w)
    (pass : ∀ l a w, J l a w → ∃ rest, findLabel c l = some rest ∧ rest.wp P (ManyE (fun l' a' w' => J l' a' w' ∧ μ l' a' w' < μ l a w) Q) a w) : (Code.scope c).wp P Q a w := by
  intro b k cs
  obtain ⟨e, a1, w1, hq, hm⟩ := first b (.inScope c :: k) cs
  have hm' : Arrives P (lone (b.at a (.code (.scope c) :: k)) cs w) b (.inScope c :: k) cs e a1 w1 := .of_steps (.one step_scope) hm
  by_cases he : ∃ l, e = .goto l
  · obtain ⟨l, rfl⟩ := he
    exact scope_runs pass (μ l a1 w1 + 1) (.goto l) a1 w1 _ ⟨hq, Nat.lt_succ_self _⟩ hm'
  · exact ⟨e, a1, w1, manyE_else he hq, out_of_scope he hm'⟩
end
end Go.Proofs.Ytffmpkdkifecpaa
namespace Go.Proofs.Ytffmpkdkifecpaa
open Go.RowKit
set_option maxRecDepth 100000
set_option linter.unusedVariables false
/-- What holds at a label: 0 forwards, 1 backwards. -/
def LabW (d : List Int) (k s : Int) (l n : Nat) (a : Int) : Prop := (l = 0 ∧ seqW d k s n = (a, turnW d k a true)) ∨ (l = 1 ∧ hasI d a = false ∧ seqW d k s n = (a, turnW d k a false))
theorem w_fwd {d : List Int} {k s : Int} {n : Nat} {a : Int} (h : hasI d a = false) (hs : seqW d k s n = (a, turnW d k a true)) : seqW d k s (n + 1) = (nx k a, turnW d k (nx k a) true) := by
  have e : turnW d k a true = true := by simp [turnW, h]
  rw [e] at hs
  show stepW d k (seqW d k s n) = _
  rw [hs]
  rfl
theorem w_turn {d : List Int} {k s : Int} {n : Nat} {a : Int} (h : hasI d a = true) (hs : seqW d k s n = (a, turnW d k a true)) : seqW d k s (n + 1) = (bf k a, turnW d k (bf k a) false) := by
  have e : turnW d k a true = false := by simp [turnW, h]
  rw [e] at hs
  show stepW d k (seqW d k s n) = _
  rw [hs]
  rfl
theorem w_turn_on {d : List Int} {k s : Int} {n : Nat} {a : Int} (h : hasI d a = true) (hs : seqW d k s n = (a, turnW d k a true)) (hon : OnW d k (seqW d k s n)) : hasI d (bf k a) = false := by
  have e : turnW d k a true = false := by simp [turnW, h]
  rw [e] at hs
  rw [hs] at hon
  simpa using hon.2
theorem w_bwd {d : List Int} {k s : Int} {n : Nat} {a : Int} (h : hasI d (bf k a) = false) (hs : seqW d k s n = (a, turnW d k a false)) : seqW d k s (n + 1) = (bf k a, turnW d k (bf k a) false) := by
  have e : turnW d k a false = false := by simp [turnW, h]
  rw [e] at hs
  show stepW d k (seqW d k s n) = _
  rw [hs]
  rfl
theorem w_back {d : List Int} {k s : Int} {n : Nat} {a : Int} (h0 : hasI d a = false) (h : hasI d (bf k a) = true) (hs : seqW d k s n = (a, turnW d k a false)) : seqW d k s n = (a, turnW d k a true) := by
  rw [hs]
  simp [turnW, h, h0]
theorem w_bwd_ne {d : List Int} {k s : Int} {n : Nat} {a : Int} (h0 : hasI d a = false) (h : hasI d (bf k a) = false) (hs : seqW d k s n = (a, turnW d k a false)) : seqW d k s n ≠ seqW d k s 0 := by
  rw [hs]
  intro e
  simp only [seqW, Prod.mk.injEq] at e
  obtain ⟨rfl, e⟩ := e
  simp [turnW, h, h0] at e
theorem wrapFrom_any (v : Value) (d : List Int) (K : Nat) (s : Int) (w : World) (h : RRg w w.heap.size v ⟨K, d⟩) (hk : 2 ≤ (K : Int) ∧ (K : Int) ≤ 12) (hs : 0 ≤ s ∧ s < K) (hn : d.length ≤ 1048576) :
    Calls Try.prog 41 #[v, .int .i64 s] w (RetL 3 w (if aloneW d K s then [s] else passW d K s (lenW d K s))) := by
  obtain ⟨sv, rfl, h⟩ := h
  simp only [RgV] at h ⊢
  have h3 := h
  obtain ⟨A, c, rfl, hlc, hc⟩ := h
  clear hc
  obtain ⟨i0, hi, hz0, hz1, hz2⟩ := info_parts int_info
  have hB0 := BK.made w 26 #[.int .i64 K, .slice A d.length c]
  have hW : Below w.heap.size w (w.alloc (.cells #[.int .i64 K, .slice A d.length c] 26)) := (Below.refl _ _).alloc (Nat.le_refl _) _
  have R0 := (h3.below hW).more hW.size
  obtain ⟨w0, hw0⟩ : ∃ w0, w0 = w.alloc (.cells #[.int .i64 K, .slice A d.length c] 26) := ⟨_, rfl⟩
  rw [← hw0] at hB0 hW R0
  have HB0 := Lib.hid hB0
  have HW := Lib.hid hW
  have HR := Lib.hid R0
  have b0 := hB0.cell 0
  have b1 := hB0.cell 1
  simp at b0 b1
  have HF := Lib.hid (fun wq (h : Below w0.heap.size w0 wq) a (ha : 0 ≤ a ∧ a < (K : Int)) => forwards_any (RgV ⟨K, d⟩ (.slice A d.length c)) ⟨K, d⟩ a wq ⟨_, rfl, (HR.out.below h).more h.size⟩ hk ha hn)
  have HB := Lib.hid (fun wq (h : Below w0.heap.size w0 wq) a (ha : 0 ≤ a ∧ a < (K : Int)) => backwards_any (RgV ⟨K, d⟩ (.slice A d.length c)) ⟨K, d⟩ a wq ⟨_, rfl, (HR.out.below h).more h.size⟩ hk ha hn)
  simp only [RgV] at HF HB
  have hs0 := hW.size
  have hs1 := hB0.1
  have hbs := bf_in hs.1 hs.2
  have hns := nx_in hs.1 hs.2
  clear R0 hB0 hW h3
  cases hal : aloneW d K s
  case true =>
    simp only [if_true]
    have hh : hasI d s = true ∧ hasI d (bf K s) = true := by simpa [aloneW] using hal
    have HF1 := Lib.hid (HF.out w0 (Below.refl _ _) s hs)
    simp only [fw, hh.1, if_true, optV] at HF1
    have HB1 := Lib.hid (fun wq h => HB.out wq h s hs)
    simp only [bw, hh.2, if_true, optV] at HB1
    clear hal hh HF HB
    go_enter Try.func41, Try.ntmps41
    go_wp2_with fail
    rw [← hw0]
    clear hw0
    go_step3
    go_wp2_with fail
    go_step3
    go_wp2_with fail
    refine HF1.out.mono ?_; rintro e w1 ⟨rfl, hb1⟩
    have q := HB0.out.step hb1
    have q0 := q.cell 0
    have q1 := q.cell 1
    simp at q0 q1
    have T1 := HW.out.trans (hb1.mono hs0)
    have HH := Lib.hid hb1
    clear q hb1 b0 b1
    go_wp2_with fail
    go_step3
    go_wp2_with fail
    refine (HB1.out _ HH.out).mono ?_; rintro e w2 ⟨rfl, hb2⟩
    have T2 := T1.trans (hb2.mono T1.size)
    have hacc := Acc.lit1 (E := 3) (w := w2) (lo := w2.heap.size) (x := s) (g := w2.heap.size) rfl
    have HO := Lib.hid (hacc.oi.wide (lo' := w.heap.size) T2.size (Nat.le_refl _))
    have HT := Lib.hid (T2.trans ((Below.refl _ _).alloc (Nat.le_refl _) (.cells #[.int .i64 s] 3) |>.mono T2.size))
    clear hacc q0 q1 hb2 T2 T1 HH
    go_wp2_with fail
    simp only [Exit.noGoto_ret]
    go_ret
    exact ⟨_, rfl, HO.out, HT.out⟩
  obtain ⟨N, hN⟩ : ∃ N, N = lenW d K s := ⟨_, rfl⟩
  simp only [Bool.false_eq_true, if_false]
  rw [← hN]
  have hend := lenW_end hk.1 hs hal
  rw [← hN] at hend
  have HON := Lib.hid (seqW_on hk.1 hs hal)
  have HEND := Lib.hid hend.2
  have hN2 := hend.1
  have hN0 := hend.2.1
  have HNE := Lib.hid (fun n (h0 : 0 < n) (hle : n ≤ N) (hne : seqW d K s n ≠ seqW d K s 0) => show n < N from by
    rcases Nat.lt_or_eq_of_le hle with h | h
    · exact h
    · exact absurd (h ▸ HEND.out.2.1) hne)
  clear hend hN
  go_enter Try.func41, Try.ntmps41
  go_wp2_with fail
  rw [← hw0]
  clear hw0
  refine wp_scope_many (fun l a' w' => ∃ (n : Nat) (A5 : Option Addr) (c5 : Nat) (a : Int) (u7 u8 u9 u10 u11 u12 u13 u14 u15 u16 u17 u18 u19 u20 u21 u22 u23 u24 u25 u26 u27 u28 u29 u30 u31 u32 u33 u34 u35 u36 u37 u38 u39 u40 u41 u42 u43 u44 u45 u46 u47 u48 u49 : Value), a' = { tmps := #[.agg #[.int .i64 K, .slice A d.length c], .int .i64 s, .pointer (some ⟨w.heap.size, 0, none⟩), undef, .slice none 0 0, .slice A5 n c5, .int .i64 a, u7, u8, u9, u10, u11, u12, u13, u14, u15, u16, u17, u18, u19, u20, u21, u22, u23, u24, u25, u26, u27, u28, u29, u30, u31, u32, u33, u34, u35, u36, u37, u38, u39, u40, u41, u42, u43, u44, u45, u46, u47, u48, u49], defers := [] } ∧ (0 < n ∧ n ≤ N) ∧ LabW d K s l n a ∧ Acc 3 w' w0.heap.size (.slice A5 n c5) (passW d K s n) ∧ Below w0.heap.size w0 w') (fun l a' _ => match a'.tmps.getD 5 undef with | .slice _ n _ => 2 * (N - n) + l | _ => 0) ?_ ?_
  · have HP1 : Hid (passW d K s 1 = [] ++ [s]) := rfl
    have HS0 : Hid (seqW d K s 0 = (s, turnW d K s true)) := rfl
    cases hh : hasI d s
    case false =>
      have HF1 := Lib.hid (HF.out w0 (Below.refl _ _) s hs)
      simp only [fw, hh, Bool.false_eq_true, if_false, optV] at HF1
      have HLB : Hid (LabW d K s 0 1 (nx K s)) := .inl ⟨rfl, w_fwd hh HS0.out⟩
      clear hh HF HB
      go_wp2_with fail
      go_step3
      go_wp2_with fail
      refine HF1.out.mono ?_; rintro e w1 ⟨rfl, hb1⟩
      have hz := hb1.size
      clear HF1
      go_wp2_with (at_builtin; refine wpList_push rfl _ _ 22 rfl 3 i0 Try.underlying22 hi hz0 hz1 hz2 w1 w0 w0.heap.size _ [] s rfl rfl (Acc.nil _ _ _) rfl (by first | assumption | simp) hz hb1 ?_; intro v4 w4 hacc4 hb4)
      rw [← HP1.out] at hacc4
      have hv4 : ∃ A9 c9, v4 = .slice A9 1 c9 := by
        obtain ⟨A9, c9, h9⟩ := acc_shape hacc4
        rw [passW_len] at h9
        exact ⟨A9, c9, h9⟩
      obtain ⟨A9, c9, rfl⟩ := hv4
      go_step3
      exact ⟨1, A9, c9, _, _, _, _, _, _, _, _, _, _, _, _, _, _, _, _, _, _, _, _, _, _, _, _, _, _, _, _, _, _, _, _, _, _, _, _, _, _, _, _, _, _, _, _, rfl, ⟨by omega, by omega⟩, HLB.out, hacc4, hb4⟩
    case true =>
      have HF1 := Lib.hid (HF.out w0 (Below.refl _ _) s hs)
      simp only [fw, hh, if_true, optV] at HF1
      have hh2 := w_turn_on hh HS0.out (HON.out 0)
      have HB1 := Lib.hid (fun wq h => HB.out wq h s hs)
      simp only [bw, hh2, Bool.false_eq_true, if_false, optV] at HB1
      have HLB : Hid (LabW d K s 1 1 (bf K s)) := .inr ⟨rfl, hh2, w_turn hh HS0.out⟩
      clear hh hh2 HF HB
      go_wp2_with fail
      go_step3
      go_wp2_with fail
      refine HF1.out.mono ?_; rintro e w1 ⟨rfl, hb1⟩
      have q := HB0.out.step hb1
      have q0 := q.cell 0
      have q1 := q.cell 1
      simp at q0 q1
      have HH := Lib.hid hb1
      clear q hb1 b0 b1 HF1
      go_wp2_with fail
      go_step3
      go_wp2_with fail
      refine (HB1.out _ HH.out).mono ?_; rintro e w2 ⟨rfl, hb2⟩
      have hb1 := HH.out.trans (hb2.mono HH.out.size)
      have hz := hb1.size
      clear q0 q1 hb2 HH HB1
      go_wp2_with (at_builtin; refine wpList_push rfl _ _ 22 rfl 3 i0 Try.underlying22 hi hz0 hz1 hz2 w2 w0 w0.heap.size _ [] s rfl rfl (Acc.nil _ _ _) rfl (by first | assumption | simp) hz hb1 ?_; intro v4 w4 hacc4 hb4)
      rw [← HP1.out] at hacc4
      have hv4 : ∃ A9 c9, v4 = .slice A9 1 c9 := by
        obtain ⟨A9, c9, h9⟩ := acc_shape hacc4
        rw [passW_len] at h9
        exact ⟨A9, c9, h9⟩
      obtain ⟨A9, c9, rfl⟩ := hv4
      go_step3
      exact ⟨1, A9, c9, _, _, _, _, _, _, _, _, _, _, _, _, _, _, _, _, _, _, _, _, _, _, _, _, _, _, _, _, _, _, _, _, _, _, _, _, _, _, _, _, _, _, _, _, rfl, ⟨by omega, by omega⟩, HLB.out, hacc4, hb4⟩
  · rintro l a' wq ⟨n, A5, c5, a, u7, u8, u9, u10, u11, u12, u13, u14, u15, u16, u17, u18, u19, u20, u21, u22, u23, u24, u25, u26, u27, u28, u29, u30, u31, u32, u33, u34, u35, u36, u37, u38, u39, u40, u41, u42, u43, u44, u45, u46, u47, u48, u49, rfl, ⟨hn0, hnN⟩, hlab, hacc, hbq⟩
    have hon := HON.out n
    have HPS : Hid (passW d K s (n + 1) = passW d K s n ++ [(seqW d K s n).1]) := passW_succ _ _ _ _
    have hul : (passW d K s n).length < 1000000000 := by rw [passW_len]; omega
    have hn1 : (0 : Int) < (n : Int) := by omega
    have q := HB0.out.step hbq
    have q0 := q.cell 0
    have q1 := q.cell 1
    simp at q0 q1
    have hzq := hbq.size
    have HAC := Lib.hid hacc
    have HBQ := Lib.hid hbq
    clear hacc hbq q b0 b1
    rcases hlab with ⟨rfl, hseq⟩ | ⟨rfl, hha, hseq⟩
    · refine ⟨_, rfl, ?_⟩
      have hat : 0 ≤ a ∧ a < (K : Int) := by have := hon.1; rw [hseq] at this; exact this
      have hax := nx_in hat.1 hat.2
      have hab := bf_in hat.1 hat.2
      by_cases has : a = s
      · subst has
        have HN : Hid (n = N) := by
          show n = N
          rcases Nat.lt_or_eq_of_le hnN with h | h
          · exact absurd hseq (HEND.out.2.2 n hn0 h)
          · exact h
        have HO := Lib.hid (HAC.out.oi.wide (lo' := w.heap.size) hs0 (Nat.le_refl _))
        have HT := Lib.hid (HW.out.trans (HBQ.out.mono hs0))
        rw [HN.out] at HO
        clear hseq hon
        go_wp2_with fail
        simp only [manyE_ret]
        go_ret
        exact ⟨_, rfl, by have := HO.out; rw [HN.out]; exact this, HT.out⟩
      · have hbe : (a == s) = false := by simpa using has
        have HLN : Hid (n < N) := HNE.out n hn0 hnN (by rw [hseq]; intro e; exact has (congrArg Prod.fst e))
        rw [hseq] at HPS
        cases hh : hasI d a
        case false =>
          have HF1 := Lib.hid (HF.out wq HBQ.out a hat)
          simp only [fw, hh, Bool.false_eq_true, if_false, optV] at HF1
          have HLB : Hid (LabW d K s 0 (n + 1) (nx K a)) := .inl ⟨rfl, w_fwd hh hseq⟩
          clear hh hseq hon HF HB has
          go_wp2_with fail
          refine HF1.out.mono ?_; rintro e w1 ⟨rfl, hb1⟩
          have hacc1 := HAC.out.step hb1
          have hb2 := HBQ.out.trans (hb1.mono hzq)
          have hz := hb2.size
          clear HF1 hb1 q0 q1
          go_wp2_with (at_builtin; refine wpList_push rfl _ _ 22 rfl 3 i0 Try.underlying22 hi hz0 hz1 hz2 w1 w0 w0.heap.size _ (passW d K s n) a rfl rfl hacc1 rfl (by first | assumption | simp) hz hb2 ?_; intro v4 w4 hacc4 hb4)
          rw [← HPS.out] at hacc4
          have hv4 : ∃ A9 c9, v4 = .slice A9 (n + 1) c9 := by
            obtain ⟨A9, c9, h9⟩ := acc_shape hacc4
            rw [passW_len] at h9
            exact ⟨A9, c9, h9⟩
          obtain ⟨A9, c9, rfl⟩ := hv4
          go_step3
          have hln := HLN.out
          exact ⟨⟨n + 1, A9, c9, _, _, _, _, _, _, _, _, _, _, _, _, _, _, _, _, _, _, _, _, _, _, _, _, _, _, _, _, _, _, _, _, _, _, _, _, _, _, _, _, _, _, _, _, rfl, ⟨by omega, by omega⟩, HLB.out, hacc4, hb4⟩, by simp; omega⟩
        case true =>
          have HF1 := Lib.hid (HF.out wq HBQ.out a hat)
          simp only [fw, hh, if_true, optV] at HF1
          have hh2 := w_turn_on hh hseq hon
          have HB1 := Lib.hid (fun wq h => HB.out wq h a hat)
          simp only [bw, hh2, Bool.false_eq_true, if_false, optV] at HB1
          have HLB : Hid (LabW d K s 1 (n + 1) (bf K a)) := .inr ⟨rfl, hh2, w_turn hh hseq⟩
          clear hh hh2 hseq hon HF HB has
          go_wp2_with fail
          refine HF1.out.mono ?_; rintro e w1 ⟨rfl, hb1⟩
          have HH := Lib.hid (HBQ.out.trans (hb1.mono hzq))
          have hacc1 := HAC.out.step hb1
          have hzz := hb1.size
          have HA1 := Lib.hid hacc1
          have q := HB0.out.step HH.out
          clear q0 q1
          have q0 := q.cell 0
          have q1 := q.cell 1
          simp at q0 q1
          clear q hb1 HF1 hacc1
          go_wp2_with fail
          go_step3
          go_wp2_with fail
          refine (HB1.out _ HH.out).mono ?_; rintro e w2 ⟨rfl, hb1⟩
          have hacc1 := HA1.out.step hb1
          have hb2 := HH.out.trans (hb1.mono HH.out.size)
          have hz := hb2.size
          clear q0 q1 hb1 HB1
          go_wp2_with (at_builtin; refine wpList_push rfl _ _ 22 rfl 3 i0 Try.underlying22 hi hz0 hz1 hz2 w2 w0 w0.heap.size _ (passW d K s n) a rfl rfl hacc1 rfl (by first | assumption | simp) hz hb2 ?_; intro v4 w4 hacc4 hb4)
          rw [← HPS.out] at hacc4
          have hv4 : ∃ A9 c9, v4 = .slice A9 (n + 1) c9 := by
            obtain ⟨A9, c9, h9⟩ := acc_shape hacc4
            rw [passW_len] at h9
            exact ⟨A9, c9, h9⟩
          obtain ⟨A9, c9, rfl⟩ := hv4
          go_step3
          have hln := HLN.out
          exact ⟨⟨n + 1, A9, c9, _, _, _, _, _, _, _, _, _, _, _, _, _, _, _, _, _, _, _, _, _, _, _, _, _, _, _, _, _, _, _, _, _, _, _, _, _, _, _, _, _, _, _, _, rfl, ⟨by omega, by omega⟩, HLB.out, hacc4, hb4⟩, by simp; omega⟩
    · refine ⟨_, rfl, ?_⟩
      have hat : 0 ≤ a ∧ a < (K : Int) := by have := hon.1; rw [hseq] at this; exact this
      have hab := bf_in hat.1 hat.2
      cases hh : hasI d (bf K a)
      case false =>
        have HLN : Hid (n < N) := HNE.out n hn0 hnN (w_bwd_ne hha hh hseq)
        rw [hseq] at HPS
        have HB1 := Lib.hid (HB.out wq HBQ.out a hat)
        simp only [bw, hh, Bool.false_eq_true, if_false, optV] at HB1
        have HLB : Hid (LabW d K s 1 (n + 1) (bf K a)) := .inr ⟨rfl, hh, w_bwd hh hseq⟩
        clear hh hseq hon HF HB hha
        go_wp2_with fail
        refine HB1.out.mono ?_; rintro e w1 ⟨rfl, hb1⟩
        have hacc1 := HAC.out.step hb1
        have hb2 := HBQ.out.trans (hb1.mono hzq)
        have hz := hb2.size
        clear HB1 hb1 q0 q1
        go_wp2_with (at_builtin; refine wpList_push rfl _ _ 22 rfl 3 i0 Try.underlying22 hi hz0 hz1 hz2 w1 w0 w0.heap.size _ (passW d K s n) a rfl rfl hacc1 rfl (by first | assumption | simp) hz hb2 ?_; intro v4 w4 hacc4 hb4)
        rw [← HPS.out] at hacc4
        have hv4 : ∃ A9 c9, v4 = .slice A9 (n + 1) c9 := by
          obtain ⟨A9, c9, h9⟩ := acc_shape hacc4
          rw [passW_len] at h9
          exact ⟨A9, c9, h9⟩
        obtain ⟨A9, c9, rfl⟩ := hv4
        go_step3
        have hln := HLN.out
        exact ⟨⟨n + 1, A9, c9, _, _, _, _, _, _, _, _, _, _, _, _, _, _, _, _, _, _, _, _, _, _, _, _, _, _, _, _, _, _, _, _, _, _, _, _, _, _, _, _, _, _, _, _, rfl, ⟨by omega, by omega⟩, HLB.out, hacc4, hb4⟩, by simp; omega⟩
      case true =>
        have HB1 := Lib.hid (HB.out wq HBQ.out a hat)
        simp only [bw, hh, if_true, optV] at HB1
        have HLB : Hid (LabW d K s 0 n a) := .inl ⟨rfl, w_back hha hh hseq⟩
        have hnz : ((n : Int) == 0) = false := by simp; omega
        clear hh hseq hon HF HB hha
        go_wp2_with fail
        refine HB1.out.mono ?_; rintro e w1 ⟨rfl, hb1⟩
        have hacc1 := HAC.out.step hb1
        have hb2 := HBQ.out.trans (hb1.mono hzq)
        clear HB1 hb1 q0 q1
        go_wp2_with fail
        go_step3
        exact ⟨⟨n, A5, c5, _, _, _, _, _, _, _, _, _, _, _, _, _, _, _, _, _, _, _, _, _, _, _, _, _, _, _, _, _, _, _, _, _, _, _, _, _, _, _, _, _, _, _, _, rfl, ⟨by omega, by omega⟩, HLB.out, hacc1, hb2⟩, by simp⟩
end Go.Proofs.Ytffmpkdkifecpaa
