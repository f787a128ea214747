/-
  A line awaits a job; the greatest one of those that wait.
-/
import Derived.Test.YteoggoopfjkdkaaIdx
namespace Go.Proofs.Yteoggoopfjkdkaa
open Go.RowKit
set_option maxRecDepth 100000
set_option linter.unusedVariables false

theorem LN.step {w w' : World} {lo g : Nat} {tick step tc : Int} {tb : Bool} {gr pr : Value} {cr : Nat → Int} {l : List Jb} (h : LN w lo g tick step tc tb gr pr cr l) (hb : Below w.heap.size w w') : LN w' lo g tick step tc tb gr pr cr l := by
  obtain ⟨cs, v, h1, h2, h3⟩ := h.cells
  exact ⟨cs, v, h1.step hb, h2, OK.step h3 hb⟩
theorem LN.far {w w' : World} {a b lo g : Nat} {tick step tc : Int} {tb : Bool} {gr pr : Value} {cr : Nat → Int} {l : List Jb} (h : LN w lo g tick step tc tb gr pr cr l) (hb : Wr a b w w') (ha : g < a) : LN w' lo g tick step tc tb gr pr cr l := by
  obtain ⟨cs, v, h1, h2, h3⟩ := h.cells
  exact ⟨cs, v, h1.far hb (.inl ha), h2, OK.far h3 hb (.inl (by omega))⟩
theorem LN.lt {w : World} {lo g : Nat} {tick step tc : Int} {tb : Bool} {gr pr : Value} {cr : Nat → Int} {l : List Jb} (h : LN w lo g tick step tc tb gr pr cr l) : g < w.heap.size := by
  obtain ⟨cs, v, h1, h2, h3⟩ := h.cells
  exact h1.1
/-- What is known of a job's cells. -/
theorem left_cells {w : World} {B : Nat} {v : Value} {l : List Jb} (h : RJbS w B v l) (k : Nat) (hk : k < l.length) : ∃ b off c, v = .slice (some ⟨b, off, none⟩) l.length c ∧ b < B ∧
    w.cell? ⟨b, off + k * 3, none⟩ = some (.int .i64 l[k]!.t) ∧ w.cell? ⟨b, off + k * 3 + 1, none⟩ = some (.int .i64 l[k]!.c) ∧ w.cell? ⟨b, off + k * 3 + 2, none⟩ = some (.int .i64 l[k]!.l) := by
  have h0 := h
  obtain ⟨A, c, rfl, _⟩ := h
  obtain ⟨_, _, _, hc⟩ := h0.parts
  obtain ⟨b, off, rfl, hb, hcell⟩ := hc (by omega)
  obtain ⟨h1, h2, h3⟩ := hcell k hk
  exact ⟨b, off, c, rfl, hb, h1, h2, h3⟩
/-- What 'awaitJob' leaves. -/
def RetAwait (lo g : Nat) (tick step tc : Int) (tb : Bool) (gr pr : Value) (cr : Nat → Int) (l : List Jb) (w : World) (e : Ending) (w' : World) : Prop :=
  ((∀ j, j < l.length → isJ l[j]! = false) ∧ e = .returned (.bool false) ∧ Below w.heap.size w w') ∨
  ∃ k, k < l.length ∧ isJ l[k]! = true ∧ (∀ j, j < k → isJ l[j]! = false) ∧ e = .returned (.bool true) ∧
    ((l[k]!.t ≤ tick ∧ Below w.heap.size w w') ∨ (tick < l[k]!.t ∧ LN w' lo g l[k]!.t step 7 false gr pr (fun _ => 0) l ∧ Wr g (g + 1) w w'))
theorem LC.putTick {cs : Array Value} {tick : Int} {v : Value} {step tc : Int} {tb : Bool} {gr pr : Value} {cr : Nat → Int} (h : LC cs tick v step tc tb gr pr cr) (t : Int) : LC (cs.setIfInBounds 0 (.int .i64 t)) t v step tc tb gr pr cr := by
  have hs := h.size
  refine ⟨by simp [hs], ?_, ?_, ?_, ?_, ?_, ?_, ?_, ?_⟩
  · simp [hs]
  · simp [h.left]
  · simp [h.step]
  · simp [h.tc]
  · simp [h.tb]
  · simp [h.gr]
  · simp [h.pr]
  · intro i hi
    have := h.cr i hi
    rw [Array.getElem?_setIfInBounds, if_neg (by omega)]
    exact this
set_option maxHeartbeats 2000000 in
theorem await_any (lo g : Nat) (tick step tc : Int) (tb : Bool) (gr pr : Value) (cr : Nat → Int) (l : List Jb) (w : World) (h : LN w lo g tick step tc tb gr pr cr l) (hn : l.length ≤ 20) :
    Calls Try.prog 57 #[.pointer (some ⟨g, 0, none⟩)] w (RetAwait lo g tick step tc tb gr pr cr l w) := by
  obtain ⟨cs, v, hbk, hlc, hol⟩ := h.cells
  have hgs := hbk.1
  have c1 := (hbk.cell 1).trans hlc.left
  have HP := Lib.hid (idxAwait_any isJ v l w (hol.rk.more (by omega)) (by omega) (fun y wx hb => await1_any y wx))
  have HBK := Lib.hid hbk
  have HLC := Lib.hid hlc
  have HOL := Lib.hid hol
  obtain ⟨A, c, rfl, _⟩ := hol.rk
  have hn' : (l.length : Int) ≤ 20 := by omega
  clear hbk hlc hol h
  go_enter Try.func57, Try.ntmps57
  go_wp2_with fail
  refine HP.out.mono ?_; rintro e w1 ⟨x, hx, rfl, hb⟩
  rcases hx with ⟨k, hk, h1, h2, rfl⟩ | ⟨h2, rfl⟩
  · have hki : (k : Int) < (l.length : Int) := by omega
    have hs1 := hb.size
    have hbk1 := HBK.out.step hb
    have d0 := (hbk1.cell 0).trans HLC.out.tick
    have d1 := (hbk1.cell 1).trans HLC.out.left
    have ho1 := OK.step HOL.out hb
    obtain ⟨b, off, c9, hv9, hbb, e0, _, _⟩ := left_cells ho1.rk k hk
    injection hv9 with hA _ hC
    subst hA; subst hC
    have H1 := Lib.hid h1
    have H2 := Lib.hid h2
    have HB := Lib.hid hb
    have HBK1 := Lib.hid hbk1
    have HO1 := Lib.hid ho1
    have HE : Hid (∀ (e : Ending) (w2 : World), e = .returned (.bool true) → ((l[k]!.t ≤ tick ∧ Below w.heap.size w w2) ∨ (tick < l[k]!.t ∧ LN w2 lo g l[k]!.t step 7 false gr pr (fun _ => 0) l ∧ Wr g (g + 1) w w2)) → RetAwait lo g tick step tc tb gr pr cr l w e w2) :=
      fun e w2 a b => .inr ⟨k, hk, H1.out, H2.out, a, b⟩
    clear h1 h2 hb hbk1 ho1
    generalize l[k]!.t = T at e0 HE
    by_cases hlt : tick < T
    · have f0 := HBK1.out.free 0
      have HA := Lib.hid (fun m => beginAnew_any g _ T _ step tc tb gr pr cr ((w1.drewN m).setCell ⟨g, 0, none⟩ (.int .i64 T)) (BK.put (w := w1.drewN m) HBK1.out 0 (.int .i64 T)) (HLC.out.putTick T))
      go_wp2_with fail
      go_quiet (fail)
      go_wp2_with fail
      refine (HA.out nq).mono ?_; rintro e w2 ⟨rfl, hbk2, hwr⟩
      have HBK2 := Lib.hid hbk2
      have hw2 : Wr g (g + 1) w1 w2 := Wr.trans ((Wr.refl g (g + 1) w1).at 0 (.int .i64 T)) ⟨hwr.os, hwr.tape, hwr.output, hwr.size, hwr.block⟩
      have HW2 := Lib.hid hw2
      clear hbk2 hwr hw2
      go_wp2_with fail
      go_ret
      exact HE.out _ _ rfl (.inr ⟨hlt, ⟨⟨_, _, HBK2.out, (HLC.out.putTick T).anew, OK.far HO1.out HW2.out (.inl (Nat.le_refl _))⟩⟩, (Wr.of_below HB.out g (g + 1)).trans HW2.out⟩)
    · go_wp2_with fail
      go_quiet (fail)
      go_wp2_with fail
      go_ret
      exact HE.out _ _ rfl (.inl ⟨by omega, below_drewN HB.out _⟩)
  · have H2 := Lib.hid h2
    clear h2
    go_wp2_with fail
    go_ret
    exact .inl ⟨H2.out, rfl, hb⟩

/-- The first one with the greatest rank of those that wait, of the first m. -/
def bestOf (w : Nat → Bool) (r : Nat → Int) : Nat → Option Nat
  | 0 => none
  | m + 1 => match bestOf w r m with
    | none => if w m then some m else none
    | some b => if w m && decide (r b < r m) then some m else some b
theorem bestOf_some {w : Nat → Bool} {r : Nat → Int} {m b : Nat} (h : bestOf w r m = some b) : b < m ∧ w b = true := by
  induction m generalizing b with
  | zero => cases h
  | succ m ih =>
    rw [bestOf] at h
    cases hb : bestOf w r m with
    | none =>
      rw [hb] at h
      simp only at h
      cases hw : w m
      · rw [hw] at h; cases h
      · rw [hw] at h
        injection h with h
        subst h
        exact ⟨by omega, hw⟩
    | some c =>
      rw [hb] at h
      simp only at h
      cases hw : (w m && decide (r c < r m))
      · rw [hw] at h
        injection h with h
        subst h
        have := ih hb
        exact ⟨by omega, this.2⟩
      · rw [hw] at h
        injection h with h
        subst h
        simp only [Bool.and_eq_true] at hw
        exact ⟨by omega, hw.1⟩
theorem bestOf_none {w : Nat → Bool} {r : Nat → Int} {m : Nat} (h : bestOf w r m = none) : ∀ j, j < m → w j = false := by
  induction m with
  | zero => intro j hj; omega
  | succ m ih =>
    intro j hj
    rw [bestOf] at h
    cases hb : bestOf w r m with
    | none =>
      rw [hb] at h
      simp only at h
      cases hw : w m
      · by_cases e : j = m
        · rw [e]; exact hw
        · exact ih hb j (by omega)
      · rw [hw] at h; cases h
    | some c =>
      rw [hb] at h
      simp only at h
      split at h <;> cases h
/-- With one rank for all it is the first one that waits. -/
theorem bestOf_first {w : Nat → Bool} {c : Int} {n k : Nat} (hk : k < n) (hw : w k = true) (hl : ∀ j, j < k → w j = false) : bestOf w (fun _ => c) n = some k := by
  have key : ∀ m, (m ≤ k → bestOf w (fun _ => c) m = none) ∧ (k < m → bestOf w (fun _ => c) m = some k) := by
    intro m
    induction m with
    | zero => exact ⟨fun _ => rfl, fun h => absurd h (by omega)⟩
    | succ m ih =>
      constructor
      · intro h
        rw [bestOf, ih.1 (by omega)]
        simp [hl m (by omega)]
      · intro h
        by_cases e : k = m
        · subst e
          rw [bestOf, ih.1 (Nat.le_refl _)]
          simp [hw]
        · rw [bestOf, ih.2 (by omega)]
          simp
  exact (key n).2 hk
/-- The walk's own choice: the first one that waits, till a greater one comes. -/
theorem bestOf_step {w : Nat → Bool} {r : Nat → Int} {m f ch : Nat} (hf : w f = true) (hl : ∀ j, j < f → w j = false) (h : ch = (bestOf w r m).getD f) :
    (w m = true ∧ r ch < r m → m = (bestOf w r (m + 1)).getD f) ∧ (¬ (w m = true ∧ r ch < r m) → ch = (bestOf w r (m + 1)).getD f) := by
  cases hb : bestOf w r m with
  | none =>
    rw [hb] at h
    have hno := bestOf_none hb
    simp only [Option.getD_none] at h
    subst h
    cases hw : w m
    · refine ⟨fun h => by simp at h, fun _ => ?_⟩
      rw [bestOf, hb]
      simp [hw]
    · have hmf : ch ≤ m := by
        rcases Nat.lt_or_ge m ch with h | h
        · have := hl m h; rw [hw] at this; cases this
        · exact h
      have hfm : m ≤ ch := by
        rcases Nat.lt_or_ge ch m with h | h
        · have := hno ch h; rw [hf] at this; cases this
        · exact h
      obtain rfl : m = ch := by omega
      rw [bestOf, hb]
      simp [hw]
  | some b =>
    rw [hb] at h
    simp only [Option.getD_some] at h
    subst h
    rw [bestOf, hb]
    constructor
    · rintro ⟨h1, h2⟩
      simp [h1, h2]
    · intro h1
      have : (w m && decide (r ch < r m)) = false := by
        rw [Bool.and_eq_false_iff]
        cases hw : w m
        · exact .inl rfl
        · right
          rw [decide_eq_false_iff_not]
          exact fun h2 => h1 ⟨hw, h2⟩
      simp [this]
end Go.Proofs.Yteoggoopfjkdkaa
