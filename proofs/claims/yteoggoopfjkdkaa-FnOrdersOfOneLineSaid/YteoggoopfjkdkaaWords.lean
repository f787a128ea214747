/-
  Words on memory that the contracts of this seat share: a slice of ints that reads as a list, one that the call owns. No dump is imported.
-/
import Derived.WalkKit
import Derived.Laws.OwnMore
import Derived.Deep.Draws
import Derived.Lib.Hide
import Derived.OwnWalk
namespace Go.Proofs.Yteoggoopfjkdkaa
open Go.RowKit

/-- The cells of a list of ints. -/
def ics (l : List Int) : List Value := l.map (Value.int .i64)

/-- The slice value v reads as the ints l, and lies below block B. -/
def RI (w : World) (B : Nat) (v : Value) (l : List Int) : Prop :=
  ∃ A c, v = .slice A l.length c ∧ (l.length ≤ c ∧ c ≤ maxLen ∧ (A = none → c = 0)) ∧ (0 < l.length → ∃ b off, A = some ⟨b, off, none⟩ ∧ b < B ∧ ∀ j, j < l.length → w.cell? ⟨b, off + j, none⟩ = some (.int .i64 (l.getD j 0)))

/-- The slice value v owns the ints l, in a block of [lo, hi) (or has none). -/
def OI (E : TypeId) (w : World) (lo hi : Nat) (v : Value) (l : List Int) : Prop :=
  (l = [] ∧ ∃ A c, v = .slice A 0 c ∧ c ≤ maxLen ∧ (A = none → c = 0)) ∨ ∃ g c, v = .slice (some ⟨g, 0, none⟩) l.length c ∧ lo ≤ g ∧ g < hi ∧ w.ownsRow lo E 1 (.slice (some ⟨g, 0, none⟩) l.length c) l.length (ics l)

/-- From w to w' old blocks are written in [lo, hi) alone. -/
structure Wr (lo hi : Nat) (w w' : World) : Prop where
  os : w'.os = w.os
  tape : w'.tape = w.tape
  output : w'.output = w.output
  size : w.heap.size ≤ w'.heap.size
  block : ∀ k, k < w.heap.size → (k < lo ∨ hi ≤ k) → w'.heap[k]? = w.heap[k]?
theorem Wr.refl (lo hi : Nat) (w : World) : Wr lo hi w w := ⟨rfl, rfl, rfl, Nat.le_refl _, fun _ _ _ => rfl⟩
theorem Wr.trans {lo hi : Nat} {a b c : World} (h : Wr lo hi a b) (k : Wr lo hi b c) : Wr lo hi a c :=
  ⟨k.os.trans h.os, k.tape.trans h.tape, k.output.trans h.output, Nat.le_trans h.size k.size, fun i hi hn => (k.block i (Nat.lt_of_lt_of_le hi h.size) hn).trans (h.block i hi hn)⟩
theorem Wr.wide {lo hi lo' hi' : Nat} {w w' : World} (h : Wr lo hi w w') (h1 : lo' ≤ lo) (h2 : hi ≤ hi') : Wr lo' hi' w w' :=
  ⟨h.os, h.tape, h.output, h.size, fun k hk hn => h.block k hk (by omega)⟩
theorem Wr.of_below {w w' : World} (h : Below w.heap.size w w') (lo hi : Nat) : Wr lo hi w w' := ⟨h.os, h.tape, h.output, h.size, fun k hk _ => h.block k hk⟩
theorem Wr.below {lo hi B : Nat} {w w' : World} (h : Wr lo hi w w') (hB : B ≤ lo) (hs : B ≤ w.heap.size) : Below B w w' := ⟨h.os, h.tape, h.output, h.size, fun k hk => h.block k (by omega) (.inl (by omega))⟩
theorem Wr.of_row {w w' : World} {g lo hi : Nat} (h : w.grownBy w' (some g)) (h1 : lo ≤ g) (h2 : g < hi) : Wr lo hi w w' :=
  ⟨h.os, h.tape, h.output, h.size, fun k hk hn => h.block k hk (fun e => by injection e with e; omega)⟩

theorem ics_length (l : List Int) : (ics l).length = l.length := by simp [ics]
theorem ics_get (l : List Int) (j : Nat) (h : j < l.length) : (ics l)[j]? = some (.int .i64 (l.getD j 0)) := by
  simp [ics, h]

section
variable {w w' : World} {B B' : Nat} {v : Value} {l : List Int}
theorem RI.keep (h : RI w B v l) (hk : ∀ b o, b < B → w'.cell? ⟨b, o, none⟩ = w.cell? ⟨b, o, none⟩) : RI w' B v l := by
  obtain ⟨A, c, hv, hlc, hc⟩ := h
  refine ⟨A, c, hv, hlc, fun hl => ?_⟩
  obtain ⟨b, off, hA, hb, hcell⟩ := hc hl
  exact ⟨b, off, hA, hb, fun j hj => (hk _ _ hb).trans (hcell j hj)⟩
theorem RI.drewN (h : RI w B v l) (n : Nat) : RI (w.drewN n) B v l := h
/-- The first k elements: 's[:k]'. -/
theorem RI.front {A : Option Addr} {n c : Nat} (h : RI w B (.slice A n c) l) (k : Nat) (hk : k ≤ l.length) : RI w B (.slice A k c) (l.take k) := by
  obtain ⟨A', c', hv, hlc, hc⟩ := h
  injection hv with h1 h2 h3
  subst h1; subst h2; subst h3
  have e : (l.take k).length = k := by simp; omega
  refine ⟨A, c, by rw [e], ⟨by omega, hlc.2⟩, fun hl => ?_⟩
  obtain ⟨b, off, hA, hb, hcell⟩ := hc (by omega)
  refine ⟨b, off, hA, hb, fun j hj => ?_⟩
  rw [hcell j (by omega)]
  congr 2
  have : j < k := by omega
  simp [List.getD, this]
/-- The value is nil, or leads somewhere. -/
theorem RI.shape (h : RI w B v l) : v = .slice none 0 0 ∨ ∃ ad n c, v = .slice (some ad) n c := by
  obtain ⟨A, c, rfl, hlc, hc⟩ := h
  rcases A with _ | ad
  · left
    have h1 := hlc.2.2 rfl
    have h2 := hlc.1
    have h3 : l.length = 0 := by omega
    rw [h1, h3]
  · exact .inr ⟨ad, _, _, rfl⟩
theorem RI.below (h : RI w B v l) (hb : Below B w w') : RI w' B v l := h.keep fun _ _ hp => hb.cell (p := ⟨_, _, none⟩) hp
theorem RI.more (h : RI w B v l) (hB : B ≤ B') : RI w B' v l := by
  obtain ⟨A, c, hv, hlc, hc⟩ := h
  refine ⟨A, c, hv, hlc, fun hl => ?_⟩
  obtain ⟨b, off, hA, hb, hcell⟩ := hc hl
  exact ⟨b, off, hA, by omega, hcell⟩
/-- Behind a step that leaves all old blocks as they were. -/
theorem RI.step (h : RI w B v l) (hb : Below w.heap.size w w') (hB : B ≤ w.heap.size) : RI w' B v l := h.below (hb.mono hB)
/-- Behind writes elsewhere. -/
theorem RI.far {a b : Nat} (h : RI w B v l) (hg : Wr a b w w') (hB : B ≤ a) (hs : B ≤ w.heap.size) : RI w' B v l := h.below (hg.below hB hs)
end

section
variable {E : TypeId} {w w' : World} {lo hi lo' hi' : Nat} {v : Value} {l : List Int}
theorem row_parts {g c n : Nat} {xs : List Value} (h : w.ownsRow lo E 1 (.slice (some ⟨g, 0, none⟩) n c) n xs) : lo ≤ g ∧ g < w.heap.size ∧ n ≤ c ∧ c ≤ maxLen ∧ ∃ cur, w.heap[g]? = some (.cells cur E (0, 0)) ∧ cur.size = c * 1 ∧ cur.toList.take (n * 1) = xs := by
  rcases h.2 with ⟨hv, _⟩ | ⟨g', c', cur, hv, hg, hh, hc, hcm, r1, r2⟩
  · cases hv
  · injection hv with h1 h2 h3
    injection h1 with h1
    injection h1 with h1
    subst h1; subst h3
    exact ⟨hg, (Array.getElem?_eq_some_iff.1 hh).1, hc, hcm, cur, hh, r1, r2⟩
theorem row_far {g c n a b : Nat} {xs : List Value} (h : w.ownsRow lo E 1 (.slice (some ⟨g, 0, none⟩) n c) n xs) (hg : Wr a b w w') (hne : g < a ∨ b ≤ g) : w'.ownsRow lo E 1 (.slice (some ⟨g, 0, none⟩) n c) n xs := by
  obtain ⟨h1, h2, h3, h4, cur, h5, h6, h7⟩ := row_parts h
  exact ⟨h.1, .inr ⟨g, c, cur, rfl, h1, by rw [hg.block g h2 hne]; exact h5, h3, h4, h6, h7⟩⟩
theorem row_lower {g c n : Nat} {xs : List Value} (h : w.ownsRow lo E 1 (.slice (some ⟨g, 0, none⟩) n c) n xs) (hl : lo' ≤ lo) : w.ownsRow lo' E 1 (.slice (some ⟨g, 0, none⟩) n c) n xs := by
  obtain ⟨h1, h2, h3, h4, cur, h5, h6, h7⟩ := row_parts h
  exact ⟨h.1, .inr ⟨g, c, cur, rfl, by omega, h5, h3, h4, h6, h7⟩⟩
theorem OI.ri (h : OI E w lo hi v l) : RI w hi v l := by
  rcases h with ⟨rfl, A, c, rfl, hc⟩ | ⟨g, c, rfl, hg, hlt, hr⟩
  · exact ⟨A, c, rfl, ⟨by simp, hc⟩, fun h => absurd h (by simp)⟩
  · obtain ⟨_, _, h3, h4, _⟩ := row_parts hr
    refine ⟨some ⟨g, 0, none⟩, c, rfl, ⟨h3, h4, fun h => by cases h⟩, fun _ => ⟨g, 0, rfl, hlt, fun j hj => ?_⟩⟩
    have := World.ownsRow.cellAt hr j (by omega)
    rw [Nat.zero_add, this, ics_get l j hj]
theorem OI.wide (h : OI E w lo hi v l) (h1 : lo' ≤ lo) (h2 : hi ≤ hi') : OI E w lo' hi' v l := by
  rcases h with h | ⟨g, c, rfl, hg, hlt, hr⟩
  · exact .inl h
  · exact .inr ⟨g, c, rfl, by omega, by omega, row_lower hr h1⟩
theorem OI.far {a b : Nat} (h : OI E w lo hi v l) (hg : Wr a b w w') (hne : hi ≤ a ∨ b ≤ lo) : OI E w' lo hi v l := by
  rcases h with h | ⟨g, c, rfl, h1, hlt, hr⟩
  · exact .inl h
  · exact .inr ⟨g, c, rfl, h1, hlt, row_far hr hg (by omega)⟩
theorem OI.step (h : OI E w lo hi v l) (hb : Below w.heap.size w w') : OI E w' lo hi v l := h.far (Wr.of_below hb hi hi) (.inl (Nat.le_refl _))
theorem OI.of_row (h : w.ownsRow lo E 1 v l.length (ics l)) : OI E w lo w.heap.size v l := by
  rcases h.2 with ⟨hv, hn⟩ | ⟨g, c, cur, rfl, hg, hh, r⟩
  · exact .inl ⟨List.eq_nil_of_length_eq_zero hn, none, 0, hv, by simp, fun _ => rfl⟩
  · exact .inr ⟨g, c, rfl, hg, (Array.getElem?_eq_some_iff.1 hh).1, h⟩
end
/-- What a call gathers by append, in a block from lo on. -/
def Acc (E : TypeId) (w : World) (lo : Nat) (v : Value) (l : List Int) : Prop := w.ownsRow lo E 1 v l.length (ics l)
theorem Acc.nil (E : TypeId) (w : World) (lo : Nat) : Acc E w lo (.slice none 0 0) [] := World.ownsRow_nil _ _ _ _
theorem Acc.oi {E : TypeId} {w : World} {lo : Nat} {v : Value} {l : List Int} (h : Acc E w lo v l) : OI E w lo w.heap.size v l := OI.of_row h
theorem Acc.drewN {E : TypeId} {w : World} {lo : Nat} {v : Value} {l : List Int} (h : Acc E w lo v l) (n : Nat) : Acc E (w.drewN n) lo v l := h
theorem OI.acc {E : TypeId} {w : World} {lo hi : Nat} {v : Value} {l : List Int} (h : OI E w lo hi v l) (hl : 0 < l.length) : Acc E w lo v l := by
  rcases h with ⟨rfl, _⟩ | ⟨g, c, rfl, _, _, hr⟩
  · simp at hl
  · exact hr
/-- 'out = append(out, y)'. -/
theorem wpList_push {P : Program} {w : World} {ops : Array Oper} {rest : List Oper} {o : Oper} {a : Act} {Q : Exit → Act → World → Prop} (hgd : o.guard = none) (s x : Operand) (t : TypeId)
    (ho : o.op = .call { callee := .builtin .append, args := #[s, x], argTypes := #[t, t] }) (E : TypeId) (i : TypeInfo) (ht : P.underlying t = some (.slice E)) (hi : P.info? E = some i)
    (hz0 : i.zero = some (.int .i64 0)) (hz1 : i.size = 1) (hz2 : i.bytes = 8) (W w0 : World) (lo : Nat) (v : Value) (l : List Int) (y : Int)
    (hw : w = W.alloc (.cells #[.int .i64 y] E)) (hs : a.eval s = v) (hacc : Acc E W lo v l) (hx : a.eval x = .slice (some ⟨W.heap.size, 0, none⟩) 1 1) (hn : l.length < 1000000000) (hlo : lo ≤ W.heap.size) (hb : Below lo w0 W)
    (h : ∀ v' w', Acc E w' lo v' (l ++ [y]) → Below lo w0 w' → wpList P ops Q rest (a.put o.dst v') w') : wpList P ops Q (o :: rest) a w := by
  subst hw
  have hown : (W.alloc (.cells #[.int .i64 y] E)).ownsRow lo E 1 v l.length (ics l) := World.ownsRow.alloc hacc _
  have hcl : lo ≤ (W.alloc (.cells #[.int .i64 y] E)).heap.size := by simp; omega
  refine wpList_append_own _ hgd s x t ho lo E i (.int .i64 0) 1 8 ht hi hz0 hz1 hz2 rfl (by decide) v l.length (ics l) hs hown ⟨W.heap.size, 0, none⟩ 1 1 [.int .i64 y] hx rfl ?_ ?_ (by unfold maxLen; omega) (by omega) hcl ?_
  · intro j u hj
    match j, hj with
    | 0, hj => simp at hj; subst hj; simp [Addr.add]
    | j + 1, hj => simp at hj
  · intro u hu
    simp at hu
    subst hu
    rfl
  · intro v' w' h1 h2 _
    refine h v' w' ?_ ?_
    · have e : ics (l ++ [y]) = ics l ++ [.int .i64 y] := by simp [ics]
      unfold Acc
      rw [e, List.length_append]
      exact h1
    · exact (hb.alloc hlo _).grown h2 hcl (fun k hk => ((World.ownsRow.lt hown) k hk).1)
theorem below_drewN {B : Nat} {a w : World} (h : Below B a w) (n : Nat) : Below B a (w.drewN n) := ⟨h.os, h.tape, h.output, h.size, h.block⟩
theorem grown_trans {a b c : World} {row : Option Nat} (h : a.grownBy b row) (k : b.grownBy c row) : a.grownBy c row :=
  ⟨k.os.trans h.os, k.tape.trans h.tape, k.output.trans h.output, Nat.le_trans h.size k.size, fun i hi hne => (k.block i (Nat.lt_of_lt_of_le hi h.size) hne).trans (h.block i hi hne)⟩

/-- What a function of a list of ints and a bool leaves. -/
def RetLB (E : TypeId) (w : World) (l : List Int) (b : Bool) (e : Ending) (w' : World) : Prop :=
  ∃ u, e = .returned (.tuple #[u, .bool b]) ∧ OI E w' w.heap.size w'.heap.size u l ∧ Below w.heap.size w w'
/-- What a function of one list of ints leaves. -/
def RetL (E : TypeId) (w : World) (l : List Int) (e : Ending) (w' : World) : Prop :=
  ∃ u, e = .returned u ∧ OI E w' w.heap.size w'.heap.size u l ∧ Below w.heap.size w w'
/-- A plain value is returned and nothing old is turned. -/
def RetV (w : World) (v : Value) (e : Ending) (w' : World) : Prop := e = .returned v ∧ Below w.heap.size w w'
/-- The marks k, k + 1, .. -/
def marks (k : Int) : Nat → List Int
  | 0 => []
  | n + 1 => k :: marks (k + 1) n
theorem marks_length (k : Int) (n : Nat) : (marks k n).length = n := by
  induction n generalizing k with
  | zero => rfl
  | succ n ih => simp [marks, ih]
theorem marks_get (k : Int) (n j : Nat) (h : j < n) : (marks k n).getD j 0 = k + j := by
  induction n generalizing k j with
  | zero => omega
  | succ n ih =>
    cases j with
    | zero => simp [marks]
    | succ j => simp only [marks, List.getD_cons_succ]; rw [ih (k + 1) j (by omega)]; push_cast; omega
end Go.Proofs.Yteoggoopfjkdkaa
