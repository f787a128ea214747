/-
  The links of a ring: channels with room for two, in a slice.
-/
import Derived.Test.YtehmhkbiofndaaaChanJ
import Derived.Test.YtehmhkbiofndaaaPass
import Derived.Test.YtehmhkbiofndaaaLoads
import Derived.LoopN
namespace Go.Proofs.Ytehmhkbiofndaaa
open Go.RowKit Go.Conc Go.Maps
set_option maxRecDepth 100000
set_option linter.unusedVariables false

/-- Block bl is a row of n channels, at cs, with the slots q in them. -/
structure Links (w : World) (n bl : Nat) (cs : Nat → Nat) (q : Nat → List Nat) (l : List Ms) : Prop where
  inj : ∀ i j, i < n → j < n → cs i = cs j → i = j
  ne : ∀ j, j < n → cs j ≠ bl
  cell : ∀ j, j < n → w.cell? ⟨bl, j, none⟩ = some (.chan (some (cs j)))
  ch : ∀ j, j < n → ∃ s r, w.heap[cs j]? = some (.chan 2 ((q j).map (slotV l)).toArray false s r false)
theorem Links.lt {w : World} {n bl : Nat} {cs : Nat → Nat} {q : Nat → List Nat} {l : List Ms} (h : Links w n bl cs q l) (j : Nat) (hj : j < n) : cs j < w.heap.size := by
  obtain ⟨s, r, h1⟩ := h.ch j hj
  exact (Array.getElem?_eq_some_iff.1 h1).1
theorem Links.bl_lt {w : World} {n bl : Nat} {cs : Nat → Nat} {q : Nat → List Nat} {l : List Ms} (h : Links w n bl cs q l) (hn : 0 < n) : bl < w.heap.size := World.block_lt_of_cell? w ⟨bl, 0, none⟩ (h.cell 0 hn)
theorem Links.keep {w w' : World} {n bl : Nat} {cs : Nat → Nat} {q : Nat → List Nat} {l : List Ms} (h : Links w n bl cs q l) (hb : ∀ k, k < w.heap.size → (k = bl ∨ ∃ j, j < n ∧ k = cs j) → w'.heap[k]? = w.heap[k]?) : Links w' n bl cs q l := by
  refine ⟨h.inj, h.ne, fun j hj => ?_, fun j hj => ?_⟩
  · rw [← h.cell j hj]
    exact World.cell?_of_block (hb bl (h.bl_lt (by omega)) (.inl rfl))
  · obtain ⟨s, r, h1⟩ := h.ch j hj
    exact ⟨s, r, (hb _ (h.lt j hj) (.inr ⟨j, hj, rfl⟩)).trans h1⟩
theorem Links.step {w w' : World} {n bl : Nat} {cs : Nat → Nat} {q : Nat → List Nat} {l : List Ms} (h : Links w n bl cs q l) (hb : Below w.heap.size w w') : Links w' n bl cs q l := h.keep fun k hk _ => hb.block k hk
theorem Links.far {w w' : World} {n bl a b : Nat} {cs : Nat → Nat} {q : Nat → List Nat} {l : List Ms} (h : Links w n bl cs q l) (hg : Wr a b w w') (hbl : bl < a ∨ b ≤ bl) (hcs : ∀ j, j < n → cs j < a ∨ b ≤ cs j) : Links w' n bl cs q l := by
  refine h.keep fun k hk hor => hg.block k hk ?_
  rcases hor with rfl | ⟨j, hj, rfl⟩
  · exact hbl
  · exact hcs j hj
theorem setChan_block (w : World) (c cap : Nat) (buf : Array Value) (cl : Bool) (s r : Nat) (tm : Bool) (k : Nat) (hk : k ≠ c) : (w.setChan c cap buf cl s r tm).heap[k]? = w.heap[k]? := by
  simp only [World.setChan]
  rw [Array.getElem?_setIfInBounds_ne (fun h => hk h.symm)]
theorem Wr.setChan {lo hi : Nat} {a w : World} (h : Wr lo hi a w) {c : Nat} (hc : a.heap.size ≤ c ∨ (lo ≤ c ∧ c < hi)) (cap : Nat) (buf : Array Value) (cl : Bool) (s r : Nat) (tm : Bool) : Wr lo hi a (w.setChan c cap buf cl s r tm) :=
  ⟨h.os, h.tape, h.output, by rw [size_setChan]; exact h.size, fun k hk hn => by rw [setChan_block w c cap buf cl s r tm k (by omega)]; exact h.block k hk hn⟩
/-- A channel's slots are changed. -/
theorem Links.put {w : World} {n bl : Nat} {cs : Nat → Nat} {q q' : Nat → List Nat} {l : List Ms} (h : Links w n bl cs q l) {j : Nat} (hj : j < n) (hq : ∀ i, i < n → i ≠ j → q' i = q i) (buf : Array Value) (hbuf : buf = ((q' j).map (slotV l)).toArray) (s r : Nat) : Links (w.setChan (cs j) 2 buf false s r false) n bl cs q' l := by
  subst hbuf
  refine ⟨h.inj, h.ne, fun i hi => ?_, fun i hi => ?_⟩
  · rw [← h.cell i hi]
    exact World.cell?_of_block (setChan_block w _ _ _ _ _ _ _ bl (fun e => h.ne j hj e.symm))
  · by_cases e : i = j
    · subst e
      exact ⟨s, r, heap_setChan w (cs i) 2 _ false s r false (h.lt i hi)⟩
    · obtain ⟨s', r', h1⟩ := h.ch i hi
      rw [hq i hi e]
      exact ⟨s', r', (setChan_block w _ _ _ _ _ _ _ _ (fun e2 => e (h.inj i j hi hj e2))).trans h1⟩
/-- What the stations' walk has in memory. -/
structure FW (w0 w : World) (x : Sr) (l : List Ms) (A : Option Addr) (c n rb g mb bl : Nat) (cs : Nat → Nat) (t : Nat) (F : Nat → Int) (q : Nat → List Nat) : Prop where
  ring : BK w rb 25 #[.int .i64 x.n, .bool x.h]
  walk : BK w g 73 #[.int .i64 x.n, .bool x.h, .slice A l.length c, .int .i64 t, .map (some mb)]
  map : MapAt w mb l F
  links : Links w n bl cs q l
  bel : Below w0.heap.size w0 w
/-- The blocks' places. -/
structure FP (w0 : World) (n rb g mb bl : Nat) (cs : Nat → Nat) : Prop where
  rb0 : w0.heap.size ≤ rb
  mb0 : w0.heap.size ≤ mb
  bl0 : w0.heap.size ≤ bl
  cs0 : ∀ j, j < n → w0.heap.size ≤ cs j
  g0 : w0.heap.size ≤ g
  rm : rb ≠ mb
  gm : g ≠ mb
  bm : bl ≠ mb
  cm : ∀ j, j < n → cs j ≠ mb
  rc : ∀ j, j < n → cs j ≠ rb
  gc : ∀ j, j < n → cs j ≠ g
theorem FW.step {w0 w w' : World} {x : Sr} {l : List Ms} {A : Option Addr} {c n rb g mb bl : Nat} {cs : Nat → Nat} {t : Nat} {F : Nat → Int} {q : Nat → List Nat} (h : FW w0 w x l A c n rb g mb bl cs t F q) (hb : Below w.heap.size w w') : FW w0 w' x l A c n rb g mb bl cs t F q :=
  ⟨h.ring.step hb, h.walk.step hb, h.map.step hb, h.links.step hb, h.bel.trans (hb.mono h.bel.size)⟩
theorem FW.pass {w0 w w' : World} {x : Sr} {l : List Ms} {A : Option Addr} {c n rb g mb bl : Nat} {cs : Nat → Nat} {t : Nat} {F F' : Nat → Int} {q : Nat → List Nat} (h : FW w0 w x l A c n rb g mb bl cs t F q) (hp : FP w0 n rb g mb bl cs) (hg : Wr mb (mb + 1) w w') (hm : MapAt w' mb l F') : FW w0 w' x l A c n rb g mb bl cs t F' q :=
  ⟨h.ring.far hg (by have := hp.rm; omega), h.walk.far hg (by have := hp.gm; omega), hm, h.links.far hg (by have := hp.bm; omega) (fun j hj => by have := hp.cm j hj; omega),
   h.bel.trans (hg.below hp.mb0 h.bel.size)⟩
theorem FW.chan {w0 w : World} {x : Sr} {l : List Ms} {A : Option Addr} {c n rb g mb bl : Nat} {cs : Nat → Nat} {t : Nat} {F : Nat → Int} {q q' : Nat → List Nat} (h : FW w0 w x l A c n rb g mb bl cs t F q) (hp : FP w0 n rb g mb bl cs) {j : Nat} (hj : j < n) (hq : ∀ i, i < n → i ≠ j → q' i = q i) (buf : Array Value) (hbuf : buf = ((q' j).map (slotV l)).toArray) (s r : Nat) :
    FW w0 (w.setChan (cs j) 2 buf false s r false) x l A c n rb g mb bl cs t F q' := by
  have hw : Wr (cs j) (cs j + 1) w (w.setChan (cs j) 2 buf false s r false) := Wr.setChan (Wr.refl _ _ _) (.inr ⟨Nat.le_refl _, Nat.lt_succ_self _⟩) _ _ _ _ _ _
  refine ⟨h.ring.far hw (by have := hp.rc j hj; omega), h.walk.far hw (by have := hp.gc j hj; omega), h.map.far hw (by have := hp.cm j hj; omega), h.links.put hj hq buf hbuf s r, ?_⟩
  exact h.bel.trans (hw.below (hp.cs0 j hj) h.bel.size)
end Go.Proofs.Ytehmhkbiofndaaa
