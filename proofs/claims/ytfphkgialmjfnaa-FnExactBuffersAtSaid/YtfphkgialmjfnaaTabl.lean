/-
  Lists of the first values of a function; slice values that were gathered; channels with room for one.
-/
import Derived.Test.YtfphkgialmjfnaaRow5
import Derived.Test.YtfphkgialmjfnaaChanJ
import Derived.Test.YtfphkgialmjfnaaIr
import Derived.Conc.LoneSelect
import Derived.Deep.OwnRows
namespace Go.Proofs.Ytfphkgialmjfnaa
open Go.RowKit Go.Conc
set_option maxRecDepth 100000
set_option linter.unusedVariables false

/-- A list of the first n values. -/
def tabl (F : Nat → Int) (n : Nat) : List Int := (List.range n).map F
theorem tabl_len (F : Nat → Int) (n : Nat) : (tabl F n).length = n := by simp [tabl]
theorem tabl_at (F : Nat → Int) (n i : Nat) (hi : i < n) : (tabl F n).getD i 0 = F i := by simp [tabl, hi]
theorem tabl_congr {F G : Nat → Int} {n : Nat} (h : ∀ i, i < n → F i = G i) : tabl F n = tabl G n := by
  unfold tabl
  apply List.map_congr_left
  intro i hi
  exact h i (by simpa using hi)
theorem tabl_set (F : Nat → Int) (n j : Nat) (v : Int) : (tabl F n).set j v = tabl (up F j v) n := by
  apply List.ext_getElem (by simp [tabl])
  intro i h1 h2
  rw [List.getElem_set]
  simp only [tabl, List.getElem_map, List.getElem_range]
  by_cases e : j = i
  · subst e; simp [up]
  · have e2 : ¬ i = j := fun h => e h.symm
    simp only [e, up, e2, if_false]
theorem tabl_setN (F : Nat → Nat) (n j : Nat) (v : Nat) : (tabl (fun i => (F i : Int)) n).set j (v : Int) = tabl (fun i => ((up F j v i : Nat) : Int)) n := by
  rw [tabl_set]
  refine tabl_congr fun i _ => ?_
  unfold up
  split <;> rfl
theorem tabl_const (v : Int) (n : Nat) : tabl (fun _ => v) n = List.replicate n v := by
  unfold tabl
  apply List.ext_getElem (by simp)
  intro i h1 h2
  simp
/-- A slice value that the call has made: nil, or block b. -/
def GW (w : World) (v : Value) (b : Nat) (L : List Int) : Prop := (L = [] ∧ v = .slice none 0 0) ∨ ∃ c, v = .slice (some ⟨b, 0, none⟩) L.length c ∧ RC w b c L
theorem GW.keep {w w' : World} {v : Value} {b : Nat} {L : List Int} (h : GW w v b L) (hr : ∀ c, RC w b c L → RC w' b c L) : GW w' v b L := by
  rcases h with ⟨h1, h2⟩ | ⟨c, h1, h2⟩
  · exact .inl ⟨h1, h2⟩
  · exact .inr ⟨c, h1, hr c h2⟩
theorem GW.step {w w' : World} {v : Value} {b : Nat} {L : List Int} (h : GW w v b L) (hb : Below w.heap.size w w') : GW w' v b L := h.keep fun c hc => hc.step hb
theorem GW.far {w w' : World} {v : Value} {b lo hi : Nat} {L : List Int} (h : GW w v b L) (hb : Wr lo hi w w') (hne : b < lo ∨ hi ≤ b) : GW w' v b L := h.keep fun c hc => hc.far hb hne
theorem GW.at_ {w : World} {v : Value} {b : Nat} {L : List Int} (h : GW w v b L) (i : Nat) (hi : i < L.length) : ∃ c, v = .slice (some ⟨b, 0, none⟩) L.length c ∧ RC w b c L := by
  rcases h with ⟨rfl, _⟩ | h
  · simp at hi
  · exact h
theorem GW.set {w : World} {v : Value} {b : Nat} {F : Nat → Int} {n i : Nat} (h : GW w v b (tabl F n)) (hi : i < n) (y : Int) : GW (w.setCell ⟨b, i, none⟩ (.int .i64 y)) v b (tabl (up F i y) n) := by
  obtain ⟨c, h1, h2⟩ := h.at_ i (by rw [tabl_len]; exact hi)
  have h3 := h2.set i y
  rw [tabl_set] at h3
  refine .inr ⟨c, ?_, h3⟩
  rw [tabl_len] at h1 ⊢
  exact h1
theorem GW.oi {w : World} {v : Value} {b lo hi : Nat} {L : List Int} (h : GW w v b L) (hl : lo ≤ b) (hs : w.heap.size ≤ hi) : OI 3 w lo hi v L := by
  rcases h with ⟨rfl, rfl⟩ | ⟨c, rfl, h⟩
  · exact (Acc.nil _ w lo).oi.wide (Nat.le_refl _) hs
  · exact h.oi hl hs
theorem GW.ri {w : World} {v : Value} {b B : Nat} {L : List Int} (h : GW w v b L) (hB : b < B) : RI w B v L := by
  rcases h with ⟨rfl, rfl⟩ | ⟨c, rfl, h⟩
  · exact ⟨none, 0, rfl, ⟨by simp, by unfold maxLen; omega, fun _ => rfl⟩, fun h => absurd h (by simp)⟩
  · exact h.ri hB
theorem GW.form {w : World} {v : Value} {b : Nat} {L : List Int} (h : GW w v b L) : ∃ A c, v = .slice A L.length c ∧ (0 < L.length → A = some ⟨b, 0, none⟩) := by
  rcases h with ⟨rfl, rfl⟩ | ⟨c, rfl, h⟩
  · exact ⟨_, _, rfl, fun h => absurd h (by simp)⟩
  · exact ⟨_, _, rfl, fun _ => rfl⟩

/-! ### Channels. -/
def ctI (c : Nat) : Value := .int .i64 (c : Int)
/-- Block bl is a row of n channels, at cs, with the cells q in them. -/
structure Chs (w : World) (n bl : Nat) (cs : Nat → Nat) (q : Nat → List Nat) : Prop where
  inj : ∀ i j, i < n → j < n → cs i = cs j → i = j
  ne : ∀ j, j < n → cs j ≠ bl
  cell : ∀ j, j < n → w.cell? ⟨bl, j, none⟩ = some (.chan (some (cs j)))
  ch : ∀ j, j < n → ∃ s r, w.heap[cs j]? = some (.chan 1 ((q j).map ctI).toArray false s r false)
theorem Chs.lt {w : World} {n bl : Nat} {cs : Nat → Nat} {q : Nat → List Nat} (h : Chs w n bl cs q) (j : Nat) (hj : j < n) : cs j < w.heap.size := by
  obtain ⟨s, r, h1⟩ := h.ch j hj
  exact (Array.getElem?_eq_some_iff.1 h1).1
theorem Chs.bl_lt {w : World} {n bl : Nat} {cs : Nat → Nat} {q : Nat → List Nat} (h : Chs w n bl cs q) (hn : 0 < n) : bl < w.heap.size := World.block_lt_of_cell? w ⟨bl, 0, none⟩ (h.cell 0 hn)
theorem Chs.keep {w w' : World} {n bl : Nat} {cs : Nat → Nat} {q : Nat → List Nat} (h : Chs w n bl cs q) (hb : ∀ k, k < w.heap.size → (k = bl ∨ ∃ j, j < n ∧ k = cs j) → w'.heap[k]? = w.heap[k]?) : Chs w' n bl cs q := by
  refine ⟨h.inj, h.ne, fun j hj => ?_, fun j hj => ?_⟩
  · rw [← h.cell j hj]
    exact World.cell?_of_block (hb bl (h.bl_lt (by omega)) (.inl rfl))
  · obtain ⟨s, r, h1⟩ := h.ch j hj
    exact ⟨s, r, (hb _ (h.lt j hj) (.inr ⟨j, hj, rfl⟩)).trans h1⟩
theorem Chs.step {w w' : World} {n bl : Nat} {cs : Nat → Nat} {q : Nat → List Nat} (h : Chs w n bl cs q) (hb : Below w.heap.size w w') : Chs w' n bl cs q := h.keep fun k hk _ => hb.block k hk
theorem Chs.far {w w' : World} {n bl a b : Nat} {cs : Nat → Nat} {q : Nat → List Nat} (h : Chs w n bl cs q) (hg : Wr a b w w') (hbl : bl < a ∨ b ≤ bl) (hcs : ∀ j, j < n → cs j < a ∨ b ≤ cs j) : Chs w' n bl cs q := by
  refine h.keep fun k hk hor => hg.block k hk ?_
  rcases hor with rfl | ⟨j, hj, rfl⟩
  · exact hbl
  · exact hcs j hj
theorem Chs.congr {w : World} {n bl : Nat} {cs : Nat → Nat} {q q' : Nat → List Nat} (h : Chs w n bl cs q) (hq : ∀ j, j < n → q j = q' j) : Chs w n bl cs q' := ⟨h.inj, h.ne, h.cell, fun j hj => by rw [← hq j hj]; exact h.ch j hj⟩
theorem setChan_blockI (w : World) (c cap : Nat) (buf : Array Value) (cl : Bool) (s r : Nat) (tm : Bool) (k : Nat) (hk : k ≠ c) : (w.setChan c cap buf cl s r tm).heap[k]? = w.heap[k]? := by
  simp only [World.setChan]
  rw [Array.getElem?_setIfInBounds_ne (fun h => hk h.symm)]
theorem Wr.setChanI {lo hi : Nat} {a w : World} (h : Wr lo hi a w) {c : Nat} (hc : a.heap.size ≤ c ∨ (lo ≤ c ∧ c < hi)) (cap : Nat) (buf : Array Value) (cl : Bool) (s r : Nat) (tm : Bool) : Wr lo hi a (w.setChan c cap buf cl s r tm) :=
  ⟨h.os, h.tape, h.output, by rw [size_setChan]; exact h.size, fun k hk hn => by rw [setChan_blockI w c cap buf cl s r tm k (by omega)]; exact h.block k hk hn⟩
/-- A channel's cells are changed. -/
theorem Chs.put {w : World} {n bl : Nat} {cs : Nat → Nat} {q q' : Nat → List Nat} (h : Chs w n bl cs q) {j : Nat} (hj : j < n) (hq : ∀ i, i < n → i ≠ j → q' i = q i) (buf : Array Value) (hbuf : buf = ((q' j).map ctI).toArray) (s r : Nat) : Chs (w.setChan (cs j) 1 buf false s r false) n bl cs q' := by
  subst hbuf
  refine ⟨h.inj, h.ne, fun i hi => ?_, fun i hi => ?_⟩
  · rw [← h.cell i hi]
    exact World.cell?_of_block (setChan_blockI w _ _ _ _ _ _ _ bl (fun e => h.ne j hj e.symm))
  · by_cases e : i = j
    · subst e
      exact ⟨s, r, heap_setChan w (cs i) 1 _ false s r false (h.lt i hi)⟩
    · obtain ⟨s', r', h1⟩ := h.ch i hi
      rw [hq i hi e]
      exact ⟨s', r', (setChan_blockI w _ _ _ _ _ _ _ _ (fun e2 => e (h.inj i j hi hj e2))).trans h1⟩
/-- .. that selects where nothing has to be waited for: it gets what is there. -/
theorem SemOps.sel_recv {P : Program} {ops : Array Oper} {Q : Exit → Act → World → Prop} {i : Nat} {rest : List Nat} {o : Oper} {a : Act} {w w' : World} {c cap s r : Nat} {buf : Array Value} {closed tm : Bool} {z : Value} (ho : ops[i]? = some o) (hw : Region.wanted o (yielded ops a.tmps) = true) (hr : (execOp a.eval o).run P w = .ok (.comm #[rcase c z] false .select) w')
    (hc : w'.heap[c]? = some (.chan cap buf closed s r tm)) (hsome : 0 < buf.size) (h : SemOps P ops Q rest (a.put o.dst (.tuple #[.int .i64 0, .bool true, buf.getD 0 undef])) (w'.setChan c cap (buf.extract 1 buf.size) closed s (r + 1) tm)) : SemOps P ops Q (i :: rest) a w := by
  intro b k cs
  obtain ⟨e, a', w'', hq, harr⟩ := h b k cs
  obtain ⟨es, hg⟩ := stepG_comm_any (b := b) (k := k) (cs := cs) (rest := rest) ho hw hr
  have hst := step_lone_select_recv_buf hg hc hsome
  have hfin : ∀ v, (b.at a (.inRegion ops (i :: rest) :: k)).finish v = b.at (a.put o.dst v) (.inRegion ops rest :: k) := fun v => by rw [Frame.finish_at, ho]; rfl
  rw [hfin] at hst
  exact ⟨e, a', w'', hq, .of_steps (.one hst) harr⟩
theorem SemOps.sel_none {P : Program} {ops : Array Oper} {Q : Exit → Act → World → Prop} {i : Nat} {rest : List Nat} {o : Oper} {a : Act} {w w' : World} {c cap s r : Nat} {tm : Bool} {z : Value} (ho : ops[i]? = some o) (hw : Region.wanted o (yielded ops a.tmps) = true) (hr : (execOp a.eval o).run P w = .ok (.comm #[rcase c z] false .select) w')
    (hc : w'.heap[c]? = some (.chan cap #[] false s r tm)) (h : SemOps P ops Q rest (a.put o.dst (.tuple #[.int .i64 (-1), .bool false, z])) w') : SemOps P ops Q (i :: rest) a w := by
  intro b k cs
  obtain ⟨e, a', w'', hq, harr⟩ := h b k cs
  obtain ⟨es, hg⟩ := stepG_comm_any (b := b) (k := k) (cs := cs) (rest := rest) ho hw hr
  have hst := step_lone_select_default hg hc
  have hfin : ∀ v, (b.at a (.inRegion ops (i :: rest) :: k)).finish v = b.at (a.put o.dst v) (.inRegion ops rest :: k) := fun v => by rw [Frame.finish_at, ho]; rfl
  rw [hfin] at hst
  exact ⟨e, a', w'', hq, .of_steps (.one hst) harr⟩
end Go.Proofs.Ytfphkgialmjfnaa
