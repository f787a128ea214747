/-
  What the program's ring has in memory: a struct behind a pointer, links that are channels, buffers that are cut out of one block.
-/
import Derived.Test.YtfphkgialmjfnaaTabl
import Derived.Sort.Row
import Derived.Lib.SlicesDelete
namespace Go.Proofs.Ytfphkgialmjfnaa
open Go.RowKit Go.Conc Go.Sort
set_option maxRecDepth 100000
set_option linter.unusedVariables false

/-! ### Buffers that are cut out of one block. -/
def nI (l : List Nat) : List Int := l.map fun c : Nat => (c : Int)
@[simp] theorem nI_length (l : List Nat) : (nI l).length = l.length := by simp [nI]
theorem nI_getE (l : List Nat) (j : Nat) (h : j < (nI l).length) : (nI l)[j] = ((l.getD j 0 : Nat) : Int) := by
  have hj : j < l.length := by simpa using h
  simp [nI, List.getD_eq_getElem?_getD, hj]
structure Mem (w : World) (rm n room : Nat) (B : Nat → List Nat) : Prop where
  lt : rm < w.heap.size
  cell : ∀ s, s < n → ∀ j, j < (B s).length → w.cell? ⟨rm, s * room + j, none⟩ = some (ctI ((B s).getD j 0))
  there : ∀ p, p < n * room → (w.cell? ⟨rm, p, none⟩).isSome = true ∧ w.frozen? ⟨rm, p, none⟩ = false
theorem Mem.keep {w w' : World} {rm n room : Nat} {B : Nat → List Nat} (h : Mem w rm n room B) (hb : w'.heap[rm]? = w.heap[rm]?) : Mem w' rm n room B := by
  have hs : rm < w'.heap.size := by
    rw [Array.getElem?_eq_getElem h.lt] at hb
    exact (Array.getElem?_eq_some_iff.1 hb).1
  have hc : ∀ p, w'.cell? ⟨rm, p, none⟩ = w.cell? ⟨rm, p, none⟩ := fun p => World.cell?_of_block (a := ⟨rm, p, none⟩) hb
  have hf : ∀ p, w'.frozen? ⟨rm, p, none⟩ = w.frozen? ⟨rm, p, none⟩ := fun p => World.frozen?_of_block (a := ⟨rm, p, none⟩) hb
  exact ⟨hs, fun s hs j hj => by rw [hc]; exact h.cell s hs j hj, fun p hp => by rw [hc, hf]; exact h.there p hp⟩
theorem Mem.step {w w' : World} {rm n room : Nat} {B : Nat → List Nat} (h : Mem w rm n room B) (hb : Below w.heap.size w w') : Mem w' rm n room B := h.keep (hb.block rm h.lt)
theorem Mem.far {w w' : World} {rm n room a b : Nat} {B : Nat → List Nat} (h : Mem w rm n room B) (hg : Wr a b w w') (hne : rm < a ∨ b ≤ rm) : Mem w' rm n room B := h.keep (hg.block rm h.lt hne)
theorem off_apart {room s s' j j' : Nat} (hs : s ≠ s') (hj : j < room) (hj' : j' < room) : s * room + j ≠ s' * room + j' := by
  rcases Nat.lt_or_gt_of_ne hs with h | h
  · have := Nat.mul_le_mul_right room (show s + 1 ≤ s' from h)
    rw [Nat.add_mul] at this
    omega
  · have := Nat.mul_le_mul_right room (show s' + 1 ≤ s from h)
    rw [Nat.add_mul] at this
    omega
theorem off_lt {room n s j : Nat} (hs : s < n) (hj : j < room) : s * room + j < n * room := by
  have := Nat.mul_le_mul_right room (show s + 1 ≤ n from hs)
  rw [Nat.add_mul] at this
  omega
/-- A cell goes to the end of a buffer. -/
theorem Mem.push {w : World} {rm n room : Nat} {B : Nat → List Nat} (h : Mem w rm n room B) (hB : ∀ s, s < n → (B s).length ≤ room) {s c : Nat} (hs : s < n) (hlt : (B s).length < room) : Mem (w.setCell ⟨rm, s * room + (B s).length, none⟩ (ctI c)) rm n room (up B s (B s ++ [c])) := by
  have hth := (h.there _ (off_lt hs hlt)).1
  have hsz : (w.setCell ⟨rm, s * room + (B s).length, none⟩ (ctI c)).heap.size = w.heap.size := by simp [World.setCell]
  have hother : ∀ p, p ≠ s * room + (B s).length → (w.setCell ⟨rm, s * room + (B s).length, none⟩ (ctI c)).cell? ⟨rm, p, none⟩ = w.cell? ⟨rm, p, none⟩ := by
    intro p hp
    exact World.cell?_setCells_out rm [ctI c] (s * room + (B s).length) w ⟨rm, p, none⟩ (fun _ _ => by show p < _ ∨ _ ≤ p; simp; omega)
  have hsame : (w.setCell ⟨rm, s * room + (B s).length, none⟩ (ctI c)).cell? ⟨rm, s * room + (B s).length, none⟩ = some (ctI c) := by
    have h0 : ∀ j, j < [ctI c].length → (w.cell? ⟨rm, s * room + (B s).length + j, none⟩).isSome = true := by
      intro j hj
      have e : j = 0 := by simp at hj; omega
      rw [e]
      exact hth
    have := World.cell?_setCells_in rm [ctI c] (s * room + (B s).length) w h0 0 (by simp)
    exact this
  have hfr : ∀ p, (w.setCell ⟨rm, s * room + (B s).length, none⟩ (ctI c)).frozen? ⟨rm, p, none⟩ = w.frozen? ⟨rm, p, none⟩ := fun p => World.frozen?_setCells rm [ctI c] (s * room + (B s).length) w ⟨rm, p, none⟩
  refine ⟨by rw [hsz]; exact h.lt, fun s' hs' j hj => ?_, fun p hp => ⟨?_, by rw [hfr]; exact (h.there p hp).2⟩⟩
  · by_cases e : s' = s
    · subst e
      rw [up_same] at hj ⊢
      rw [List.length_append, List.length_singleton] at hj
      by_cases e2 : j = (B s').length
      · subst e2
        rw [hsame]
        simp
      · rw [hother _ (by omega), h.cell s' hs' j (by omega)]
        simp [List.getD_eq_getElem?_getD, List.getElem?_append_left (show j < (B s').length by omega)]
    · rw [up_ne _ _ _ e] at hj ⊢
      rw [hother _ (off_apart e (by have := hB s' hs'; omega) hlt)]
      exact h.cell s' hs' j hj
  · by_cases e : p = s * room + (B s).length
    · subst e; rw [hsame]; rfl
    · rw [hother p e]; exact (h.there p hp).1
theorem Mem.holds {w : World} {rm n room : Nat} {B : Nat → List Nat} (h : Mem w rm n room B) (hB : ∀ s, s < n → (B s).length ≤ room) {s : Nat} (hs : s < n) : Holds (Value.int .i64) w rm (s * room) (nI (B s)).toArray := by
  have hroom := hB s hs
  intro j hj
  have hj : j < (B s).length := by simpa using hj
  have hoff : s * room + j < n * room := off_lt hs (by omega)
  refine ⟨?_, (h.there (s * room + j) hoff).2⟩
  rw [h.cell s hs j hj, getElem!_pos _ j (by simpa using hj), List.getElem_toArray, nI_getE]
  rfl
/-- The first cell of a buffer goes. -/
theorem Mem.drop {w w1 : World} {rm n room : Nat} {B : Nat → List Nat} (h : Mem w rm n room B) (hB : ∀ s, s < n → (B s).length ≤ room) {s c : Nat} {r : List Nat} (hs : s < n) (hr : B s = c :: r)
    (hz : rm < w1.heap.size) (hin : ∀ j, j < r.length + 1 → w1.cell? ⟨rm, s * room + j, none⟩ = some (.int .i64 ((nI r ++ [0]).toArray[j]!))) (hout : ∀ p, (p < s * room ∨ s * room + (r.length + 1) ≤ p) → w1.cell? ⟨rm, p, none⟩ = w.cell? ⟨rm, p, none⟩) (hf : ∀ p, w1.frozen? ⟨rm, p, none⟩ = w.frozen? ⟨rm, p, none⟩) :
    Mem w1 rm n room (up B s r) := by
  have hlen : (B s).length = r.length + 1 := by rw [hr]; rfl
  have hroom := hB s hs
  refine ⟨hz, fun s' hs' j hj => ?_, fun p hp => ⟨?_, ?_⟩⟩
  · by_cases e : s' = s
    · subst e
      rw [up_same] at hj ⊢
      rw [hin j (by omega)]
      rw [getElem!_pos _ j (by simp; omega), List.getElem_toArray, List.getElem_append_left (by simpa using hj), nI_getE]
      rfl
    · rw [up_ne _ _ _ e] at hj ⊢
      have h1 := hB s' hs'
      rw [hout (s' * room + j) ?_]
      · exact h.cell s' hs' j hj
      · rcases Nat.lt_or_gt_of_ne e with h2 | h2
        · have := Nat.mul_le_mul_right room (show s' + 1 ≤ s from h2)
          rw [Nat.add_mul] at this
          omega
        · have := Nat.mul_le_mul_right room (show s + 1 ≤ s' from h2)
          rw [Nat.add_mul] at this
          omega
  · by_cases e : p < s * room ∨ s * room + (r.length + 1) ≤ p
    · rw [hout p e]; exact (h.there p hp).1
    · have h1 := hin (p - s * room) (by omega)
      rw [show s * room + (p - s * room) = p by omega] at h1
      rw [h1]
      exact Option.isSome_some
  · rw [hf]
    exact (h.there p hp).2
/-! ### The struct and what hangs on it. -/
/-- The blocks' places. -/
structure GL where
  g : Nat
  kb : Nat
  bb : Nat
  sb : Nat
  rm : Nat
  ib : Nat
  qb : Nat
  lo : Nat
  cs : Nat → Nat
  vi : Value
  vr : Value
  A : Option Addr
  c : Nat
structure GP (w0 : World) (n : Nat) (p : GL) : Prop where
  k0 : w0.heap.size ≤ p.kb
  b0 : w0.heap.size ≤ p.bb
  s0 : w0.heap.size ≤ p.sb
  i0 : w0.heap.size ≤ p.ib
  q0 : w0.heap.size ≤ p.qb
  kg : p.kb < p.g
  bg : p.bb < p.g
  sg : p.sb < p.g
  ig : p.ib < p.g
  qg : p.qb < p.g
  gr : p.g < p.rm
  rl : p.rm < p.lo
  cl : ∀ j, j < n → p.lo ≤ p.cs j
  d1 : p.kb ≠ p.bb
  d2 : p.kb ≠ p.sb
  d3 : p.kb ≠ p.ib
  d4 : p.kb ≠ p.qb
  d5 : p.bb ≠ p.sb
  d6 : p.bb ≠ p.ib
  d7 : p.bb ≠ p.qb
  d8 : p.sb ≠ p.ib
  d9 : p.sb ≠ p.qb
  d0 : p.ib ≠ p.qb
/-- What a link holds. -/
def lkv : Nat → List Nat
  | 0 => []
  | c + 1 => [c]
def Iw.qv (x : Iw) (v : Nat → Bool) (a : Ist) (j : Nat) : List Nat := if v (x.pr j) = true then lkv (a.L (x.pr j)) else []
def bufV (rm room s k : Nat) : Value := .slice (some ⟨rm, s * room, none⟩) k room
def rowA (n : Nat) (f : Nat → Value) : Array Value := ((List.range n).map f).toArray
theorem rowA_at (n : Nat) (f : Nat → Value) (i : Nat) (hi : i < n) : (rowA n f)[i]? = some (f i) := by simp [rowA, hi]
theorem rowA_size (n : Nat) (f : Nat → Value) : (rowA n f).size = n := by simp [rowA]
theorem rowA_put (n : Nat) (f : Nat → Value) (j : Nat) (v : Value) : (rowA n f).setIfInBounds j v = rowA n (up f j v) := by
  apply Array.ext_getElem?
  intro i
  rw [Array.getElem?_setIfInBounds]
  by_cases hi : i < n
  · rw [rowA_at _ _ _ hi, rowA_at _ _ _ hi, rowA_size]
    unfold up
    by_cases e : j = i
    · subst e; simp [hi]
    · rw [if_neg e, if_neg (fun h => e h.symm)]
  · have e1 : ∀ f, (rowA n f)[i]? = none := fun f => by rw [Array.getElem?_eq_none]; rw [rowA_size]; omega
    rw [e1, e1, rowA_size]
    split
    · rw [if_neg (by omega)]
    · rfl
theorem rowA_congr {n : Nat} {f f' : Nat → Value} (h : ∀ i, i < n → f i = f' i) : rowA n f = rowA n f' := by
  unfold rowA
  congr 1
  apply List.map_congr_left
  intro i hi
  exact h i (by simpa using hi)
structure GoS (w0 w : World) (x : Ir) (l : List Ms) (p : GL) (t : Nat) (v : Nat → Bool) (a : Ist) : Prop where
  run : BK w p.g 62 #[.int .i64 x.n, .int .i64 x.r, .bool x.h, .slice p.A l.length p.c, .int .i64 (t : Int), .slice (some ⟨p.kb, 0, none⟩) x.n.toNat x.n.toNat, .slice (some ⟨p.bb, 0, none⟩) x.n.toNat x.n.toNat, .slice (some ⟨p.sb, 0, none⟩) x.n.toNat x.n.toNat, p.vi, p.vr, .int .i64 (a.P : Int)]
  links : Chs w x.n.toNat p.kb p.cs ((iwOf x l).qv v a)
  bufs : BK w p.bb 26 (rowA x.n.toNat fun s => bufV p.rm x.r.toNat s (a.B s).length)
  mem : Mem w p.rm x.n.toNat x.r.toNat a.B
  sent : RC w p.sb x.n.toNat (tabl (fun s => (a.L s : Int)) x.n.toNat)
  ins : GW w p.vi p.ib (tabl a.I l.length)
  read : GW w p.vr p.qb (tabl a.R l.length)
  bel : Below w0.heap.size w0 w
section
variable {w0 w w' : World} {x : Ir} {l : List Ms} {p : GL} {t : Nat} {v : Nat → Bool} {a : Ist}
theorem GoS.step (h : GoS w0 w x l p t v a) (hb : Below w.heap.size w w') : GoS w0 w' x l p t v a :=
  ⟨h.run.step hb, h.links.step hb, h.bufs.step hb, h.mem.step hb, h.sent.step hb, h.ins.step hb, h.read.step hb, h.bel.trans (hb.mono h.bel.size)⟩
theorem GoS.drew (h : GoS w0 w x l p t v a) : GoS w0 w.drew x l p t v a := h.step (Below.refl _ _).drew
theorem GoS.low {wa : World} (hW : Below w0.heap.size w0 wa) (h : GoS wa w x l p t v a) : GoS w0 w x l p t v a := ⟨h.run, h.links, h.bufs, h.mem, h.sent, h.ins, h.read, hW.trans (h.bel.mono hW.size)⟩
/-- The same state, told otherwise. -/
theorem GoS.congr {v' : Nat → Bool} {a' : Ist} (h : GoS w0 w x l p t v a) (hq : ∀ j, j < x.n.toNat → (iwOf x l).qv v a j = (iwOf x l).qv v' a' j) (hB : a'.B = a.B) (hL : ∀ j, j < x.n.toNat → a'.L j = a.L j) (hI : a'.I = a.I) (hR : a'.R = a.R) (hP : a'.P = a.P) : GoS w0 w x l p t v' a' :=
  ⟨by rw [hP]; exact h.run, h.links.congr hq, by rw [hB]; exact h.bufs, by rw [hB]; exact h.mem, by rw [tabl_congr (fun j hj => by rw [hL j hj])]; exact h.sent, by rw [hI]; exact h.ins, by rw [hR]; exact h.read, h.bel⟩
theorem GoS.view (h : GoS w0 w x l p t v a) {v' : Nat → Bool} (hv : ∀ j, j < x.n.toNat → v ((iwOf x l).pr j) = v' ((iwOf x l).pr j)) : GoS w0 w x l p t v' a :=
  h.congr (fun j hj => by unfold Iw.qv; rw [hv j hj]) rfl (fun _ _ => rfl) rfl rfl rfl
/-- A channel is changed. -/
theorem GoS.chan (h : GoS w0 w x l p t v a) (hp : GP w0 x.n.toNat p) {j : Nat} (hj : j < x.n.toNat) {v' : Nat → Bool} (hq : ∀ i, i < x.n.toNat → i ≠ j → (iwOf x l).qv v' a i = (iwOf x l).qv v a i) (buf : Array Value) (hbuf : buf = (((iwOf x l).qv v' a j).map ctI).toArray) (s r : Nat) :
    GoS w0 (w.setChan (p.cs j) 1 buf false s r false) x l p t v' a := by
  have hw : Wr (p.cs j) (p.cs j + 1) w (w.setChan (p.cs j) 1 buf false s r false) := Wr.setChanI (Wr.refl _ _ _) (.inr ⟨Nat.le_refl _, Nat.lt_succ_self _⟩) _ _ _ _ _ _
  have hc := hp.cl j hj
  have h1 := hp.rl
  have h2 := hp.gr
  exact ⟨h.run.far hw (by omega), h.links.put hj hq buf hbuf s r, h.bufs.far hw (by have := hp.bg; omega), h.mem.far hw (by omega), h.sent.far hw (by have := hp.sg; omega), h.ins.far hw (by have := hp.ig; omega), h.read.far hw (by have := hp.qg; omega), h.bel.trans (hw.below (by have := hp.k0; have := hp.kg; omega) h.bel.size)⟩
theorem wrCell {w : World} (b i : Nat) (u : Value) : Wr b (b + 1) w (w.setCell ⟨b, i, none⟩ u) := (Wr.refl _ _ _).setCell (p := ⟨b, i, none⟩) (Nat.le_refl _) (Nat.lt_succ_self _) _
/-- A tick of reading. -/
theorem GoS.setR (h : GoS w0 w x l p t v a) (hp : GP w0 x.n.toNat p) {i : Nat} (hi : i < l.length) (y : Int) : GoS w0 (w.setCell ⟨p.qb, i, none⟩ (.int .i64 y)) x l p t v { a with R := up a.R i y } := by
  have hw := wrCell (w := w) p.qb i (.int .i64 y)
  have h1 := hp.rl
  have h2 := hp.gr
  have h3 := hp.qg
  exact ⟨h.run.far hw (by omega), h.links.far hw (by have := hp.d4; omega) (fun j hj => by have := hp.cl j hj; omega), h.bufs.far hw (by have := hp.d7; omega), h.mem.far hw (by omega), h.sent.far hw (by have := hp.d9; omega), h.ins.far hw (by have := hp.d0; omega), h.read.set hi y, h.bel.trans (hw.below hp.q0 h.bel.size)⟩
theorem GoS.setI (h : GoS w0 w x l p t v a) (hp : GP w0 x.n.toNat p) {i : Nat} (hi : i < l.length) (y : Int) : GoS w0 (w.setCell ⟨p.ib, i, none⟩ (.int .i64 y)) x l p t v { a with I := up a.I i y } := by
  have hw := wrCell (w := w) p.ib i (.int .i64 y)
  have h1 := hp.rl
  have h2 := hp.gr
  have h3 := hp.ig
  exact ⟨h.run.far hw (by omega), h.links.far hw (by have := hp.d3; omega) (fun j hj => by have := hp.cl j hj; omega), h.bufs.far hw (by have := hp.d6; omega), h.mem.far hw (by omega), h.sent.far hw (by have := hp.d8; omega), h.ins.set hi y, h.read.far hw (by have := hp.d0; omega), h.bel.trans (hw.below hp.i0 h.bel.size)⟩
/-- What is sent, where the link does not tell it yet. -/
theorem GoS.setL (h : GoS w0 w x l p t v a) (hp : GP w0 x.n.toNat p) {s : Nat} (hv : v s = false) (y : Nat) : GoS w0 (w.setCell ⟨p.sb, s, none⟩ (.int .i64 (y : Int))) x l p t v { a with L := up a.L s y } := by
  have hw := wrCell (w := w) p.sb s (.int .i64 (y : Int))
  have h1 := hp.rl
  have h2 := hp.gr
  have h3 := hp.sg
  have h4 := h.sent.set s (y : Int)
  rw [tabl_setN] at h4
  have hq : ∀ j, j < x.n.toNat → (iwOf x l).qv v a j = (iwOf x l).qv v { a with L := up a.L s y } j := by
    intro j hj
    unfold Iw.qv
    by_cases e : (iwOf x l).pr j = s
    · rw [e, hv]; rfl
    · simp only [up_ne _ _ _ e]
  exact ⟨h.run.far hw (by omega), (h.links.far hw (by have := hp.d2; omega) (fun j hj => by have := hp.cl j hj; omega)).congr hq, h.bufs.far hw (by have := hp.d5; omega), h.mem.far hw (by omega), h4, h.ins.far hw (by have := hp.d8; omega), h.read.far hw (by have := hp.d9; omega), h.bel.trans (hw.below hp.s0 h.bel.size)⟩
theorem GoS.setP (h : GoS w0 w x l p t v a) (hp : GP w0 x.n.toNat p) (y : Nat) : GoS w0 (w.setCell ⟨p.g, 10, none⟩ (.int .i64 (y : Int))) x l p t v { a with P := y } := by
  have hw := wrCell (w := w) p.g 10 (.int .i64 (y : Int))
  have h1 := hp.rl
  have h2 := hp.gr
  have h4 := h.run.put 10 (.int .i64 (y : Int))
  exact ⟨by simpa using h4, h.links.far hw (by have := hp.kg; omega) (fun j hj => by have := hp.cl j hj; omega), h.bufs.far hw (by have := hp.bg; omega), h.mem.far hw (by omega), h.sent.far hw (by have := hp.sg; omega), h.ins.far hw (by have := hp.ig; omega), h.read.far hw (by have := hp.qg; omega), h.bel.trans (hw.below (by have := hp.k0; have := hp.kg; omega) h.bel.size)⟩
theorem GoS.setT (h : GoS w0 w x l p t v a) (hp : GP w0 x.n.toNat p) : GoS w0 (w.setCell ⟨p.g, 4, none⟩ (.int .i64 ((t + 1 : Nat) : Int))) x l p (t + 1) v a := by
  have hw := wrCell (w := w) p.g 4 (.int .i64 ((t + 1 : Nat) : Int))
  have h1 := hp.rl
  have h2 := hp.gr
  have h4 := h.run.put 4 (.int .i64 ((t + 1 : Nat) : Int))
  exact ⟨by simpa using h4, h.links.far hw (by have := hp.kg; omega) (fun j hj => by have := hp.cl j hj; omega), h.bufs.far hw (by have := hp.bg; omega), h.mem.far hw (by omega), h.sent.far hw (by have := hp.sg; omega), h.ins.far hw (by have := hp.ig; omega), h.read.far hw (by have := hp.qg; omega), h.bel.trans (hw.below (by have := hp.k0; have := hp.kg; omega) h.bel.size)⟩
/-- A buffer in another state. -/
theorem GoS.setB (h : GoS w0 w x l p t v a) (hp : GP w0 x.n.toNat p) {wm : World} (hwm : Wr p.rm (p.rm + 1) w wm) {s : Nat} {b' : List Nat} (hm : Mem wm p.rm x.n.toNat x.r.toNat (up a.B s b')) :
    BK wm p.bb 26 (rowA x.n.toNat fun s => bufV p.rm x.r.toNat s (a.B s).length) ∧ GoS w0 (wm.setCell ⟨p.bb, s, none⟩ (bufV p.rm x.r.toNat s b'.length)) x l p t v { a with B := up a.B s b' } := by
  have hw := wrCell (w := wm) p.bb s (bufV p.rm x.r.toNat s b'.length)
  have h1 := hp.rl
  have h2 := hp.gr
  have h3 := hp.bg
  have hb := h.bufs.far hwm (by omega)
  have h4 := hb.put s (bufV p.rm x.r.toNat s b'.length)
  rw [rowA_put] at h4
  have e : up (fun s => bufV p.rm x.r.toNat s (a.B s).length) s (bufV p.rm x.r.toNat s b'.length) = fun s' => bufV p.rm x.r.toNat s' (up a.B s b' s').length := by
    funext s'
    unfold up
    split
    · rename_i e; subst e; rfl
    · rfl
  rw [e] at h4
  have hbel : Below w0.heap.size w0 wm := h.bel.trans (hwm.below (by have := hp.k0; have := hp.kg; omega) h.bel.size)
  refine ⟨hb, ⟨(h.run.far hwm (by omega)).far hw (by omega), (h.links.far hwm (by have := hp.kg; omega) (fun j hj => by have := hp.cl j hj; omega)).far hw (by have := hp.d1; omega) (fun j hj => by have := hp.cl j hj; omega), h4, hm.far hw (by omega), (h.sent.far hwm (by have := hp.sg; omega)).far hw (by have := hp.d5; omega), (h.ins.far hwm (by have := hp.ig; omega)).far hw (by have := hp.d6; omega), (h.read.far hwm (by have := hp.qg; omega)).far hw (by have := hp.d7; omega), hbel.trans (hw.below hp.b0 hbel.size)⟩⟩
end
end Go.Proofs.Ytfphkgialmjfnaa
