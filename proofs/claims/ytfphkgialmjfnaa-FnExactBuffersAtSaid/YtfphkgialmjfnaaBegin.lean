/-
  The program's ring is begun.
-/
import Derived.Test.YtfphkgialmjfnaaRowMk
import Derived.Test.YtfphkgialmjfnaaRepeat
import Derived.Test.YtfphkgialmjfnaaGoOn
namespace Go.Proofs.Ytfphkgialmjfnaa
open Go.RowKit Go.Conc Go.Sort
set_option maxRecDepth 100000
set_option linter.unusedVariables false

theorem chanI_info : (Try.prog.info? 81).map (fun i => (i.zero, i.size, i.bytes)) = some (some (.chan none), 1, 8) := by kernel_rfl
theorem mkChans (n : Nat) (hn : n ≤ 1000) (w : World) : (Instr.makeSlice 60 (.int .i64 (n : Int)) (.int .i64 (n : Int))).run Try.prog w = .ok (.slice (some ⟨w.heap.size, 0, none⟩) n n) (w.alloc (.cells (madeCells #[.chan none] n) 81)) :=
  run_make_row' (P := Try.prog) 60 81 (.chan none) 8 Try.underlying60 chanI_info rfl .i64 .i64 n (by omega) (by omega) w
theorem rowBKI {w : World} {lo g n : Nat} {E : TypeId} {xs : List Value} (h : w.ownsRow lo E 1 (.slice (some ⟨g, 0, none⟩) n n) n xs) : ∃ cur : Array Value, BK w g E cur ∧ cur.size = n := by
  obtain ⟨_, h2, _, _, cur, h5, h6, _⟩ := row_parts h
  exact ⟨cur, ⟨h2, h5⟩, by omega⟩
/-- The values of the first region. -/
def valB (x : Ir) (n len : Nat) (A : Option Addr) (c rb : Nat) (bl : Nat → Nat) (i : Nat) : Value :=
  match i with
  | 0 => .agg #[.int .i64 (n : Int), .int .i64 x.r, .bool x.h]
  | 1 => .slice A len c
  | 2 => .pointer (some ⟨rb, 0, none⟩)
  | 3 => .int .i64 (n : Int)
  | 4 => .slice (some ⟨bl 4, 0, none⟩) n n
  | 5 => .pointer (some ⟨rb, 0, none⟩)
  | 6 => .int .i64 (n : Int)
  | 7 => .slice (some ⟨bl 7, 0, none⟩) n n
  | 8 => .pointer (some ⟨rb, 0, none⟩)
  | 9 => .int .i64 (n : Int)
  | 10 => .slice (some ⟨bl 10, 0, none⟩) n n
  | 11 => .slice (some ⟨bl 11, 0, none⟩) 1 1
  | 12 => .slice A len c
  | 13 => .int .i64 (len : Int)
  | 14 => .slice (some ⟨bl 14, 0, none⟩) len len
  | 15 => .slice (some ⟨bl 15, 0, none⟩) 1 1
  | 16 => .slice A len c
  | 17 => .int .i64 (len : Int)
  | 18 => .slice (some ⟨bl 18, 0, none⟩) len len
  | 19 => .agg #[.int .i64 (n : Int), .int .i64 x.r, .bool x.h, .slice A len c, .int .i64 0, .slice (some ⟨bl 4, 0, none⟩) n n, .slice (some ⟨bl 7, 0, none⟩) n n, .slice (some ⟨bl 10, 0, none⟩) n n, .slice (some ⟨bl 14, 0, none⟩) len len, .slice (some ⟨bl 18, 0, none⟩) len len, .int .i64 0]
  | 20 => .pointer (some ⟨bl 20, 0, none⟩)
  | 21 => .pointer (some ⟨bl 20, 0, none⟩)
  | _ => undef
def factB (x : Ir) (n len : Nat) (A : Option Addr) (c : Nat) (i : Nat) (bl : Nat → Nat) (w : World) : Prop :=
  match i with
  | 4 => BK w (bl 4) 81 ((List.range n).map fun _ => Value.chan none).toArray
  | 7 => BK w (bl 7) 26 ((List.range n).map fun _ => Value.slice none 0 0).toArray
  | 10 => RC w (bl 10) n (List.replicate n 0)
  | 11 => BK w (bl 11) 3 #[.int .i64 (-1)]
  | 14 => RC w (bl 14) len (List.replicate len (-1))
  | 15 => BK w (bl 15) 3 #[.int .i64 (-1)]
  | 18 => RC w (bl 18) len (List.replicate len (-1))
  | 20 => BK w (bl 20) 62 #[.int .i64 (n : Int), .int .i64 x.r, .bool x.h, .slice A len c, .int .i64 0, .slice (some ⟨bl 4, 0, none⟩) n n, .slice (some ⟨bl 7, 0, none⟩) n n, .slice (some ⟨bl 10, 0, none⟩) n n, .slice (some ⟨bl 14, 0, none⟩) len len, .slice (some ⟨bl 18, 0, none⟩) len len, .int .i64 0] ∧ bl 4 < bl 20 ∧ bl 7 < bl 20 ∧ bl 10 < bl 20 ∧ bl 14 < bl 20 ∧ bl 18 < bl 20
  | _ => True
def msB (i : Nat) : Bool := [4, 7, 10, 11, 14, 15, 18, 20].contains i
def clB (D : Nat → Bool) : Prop := (D 14 = true → D 11 = true) ∧ (D 18 = true → D 15 = true) ∧ (D 19 = true → D 4 = true ∧ D 7 = true ∧ D 10 = true ∧ D 14 = true ∧ D 18 = true) ∧ (D 20 = true → D 19 = true) ∧ (D 21 = true → D 20 = true)
theorem factB_step {x : Ir} {n len : Nat} {A : Option Addr} {c : Nat} {bl : Nat → Nat} {w w' : World} (hb : Below w.heap.size w w') (j : Nat) (h : factB x n len A c j bl w) : factB x n len A c j bl w' := by
  unfold factB at h ⊢
  split at h
  · exact BK.step h hb
  · exact BK.step h hb
  · exact RC.step h hb
  · exact BK.step h hb
  · exact RC.step h hb
  · exact BK.step h hb
  · exact RC.step h hb
  · exact ⟨BK.step h.1 hb, h.2⟩
  · trivial
theorem stB {x : Ir} {n len : Nat} {A : Option Addr} {c rb : Nat} {bl : Nat → Nat} {w : World} {i b j : Nat} (hj : j ≠ i) (h : (j ≠ 19 ∧ j ≠ 20 ∧ j ≠ 21) ∨ (i = 20 ∧ j ≠ 21)) : valB x n len A c rb (up bl i b) j = valB x n len A c rb bl j ∧ (factB x n len A c j bl w → factB x n len A c j (up bl i b) w) := by
  have hu : ∀ k, k ≠ i → up bl i b k = bl k := fun k hk => up_ne _ _ _ hk
  constructor
  · unfold valB
    split <;> first | rfl | (rw [hu _ (by omega)]; done) | (rcases h with h | h <;> first | omega | (rw [hu 4 (by omega), hu 7 (by omega), hu 10 (by omega), hu 14 (by omega), hu 18 (by omega)])) | omega
  · intro hf
    unfold factB at hf ⊢
    split at hf
    · rw [hu 4 (by omega)]; exact hf
    · rw [hu 7 (by omega)]; exact hf
    · rw [hu 10 (by omega)]; exact hf
    · rw [hu 11 (by omega)]; exact hf
    · rw [hu 14 (by omega)]; exact hf
    · rw [hu 15 (by omega)]; exact hf
    · rw [hu 18 (by omega)]; exact hf
    · omega
    · trivial
theorem mkChan1 (w : World) : (Instr.makeChan 81 (.int .i64 1)).run Try.prog w = .ok (.chan (some w.heap.size)) (w.alloc (.chan 1 #[] false 0 0 false)) := by
  obtain ⟨i, hi, hz0, hz1, hb⟩ := info_parts int_info
  simpa using run_makeChan (P := Try.prog) (w := w) Try.underlying81 hi .i64 1 (by omega) (by rw [hb]; omega)
/-- The ring while its buffers and links are laid: s of them. -/
structure BegS (w0 w : World) (x : Ir) (l : List Ms) (p : GL) (s : Nat) (cs : Nat → Nat) (u : Nat) : Prop where
  run : BK w p.g 62 #[.int .i64 x.n, .int .i64 x.r, .bool x.h, .slice p.A l.length p.c, .int .i64 0, .slice (some ⟨p.kb, 0, none⟩) x.n.toNat x.n.toNat, .slice (some ⟨p.bb, 0, none⟩) x.n.toNat x.n.toNat, .slice (some ⟨p.sb, 0, none⟩) x.n.toNat x.n.toNat, .slice (some ⟨p.ib, 0, none⟩) l.length l.length, .slice (some ⟨p.qb, 0, none⟩) l.length l.length, .int .i64 0]
  links : BK w p.kb 81 (rowA x.n.toNat fun j => if j < s then .chan (some (cs j)) else .chan none)
  ch : ∀ j, j < s → w.heap[cs j]? = some (.chan 1 #[] false 0 0 false)
  inj : ∀ i j, i < s → j < s → cs i = cs j → i = j
  low : ∀ j, j < s → p.lo ≤ cs j
  bufs : BK w p.bb 26 (rowA x.n.toNat fun j => if j < u then bufV p.rm x.r.toNat j 0 else .slice none 0 0)
  room : RC w p.rm (x.n.toNat * x.r.toNat) (List.replicate (x.n.toNat * x.r.toNat) 0)
  sent : RC w p.sb x.n.toNat (List.replicate x.n.toNat 0)
  ins : RC w p.ib l.length (List.replicate l.length (-1))
  read : RC w p.qb l.length (List.replicate l.length (-1))
  bel : Below w0.heap.size w0 w
  big : p.lo ≤ w.heap.size
/-- The blocks' places, ahead of the links. -/
structure GP0 (w0 : World) (p : GL) : Prop where
  k0 : w0.heap.size ≤ p.kb
  b0 : w0.heap.size ≤ p.bb
  s0 : w0.heap.size ≤ p.sb
  i0 : w0.heap.size ≤ p.ib
  q0 : w0.heap.size ≤ p.qb
  kg : p.kb < p.g
  bg : p.bb < p.g
  sg : p.sb < p.g
  ig : p.ib < p.g
  qg : p.qb < p.g
  gr : p.g < p.rm
  rl : p.rm < p.lo
  d1 : p.kb ≠ p.bb
  d2 : p.kb ≠ p.sb
  d3 : p.kb ≠ p.ib
  d4 : p.kb ≠ p.qb
  d5 : p.bb ≠ p.sb
  d6 : p.bb ≠ p.ib
  d7 : p.bb ≠ p.qb
  d8 : p.sb ≠ p.ib
  d9 : p.sb ≠ p.qb
  d0 : p.ib ≠ p.qb
section
variable {w0 w w' : World} {x : Ir} {l : List Ms} {p : GL} {s u : Nat} {cs : Nat → Nat}
theorem BegS.step (h : BegS w0 w x l p s cs u) (hb : Below w.heap.size w w') : BegS w0 w' x l p s cs u :=
  ⟨h.run.step hb, h.links.step hb, fun j hj => (hb.block _ (Array.getElem?_eq_some_iff.1 (h.ch j hj)).1).trans (h.ch j hj), h.inj, h.low, h.bufs.step hb, h.room.step hb, h.sent.step hb, h.ins.step hb, h.read.step hb, h.bel.trans (hb.mono h.bel.size), Nat.le_trans h.big hb.size⟩
theorem BegS.buf (h : BegS w0 w x l p s cs s) (hp : GP0 w0 p) (hs : s < x.n.toNat) : BegS w0 (w.setCell ⟨p.bb, s, none⟩ (bufV p.rm x.r.toNat s 0)) x l p s cs (s + 1) := by
  have hw := wrCell (w := w) p.bb s (bufV p.rm x.r.toNat s 0)
  have h1 := hp.rl
  have h2 := hp.gr
  have h3 := hp.bg
  have h4 := h.bufs.put s (bufV p.rm x.r.toNat s 0)
  rw [rowA_put] at h4
  have e : rowA x.n.toNat (up (fun j => if j < s then bufV p.rm x.r.toNat j 0 else .slice none 0 0) s (bufV p.rm x.r.toNat s 0)) = rowA x.n.toNat fun j => if j < s + 1 then bufV p.rm x.r.toNat j 0 else .slice none 0 0 := rowA_congr fun j _ => by
    unfold up
    by_cases e : j = s
    · subst e; rw [if_pos rfl, if_pos (by omega)]
    · have e2 : (j < s + 1) ↔ (j < s) := by omega
      simp only [e, if_false, e2]
  rw [e] at h4
  have hch : ∀ j, j < s → (w.setCell ⟨p.bb, s, none⟩ (bufV p.rm x.r.toNat s 0)).heap[cs j]? = w.heap[cs j]? := fun j hj => hw.block _ (Array.getElem?_eq_some_iff.1 (h.ch j hj)).1 (by have := h.low j hj; omega)
  exact ⟨h.run.far hw (by omega), h.links.far hw (by have := hp.d1; omega), fun j hj => (hch j hj).trans (h.ch j hj), h.inj, h.low, h4, h.room.far hw (by omega), h.sent.far hw (by have := hp.d5; omega), h.ins.far hw (by have := hp.d6; omega), h.read.far hw (by have := hp.d7; omega), h.bel.trans (hw.below hp.b0 h.bel.size), Nat.le_trans h.big hw.size⟩
theorem BegS.link (h : BegS w0 w x l p s cs (s + 1)) (hp : GP0 w0 p) (hs : s < x.n.toNat) {c : Nat} (hb : Below w.heap.size w w') (hc : w.heap.size ≤ c) (hch : w'.heap[c]? = some (.chan 1 #[] false 0 0 false)) : BegS w0 (w'.setCell ⟨p.kb, s, none⟩ (.chan (some c))) x l p (s + 1) (up cs s c) (s + 1) := by
  have h' := h.step hb
  have hw := wrCell (w := w') p.kb s (.chan (some c))
  have h1 := hp.rl
  have h2 := hp.gr
  have h3 := hp.kg
  have hbig := h.big
  have h4 := h'.links.put s (.chan (some c))
  rw [rowA_put] at h4
  have e : rowA x.n.toNat (up (fun j => if j < s then Value.chan (some (cs j)) else .chan none) s (.chan (some c))) = rowA x.n.toNat fun j => if j < s + 1 then .chan (some (up cs s c j)) else .chan none := rowA_congr fun j _ => by
    by_cases e : j = s
    · subst e; rw [up_same, up_same, if_pos (by omega)]
    · have e2 : (j < s + 1) ↔ (j < s) := by omega
      rw [up_ne _ _ _ e, up_ne _ _ _ e]
      simp only [e2]
  rw [e] at h4
  have old : ∀ j, j < s → cs j < w.heap.size := fun j hj => (Array.getElem?_eq_some_iff.1 (h.ch j hj)).1
  have hclt : c < w'.heap.size := (Array.getElem?_eq_some_iff.1 hch).1
  refine ⟨h'.run.far hw (by omega), h4, fun j hj => ?_, fun i j hi hj hij => ?_, fun j hj => ?_, h'.bufs.far hw (by have := hp.d1; omega), h'.room.far hw (by omega), h'.sent.far hw (by have := hp.d2; omega), h'.ins.far hw (by have := hp.d3; omega), h'.read.far hw (by have := hp.d4; omega), h'.bel.trans (hw.below hp.k0 h'.bel.size), Nat.le_trans h'.big hw.size⟩
  · by_cases e : j = s
    · subst e
      rw [up_same]
      exact (hw.block c hclt (by omega)).trans hch
    · rw [up_ne _ _ _ e]
      have hj' : j < s := by omega
      have := h'.low j hj'
      exact (hw.block _ (by have := old j hj'; have := hb.size; omega) (by omega)).trans (h'.ch j hj')
  · by_cases e : i = s
    · by_cases e2 : j = s
      · omega
      · subst e
        rw [up_same, up_ne _ _ _ e2] at hij
        have := old j (by omega)
        omega
    · by_cases e2 : j = s
      · subst e2
        rw [up_same, up_ne _ _ _ e] at hij
        have := old i (by omega)
        omega
      · rw [up_ne _ _ _ e, up_ne _ _ _ e2] at hij
        exact h.inj i j (by omega) (by omega) hij
  · by_cases e : j = s
    · subst e; rw [up_same]; omega
    · rw [up_ne _ _ _ e]; exact h.low j (by omega)
theorem BegS.done (h : BegS w0 w x l p x.n.toNat cs x.n.toNat) (hp : GP0 w0 p) (hr : 1 ≤ x.r) : ∃ p' : GL, p'.g = p.g ∧ p'.A = p.A ∧ p'.c = p.c ∧ GP w0 x.n.toNat p' ∧ GoS w0 w x l p' 0 ((iwOf x l).vg 0) Ist.zero := by
  have hlk : rowA x.n.toNat (fun j => if j < x.n.toNat then Value.chan (some (cs j)) else .chan none) = rowA x.n.toNat fun j => .chan (some (cs j)) := rowA_congr fun j hj => by rw [if_pos hj]
  have hbf : rowA x.n.toNat (fun j => if j < x.n.toNat then bufV p.rm x.r.toNat j 0 else .slice none 0 0) = rowA x.n.toNat fun j => bufV p.rm x.r.toNat j (Ist.zero.B j).length := rowA_congr fun j hj => by rw [if_pos hj]; rfl
  have hL := h.links
  rw [hlk] at hL
  have hB := h.bufs
  rw [hbf] at hB
  refine ⟨{ p with cs := cs, vi := .slice (some ⟨p.ib, 0, none⟩) l.length l.length, vr := .slice (some ⟨p.qb, 0, none⟩) l.length l.length }, rfl, rfl, rfl, ⟨hp.k0, hp.b0, hp.s0, hp.i0, hp.q0, hp.kg, hp.bg, hp.sg, hp.ig, hp.qg, hp.gr, hp.rl, h.low, hp.d1, hp.d2, hp.d3, hp.d4, hp.d5, hp.d6, hp.d7, hp.d8, hp.d9, hp.d0⟩, ⟨h.run, ⟨h.inj, fun j hj => by show cs j ≠ p.kb; have := h.low j hj; have := hp.kg; have := hp.gr; have := hp.rl; omega, fun j hj => by rw [hL.cell, rowA_at _ _ _ hj], fun j hj => ?_⟩, hB, ⟨h.room.lt, fun s hs j hj => absurd hj (by simp [Ist.zero]), fun k hk => ?_⟩, ?_, ?_, ?_, h.bel⟩⟩
  · refine ⟨0, 0, ?_⟩
    have e : (iwOf x l).qv ((iwOf x l).vg 0) Ist.zero j = [] := by unfold Iw.qv; split <;> rfl
    rw [e]
    exact h.ch j hj
  · have := h.room.cell k (by simpa using hk)
    exact ⟨by rw [this]; rfl, h.room.free k⟩
  · have e : tabl (fun s => ((Ist.zero.L s : Nat) : Int)) x.n.toNat = List.replicate x.n.toNat 0 := tabl_const 0 _
    rw [e]; exact h.sent
  · have e : tabl Ist.zero.I l.length = List.replicate l.length (-1) := tabl_const (-1) _
    rw [e]; exact .inr ⟨l.length, by simp, h.ins⟩
  · have e : tabl Ist.zero.R l.length = List.replicate l.length (-1) := tabl_const (-1) _
    rw [e]; exact .inr ⟨l.length, by simp, h.read⟩
end
theorem clB_add {D D' : Nat → Bool} {i : Nat} (h : clB D) (hD' : ∀ j, D' j = if j = i then true else D j) (h14 : i = 14 → D 11 = true) (h18 : i = 18 → D 15 = true) (h19 : i = 19 → D 4 = true ∧ D 7 = true ∧ D 10 = true ∧ D 14 = true ∧ D 18 = true) (h20 : i = 20 → D 19 = true) (h21 : i = 21 → D 20 = true) : clB D' := by
  have up : ∀ j, D j = true → D' j = true := fun j hj => by rw [hD']; split <;> first | rfl | exact hj
  have dn : ∀ j, D' j = true → j = i ∨ D j = true := fun j hj => by rw [hD'] at hj; split at hj; · exact .inl ‹_›
                                                                    · exact .inr hj
  obtain ⟨a1, a2, a3, a4, a5⟩ := h
  refine ⟨fun h => ?_, fun h => ?_, fun h => ?_, fun h => ?_, fun h => ?_⟩
  · rcases dn _ h with h | h
    · exact up _ (h14 h.symm)
    · exact up _ (a1 h)
  · rcases dn _ h with h | h
    · exact up _ (h18 h.symm)
    · exact up _ (a2 h)
  · rcases dn _ h with h | h
    · obtain ⟨b1, b2, b3, b4, b5⟩ := h19 h.symm
      exact ⟨up _ b1, up _ b2, up _ b3, up _ b4, up _ b5⟩
    · obtain ⟨b1, b2, b3, b4, b5⟩ := a3 h
      exact ⟨up _ b1, up _ b2, up _ b3, up _ b4, up _ b5⟩
  · rcases dn _ h with h | h
    · exact up _ (h20 h.symm)
    · exact up _ (a4 h)
  · rcases dn _ h with h | h
    · exact up _ (h21 h.symm)
    · exact up _ (a5 h)
/-- Where a part is wanting, what stands on it is wanting too. -/
theorem clB_no {D : Nat → Bool} (h : clB D) {i j : Nat} (hi : D i = false) (him : i = 4 ∨ i = 7 ∨ i = 10 ∨ i = 11 ∨ i = 14 ∨ i = 15 ∨ i = 18) (hj : D j = true) : j ≠ 19 ∧ j ≠ 20 ∧ j ≠ 21 := by
  obtain ⟨a1, a2, a3, a4, a5⟩ := h
  have h19 : D 19 = false := by
    cases e : D 19
    · rfl
    · obtain ⟨b1, b2, b3, b4, b5⟩ := a3 e
      rcases him with rfl | rfl | rfl | rfl | rfl | rfl | rfl
      · rw [hi] at b1; cases b1
      · rw [hi] at b2; cases b2
      · rw [hi] at b3; cases b3
      · have := a1 b4; rw [hi] at this; cases this
      · rw [hi] at b4; cases b4
      · have := a2 b5; rw [hi] at this; cases this
      · rw [hi] at b5; cases b5
  have h20 : D 20 = false := by
    cases e : D 20
    · rfl
    · have := a4 e; rw [h19] at this; cases this
  have h21 : D 21 = false := by
    cases e : D 21
    · rfl
    · have := a5 e; rw [h20] at this; cases this
  refine ⟨?_, ?_, ?_⟩
  · rintro rfl; rw [h19] at hj; cases hj
  · rintro rfl; rw [h20] at hj; cases hj
  · rintro rfl; rw [h21] at hj; cases hj
set_option maxHeartbeats 8000000 in
theorem begin_any (x : Ir) (l : List Ms) (A : Option Addr) (c : Nat) (w : World) (hin : isIr x = true) (hl20 : l.length ≤ 20) :
    Calls Try.prog 50 #[IrV x, .slice A l.length c] w fun e w' => ∃ p : GL, e = .returned (.pointer (some ⟨p.g, 0, none⟩)) ∧ p.A = A ∧ p.c = c ∧ GP w x.n.toNat p ∧ GoS w w' x l p 0 ((iwOf x l).vg 0) Ist.zero := by
  have hii := isIr_in hin
  have hnn := toNat_in hii.1
  have hr1 : 1 ≤ x.r := hii.2.1
  obtain ⟨n, hN⟩ : ∃ n, n = x.n.toNat := ⟨_, rfl⟩
  have hnx : x.n = (n : Int) := by omega
  have hn12 : n ≤ 12 ∧ 2 ≤ n := by rw [hN]; exact hnn
  obtain ⟨rr, hrr⟩ : ∃ rr, rr = x.r.toNat := ⟨_, rfl⟩
  have hrx : x.r = (rr : Int) := by omega
  have hrr20 : rr ≤ 20 ∧ 1 ≤ rr := by omega
  have hnr : n * rr ≤ 12 * 20 := Nat.mul_le_mul hn12.1 hrr20.1
  have HRP := Lib.hid (fun b w h1 h2 => repeat_any (-1) l.length b w hl20 h1 h2)
  have HMC := Lib.hid (fun w => mkChans n (by omega) w)
  have HMI := Lib.hid (fun w => mkInts n (by omega) w)
  have HMR := Lib.hid (fun w => mkRows n (by omega) w)
  have hW0 : Below w.heap.size w (w.alloc (.cells #[.int .i64 x.n, .int .i64 x.r, .bool x.h] 29)) := (Below.refl _ _).alloc (Nat.le_refl _) _
  have hB0 := BK.made w 29 #[.int .i64 x.n, .int .i64 x.r, .bool x.h]
  obtain ⟨wa, hwa⟩ : ∃ wa, wa = w.alloc (.cells #[.int .i64 x.n, .int .i64 x.r, .bool x.h] 29) := ⟨_, rfl⟩
  have hza : wa.heap.size = w.heap.size + 1 := by rw [hwa]; simp
  rw [← hwa] at hW0 hB0
  obtain ⟨rb, hrb⟩ : ∃ rb, rb = w.heap.size := ⟨_, rfl⟩
  rw [← hrb] at hB0
  have HRB : Hid (∀ w', Below wa.heap.size wa w' → BK w' rb 29 #[.int .i64 x.n, .int .i64 x.r, .bool x.h]) := by
    show ∀ _, _
    intro w' hb
    exact hB0.far (Wr.of_below hb wa.heap.size wa.heap.size) (.inl (by omega))
  have HNX := Lib.hid hnx
  have HNN := Lib.hid hN
  have HRX := Lib.hid hrx
  have HRR := Lib.hid hrr
  have HWA := Lib.hid hwa
  have HRBE := Lib.hid hrb
  have HZA := Lib.hid hza
  have HW0 := Lib.hid hW0
  unfold IrV
  clear hnx hN hrx hrr hwa hrb hza hW0 hii hnn hr1 hB0 hin
  go_enter Try.func50, Try.ntmps50
  go_upto_region 1 with fail
  rw [← HWA.out, ← HRBE.out]
  refine wp_region_rowE (by kernel_rfl) (by kernel_rfl) 9 21 (some 5) (by kernel_rfl) (by decide) (by simp) (fun d hd => by injection hd; omega) (fun D V w' => ∃ bl, BW wa msB clB (valB x n l.length A c rb) (factB x n l.length A c) D V bl w') ?_ ?_ ?_
  · exact fun V => ⟨fun _ => 0, BW.start (Below.refl _ _).drew ⟨fun h => (nomatch h), fun h => (nomatch h), fun h => (nomatch h), fun h => (nomatch h), fun h => (nomatch h)⟩ _ _⟩
  · intro D D' V ev w' i hi' hd hpre hD' hev hec hef hW
    obtain ⟨bl, hW⟩ := hW
    have e1 := hev 1
    have e2 := hev 2
    simp at e1 e2
    have hi11 : i < 22 := hi'
    match i, hi11 with
    | 0, _ =>
      obtain ⟨r0, r1, r2⟩ : w'.cell? ⟨rb, 0, none⟩ = some (.int .i64 (n : Int)) ∧ w'.cell? ⟨rb, 1, none⟩ = some (.int .i64 x.r) ∧ w'.cell? ⟨rb, 2, none⟩ = some (.bool x.h) := by
        have h := HRB.out w' hW.bel
        have a0 := h.cell 0
        have a1 := h.cell 1
        have a2 := h.cell 2
        rw [HNX.out] at a0
        exact ⟨by simpa using a0, by simpa using a1, by simpa using a2⟩
      exact .value _ w' (by simp [go_sem, execOp, e2, r0, r1, r2]; rfl) ⟨bl, hW.pure hD' rfl rfl trivial (clB_add hW.cl hD' (fun h => absurd h (by decide)) (fun h => absurd h (by decide)) (fun h => absurd h (by decide)) (fun h => absurd h (by decide)) (fun h => absurd h (by decide)))⟩
    | 1, _ =>
      exact .value _ w' (by simp [go_sem, execOp, e1]; rfl) ⟨bl, hW.pure hD' rfl rfl trivial (clB_add hW.cl hD' (fun h => absurd h (by decide)) (fun h => absurd h (by decide)) (fun h => absurd h (by decide)) (fun h => absurd h (by decide)) (fun h => absurd h (by decide)))⟩
    | 2, _ =>
      exact .value _ w' (by simp [go_sem, execOp, e2]; rfl) ⟨bl, hW.pure hD' rfl rfl trivial (clB_add hW.cl hD' (fun h => absurd h (by decide)) (fun h => absurd h (by decide)) (fun h => absurd h (by decide)) (fun h => absurd h (by decide)) (fun h => absurd h (by decide)))⟩
    | 3, _ =>
      have p2 : D 2 = true := hpre ⟨2, .data⟩ (by simp) rfl
      have f2 := hev 11
      simp [p2] at f2
      rw [hW.vals 2 p2] at f2
      simp only [valB] at f2
      obtain ⟨r0, r1, r2⟩ : w'.cell? ⟨rb, 0, none⟩ = some (.int .i64 (n : Int)) ∧ w'.cell? ⟨rb, 1, none⟩ = some (.int .i64 x.r) ∧ w'.cell? ⟨rb, 2, none⟩ = some (.bool x.h) := by
        have h := HRB.out w' hW.bel
        have a0 := h.cell 0
        have a1 := h.cell 1
        have a2 := h.cell 2
        rw [HNX.out] at a0
        exact ⟨by simpa using a0, by simpa using a1, by simpa using a2⟩
      exact .value _ w' (by simp [go_sem, execOp, f2, r0]; rfl) ⟨bl, hW.pure hD' rfl rfl trivial (clB_add hW.cl hD' (fun h => absurd h (by decide)) (fun h => absurd h (by decide)) (fun h => absurd h (by decide)) (fun h => absurd h (by decide)) (fun h => absurd h (by decide)))⟩
    | 4, _ =>
      have p3 : D 3 = true := hpre ⟨3, .data⟩ (by simp) rfl
      have f3 := hev 12
      simp [p3] at f3
      rw [hW.vals 3 p3] at f3
      simp only [valB] at f3
      exact .value _ (w'.alloc (.cells (madeCells #[.chan none] n) 81)) (by simp [go_sem, execOp, f3, HMC.out]; try rfl) ⟨up bl 4 w'.heap.size, hW.mem hD' (Nat.le_refl _) (by simp) ((Below.refl _ _).alloc (Nat.le_refl _) _) (fun j => factB_step ((Below.refl _ _).alloc (Nat.le_refl _) _) j) (fun j hj hd2 => stB hj (.inl (clB_no hW.cl hd (by decide) hd2))) (by simp only [valB, up_same]) (by simp only [factB, up_same]; exact madeBK _ _ _ _) (clB_add hW.cl hD' (fun h => absurd h (by decide)) (fun h => absurd h (by decide)) (fun h => absurd h (by decide)) (fun h => absurd h (by decide)) (fun h => absurd h (by decide)))⟩
    | 5, _ =>
      exact .value _ w' (by simp [go_sem, execOp, e2]; rfl) ⟨bl, hW.pure hD' rfl rfl trivial (clB_add hW.cl hD' (fun h => absurd h (by decide)) (fun h => absurd h (by decide)) (fun h => absurd h (by decide)) (fun h => absurd h (by decide)) (fun h => absurd h (by decide)))⟩
    | 6, _ =>
      have p5 : D 5 = true := hpre ⟨5, .data⟩ (by simp) rfl
      have f5 := hev 14
      simp [p5] at f5
      rw [hW.vals 5 p5] at f5
      simp only [valB] at f5
      obtain ⟨r0, r1, r2⟩ : w'.cell? ⟨rb, 0, none⟩ = some (.int .i64 (n : Int)) ∧ w'.cell? ⟨rb, 1, none⟩ = some (.int .i64 x.r) ∧ w'.cell? ⟨rb, 2, none⟩ = some (.bool x.h) := by
        have h := HRB.out w' hW.bel
        have a0 := h.cell 0
        have a1 := h.cell 1
        have a2 := h.cell 2
        rw [HNX.out] at a0
        exact ⟨by simpa using a0, by simpa using a1, by simpa using a2⟩
      exact .value _ w' (by simp [go_sem, execOp, f5, r0]; rfl) ⟨bl, hW.pure hD' rfl rfl trivial (clB_add hW.cl hD' (fun h => absurd h (by decide)) (fun h => absurd h (by decide)) (fun h => absurd h (by decide)) (fun h => absurd h (by decide)) (fun h => absurd h (by decide)))⟩
    | 7, _ =>
      have p6 : D 6 = true := hpre ⟨6, .data⟩ (by simp) rfl
      have f6 := hev 15
      simp [p6] at f6
      rw [hW.vals 6 p6] at f6
      simp only [valB] at f6
      exact .value _ (w'.alloc (.cells (madeCells #[.slice none 0 0] n) 26)) (by simp [go_sem, execOp, f6, HMR.out]; try rfl) ⟨up bl 7 w'.heap.size, hW.mem hD' (Nat.le_refl _) (by simp) ((Below.refl _ _).alloc (Nat.le_refl _) _) (fun j => factB_step ((Below.refl _ _).alloc (Nat.le_refl _) _) j) (fun j hj hd2 => stB hj (.inl (clB_no hW.cl hd (by decide) hd2))) (by simp only [valB, up_same]) (by simp only [factB, up_same]; exact madeBK _ _ _ _) (clB_add hW.cl hD' (fun h => absurd h (by decide)) (fun h => absurd h (by decide)) (fun h => absurd h (by decide)) (fun h => absurd h (by decide)) (fun h => absurd h (by decide)))⟩
    | 8, _ =>
      exact .value _ w' (by simp [go_sem, execOp, e2]; rfl) ⟨bl, hW.pure hD' rfl rfl trivial (clB_add hW.cl hD' (fun h => absurd h (by decide)) (fun h => absurd h (by decide)) (fun h => absurd h (by decide)) (fun h => absurd h (by decide)) (fun h => absurd h (by decide)))⟩
    | 9, _ =>
      have p8 : D 8 = true := hpre ⟨8, .data⟩ (by simp) rfl
      have f8 := hev 17
      simp [p8] at f8
      rw [hW.vals 8 p8] at f8
      simp only [valB] at f8
      obtain ⟨r0, r1, r2⟩ : w'.cell? ⟨rb, 0, none⟩ = some (.int .i64 (n : Int)) ∧ w'.cell? ⟨rb, 1, none⟩ = some (.int .i64 x.r) ∧ w'.cell? ⟨rb, 2, none⟩ = some (.bool x.h) := by
        have h := HRB.out w' hW.bel
        have a0 := h.cell 0
        have a1 := h.cell 1
        have a2 := h.cell 2
        rw [HNX.out] at a0
        exact ⟨by simpa using a0, by simpa using a1, by simpa using a2⟩
      exact .value _ w' (by simp [go_sem, execOp, f8, r0]; rfl) ⟨bl, hW.pure hD' rfl rfl trivial (clB_add hW.cl hD' (fun h => absurd h (by decide)) (fun h => absurd h (by decide)) (fun h => absurd h (by decide)) (fun h => absurd h (by decide)) (fun h => absurd h (by decide)))⟩
    | 10, _ =>
      have p9 : D 9 = true := hpre ⟨9, .data⟩ (by simp) rfl
      have f9 := hev 18
      simp [p9] at f9
      rw [hW.vals 9 p9] at f9
      simp only [valB] at f9
      exact .value _ (w'.alloc (.cells (madeCells #[.int .i64 0] n) 3)) (by simp [go_sem, execOp, f9, HMI.out]; try rfl) ⟨up bl 10 w'.heap.size, hW.mem hD' (Nat.le_refl _) (by simp) ((Below.refl _ _).alloc (Nat.le_refl _) _) (fun j => factB_step ((Below.refl _ _).alloc (Nat.le_refl _) _) j) (fun j hj hd2 => stB hj (.inl (clB_no hW.cl hd (by decide) hd2))) (by simp only [valB, up_same]) (by simp only [factB, up_same]; exact madeRC _ _ (by omega)) (clB_add hW.cl hD' (fun h => absurd h (by decide)) (fun h => absurd h (by decide)) (fun h => absurd h (by decide)) (fun h => absurd h (by decide)) (fun h => absurd h (by decide)))⟩
    | 11, _ =>
      exact .value _ (w'.alloc (.cells #[.int .i64 (-1)] 3)) (by simp [go_sem, execOp, hec]; try rfl) ⟨up bl 11 w'.heap.size, hW.mem hD' (Nat.le_refl _) (by simp) ((Below.refl _ _).alloc (Nat.le_refl _) _) (fun j => factB_step ((Below.refl _ _).alloc (Nat.le_refl _) _) j) (fun j hj hd2 => stB hj (.inl (clB_no hW.cl hd (by decide) hd2))) (by simp only [valB, up_same]) (by simp only [factB, up_same]; exact BK.made _ _ _) (clB_add hW.cl hD' (fun h => absurd h (by decide)) (fun h => absurd h (by decide)) (fun h => absurd h (by decide)) (fun h => absurd h (by decide)) (fun h => absurd h (by decide)))⟩
    | 12, _ =>
      exact .value _ w' (by simp [go_sem, execOp, e1]; rfl) ⟨bl, hW.pure hD' rfl rfl trivial (clB_add hW.cl hD' (fun h => absurd h (by decide)) (fun h => absurd h (by decide)) (fun h => absurd h (by decide)) (fun h => absurd h (by decide)) (fun h => absurd h (by decide)))⟩
    | 13, _ =>
      have p12 : D 12 = true := hpre ⟨12, .data⟩ (by simp) rfl
      have f12 := hev 21
      simp [p12] at f12
      rw [hW.vals 12 p12] at f12
      simp only [valB] at f12
      exact .value _ w' (by simp [go_sem, execOp, f12]; rfl) ⟨bl, hW.pure hD' rfl rfl trivial (clB_add hW.cl hD' (fun h => absurd h (by decide)) (fun h => absurd h (by decide)) (fun h => absurd h (by decide)) (fun h => absurd h (by decide)) (fun h => absurd h (by decide)))⟩
    | 14, _ =>
      have p11 : D 11 = true := hpre ⟨11, .data⟩ (by simp) rfl
      have p13 : D 13 = true := hpre ⟨13, .data⟩ (by simp) rfl
      have f11 := hev 20
      have f13 := hev 22
      simp [p11, p13] at f11 f13
      rw [hW.vals 11 p11] at f11
      rw [hW.vals 13 p13] at f13
      simp only [valB] at f11 f13
      have hfb := hW.facts 11 p11
      simp only [factB] at hfb
      have hcell := hfb.cell 0
      simp only [List.getElem?_toArray, List.getElem?_cons_zero] at hcell
      refine .call 59 #[.slice (some ⟨bl 11, 0, none⟩) 1 1, .int .i64 (l.length : Int)] w' ((run_call_any (f := 59) (ρ := ev) (args := #[.tmp 20, .tmp 22]) (ats := #[26, 3]) rfl (hef _) Try.func59 (by kernel_rfl) rfl).trans (by simp [f11, f13])) ((HRP.out (bl 11) w' hcell hfb.1).mono ?_)
      rintro e w'' ⟨tb, rfl, htb, hrc, hb''⟩
      exact ⟨_, rfl, up bl 14 tb, hW.mem hD' htb hrc.lt hb'' (fun j => factB_step hb'' j) (fun j hj hd2 => stB hj (.inl (clB_no hW.cl hd (by decide) hd2))) (by simp only [valB, up_same]) (by simp only [factB, up_same]; exact hrc) (clB_add hW.cl hD' (fun h => by first | exact p11 | exact absurd h (by decide)) (fun h => absurd h (by decide)) (fun h => absurd h (by decide)) (fun h => absurd h (by decide)) (fun h => absurd h (by decide)))⟩
    | 15, _ =>
      exact .value _ (w'.alloc (.cells #[.int .i64 (-1)] 3)) (by simp [go_sem, execOp, hec]; try rfl) ⟨up bl 15 w'.heap.size, hW.mem hD' (Nat.le_refl _) (by simp) ((Below.refl _ _).alloc (Nat.le_refl _) _) (fun j => factB_step ((Below.refl _ _).alloc (Nat.le_refl _) _) j) (fun j hj hd2 => stB hj (.inl (clB_no hW.cl hd (by decide) hd2))) (by simp only [valB, up_same]) (by simp only [factB, up_same]; exact BK.made _ _ _) (clB_add hW.cl hD' (fun h => absurd h (by decide)) (fun h => absurd h (by decide)) (fun h => absurd h (by decide)) (fun h => absurd h (by decide)) (fun h => absurd h (by decide)))⟩
    | 16, _ =>
      exact .value _ w' (by simp [go_sem, execOp, e1]; rfl) ⟨bl, hW.pure hD' rfl rfl trivial (clB_add hW.cl hD' (fun h => absurd h (by decide)) (fun h => absurd h (by decide)) (fun h => absurd h (by decide)) (fun h => absurd h (by decide)) (fun h => absurd h (by decide)))⟩
    | 17, _ =>
      have p16 : D 16 = true := hpre ⟨16, .data⟩ (by simp) rfl
      have f16 := hev 25
      simp [p16] at f16
      rw [hW.vals 16 p16] at f16
      simp only [valB] at f16
      exact .value _ w' (by simp [go_sem, execOp, f16]; rfl) ⟨bl, hW.pure hD' rfl rfl trivial (clB_add hW.cl hD' (fun h => absurd h (by decide)) (fun h => absurd h (by decide)) (fun h => absurd h (by decide)) (fun h => absurd h (by decide)) (fun h => absurd h (by decide)))⟩
    | 18, _ =>
      have p15 : D 15 = true := hpre ⟨15, .data⟩ (by simp) rfl
      have p17 : D 17 = true := hpre ⟨17, .data⟩ (by simp) rfl
      have f15 := hev 24
      have f17 := hev 26
      simp [p15, p17] at f15 f17
      rw [hW.vals 15 p15] at f15
      rw [hW.vals 17 p17] at f17
      simp only [valB] at f15 f17
      have hfb := hW.facts 15 p15
      simp only [factB] at hfb
      have hcell := hfb.cell 0
      simp only [List.getElem?_toArray, List.getElem?_cons_zero] at hcell
      refine .call 59 #[.slice (some ⟨bl 15, 0, none⟩) 1 1, .int .i64 (l.length : Int)] w' ((run_call_any (f := 59) (ρ := ev) (args := #[.tmp 24, .tmp 26]) (ats := #[26, 3]) rfl (hef _) Try.func59 (by kernel_rfl) rfl).trans (by simp [f15, f17])) ((HRP.out (bl 15) w' hcell hfb.1).mono ?_)
      rintro e w'' ⟨tb, rfl, htb, hrc, hb''⟩
      exact ⟨_, rfl, up bl 18 tb, hW.mem hD' htb hrc.lt hb'' (fun j => factB_step hb'' j) (fun j hj hd2 => stB hj (.inl (clB_no hW.cl hd (by decide) hd2))) (by simp only [valB, up_same]) (by simp only [factB, up_same]; exact hrc) (clB_add hW.cl hD' (fun h => absurd h (by decide)) (fun h => by first | exact p15 | exact absurd h (by decide)) (fun h => absurd h (by decide)) (fun h => absurd h (by decide)) (fun h => absurd h (by decide)))⟩
    | 19, _ =>
      have p0 : D 0 = true := hpre ⟨0, .data⟩ (by simp) rfl
      have p1 : D 1 = true := hpre ⟨1, .data⟩ (by simp) rfl
      have p4 : D 4 = true := hpre ⟨4, .data⟩ (by simp) rfl
      have p7 : D 7 = true := hpre ⟨7, .data⟩ (by simp) rfl
      have p10 : D 10 = true := hpre ⟨10, .data⟩ (by simp) rfl
      have p14 : D 14 = true := hpre ⟨14, .data⟩ (by simp) rfl
      have p18 : D 18 = true := hpre ⟨18, .data⟩ (by simp) rfl
      have f0 := hev 9
      have f1 := hev 10
      have f4 := hev 13
      have f7 := hev 16
      have f10 := hev 19
      have f14 := hev 23
      have f18 := hev 27
      simp [p0, p1, p4, p7, p10, p14, p18] at f0 f1 f4 f7 f10 f14 f18
      rw [hW.vals 0 p0] at f0
      rw [hW.vals 1 p1] at f1
      rw [hW.vals 4 p4] at f4
      rw [hW.vals 7 p7] at f7
      rw [hW.vals 10 p10] at f10
      rw [hW.vals 14 p14] at f14
      rw [hW.vals 18 p18] at f18
      simp only [valB] at f0 f1 f4 f7 f10 f14 f18
      exact .value _ w' (by simp [go_sem, execOp, f0, f1, f4, f7, f10, f14, f18]; rfl) ⟨bl, hW.pure hD' rfl rfl trivial (clB_add hW.cl hD' (fun h => absurd h (by decide)) (fun h => absurd h (by decide)) (fun h => by first | exact ⟨p4, p7, p10, p14, p18⟩ | exact absurd h (by decide)) (fun h => absurd h (by decide)) (fun h => absurd h (by decide)))⟩
    | 20, _ =>
      have p19 : D 19 = true := hpre ⟨19, .data⟩ (by simp) rfl
      have f19 := hev 28
      simp [p19] at f19
      rw [hW.vals 19 p19] at f19
      simp only [valB] at f19
      exact .value _ (w'.alloc (.cells #[.int .i64 (n : Int), .int .i64 x.r, .bool x.h, .slice A l.length c, .int .i64 0, .slice (some ⟨bl 4, 0, none⟩) n n, .slice (some ⟨bl 7, 0, none⟩) n n, .slice (some ⟨bl 10, 0, none⟩) n n, .slice (some ⟨bl 14, 0, none⟩) l.length l.length, .slice (some ⟨bl 18, 0, none⟩) l.length l.length, .int .i64 0] 62)) (by simp [go_sem, execOp, f19]; try rfl) ⟨up bl 20 w'.heap.size, hW.mem hD' (Nat.le_refl _) (by simp) ((Below.refl _ _).alloc (Nat.le_refl _) _) (fun j => factB_step ((Below.refl _ _).alloc (Nat.le_refl _) _) j) (fun j hj hd2 => stB hj (.inr ⟨rfl, fun h => by subst h; have := hW.cl.2.2.2.2 hd2; rw [show D 20 = false from hd] at this; cases this⟩)) (by simp only [valB, up_same]) (by simp only [factB]; rw [up_same, up_ne _ _ _ (by decide), up_ne _ _ _ (by decide), up_ne _ _ _ (by decide), up_ne _ _ _ (by decide), up_ne _ _ _ (by decide)]; obtain ⟨k4, k7, k10, k14, k18⟩ := hW.cl.2.2.1 p19; exact ⟨BK.made _ _ _, hW.lt 4 rfl k4, hW.lt 7 rfl k7, hW.lt 10 rfl k10, hW.lt 14 rfl k14, hW.lt 18 rfl k18⟩) (clB_add hW.cl hD' (fun h => absurd h (by decide)) (fun h => absurd h (by decide)) (fun h => absurd h (by decide)) (fun h => by first | exact p19 | exact absurd h (by decide)) (fun h => absurd h (by decide)))⟩
    | 21, _ =>
      have p20 : D 20 = true := hpre ⟨20, .data⟩ (by simp) rfl
      have f20 := hev 29
      simp [p20] at f20
      rw [hW.vals 20 p20] at f20
      simp only [valB] at f20
      exact .value _ w' (by simp [go_sem, execOp, f20]; rfl) ⟨bl, hW.pure hD' rfl rfl trivial (clB_add hW.cl hD' (fun h => absurd h (by decide)) (fun h => absurd h (by decide)) (fun h => absurd h (by decide)) (fun h => absurd h (by decide)) (fun h => by first | exact p20 | exact absurd h (by decide)))⟩
    | i + 22, h => exact absurd h (by omega)
  · intro D V w1 hall hW
    obtain ⟨bl, hW⟩ := hW
    have a4 := hall 4 (by decide)
    have a7 := hall 7 (by decide)
    have a10 := hall 10 (by decide)
    have a14 := hall 14 (by decide)
    have a18 := hall 18 (by decide)
    have a20 := hall 20 (by decide)
    have b4 := hW.facts 4 a4
    have b7 := hW.facts 7 a7
    have b10 := hW.facts 10 a10
    have b14 := hW.facts 14 a14
    have b18 := hW.facts 18 a18
    have b20 := hW.facts 20 a20
    simp only [factB] at b4 b7 b10 b14 b18 b20
    have v20 := hW.vals 20 a20
    have v21 := hW.vals 21 (hall 21 (by decide))
    simp only [valB] at v20 v21
    obtain ⟨p0, hp0⟩ : ∃ p0 : GL, p0 = { g := bl 20, kb := bl 4, bb := bl 7, sb := bl 10, rm := w1.heap.size, ib := bl 14, qb := bl 18, lo := w1.heap.size + 1, cs := fun _ => 0, vi := undef, vr := undef, A := A, c := c } := ⟨_, rfl⟩
    have m4 := hW.lo 4 rfl a4
    have m7 := hW.lo 7 rfl a7
    have m10 := hW.lo 10 rfl a10
    have m14 := hW.lo 14 rfl a14
    have m18 := hW.lo 18 rfl a18
    have hGP : Hid (GP0 w p0) := by
      have hz := HZA.out
      have hlt := hW.lt 20 rfl a20
      have e1 := hW.ne 4 7 rfl rfl (by decide) a4 a7
      have e2 := hW.ne 4 10 rfl rfl (by decide) a4 a10
      have e3 := hW.ne 4 14 rfl rfl (by decide) a4 a14
      have e4 := hW.ne 4 18 rfl rfl (by decide) a4 a18
      have e5 := hW.ne 7 10 rfl rfl (by decide) a7 a10
      have e6 := hW.ne 7 14 rfl rfl (by decide) a7 a14
      have e7 := hW.ne 7 18 rfl rfl (by decide) a7 a18
      have e8 := hW.ne 10 14 rfl rfl (by decide) a10 a14
      have e9 := hW.ne 10 18 rfl rfl (by decide) a10 a18
      have e0 := hW.ne 14 18 rfl rfl (by decide) a14 a18
      obtain ⟨_, c1, c2, c3, c4, c5⟩ := b20
      rw [hp0]
      have f : w.heap.size ≤ wa.heap.size := by omega
      exact ⟨Nat.le_trans f m4, Nat.le_trans f m7, Nat.le_trans f m10, Nat.le_trans f m14, Nat.le_trans f m18, c1, c2, c3, c4, c5, hlt, Nat.lt_succ_self _, e1, e2, e3, e4, e5, e6, e7, e8, e9, e0⟩
    have hBg := hW.bel
    have HBS : Hid (∀ w2, RC w2 w1.heap.size (n * rr) (List.replicate (n * rr) 0) → Below w1.heap.size w1 w2 → BegS w w2 x l p0 0 (fun _ => 0) 0) := by
      show ∀ _, _
      intro w2 hrm hb
      have hbw : Below w.heap.size w w2 := (HW0.out.trans (hBg.mono HW0.out.size)).trans (hb.mono (HW0.out.trans (hBg.mono HW0.out.size)).size)
      have k4 := b4.step hb
      have k7 := b7.step hb
      have k10 := b10.step hb
      have k14 := b14.step hb
      have k18 := b18.step hb
      have k20 := b20.1.step hb
      rw [← HNX.out] at k20
      rw [HNN.out, HRR.out] at hrm
      rw [HNN.out] at k4 k7 k10 k20
      have e4 : ((List.range x.n.toNat).map fun _ => Value.chan none).toArray = rowA x.n.toNat fun j => if j < 0 then Value.chan (some 0) else .chan none := rowA_congr (f := fun _ => Value.chan none) fun j _ => by rw [if_neg (by omega)]
      have e7 : ((List.range x.n.toNat).map fun _ => Value.slice none 0 0).toArray = rowA x.n.toNat fun j => if j < 0 then bufV p0.rm x.r.toNat j 0 else .slice none 0 0 := rowA_congr (f := fun _ => Value.slice none 0 0) fun j _ => by rw [if_neg (by omega)]
      rw [e4] at k4
      rw [e7] at k7
      rw [hp0] at k7 ⊢
      exact ⟨k20, k4, fun j hj => absurd hj (Nat.not_lt_zero _), fun i j hi => absurd hi (Nat.not_lt_zero _), fun j hj => absurd hj (Nat.not_lt_zero _), k7, hrm, k10, k14, k18, hbw, hrm.lt⟩
    have hrb := HRB.out w1 hW.bel
    rw [HNX.out, HRX.out] at hrb
    have q0 := hrb.cell 0
    have q1 := hrb.cell 1
    simp only [List.getElem?_toArray, List.getElem?_cons_zero, List.getElem?_cons_succ] at q0 q1
    have HRB1 := Lib.hid hrb
    have hrbl := hrb.1
    have hg0 : bl 20 = p0.g := by rw [hp0]
    have hrm0 : w1.heap.size = p0.rm := by rw [hp0]
    have hkb0 : p0.kb = bl 4 := by rw [hp0]
    have hrk : Hid (rb < p0.kb ∧ rb < p0.bb) := by
      show _ ∧ _
      have hz := HZA.out
      have hy := HRBE.out
      rw [hp0]
      exact ⟨by show rb < bl 4; omega, by show rb < bl 7; omega⟩
    have hAc : Hid (p0.A = A ∧ p0.c = c) := by show _ ∧ _; rw [hp0]; exact ⟨rfl, rfl⟩
    obtain ⟨i0, hi, hz0, hz1', hz2⟩ := info_parts int_info
    obtain ⟨m, hm⟩ : ∃ m, m = n * rr := ⟨_, rfl⟩
    have ewm : IntKind.i64.wrap ((n : Int) * (rr : Int)) = (m : Int) := by
      have e : ((n : Int) * (rr : Int)) = (m : Int) := by rw [hm, Int.natCast_mul]
      rw [e]; exact IntWalk.i64_in _ (by omega)
    have hm240 : m ≤ 240 := by omega
    rw [← hm] at HBS
    have HM := Lib.hid hm
    rw [v21, hg0]
    rw [hrm0] at HBS
    have HG0 := Lib.hid hg0
    have HRM0 := Lib.hid hrm0
    clear hW hBg b4 b7 b10 b14 b18 b20 v20 v21 m4 m7 m10 m14 m18 a4 a7 a10 a14 a18 a20 hall hrb hp0 hkb0 HRP HMC HMI HMR HRB HW0 HWA HZA HRBE hm hg0 hrm0
    simp only [putAll, Act.put, Nat.reduceAdd, List.setIfInBounds_toArray, List.set_cons_succ, List.set_cons_zero, Exit.then]
    refine ‹∀ (a : Act) (w : World), _ → _› _ _ ?_
    go_upto_region 3 with (at_make; refine wpList_make_full _ rfl _ _ 26 rfl w1.heap.size 3 i0 _ 1 Try.underlying26 hi hz0 hz1' _ _ _ _ m rfl rfl rfl rfl (by rw [hz2]; omega) (by unfold maxLen; omega) (Nat.le_refl _) ?_; intro w2 hown hg2)
    have hb2 : Below w1.heap.size w1 w2 := (Below.refl _ _).grown hg2 (Nat.le_refl _) (by intro k hk; cases hk)
    have hrc2 : RC w2 w1.heap.size m (List.replicate m 0) := RC.made hown
    rw [HRM0.out] at hrc2 ⊢
    have HS0 := Lib.hid (HBS.out w2 hrc2 (by rw [← HRM0.out]; exact hb2))
    have HRB2 := Lib.hid (HRB1.out.step hb2)
    have u0 := HRB2.out.cell 0
    simp only [List.getElem?_toArray, List.getElem?_cons_zero] at u0
    clear hown hg2 hb2 hrc2 HBS HRB1 q0 q1
    go_wp2_with fail
    go_loopw [38] (fun i wr => ∃ (s : Nat) (cs : Nat → Nat), s ≤ n ∧ i = .int .i64 s ∧ BegS w wr x l p0 s cs s ∧ BK wr rb 29 #[.int .i64 (n : Int), .int .i64 (rr : Int), .bool x.h]) (fun i _ => n - (intOf i).toNat)
    case atStart => exact ⟨0, _, Nat.zero_le _, rfl, HS0.out, HRB2.out⟩
    case round =>
      clear HS0 HRB2 u0
      obtain ⟨s, cs, hs, rfl, hB, hR⟩ := hrel
      by_cases hlt : s < n
      · have hsI : (s : Int) < (n : Int) := by omega
        have hsx : s < x.n.toNat := by have := HNN.out; omega
        obtain ⟨q, hq⟩ : ∃ q, q = s * rr := ⟨_, rfl⟩
        have hqm : q + rr ≤ m := by
          have h1 := Nat.mul_le_mul_right rr (show s + 1 ≤ n from hlt)
          rw [Nat.add_mul, Nat.one_mul] at h1
          have := HM.out
          omega
        have ew1 : IntKind.i64.wrap ((s : Int) * (rr : Int)) = (q : Int) := by
          have e : ((s : Int) * (rr : Int)) = (q : Int) := by rw [hq, Int.natCast_mul]
          rw [e]; exact IntWalk.i64_in _ (by omega)
        have ew2 : IntKind.i64.wrap ((q : Int) + (rr : Int)) = ((q + rr : Nat) : Int) := by rw [IntWalk.i64_in _ (by omega)]; omega
        have u0 := hR.cell 0
        have u1 := hR.cell 1
        simp only [List.getElem?_toArray, List.getElem?_cons_zero, List.getElem?_cons_succ] at u0 u1
        have g6 := hB.run.cell 6
        have d0 := hB.bufs.cell s
        rw [rowA_at _ _ _ hsx] at d0
        have d1 := hB.bufs.free s
        simp only [List.getElem?_toArray, List.getElem?_cons_zero, List.getElem?_cons_succ] at g6
        rw [← HNN.out] at g6
        rw [if_neg (Nat.lt_irrefl _)] at d0
        have h7a := hB.buf hGP.out hsx
        unfold bufV at h7a
        rw [← HRR.out, ← hq] at h7a
        have h7 := h7a.step (Below.refl _ _).drew
        have hR7 := (hR.far (wrCell p0.bb s (.slice (some ⟨p0.rm, q, none⟩) 0 rr)) (.inl hrk.out.2)).step (Below.refl _ _).drew
        obtain ⟨w7, hw7⟩ : ∃ w7, w7 = (wr.setCell ⟨p0.bb, s, none⟩ (.slice (some ⟨p0.rm, q, none⟩) 0 rr)).drew := ⟨_, rfl⟩
        rw [← hw7] at h7 hR7
        have HW7 := Lib.hid hw7
        have g5 := h7.run.cell 5
        have e0 := h7.links.cell s
        rw [rowA_at _ _ _ hsx] at e0
        have e1 := h7.links.free s
        simp only [List.getElem?_toArray, List.getElem?_cons_zero, List.getElem?_cons_succ] at g5
        rw [← HNN.out] at g5
        rw [if_neg (Nat.lt_irrefl _)] at e0
        have k5 := (h7.run.alloc (.chan 1 #[] false 0 0 false)).cell 5
        have e0b := (h7.links.alloc (.chan 1 #[] false 0 0 false)).cell s
        rw [rowA_at _ _ _ hsx] at e0b
        have e1b := (h7.links.alloc (.chan 1 #[] false 0 0 false)).free s
        simp only [List.getElem?_toArray, List.getElem?_cons_zero, List.getElem?_cons_succ] at k5
        rw [← HNN.out] at k5
        rw [if_neg (Nat.lt_irrefl _)] at e0b
        have HL8 := Lib.hid (fun (wA : World) (c : Nat) h1 h2 h3 => h7.link (w' := wA) (c := c) hGP.out hsx h1 h2 h3)
        have HR7 := Lib.hid hR7
        have hmc := mkChan1
        have hrr0 : ¬ rr = 0 := by omega
        have hqm2 : q + rr ≤ m ∧ q ≤ m := by omega
        have hsub : q + rr - q = rr := by omega
        clear hB hR h7 h7a hR7 hw7 hq
        go_wp2_with fail
        go_upto_region 7 with fail
        go_region
        rw [← HW7.out]
        clear g6 d0 d1
        have HN8 := Lib.hid ((HL8.out (w7.alloc (.chan 1 #[] false 0 0 false)) w7.heap.size ((Below.refl _ _).alloc (Nat.le_refl _) _) (Nat.le_refl _) (heap_alloc_new w7 _)).step (Below.refl _ _).drew)
        have HR8 := Lib.hid (((HR7.out.alloc (.chan 1 #[] false 0 0 false)).far (wrCell p0.kb s (.chan (some w7.heap.size))) (.inl hrk.out.1)).step (Below.refl _ _).drew)
        clear HL8 HW7
        go_wp2_with fail
        go_upto_region 8 with fail
        go_region
        go_wp2_with fail
        go_roundw
        case rel => exact ⟨s + 1, _, by omega, by go_num, HN8.out, HR8.out⟩
        case measure => simp [intOf]; omega
      · obtain rfl : s = n := by omega
        have hB' := hB
        have hn := HNN.out
        have hd : ∃ p' : GL, p'.g = p0.g ∧ p'.A = p0.A ∧ p'.c = p0.c ∧ GP w x.n.toNat p' ∧ GoS w wr x l p' 0 ((iwOf x l).vg 0) Ist.zero := by
          rw [hn] at hB'
          exact hB'.done hGP.out (by have := HRX.out; omega)
        obtain ⟨p', e1, e2, e3, hgp, hgo⟩ := hd
        have HE1 := Lib.hid e1
        have HE2 := Lib.hid e2
        have HE3 := Lib.hid e3
        have HGP := Lib.hid hgp
        have HGO := Lib.hid hgo
        clear hB hB' hR hn e1 e2 e3 hgp hgo
        go_wp2_with fail
        go_ret
        exact ⟨p', by rw [HE1.out]; rfl, HE2.out.trans hAc.out.1, HE3.out.trans hAc.out.2, HGP.out, HGO.out⟩
end Go.Proofs.Ytfphkgialmjfnaa
