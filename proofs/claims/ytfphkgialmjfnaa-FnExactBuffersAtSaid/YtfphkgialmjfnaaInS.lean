/-
  What the model's ring has in memory: a struct behind a pointer, buffers that grow, each in a block of its own.
-/
import Derived.Test.YtfphkgialmjfnaaTabl
import Derived.Test.YtfphkgialmjfnaaInA
import Derived.Test.YtfphkgialmjfnaaFirst0
namespace Go.Proofs.Ytfphkgialmjfnaa
open Go.RowKit Go.Conc
set_option maxRecDepth 100000
set_option linter.unusedVariables false

/-- The blocks' places. -/
structure IL where
  g : Nat
  bb : Nat
  lb : Nat
  ib : Nat
  qb : Nat
  db : Nat
  lo : Nat
  vi : Value
  vr : Value
  A : Option Addr
  c : Nat
structure IP (w0 : World) (p : IL) : Prop where
  g0 : w0.heap.size ≤ p.g
  b0 : w0.heap.size ≤ p.bb
  l0 : w0.heap.size ≤ p.lb
  i0 : w0.heap.size ≤ p.ib
  q0 : w0.heap.size ≤ p.qb
  d0 : w0.heap.size ≤ p.db
  gl : p.g < p.lo
  bl : p.bb < p.lo
  ll : p.lb < p.lo
  il : p.ib < p.lo
  ql : p.qb < p.lo
  dl : p.db < p.lo
  gb : p.g ≠ p.bb
  gk : p.g ≠ p.lb
  gi : p.g ≠ p.ib
  gq : p.g ≠ p.qb
  gd : p.g ≠ p.db
  bk : p.bb ≠ p.lb
  bi : p.bb ≠ p.ib
  bq : p.bb ≠ p.qb
  bd : p.bb ≠ p.db
  ki : p.lb ≠ p.ib
  kq : p.lb ≠ p.qb
  kd : p.lb ≠ p.db
  iq : (p.vi = .slice none 0 0 ∧ p.vr = .slice none 0 0) ∨ p.ib ≠ p.qb
  id : p.ib ≠ p.db
  qd : p.qb ≠ p.db
structure InS (w0 w : World) (x : Ir) (l : List Ms) (p : IL) (vs : Nat → Value) (a : Ist) : Prop where
  run : BK w p.g 55 #[.int .i64 x.n, .int .i64 x.r, .bool x.h, .slice p.A l.length p.c, .slice (some ⟨p.bb, 0, none⟩) x.n.toNat x.n.toNat, .slice (some ⟨p.lb, 0, none⟩) x.n.toNat x.n.toNat, p.vi, p.vr, .int .i64 (a.P : Int), .slice (some ⟨p.db, 0, none⟩) x.n.toNat x.n.toNat]
  bufs : BK w p.bb 26 (rowI x.n.toNat vs)
  rows : ∀ s, s < x.n.toNat → w.ownsRow p.lo 3 1 (vs s) (a.B s).length (ics (nJ (a.B s)))
  dist : ∀ s s', s < x.n.toNat → s' < x.n.toNat → s ≠ s' → ∀ b, (vs s).ownBlock = some b → (vs s').ownBlock ≠ some b
  links : RC w p.lb x.n.toNat (tabl (fun s => (a.L s : Int)) x.n.toNat)
  ins : GW w p.vi p.ib (tabl a.I l.length)
  read : GW w p.vr p.qb (tabl a.R l.length)
  idle : RC w p.db x.n.toNat (tabl (fun s => (a.D s : Int)) x.n.toNat)
  bel : Below w0.heap.size w0 w
  big : p.lo ≤ w.heap.size
section
variable {w0 w w' : World} {x : Ir} {l : List Ms} {p : IL} {vs : Nat → Value} {a : Ist}
theorem ownsRow_far {w w' : World} {lo n a b : Nat} {E : TypeId} {v : Value} {xs : List Value} (h : w.ownsRow lo E 1 v n xs) (hg : Wr a b w w') (hb : b ≤ lo) : w'.ownsRow lo E 1 v n xs := by
  rcases h.2 with ⟨hv, hr⟩ | ⟨g, c, cur, hv, h1, h2, rest⟩
  · exact ⟨h.1, .inl ⟨hv, hr⟩⟩
  · refine ⟨h.1, .inr ⟨g, c, cur, hv, h1, ?_, rest⟩⟩
    rw [hg.block g (Array.getElem?_eq_some_iff.1 h2).1 (.inr (by omega))]
    exact h2
theorem ownsRow_step {w w' : World} {lo n : Nat} {E : TypeId} {v : Value} {xs : List Value} (h : w.ownsRow lo E 1 v n xs) (hb : Below w.heap.size w w') : w'.ownsRow lo E 1 v n xs := by
  rcases h.2 with ⟨hv, hr⟩ | ⟨g, c, cur, hv, h1, h2, rest⟩
  · exact ⟨h.1, .inl ⟨hv, hr⟩⟩
  · refine ⟨h.1, .inr ⟨g, c, cur, hv, h1, ?_, rest⟩⟩
    rw [hb.block g (Array.getElem?_eq_some_iff.1 h2).1]
    exact h2
theorem ownsRow_grownI {w w' : World} {lo n : Nat} {E : TypeId} {v : Value} {xs : List Value} {row : Option Nat} (h : w.ownsRow lo E 1 v n xs) (hg : w.grownBy w' row) (hne : ∀ b, v.ownBlock = some b → some b ≠ row) : w'.ownsRow lo E 1 v n xs := by
  rcases h.2 with ⟨hv, hr⟩ | ⟨g, c, cur, hv, h1, h2, rest⟩
  · exact ⟨h.1, .inl ⟨hv, hr⟩⟩
  · refine ⟨h.1, .inr ⟨g, c, cur, hv, h1, ?_, rest⟩⟩
    rw [hg.block g (Array.getElem?_eq_some_iff.1 h2).1 (hne g (by rw [hv]; rfl))]
    exact h2
theorem own_inI {w : World} {lo n b : Nat} {E : TypeId} {v : Value} {xs : List Value} (h : w.ownsRow lo E 1 v n xs) (hb : v.ownBlock = some b) : lo ≤ b ∧ b < w.heap.size := by
  rcases h.2 with ⟨hv, hr⟩ | ⟨g, c, cur, hv, h1, h2, rest⟩
  · subst hv; cases hb
  · subst hv
    have e : g = b := by injection hb
    subst e
    exact ⟨h1, (Array.getElem?_eq_some_iff.1 h2).1⟩
theorem own_sliceI {w : World} {lo n : Nat} {E : TypeId} {v : Value} {xs : List Value} (h : w.ownsRow lo E 1 v n xs) : ∃ a c, v = .slice a n c := by
  rcases h.2 with ⟨hv, hr⟩ | ⟨g, c, cur, hv, rest⟩
  · subst hr; exact ⟨_, _, hv⟩
  · exact ⟨_, _, hv⟩
theorem InS.step (h : InS w0 w x l p vs a) (hb : Below w.heap.size w w') : InS w0 w' x l p vs a :=
  ⟨h.run.step hb, h.bufs.step hb, fun s hs => ownsRow_step (h.rows s hs) hb, h.dist, h.links.step hb, h.ins.step hb, h.read.step hb, h.idle.step hb, h.bel.trans (hb.mono h.bel.size), Nat.le_trans h.big hb.size⟩
theorem InS.low {wa : World} (hW : Below w0.heap.size w0 wa) (h : InS wa w x l p vs a) : InS w0 w x l p vs a := ⟨h.run, h.bufs, h.rows, h.dist, h.links, h.ins, h.read, h.idle, hW.trans (h.bel.mono hW.size), h.big⟩
theorem IP.low {w wa : World} {p : IL} (hs : w.heap.size ≤ wa.heap.size) (h : IP wa p) : IP w p :=
  ⟨Nat.le_trans hs h.g0, Nat.le_trans hs h.b0, Nat.le_trans hs h.l0, Nat.le_trans hs h.i0, Nat.le_trans hs h.q0, Nat.le_trans hs h.d0, h.gl, h.bl, h.ll, h.il, h.ql, h.dl, h.gb, h.gk, h.gi, h.gq, h.gd, h.bk, h.bi, h.bq, h.bd, h.ki, h.kq, h.kd, h.iq, h.id, h.qd⟩
theorem wrCellI {w : World} (b i : Nat) (u : Value) : Wr b (b + 1) w (w.setCell ⟨b, i, none⟩ u) := (Wr.refl _ _ _).setCell (p := ⟨b, i, none⟩) (Nat.le_refl _) (Nat.lt_succ_self _) _
theorem InS.setR (h : InS w0 w x l p vs a) (hp : IP w0 p) {i : Nat} (hi : i < l.length) (y : Int) : InS w0 (w.setCell ⟨p.qb, i, none⟩ (.int .i64 y)) x l p vs { a with R := up a.R i y } := by
  have hw := wrCellI (w := w) p.qb i (.int .i64 y)
  have h1 := hp.ql
  have hiq : p.ib ≠ p.qb := by
    rcases hp.iq with h2 | h2
    · obtain ⟨c, h3, _⟩ := h.read.at_ i (by rw [tabl_len]; exact hi)
      rw [h2.2] at h3
      cases h3
    · exact h2
  exact ⟨h.run.far hw (by have := hp.gq; omega), h.bufs.far hw (by have := hp.bq; omega), fun s hs => ownsRow_far (h.rows s hs) hw h1, h.dist, h.links.far hw (by have := hp.kq; omega), h.ins.far hw (by omega), h.read.set hi y, h.idle.far hw (by have := hp.qd; omega), h.bel.trans (hw.below hp.q0 h.bel.size), Nat.le_trans h.big hw.size⟩
theorem InS.setI (h : InS w0 w x l p vs a) (hp : IP w0 p) {i : Nat} (hi : i < l.length) (y : Int) : InS w0 (w.setCell ⟨p.ib, i, none⟩ (.int .i64 y)) x l p vs { a with I := up a.I i y } := by
  have hw := wrCellI (w := w) p.ib i (.int .i64 y)
  have h1 := hp.il
  have hiq : p.ib ≠ p.qb := by
    rcases hp.iq with h2 | h2
    · obtain ⟨c, h3, _⟩ := h.ins.at_ i (by rw [tabl_len]; exact hi)
      rw [h2.1] at h3
      cases h3
    · exact h2
  exact ⟨h.run.far hw (by have := hp.gi; omega), h.bufs.far hw (by have := hp.bi; omega), fun s hs => ownsRow_far (h.rows s hs) hw h1, h.dist, h.links.far hw (by have := hp.ki; omega), h.ins.set hi y, h.read.far hw (by omega), h.idle.far hw (by have := hp.id; omega), h.bel.trans (hw.below hp.i0 h.bel.size), Nat.le_trans h.big hw.size⟩
theorem InS.setL (h : InS w0 w x l p vs a) (hp : IP w0 p) (s : Nat) (y : Nat) : InS w0 (w.setCell ⟨p.lb, s, none⟩ (.int .i64 (y : Int))) x l p vs { a with L := up a.L s y } := by
  have hw := wrCellI (w := w) p.lb s (.int .i64 (y : Int))
  have h1 := hp.ll
  have h4 := h.links.set s (y : Int)
  rw [tabl_setN] at h4
  exact ⟨h.run.far hw (by have := hp.gk; omega), h.bufs.far hw (by have := hp.bk; omega), fun s hs => ownsRow_far (h.rows s hs) hw h1, h.dist, h4, h.ins.far hw (by have := hp.ki; omega), h.read.far hw (by have := hp.kq; omega), h.idle.far hw (by have := hp.kd; omega), h.bel.trans (hw.below hp.l0 h.bel.size), Nat.le_trans h.big hw.size⟩
theorem InS.setD (h : InS w0 w x l p vs a) (hp : IP w0 p) (s : Nat) (y : Nat) : InS w0 (w.setCell ⟨p.db, s, none⟩ (.int .i64 (y : Int))) x l p vs { a with D := up a.D s y } := by
  have hw := wrCellI (w := w) p.db s (.int .i64 (y : Int))
  have h1 := hp.dl
  have h4 := h.idle.set s (y : Int)
  rw [tabl_setN] at h4
  exact ⟨h.run.far hw (by have := hp.gd; omega), h.bufs.far hw (by have := hp.bd; omega), fun s hs => ownsRow_far (h.rows s hs) hw h1, h.dist, h.links.far hw (by have := hp.kd; omega), h.ins.far hw (by have := hp.id; omega), h.read.far hw (by have := hp.qd; omega), h4, h.bel.trans (hw.below hp.d0 h.bel.size), Nat.le_trans h.big hw.size⟩
theorem InS.setP (h : InS w0 w x l p vs a) (hp : IP w0 p) (y : Nat) : InS w0 (w.setCell ⟨p.g, 8, none⟩ (.int .i64 (y : Int))) x l p vs { a with P := y } := by
  have hw := wrCellI (w := w) p.g 8 (.int .i64 (y : Int))
  have h1 := hp.gl
  have h4 := h.run.put 8 (.int .i64 (y : Int))
  exact ⟨by simpa using h4, h.bufs.far hw (by have := hp.gb; omega), fun s hs => ownsRow_far (h.rows s hs) hw h1, h.dist, h.links.far hw (by have := hp.gk; omega), h.ins.far hw (by have := hp.gi; omega), h.read.far hw (by have := hp.gq; omega), h.idle.far hw (by have := hp.gd; omega), h.bel.trans (hw.below hp.g0 h.bel.size), Nat.le_trans h.big hw.size⟩
/-- A buffer is put in the place of another: what was made for it lies in its own row, or in a new block. -/
theorem InS.row (h : InS w0 w x l p vs a) (hp : IP w0 p) {s : Nat} (hs : s < x.n.toNat) {v' : Value} {b' : List Nat} (hg : w.grownBy w' (vs s).ownBlock) (hr : w'.ownsRow p.lo 3 1 v' b'.length (ics (nJ b'))) (hv : ∀ b, v'.ownBlock = some b → (vs s).ownBlock = some b ∨ w.heap.size ≤ b) :
    (BK w' p.g 55 #[.int .i64 x.n, .int .i64 x.r, .bool x.h, .slice p.A l.length p.c, .slice (some ⟨p.bb, 0, none⟩) x.n.toNat x.n.toNat, .slice (some ⟨p.lb, 0, none⟩) x.n.toNat x.n.toNat, p.vi, p.vr, .int .i64 (a.P : Int), .slice (some ⟨p.db, 0, none⟩) x.n.toNat x.n.toNat]
      ∧ BK w' p.bb 26 (rowI x.n.toNat vs) ∧ RC w' p.lb x.n.toNat (tabl (fun s => (a.L s : Int)) x.n.toNat)) ∧ InS w0 (w'.setCell ⟨p.bb, s, none⟩ v') x l p (up vs s v') { a with B := up a.B s b' } := by
  have hne : ∀ k, k < p.lo → some k ≠ (vs s).ownBlock := fun k hk e => by have := (own_inI (h.rows s hs) e.symm).1; omega
  have kb : ∀ {k : Nat} {t : TypeId} {cs : Array Value}, BK w k t cs → k < p.lo → BK w' k t cs := fun hb hk => ⟨Nat.lt_of_lt_of_le hb.1 hg.size, (hg.block _ hb.1 (hne _ hk)).trans hb.2⟩
  have kr : ∀ {k c : Nat} {L : List Int}, RC w k c L → k < p.lo → RC w' k c L := fun hb hk => ownsRow_grownI hb hg (fun b hb' => by
    have e : some _ = some b := hb'
    injection e with e
    subst e
    exact hne _ hk)
  have hw := wrCellI (w := w') p.bb s v'
  have h1 := hp.bl
  have hbel : Below w0.heap.size w0 w' := h.bel.grown hg h.bel.size (fun b hb => by have := (own_inI (h.rows s hs) hb).1; have := hp.g0; have := hp.gl; omega)
  have h4 := (kb h.bufs h1).put s v'
  rw [rowI_put] at h4
  refine ⟨⟨kb h.run hp.gl, kb h.bufs h1, kr h.links hp.ll⟩, ⟨(kb h.run hp.gl).far hw (by have := hp.gb; omega), h4, fun s' hs' => ?_, fun s1 s2 hs1 hs2 hne12 b hb1 hb2 => ?_, (kr h.links hp.ll).far hw (by have := hp.bk; omega), (h.ins.keep fun c hc => kr hc hp.il).far hw (by have := hp.bi; omega), (h.read.keep fun c hc => kr hc hp.ql).far hw (by have := hp.bq; omega), (kr h.idle hp.dl).far hw (by have := hp.bd; omega), hbel.trans (hw.below hp.b0 hbel.size), Nat.le_trans (Nat.le_trans h.big hg.size) hw.size⟩⟩
  · by_cases e : s' = s
    · subst e
      simp only [up_same]
      exact ownsRow_far hr hw h1
    · simp only [up_ne _ _ _ e]
      exact ownsRow_far (ownsRow_grownI (h.rows s' hs') hg (fun b hb hb' => h.dist s' s hs' hs e b hb hb'.symm)) hw h1
  · have old : ∀ s', s' < x.n.toNat → s' ≠ s → ∀ b, (vs s').ownBlock = some b → v'.ownBlock ≠ some b := by
      intro s' hs' hne' b hb hb'
      rcases hv b hb' with hv | hb0
      · exact h.dist s' s hs' hs hne' b hb hv
      · have := (own_inI (h.rows s' hs') hb).2
        omega
    by_cases e1 : s1 = s
    · subst e1
      have e2 : s2 ≠ s1 := fun e => hne12 e.symm
      rw [up_same] at hb1
      rw [up_ne _ _ _ e2] at hb2
      exact old s2 hs2 e2 b hb2 hb1
    · rw [up_ne _ _ _ e1] at hb1
      by_cases e2 : s2 = s
      · subst e2
        rw [up_same] at hb2
        exact old s1 hs1 e1 b hb1 hb2
      · rw [up_ne _ _ _ e2] at hb2
        exact h.dist s1 s2 hs1 hs2 hne12 b hb1 hb2
end
end Go.Proofs.Ytfphkgialmjfnaa
