/-
  The model's ring is made.
-/
import Derived.Test.YtfphkgialmjfnaaRowMk
import Derived.Test.YtfphkgialmjfnaaInS
import Derived.Maps.AppendAt
namespace Go.Proofs.Ytfphkgialmjfnaa
open Go.RowKit Go.Conc
set_option maxRecDepth 100000
set_option linter.unusedVariables false

/-- The values of the first region. -/
def valM (x : Ir) (n len : Nat) (A : Option Addr) (c rb : Nat) (bl : Nat → Nat) (i : Nat) : Value :=
  match i with
  | 0 => .agg #[.int .i64 (n : Int), .int .i64 x.r, .bool x.h]
  | 1 => .slice A len c
  | 2 => .pointer (some ⟨rb, 0, none⟩)
  | 3 => .int .i64 (n : Int)
  | 4 => .slice (some ⟨bl 4, 0, none⟩) n n
  | 5 => .pointer (some ⟨rb, 0, none⟩)
  | 6 => .int .i64 (n : Int)
  | 7 => .slice (some ⟨bl 7, 0, none⟩) n n
  | 8 => .pointer (some ⟨rb, 0, none⟩)
  | 9 => .int .i64 (n : Int)
  | 10 => .slice (some ⟨bl 10, 0, none⟩) n n
  | 11 => .agg #[.int .i64 (n : Int), .int .i64 x.r, .bool x.h, .slice A len c, .slice (some ⟨bl 4, 0, none⟩) n n, .slice (some ⟨bl 7, 0, none⟩) n n, .slice none 0 0, .slice none 0 0, .int .i64 0, .slice (some ⟨bl 10, 0, none⟩) n n]
  | 12 => .pointer (some ⟨bl 12, 0, none⟩)
  | 13 => .pointer (some ⟨bl 12, 0, none⟩)
  | _ => undef
def factM (x : Ir) (n len : Nat) (A : Option Addr) (c : Nat) (i : Nat) (bl : Nat → Nat) (w : World) : Prop :=
  match i with
  | 4 => BK w (bl 4) 26 ((List.range n).map fun _ => Value.slice none 0 0).toArray
  | 7 => RC w (bl 7) n (List.replicate n 0)
  | 10 => RC w (bl 10) n (List.replicate n 0)
  | 12 => BK w (bl 12) 55 #[.int .i64 (n : Int), .int .i64 x.r, .bool x.h, .slice A len c, .slice (some ⟨bl 4, 0, none⟩) n n, .slice (some ⟨bl 7, 0, none⟩) n n, .slice none 0 0, .slice none 0 0, .int .i64 0, .slice (some ⟨bl 10, 0, none⟩) n n]
  | _ => True
def msM (i : Nat) : Bool := [4, 7, 10, 12].contains i
def clM (D : Nat → Bool) : Prop := (D 11 = true → D 4 = true ∧ D 7 = true ∧ D 10 = true) ∧ (D 12 = true → D 11 = true) ∧ (D 13 = true → D 12 = true)
theorem factM_step {x : Ir} {n len : Nat} {A : Option Addr} {c : Nat} {bl : Nat → Nat} {w w' : World} (hb : Below w.heap.size w w') (j : Nat) (h : factM x n len A c j bl w) : factM x n len A c j bl w' := by
  unfold factM at h ⊢
  split at h
  · exact BK.step h hb
  · exact RC.step h hb
  · exact RC.step h hb
  · exact BK.step h hb
  · trivial
theorem stM {x : Ir} {n len : Nat} {A : Option Addr} {c rb : Nat} {bl : Nat → Nat} {w : World} {i b j : Nat} (hj : j ≠ i) (h : (j ≠ 11 ∧ j ≠ 12 ∧ j ≠ 13) ∨ (i = 12 ∧ j ≠ 13)) : valM x n len A c rb (up bl i b) j = valM x n len A c rb bl j ∧ (factM x n len A c j bl w → factM x n len A c j (up bl i b) w) := by
  have hu : ∀ k, k ≠ i → up bl i b k = bl k := fun k hk => up_ne _ _ _ hk
  constructor
  · unfold valM
    split <;> first | rfl | (rw [hu _ (by omega)]; done) | (rcases h with h | h <;> first | omega | (rw [hu 4 (by omega), hu 7 (by omega), hu 10 (by omega)])) | omega
  · intro hf
    unfold factM at hf ⊢
    split at hf
    · rw [hu 4 (by omega)]; exact hf
    · rw [hu 7 (by omega)]; exact hf
    · rw [hu 10 (by omega)]; exact hf
    · omega
    · trivial
theorem clM_add {D D' : Nat → Bool} {i : Nat} (h : clM D) (hD' : ∀ j, D' j = if j = i then true else D j) (h11 : i = 11 → D 4 = true ∧ D 7 = true ∧ D 10 = true) (h12 : i = 12 → D 11 = true) (h13 : i = 13 → D 12 = true) : clM D' := by
  have up : ∀ j, D j = true → D' j = true := fun j hj => by rw [hD']; split <;> first | rfl | exact hj
  have dn : ∀ j, D' j = true → j = i ∨ D j = true := fun j hj => by rw [hD'] at hj; split at hj; · exact .inl ‹_›
                                                                    · exact .inr hj
  obtain ⟨a3, a4, a5⟩ := h
  refine ⟨fun h => ?_, fun h => ?_, fun h => ?_⟩
  · rcases dn _ h with h | h
    · obtain ⟨b1, b2, b3⟩ := h11 h.symm
      exact ⟨up _ b1, up _ b2, up _ b3⟩
    · obtain ⟨b1, b2, b3⟩ := a3 h
      exact ⟨up _ b1, up _ b2, up _ b3⟩
  · rcases dn _ h with h | h
    · exact up _ (h12 h.symm)
    · exact up _ (a4 h)
  · rcases dn _ h with h | h
    · exact up _ (h13 h.symm)
    · exact up _ (a5 h)
theorem clM_no {D : Nat → Bool} (h : clM D) {i j : Nat} (hi : D i = false) (him : i = 4 ∨ i = 7 ∨ i = 10) (hj : D j = true) : j ≠ 11 ∧ j ≠ 12 ∧ j ≠ 13 := by
  obtain ⟨a3, a4, a5⟩ := h
  have h11 : D 11 = false := by
    cases e : D 11
    · rfl
    · obtain ⟨b1, b2, b3⟩ := a3 e
      rcases him with rfl | rfl | rfl
      · rw [hi] at b1; cases b1
      · rw [hi] at b2; cases b2
      · rw [hi] at b3; cases b3
  have h12 : D 12 = false := by
    cases e : D 12
    · rfl
    · have := a4 e; rw [h11] at this; cases this
  have h13 : D 13 = false := by
    cases e : D 13
    · rfl
    · have := a5 e; rw [h12] at this; cases this
  refine ⟨?_, ?_, ?_⟩
  · rintro rfl; rw [h11] at hj; cases hj
  · rintro rfl; rw [h12] at hj; cases hj
  · rintro rfl; rw [h13] at hj; cases hj
/-- The ring while its ticks are laid. -/
structure NewJ (w0 w : World) (L0 n : Nat) (x : Ir) (l : List Ms) (A : Option Addr) (c g bb lb db : Nat) (vf vr : Value) (a b : Nat) : Prop where
  run : BK w g 55 #[.int .i64 (n : Int), .int .i64 x.r, .bool x.h, .slice A l.length c, .slice (some ⟨bb, 0, none⟩) n n, .slice (some ⟨lb, 0, none⟩) n n, vf, vr, .int .i64 0, .slice (some ⟨db, 0, none⟩) n n]
  bufs : BK w bb 26 ((List.range n).map fun _ => Value.slice none 0 0).toArray
  links : RC w lb n (List.replicate n 0)
  idle : RC w db n (List.replicate n 0)
  fil : w.ownsRow L0 3 1 vf a (ics (List.replicate a (-1)))
  rd : w.ownsRow L0 3 1 vr b (ics (List.replicate b (-1)))
  ne : ∀ k, vf.ownBlock = some k → vr.ownBlock ≠ some k
  bel : Below w0.heap.size w0 w
  big : L0 ≤ w.heap.size
  gl : g < L0
  bl : bb < L0
  ll : lb < L0
  dl : db < L0
  g0 : w0.heap.size ≤ g
  gb : g ≠ bb
  gk : g ≠ lb
  gd : g ≠ db
theorem rep_snocI (v : Int) (n : Nat) : List.replicate n v ++ [v] = List.replicate (n + 1) v := by rw [List.replicate_succ']
theorem BK.grownI {w w' : World} {g : Nat} {t : TypeId} {cs : Array Value} {row : Option Nat} (h : BK w g t cs) (hg : w.grownBy w' row) (hne : some g ≠ row) : BK w' g t cs := ⟨Nat.lt_of_lt_of_le h.1 hg.size, (hg.block g h.1 hne).trans h.2⟩
theorem RC.grownI {w w' : World} {g c : Nat} {L : List Int} {row : Option Nat} (h : RC w g c L) (hg : w.grownBy w' row) (hne : some g ≠ row) : RC w' g c L := ownsRow_grownI h hg (fun b hb => by
  have e : some g = some b := hb
  injection e with e
  subst e
  exact hne)
section
variable {w0 w w' : World} {L0 n : Nat} {x : Ir} {l : List Ms} {A : Option Addr} {c g bb lb db : Nat} {vf vr v' : Value} {a b : Nat}
theorem NewJ.putF (h : NewJ w0 w L0 n x l A c g bb lb db vf vr a b) (hr : w'.ownsRow L0 3 1 v' (a + 1) (ics (List.replicate a (-1) ++ [-1]))) (hg : w.grownBy w' vf.ownBlock) (hv : v'.ownBlock = vf.ownBlock ∨ ∃ b, v'.ownBlock = some b ∧ w.heap.size ≤ b) :
    BK w' g 55 #[.int .i64 (n : Int), .int .i64 x.r, .bool x.h, .slice A l.length c, .slice (some ⟨bb, 0, none⟩) n n, .slice (some ⟨lb, 0, none⟩) n n, vf, vr, .int .i64 0, .slice (some ⟨db, 0, none⟩) n n] ∧ NewJ w0 (w'.setCell ⟨g, 6, none⟩ v') L0 n x l A c g bb lb db v' vr (a + 1) b := by
  have hne : ∀ k, k < L0 → some k ≠ vf.ownBlock := fun k hk e => by have := (own_inI h.fil e.symm).1; omega
  have h1 := h.run.grownI hg (hne _ h.gl)
  have hw := wrCellI (w := w') g 6 v'
  have hgl := h.gl
  have hbel : Below w0.heap.size w0 w' := h.bel.grown hg h.bel.size (fun b hb => by have := (own_inI h.fil hb).1; have := h.g0; omega)
  rw [rep_snocI] at hr
  refine ⟨h1, ⟨h1.put 6 v', (h.bufs.grownI hg (hne _ h.bl)).far hw (by have := h.gb; omega), (h.links.grownI hg (hne _ h.ll)).far hw (by have := h.gk; omega), (h.idle.grownI hg (hne _ h.dl)).far hw (by have := h.gd; omega), ownsRow_far hr hw (by omega), ownsRow_far (ownsRow_grownI h.rd hg (fun b hb e => h.ne b e.symm hb)) hw (by omega), fun k hk hk2 => ?_, hbel.trans (hw.below h.g0 hbel.size), Nat.le_trans (Nat.le_trans h.big hg.size) hw.size, h.gl, h.bl, h.ll, h.dl, h.g0, h.gb, h.gk, h.gd⟩⟩
  rcases hv with hv | ⟨b1, hv, hb1⟩
  · exact h.ne k (hv ▸ hk) hk2
  · have h3 := (own_inI h.rd hk2).2
    rw [hv] at hk
    injection hk with hk
    omega
theorem NewJ.putR (h : NewJ w0 w L0 n x l A c g bb lb db vf vr a b) (hr : w'.ownsRow L0 3 1 v' (b + 1) (ics (List.replicate b (-1) ++ [-1]))) (hg : w.grownBy w' vr.ownBlock) (hv : v'.ownBlock = vr.ownBlock ∨ ∃ b, v'.ownBlock = some b ∧ w.heap.size ≤ b) :
    BK w' g 55 #[.int .i64 (n : Int), .int .i64 x.r, .bool x.h, .slice A l.length c, .slice (some ⟨bb, 0, none⟩) n n, .slice (some ⟨lb, 0, none⟩) n n, vf, vr, .int .i64 0, .slice (some ⟨db, 0, none⟩) n n] ∧ NewJ w0 (w'.setCell ⟨g, 7, none⟩ v') L0 n x l A c g bb lb db vf v' a (b + 1) := by
  have hne : ∀ k, k < L0 → some k ≠ vr.ownBlock := fun k hk e => by have := (own_inI h.rd e.symm).1; omega
  have h1 := h.run.grownI hg (hne _ h.gl)
  have hw := wrCellI (w := w') g 7 v'
  have hgl := h.gl
  have hbel : Below w0.heap.size w0 w' := h.bel.grown hg h.bel.size (fun b hb => by have := (own_inI h.rd hb).1; have := h.g0; omega)
  rw [rep_snocI] at hr
  refine ⟨h1, ⟨h1.put 7 v', (h.bufs.grownI hg (hne _ h.bl)).far hw (by have := h.gb; omega), (h.links.grownI hg (hne _ h.ll)).far hw (by have := h.gk; omega), (h.idle.grownI hg (hne _ h.dl)).far hw (by have := h.gd; omega), ownsRow_far (ownsRow_grownI h.fil hg (fun b hb e => h.ne b hb e.symm)) hw (by omega), ownsRow_far hr hw (by omega), fun k hk hk2 => ?_, hbel.trans (hw.below h.g0 hbel.size), Nat.le_trans (Nat.le_trans h.big hg.size) hw.size, h.gl, h.bl, h.ll, h.dl, h.g0, h.gb, h.gk, h.gd⟩⟩
  rcases hv with hv | ⟨b1, hv, hb1⟩
  · exact h.ne k hk (hv ▸ hk2)
  · have h3 := (own_inI h.fil hk).2
    rw [hv] at hk2
    injection hk2 with hk2
    omega
theorem NewJ.done {a : Nat} (h : NewJ w0 w L0 n x l A c g bb lb db vf vr a a) (ha : a = l.length) (hn : n = x.n.toNat) (hnx : x.n = (n : Int)) (rb : Nat) (hrb : w0.heap.size ≤ rb) (hrg : rb < g ∧ rb < bb ∧ rb < lb ∧ rb < db) (hbk : bb ≠ lb) (hbd : bb ≠ db) (hkd : lb ≠ db) :
    ∃ p : IL, p.g = g ∧ p.A = A ∧ p.c = c ∧ IP w0 p ∧ InS w0 w x l p (fun _ => .slice none 0 0) Ist.zero := by
  have hf : ∃ ib, (vf = .slice none 0 0 ∧ l.length = 0 ∧ ib = rb) ∨ (vf.ownBlock = some ib ∧ L0 ≤ ib ∧ ib < w.heap.size ∧ ∃ C, vf = .slice (some ⟨ib, 0, none⟩) l.length C ∧ RC w ib C (List.replicate l.length (-1))) := by
    rcases h.fil.2 with ⟨hv, hr⟩ | ⟨k, C, cur, hv, h1, h2, rest⟩
    · exact ⟨rb, .inl ⟨hv, by omega, rfl⟩⟩
    · refine ⟨k, .inr ⟨by rw [hv]; rfl, h1, (Array.getElem?_eq_some_iff.1 h2).1, C, by rw [hv, ha], ?_⟩⟩
      have h3 := h.fil
      rw [hv] at h3
      exact RC.of (n := a) (by rw [ha] at h3 ⊢; exact h3) (by simp [ha])
  have hq : ∃ qb, (vr = .slice none 0 0 ∧ l.length = 0 ∧ qb = rb) ∨ (vr.ownBlock = some qb ∧ L0 ≤ qb ∧ qb < w.heap.size ∧ ∃ C, vr = .slice (some ⟨qb, 0, none⟩) l.length C ∧ RC w qb C (List.replicate l.length (-1))) := by
    rcases h.rd.2 with ⟨hv, hr⟩ | ⟨k, C, cur, hv, h1, h2, rest⟩
    · exact ⟨rb, .inl ⟨hv, by omega, rfl⟩⟩
    · refine ⟨k, .inr ⟨by rw [hv]; rfl, h1, (Array.getElem?_eq_some_iff.1 h2).1, C, by rw [hv, ha], ?_⟩⟩
      have h3 := h.rd
      rw [hv] at h3
      exact RC.of (n := a) (by rw [ha] at h3 ⊢; exact h3) (by simp [ha])
  obtain ⟨ib, hf⟩ := hf
  obtain ⟨qb, hq⟩ := hq
  have hbig := h.big
  have hg0 := h.g0
  have hgl := h.gl
  have hbl := h.bl
  have hll := h.ll
  have hdl := h.dl
  have hib : w0.heap.size ≤ ib ∧ ib < w.heap.size ∧ g ≠ ib ∧ bb ≠ ib ∧ lb ≠ ib ∧ ib ≠ db := by rcases hf with ⟨_, _, e⟩ | ⟨_, e1, e2, _⟩ <;> omega
  have hqb : w0.heap.size ≤ qb ∧ qb < w.heap.size ∧ g ≠ qb ∧ bb ≠ qb ∧ lb ≠ qb ∧ qb ≠ db := by rcases hq with ⟨_, _, e⟩ | ⟨_, e1, e2, _⟩ <;> omega
  have hiq : (vf = .slice none 0 0 ∧ vr = .slice none 0 0) ∨ ib ≠ qb := by
    rcases hf with ⟨e1, e2, e3⟩ | ⟨e1, e2, e3, _⟩
    · rcases hq with ⟨d1, d2, d3⟩ | ⟨d1, d2, d3, _⟩
      · exact .inl ⟨e1, d1⟩
      · exact .inr (by omega)
    · rcases hq with ⟨d1, d2, d3⟩ | ⟨d1, d2, d3, _⟩
      · exact .inr (by omega)
      · exact .inr (fun e => h.ne ib e1 (by rw [d1, e]))
  have ef : ∀ F : Nat → Int, F = (fun _ => -1) → GW w vf ib (tabl F l.length) := by
    rintro F rfl
    rw [tabl_const]
    rcases hf with ⟨e1, e2, _⟩ | ⟨_, _, _, C, e1, e2⟩
    · exact .inl ⟨by rw [e2]; rfl, e1⟩
    · exact .inr ⟨C, by rw [List.length_replicate]; exact e1, e2⟩
  have eq : ∀ F : Nat → Int, F = (fun _ => -1) → GW w vr qb (tabl F l.length) := by
    rintro F rfl
    rw [tabl_const]
    rcases hq with ⟨e1, e2, _⟩ | ⟨_, _, _, C, e1, e2⟩
    · exact .inl ⟨by rw [e2]; rfl, e1⟩
    · exact .inr ⟨C, by rw [List.length_replicate]; exact e1, e2⟩
  have hrun := h.run
  rw [← hnx] at hrun
  refine ⟨{ g := g, bb := bb, lb := lb, ib := ib, qb := qb, db := db, lo := w.heap.size, vi := vf, vr := vr, A := A, c := c }, rfl, rfl, rfl, ⟨h.g0, by show w0.heap.size ≤ bb; omega, by show w0.heap.size ≤ lb; omega, hib.1, hqb.1, by show w0.heap.size ≤ db; omega, by show g < w.heap.size; omega, by show bb < w.heap.size; omega, by show lb < w.heap.size; omega, hib.2.1, hqb.2.1, by show db < w.heap.size; omega, h.gb, h.gk, hib.2.2.1, hqb.2.2.1, h.gd, hbk, hib.2.2.2.1, hqb.2.2.2.1, hbd, hib.2.2.2.2.1, hqb.2.2.2.2.1, hkd, hiq, hib.2.2.2.2.2, hqb.2.2.2.2.2⟩, ?_⟩
  have hl := h.links
  have hd := h.idle
  have hb := h.bufs
  rw [hn] at hrun hl hd hb
  refine ⟨hrun, hb, fun s hs => ⟨by simp [Ist.zero, ics, nJ], .inl ⟨rfl, rfl⟩⟩, fun s s' _ _ _ b hb => (by cases hb), ?_, ef _ rfl, eq _ rfl, ?_, h.bel, Nat.le_refl _⟩
  · have e : tabl (fun s => ((Ist.zero.L s : Nat) : Int)) x.n.toNat = List.replicate x.n.toNat 0 := tabl_const 0 _
    rw [e]; exact hl
  · have e : tabl (fun s => ((Ist.zero.D s : Nat) : Int)) x.n.toNat = List.replicate x.n.toNat 0 := tabl_const 0 _
    rw [e]; exact hd
end
theorem wpList_pushAtI {P : Program} {w : World} {ops : Array Oper} {rest : List Oper} {o : Oper} {a : Act} {Q : Exit → Act → World → Prop} (hgd : o.guard = none) (s x : Operand) (t : TypeId)
    (ho : o.op = .call { callee := .builtin .append, args := #[s, x], argTypes := #[t, t] }) (E : TypeId) (i : TypeInfo) (ht : P.underlying t = some (.slice E)) (hi : P.info? E = some i)
    (hz0 : i.zero = some (.int .i64 0)) (hz1 : i.size = 1) (hz2 : i.bytes = 8) (W : World) (lo : Nat) (v : Value) (n : Nat) (l : List Int) (y : Int)
    (hw : w = W.alloc (.cells #[.int .i64 y] E)) (hs : a.eval s = v) (hacc : W.ownsRow lo E 1 v n (ics l)) (hx : a.eval x = .slice (some ⟨W.heap.size, 0, none⟩) 1 1) (hn : n < 1000000000) (hlo : lo ≤ W.heap.size)
    (h : ∀ v' w', w'.ownsRow lo E 1 v' (n + 1) (ics (l ++ [y])) → W.grownBy w' v.ownBlock → (v'.ownBlock = v.ownBlock ∨ ∃ b, v'.ownBlock = some b ∧ W.heap.size ≤ b) → wpList P ops Q rest (a.put o.dst v') w') : wpList P ops Q (o :: rest) a w := by
  subst hw
  have hown : (W.alloc (.cells #[.int .i64 y] E)).ownsRow lo E 1 v n (ics l) := World.ownsRow.alloc hacc _
  have hcl : lo ≤ (W.alloc (.cells #[.int .i64 y] E)).heap.size := by simp; omega
  refine wpList_append_own_at _ hgd s x t ho lo E i (.int .i64 0) 1 8 ht hi hz0 hz1 hz2 rfl (by decide) v n (ics l) hs hown ⟨W.heap.size, 0, none⟩ 1 1 [.int .i64 y] hx rfl ?_ ?_ (by unfold maxLen; omega) (by omega) hcl ?_
  · intro j u hj
    match j, hj with
    | 0, hj =>
      simp at hj
      subst hj
      rw [addr_add]
      simp
  · intro u hu
    simp at hu
    subst hu
    rfl
  · intro v' w' h1 h2 _ h4
    refine h v' w' ?_ ((World.grownBy_alloc W _ _).trans h2) ?_
    · have e : ics (l ++ [y]) = ics l ++ [.int .i64 y] := by simp [ics]
      rw [e]
      exact h1
    · rcases h4 with h4 | h4
      · exact .inl h4
      · exact .inr ⟨_, h4, by simp⟩
set_option maxHeartbeats 8000000 in
theorem inNew_any (x : Ir) (l : List Ms) (A : Option Addr) (c : Nat) (w : World) (hin : isIr x = true) (hl20 : l.length ≤ 20) :
    Calls Try.prog 54 #[IrV x, .slice A l.length c] w fun e w' => ∃ (p : IL) (vs : Nat → Value), e = .returned (.pointer (some ⟨p.g, 0, none⟩)) ∧ p.A = A ∧ p.c = c ∧ IP w p ∧ InS w w' x l p vs Ist.zero := by
  have hii := isIr_in hin
  have hnn := toNat_in6 hii.1
  obtain ⟨n, hN⟩ : ∃ n, n = x.n.toNat := ⟨_, rfl⟩
  have hnx : x.n = (n : Int) := by omega
  have hn12 : n ≤ 12 ∧ 2 ≤ n := by rw [hN]; exact hnn
  have hl2 : (l.length : Int) ≤ 20 := by omega
  have HMI := Lib.hid (fun w => mkInts n (by omega) w)
  have HMR := Lib.hid (fun w => mkRows n (by omega) w)
  have hW0 : Below w.heap.size w (w.alloc (.cells #[.int .i64 x.n, .int .i64 x.r, .bool x.h] 29)) := (Below.refl _ _).alloc (Nat.le_refl _) _
  have hB0 := BK.made w 29 #[.int .i64 x.n, .int .i64 x.r, .bool x.h]
  obtain ⟨wa, hwa⟩ : ∃ wa, wa = w.alloc (.cells #[.int .i64 x.n, .int .i64 x.r, .bool x.h] 29) := ⟨_, rfl⟩
  have hza : wa.heap.size = w.heap.size + 1 := by rw [hwa]; simp
  rw [← hwa] at hW0 hB0
  obtain ⟨rb, hrb⟩ : ∃ rb, rb = w.heap.size := ⟨_, rfl⟩
  rw [← hrb] at hB0
  have HRB : Hid (∀ w', Below wa.heap.size wa w' → BK w' rb 29 #[.int .i64 x.n, .int .i64 x.r, .bool x.h]) := by
    show ∀ _, _
    intro w' hb
    exact hB0.far (Wr.of_below hb wa.heap.size wa.heap.size) (.inl (by omega))
  have HNX := Lib.hid hnx
  have HNN := Lib.hid hN
  have HWA := Lib.hid hwa
  have HRBE := Lib.hid hrb
  have HZA := Lib.hid hza
  have HW0 := Lib.hid hW0
  obtain ⟨i0, hi, hz0, hz1', hz2⟩ := info_parts int_info
  unfold IrV
  clear hnx hN hwa hrb hza hW0 hii hnn hB0 hin
  go_enter Try.func54, Try.ntmps54
  go_upto_region 1 with fail
  rw [← HWA.out, ← HRBE.out]
  refine wp_region_rowE (by kernel_rfl) (by kernel_rfl) 6 13 (some 5) (by kernel_rfl) (by decide) (by simp) (fun d hd => by injection hd; omega) (fun D V w' => ∃ bl, BW wa msM clM (valM x n l.length A c rb) (factM x n l.length A c) D V bl w') ?_ ?_ ?_
  · exact fun V => ⟨fun _ => 0, BW.start (Below.refl _ _).drew ⟨fun h => (nomatch h), fun h => (nomatch h), fun h => (nomatch h)⟩ _ _⟩
  · intro D D' V ev w' i hi' hd hpre hD' hev hec hef hW
    obtain ⟨bl, hW⟩ := hW
    have e1 := hev 1
    have e2 := hev 2
    simp at e1 e2
    have hi11 : i < 14 := hi'
    match i, hi11 with
    | 0, _ =>
      obtain ⟨r0, r1, r2⟩ : w'.cell? ⟨rb, 0, none⟩ = some (.int .i64 (n : Int)) ∧ w'.cell? ⟨rb, 1, none⟩ = some (.int .i64 x.r) ∧ w'.cell? ⟨rb, 2, none⟩ = some (.bool x.h) := by
        have h := HRB.out w' hW.bel
        have a0 := h.cell 0
        have a1 := h.cell 1
        have a2 := h.cell 2
        rw [HNX.out] at a0
        exact ⟨by simpa using a0, by simpa using a1, by simpa using a2⟩
      exact .value _ w' (by simp [go_sem, execOp, e2, r0, r1, r2]; rfl) ⟨bl, hW.pure hD' rfl rfl trivial (clM_add hW.cl hD' (fun h => absurd h (by decide)) (fun h => absurd h (by decide)) (fun h => absurd h (by decide)))⟩
    | 1, _ =>
      exact .value _ w' (by simp [go_sem, execOp, e1]; rfl) ⟨bl, hW.pure hD' rfl rfl trivial (clM_add hW.cl hD' (fun h => absurd h (by decide)) (fun h => absurd h (by decide)) (fun h => absurd h (by decide)))⟩
    | 2, _ =>
      exact .value _ w' (by simp [go_sem, execOp, e2]; rfl) ⟨bl, hW.pure hD' rfl rfl trivial (clM_add hW.cl hD' (fun h => absurd h (by decide)) (fun h => absurd h (by decide)) (fun h => absurd h (by decide)))⟩
    | 3, _ =>
      have p2 : D 2 = true := hpre ⟨2, .data⟩ (by simp) rfl
      have f2 := hev 8
      simp [p2] at f2
      rw [hW.vals 2 p2] at f2
      simp only [valM] at f2
      obtain ⟨r0, r1, r2⟩ : w'.cell? ⟨rb, 0, none⟩ = some (.int .i64 (n : Int)) ∧ w'.cell? ⟨rb, 1, none⟩ = some (.int .i64 x.r) ∧ w'.cell? ⟨rb, 2, none⟩ = some (.bool x.h) := by
        have h := HRB.out w' hW.bel
        have a0 := h.cell 0
        have a1 := h.cell 1
        have a2 := h.cell 2
        rw [HNX.out] at a0
        exact ⟨by simpa using a0, by simpa using a1, by simpa using a2⟩
      exact .value _ w' (by simp [go_sem, execOp, f2, r0]; rfl) ⟨bl, hW.pure hD' rfl rfl trivial (clM_add hW.cl hD' (fun h => absurd h (by decide)) (fun h => absurd h (by decide)) (fun h => absurd h (by decide)))⟩
    | 4, _ =>
      have p3 : D 3 = true := hpre ⟨3, .data⟩ (by simp) rfl
      have f3 := hev 9
      simp [p3] at f3
      rw [hW.vals 3 p3] at f3
      simp only [valM] at f3
      exact .value _ (w'.alloc (.cells (madeCells #[.slice none 0 0] n) 26)) (by simp [go_sem, execOp, f3, HMR.out]; try rfl) ⟨up bl 4 w'.heap.size, hW.mem hD' (Nat.le_refl _) (by simp) ((Below.refl _ _).alloc (Nat.le_refl _) _) (fun j => factM_step ((Below.refl _ _).alloc (Nat.le_refl _) _) j) (fun j hj hd2 => stM hj (.inl (clM_no hW.cl hd (by decide) hd2))) (by simp only [valM, up_same]) (by simp only [factM, up_same]; exact madeBK _ _ _ _) (clM_add hW.cl hD' (fun h => absurd h (by decide)) (fun h => absurd h (by decide)) (fun h => absurd h (by decide)))⟩
    | 5, _ =>
      exact .value _ w' (by simp [go_sem, execOp, e2]; rfl) ⟨bl, hW.pure hD' rfl rfl trivial (clM_add hW.cl hD' (fun h => absurd h (by decide)) (fun h => absurd h (by decide)) (fun h => absurd h (by decide)))⟩
    | 6, _ =>
      have p5 : D 5 = true := hpre ⟨5, .data⟩ (by simp) rfl
      have f5 := hev 11
      simp [p5] at f5
      rw [hW.vals 5 p5] at f5
      simp only [valM] at f5
      obtain ⟨r0, r1, r2⟩ : w'.cell? ⟨rb, 0, none⟩ = some (.int .i64 (n : Int)) ∧ w'.cell? ⟨rb, 1, none⟩ = some (.int .i64 x.r) ∧ w'.cell? ⟨rb, 2, none⟩ = some (.bool x.h) := by
        have h := HRB.out w' hW.bel
        have a0 := h.cell 0
        have a1 := h.cell 1
        have a2 := h.cell 2
        rw [HNX.out] at a0
        exact ⟨by simpa using a0, by simpa using a1, by simpa using a2⟩
      exact .value _ w' (by simp [go_sem, execOp, f5, r0]; rfl) ⟨bl, hW.pure hD' rfl rfl trivial (clM_add hW.cl hD' (fun h => absurd h (by decide)) (fun h => absurd h (by decide)) (fun h => absurd h (by decide)))⟩
    | 7, _ =>
      have p6 : D 6 = true := hpre ⟨6, .data⟩ (by simp) rfl
      have f6 := hev 12
      simp [p6] at f6
      rw [hW.vals 6 p6] at f6
      simp only [valM] at f6
      exact .value _ (w'.alloc (.cells (madeCells #[.int .i64 0] n) 3)) (by simp [go_sem, execOp, f6, HMI.out]; try rfl) ⟨up bl 7 w'.heap.size, hW.mem hD' (Nat.le_refl _) (by simp) ((Below.refl _ _).alloc (Nat.le_refl _) _) (fun j => factM_step ((Below.refl _ _).alloc (Nat.le_refl _) _) j) (fun j hj hd2 => stM hj (.inl (clM_no hW.cl hd (by decide) hd2))) (by simp only [valM, up_same]) (by simp only [factM, up_same]; exact madeRC _ _ (by omega)) (clM_add hW.cl hD' (fun h => absurd h (by decide)) (fun h => absurd h (by decide)) (fun h => absurd h (by decide)))⟩
    | 8, _ =>
      exact .value _ w' (by simp [go_sem, execOp, e2]; rfl) ⟨bl, hW.pure hD' rfl rfl trivial (clM_add hW.cl hD' (fun h => absurd h (by decide)) (fun h => absurd h (by decide)) (fun h => absurd h (by decide)))⟩
    | 9, _ =>
      have p8 : D 8 = true := hpre ⟨8, .data⟩ (by simp) rfl
      have f8 := hev 14
      simp [p8] at f8
      rw [hW.vals 8 p8] at f8
      simp only [valM] at f8
      obtain ⟨r0, r1, r2⟩ : w'.cell? ⟨rb, 0, none⟩ = some (.int .i64 (n : Int)) ∧ w'.cell? ⟨rb, 1, none⟩ = some (.int .i64 x.r) ∧ w'.cell? ⟨rb, 2, none⟩ = some (.bool x.h) := by
        have h := HRB.out w' hW.bel
        have a0 := h.cell 0
        have a1 := h.cell 1
        have a2 := h.cell 2
        rw [HNX.out] at a0
        exact ⟨by simpa using a0, by simpa using a1, by simpa using a2⟩
      exact .value _ w' (by simp [go_sem, execOp, f8, r0]; rfl) ⟨bl, hW.pure hD' rfl rfl trivial (clM_add hW.cl hD' (fun h => absurd h (by decide)) (fun h => absurd h (by decide)) (fun h => absurd h (by decide)))⟩
    | 10, _ =>
      have p9 : D 9 = true := hpre ⟨9, .data⟩ (by simp) rfl
      have f9 := hev 15
      simp [p9] at f9
      rw [hW.vals 9 p9] at f9
      simp only [valM] at f9
      exact .value _ (w'.alloc (.cells (madeCells #[.int .i64 0] n) 3)) (by simp [go_sem, execOp, f9, HMI.out]; try rfl) ⟨up bl 10 w'.heap.size, hW.mem hD' (Nat.le_refl _) (by simp) ((Below.refl _ _).alloc (Nat.le_refl _) _) (fun j => factM_step ((Below.refl _ _).alloc (Nat.le_refl _) _) j) (fun j hj hd2 => stM hj (.inl (clM_no hW.cl hd (by decide) hd2))) (by simp only [valM, up_same]) (by simp only [factM, up_same]; exact madeRC _ _ (by omega)) (clM_add hW.cl hD' (fun h => absurd h (by decide)) (fun h => absurd h (by decide)) (fun h => absurd h (by decide)))⟩
    | 11, _ =>
      have p0 : D 0 = true := hpre ⟨0, .data⟩ (by simp) rfl
      have p1 : D 1 = true := hpre ⟨1, .data⟩ (by simp) rfl
      have p4 : D 4 = true := hpre ⟨4, .data⟩ (by simp) rfl
      have p7 : D 7 = true := hpre ⟨7, .data⟩ (by simp) rfl
      have p10 : D 10 = true := hpre ⟨10, .data⟩ (by simp) rfl
      have f0 := hev 6
      have f1 := hev 7
      have f4 := hev 10
      have f7 := hev 13
      have f10 := hev 16
      simp [p0, p1, p4, p7, p10] at f0 f1 f4 f7 f10
      rw [hW.vals 0 p0] at f0
      rw [hW.vals 1 p1] at f1
      rw [hW.vals 4 p4] at f4
      rw [hW.vals 7 p7] at f7
      rw [hW.vals 10 p10] at f10
      simp only [valM] at f0 f1 f4 f7 f10
      exact .value _ w' (by simp [go_sem, execOp, f0, f1, f4, f7, f10]; rfl) ⟨bl, hW.pure hD' rfl rfl trivial (clM_add hW.cl hD' (fun h => by first | exact ⟨p4, p7, p10⟩ | exact absurd h (by decide)) (fun h => absurd h (by decide)) (fun h => absurd h (by decide)))⟩
    | 12, _ =>
      have p11 : D 11 = true := hpre ⟨11, .data⟩ (by simp) rfl
      have f11 := hev 17
      simp [p11] at f11
      rw [hW.vals 11 p11] at f11
      simp only [valM] at f11
      exact .value _ (w'.alloc (.cells #[.int .i64 (n : Int), .int .i64 x.r, .bool x.h, .slice A l.length c, .slice (some ⟨bl 4, 0, none⟩) n n, .slice (some ⟨bl 7, 0, none⟩) n n, .slice none 0 0, .slice none 0 0, .int .i64 0, .slice (some ⟨bl 10, 0, none⟩) n n] 55)) (by simp [go_sem, execOp, f11]; try rfl) ⟨up bl 12 w'.heap.size, hW.mem hD' (Nat.le_refl _) (by simp) ((Below.refl _ _).alloc (Nat.le_refl _) _) (fun j => factM_step ((Below.refl _ _).alloc (Nat.le_refl _) _) j) (fun j hj hd2 => stM hj (.inr ⟨rfl, fun h => by subst h; have := hW.cl.2.2 hd2; rw [show D 12 = false from hd] at this; cases this⟩)) (by simp only [valM, up_same]) (by simp only [factM]; rw [up_same, up_ne _ _ _ (by decide), up_ne _ _ _ (by decide), up_ne _ _ _ (by decide)]; exact BK.made _ _ _) (clM_add hW.cl hD' (fun h => absurd h (by decide)) (fun h => by first | exact p11 | exact absurd h (by decide)) (fun h => absurd h (by decide)))⟩
    | 13, _ =>
      have p12 : D 12 = true := hpre ⟨12, .data⟩ (by simp) rfl
      have f12 := hev 18
      simp [p12] at f12
      rw [hW.vals 12 p12] at f12
      simp only [valM] at f12
      exact .value _ w' (by simp [go_sem, execOp, f12]; rfl) ⟨bl, hW.pure hD' rfl rfl trivial (clM_add hW.cl hD' (fun h => absurd h (by decide)) (fun h => absurd h (by decide)) (fun h => by first | exact p12 | exact absurd h (by decide)))⟩
    | i + 14, h => exact absurd h (by omega)
  · intro D V w1 hall hW
    obtain ⟨bl, hW⟩ := hW
    have a4 := hall 4 (by decide)
    have a7 := hall 7 (by decide)
    have a10 := hall 10 (by decide)
    have a12 := hall 12 (by decide)
    have b4 := hW.facts 4 a4
    have b7 := hW.facts 7 a7
    have b10 := hW.facts 10 a10
    have b12 := hW.facts 12 a12
    simp only [factM] at b4 b7 b10 b12
    have v13 := hW.vals 13 (hall 13 (by decide))
    simp only [valM] at v13
    have m4 := hW.lo 4 rfl a4
    have m7 := hW.lo 7 rfl a7
    have m10 := hW.lo 10 rfl a10
    have m12 := hW.lo 12 rfl a12
    have l4 := hW.lt 4 rfl a4
    have l7 := hW.lt 7 rfl a7
    have l10 := hW.lt 10 rfl a10
    have l12 := hW.lt 12 rfl a12
    have e1 := hW.ne 12 4 rfl rfl (by decide) a12 a4
    have e2 := hW.ne 12 7 rfl rfl (by decide) a12 a7
    have e3 := hW.ne 12 10 rfl rfl (by decide) a12 a10
    have e4 := hW.ne 4 7 rfl rfl (by decide) a4 a7
    have e5 := hW.ne 4 10 rfl rfl (by decide) a4 a10
    have e6 := hW.ne 7 10 rfl rfl (by decide) a7 a10
    have hz := HZA.out
    have hy := HRBE.out
    have hWw : Below w.heap.size w w1 := HW0.out.trans (hW.bel.mono HW0.out.size)
    have HN0 : Hid (NewJ w w1 w1.heap.size n x l A c (bl 12) (bl 4) (bl 7) (bl 10) (.slice none 0 0) (.slice none 0 0) 0 0) :=
      ⟨b12, b4, b7, b10, ⟨by simp [ics], .inl ⟨rfl, rfl⟩⟩, ⟨by simp [ics], .inl ⟨rfl, rfl⟩⟩, fun k hk => (nomatch hk), hWw, Nat.le_refl _, l12, l4, l7, l10, by omega, e1, e2, e3⟩
    have HPL : Hid ((w.heap.size ≤ rb) ∧ (rb < bl 12 ∧ rb < bl 4 ∧ rb < bl 7 ∧ rb < bl 10) ∧ bl 4 ≠ bl 7 ∧ bl 4 ≠ bl 10 ∧ bl 7 ≠ bl 10) := ⟨by omega, ⟨by omega, by omega, by omega, by omega⟩, e4, e5, e6⟩
    rw [v13]
    generalize bl 12 = g at *
    generalize bl 4 = bb at *
    generalize bl 7 = lb at *
    generalize bl 10 = db at *
    obtain ⟨L0, hL0⟩ : ∃ L0, L0 = w1.heap.size := ⟨_, rfl⟩
    rw [← hL0] at HN0
    clear hW b4 b7 b10 b12 v13 m4 m7 m10 m12 l4 l7 l10 l12 e1 e2 e3 e4 e5 e6 hz hy hWw a4 a7 a10 a12 hall HMI HMR HRB HW0 HWA HZA HRBE hL0
    simp only [putAll, Act.put, Nat.reduceAdd, List.setIfInBounds_toArray, List.set_cons_succ, List.set_cons_zero, Exit.then]
    refine ‹∀ (a : Act) (w : World), _ → _› _ _ ?_
    go_wp2_with fail
    go_loopw [21] (fun i wr => ∃ (j : Nat) (vf vr : Value), j ≤ l.length ∧ i = .int .i64 j ∧ NewJ w wr L0 n x l A c g bb lb db vf vr j j) (fun i _ => l.length - (intOf i).toNat)
    case atStart => exact ⟨0, _, _, Nat.zero_le _, rfl, HN0.out⟩
    case round =>
      clear HN0
      obtain ⟨j, vf, vr, hj, rfl, hI⟩ := hrel
      have HI := Lib.hid hI
      clear hI
      by_cases hlt : j < l.length
      · have hji : (j : Int) < (l.length : Int) := by omega
        have c6 := HI.out.run.cell 6
        simp only [List.getElem?_toArray, List.getElem?_cons_zero, List.getElem?_cons_succ] at c6
        go_upto_region 5 with (at_builtin; refine wpList_pushAtI rfl _ _ _ rfl 3 i0 Try.underlying26 hi hz0 hz1' hz2 wr L0 _ _ _ (-1) rfl rfl HI.out.fil rfl (by omega) HI.out.big ?_; intro v2 w2 hr2 hg2 hb2; obtain ⟨a2, c2, hv2⟩ := own_sliceI hr2; subst hv2; obtain ⟨h5, h6⟩ := HI.out.putF hr2 hg2 hb2; have HI2 := Lib.hid h6; have x6 := h5.cell 6; have y6 := h5.free 6; simp only [List.getElem?_toArray, List.getElem?_cons_zero, List.getElem?_cons_succ] at x6; clear h5 h6 hr2 hg2 hb2)
        clear c6 x6 y6
        generalize World.setCell _ _ _ = w4 at *
        have c7 := HI2.out.run.cell 7
        simp only [List.getElem?_toArray, List.getElem?_cons_zero, List.getElem?_cons_succ] at c7
        go_wp2_with (at_builtin; refine wpList_pushAtI rfl _ _ _ rfl 3 i0 Try.underlying26 hi hz0 hz1' hz2 w4 L0 _ _ _ (-1) rfl rfl HI2.out.rd rfl (by omega) HI2.out.big ?_; intro v3 w5 hr3 hg3 hb3; obtain ⟨a3, c3, hv3⟩ := own_sliceI hr3; subst hv3; obtain ⟨h5, h6⟩ := HI2.out.putR hr3 hg3 hb3; have HI3 := Lib.hid h6; have x7 := h5.cell 7; have y7 := h5.free 7; simp only [List.getElem?_toArray, List.getElem?_cons_zero, List.getElem?_cons_succ] at x7; clear h5 h6 hr3 hg3 hb3)
        go_roundw
        case rel => exact ⟨j + 1, _, _, by omega, by go_num, HI3.out⟩
        case measure => simp [intOf]; omega
      · have hjl : j = l.length := by omega
        obtain ⟨p1, p2, p3, p4, p5⟩ := HPL.out
        obtain ⟨p, q1, q2, q3, q4, q5⟩ := HI.out.done hjl HNN.out HNX.out rb p1 p2 p3 p4 p5
        have Q1 := Lib.hid q1
        have Q2 := Lib.hid q2
        have Q3 := Lib.hid q3
        have Q4 := Lib.hid q4
        have Q5 := Lib.hid q5
        have hnl : ¬ (j : Int) < (l.length : Int) := by omega
        clear q1 q2 q3 q4 q5 p1 p2 p3 p4 p5 hjl HI
        go_wp2_with fail
        go_ret
        exact ⟨p, by rw [Q1.out]; rfl, Q2.out, Q3.out, Q4.out, _, Q5.out⟩
end Go.Proofs.Ytfphkgialmjfnaa
