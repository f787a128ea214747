/-
  The program's station sends.
-/
import Derived.Test.YthgnflcdpmedlaaSend
import Derived.Test.YthgnflcdpmedlaaShelf
import Derived.Test.YthgnflcdpmedlaaWrapScope
namespace Go.Proofs.Ythgnflcdpmedlaa
open Go.RowKit Go.Conc Go.Sort
set_option maxRecDepth 100000
set_option linter.unusedVariables false

/-- A buffer's first cell is taken off, its header not yet. -/
def Half (w0 : World) (x : Ir) (l : List Ms) (p : GL) (t : Nat) (v : Nat → Bool) (a : Ist) (s : Nat) (r : List Nat) (w : World) : Prop := ∃ wp, GoS w0 wp x l p t v a ∧ Wr p.rm (p.rm + 1) wp w ∧ Mem w p.rm x.n.toNat x.r.toNat (up a.B s r)
theorem Half.step {w0 w w' : World} {x : Ir} {l : List Ms} {p : GL} {t : Nat} {v : Nat → Bool} {a : Ist} {s : Nat} {r : List Nat} (h : Half w0 x l p t v a s r w) (hb : Below w.heap.size w w') : Half w0 x l p t v a s r w' := by
  obtain ⟨wp, h1, h2, h3⟩ := h
  exact ⟨wp, h1, h2.trans (Wr.of_below hb _ _), h3.step hb⟩
theorem Half.cell6 {w0 w : World} {x : Ir} {l : List Ms} {p : GL} {t : Nat} {v : Nat → Bool} {a : Ist} {s : Nat} {r : List Nat} (h : Half w0 x l p t v a s r w) (hp : GP w0 x.n.toNat p) : w.cell? ⟨p.g, 6, none⟩ = some (.slice (some ⟨p.bb, 0, none⟩) x.n.toNat x.n.toNat) := by
  obtain ⟨wp, h1, h2, h3⟩ := h
  have := (h1.run.far h2 (by have := hp.gr; omega)).cell 6
  simpa using this
theorem putRow_facts {w : World} {q blk off : Nat} {d d' : Array Int} (hH : Holds (Value.int .i64) w blk off d) (hs : d'.size = d.size) :
    (∀ j, j < d.size → (putRow (Value.int .i64) (Sort.ahead w q) blk off d').cell? ⟨blk, off + j, none⟩ = some (.int .i64 d'[j]!)) ∧ (∀ k, (k < off ∨ off + d.size ≤ k) → (putRow (Value.int .i64) (Sort.ahead w q) blk off d').cell? ⟨blk, k, none⟩ = w.cell? ⟨blk, k, none⟩)
      ∧ (∀ k, (putRow (Value.int .i64) (Sort.ahead w q) blk off d').frozen? ⟨blk, k, none⟩ = w.frozen? ⟨blk, k, none⟩) ∧ Wr blk (blk + 1) w (putRow (Value.int .i64) (Sort.ahead w q) blk off d') ∧ (putRow (Value.int .i64) (Sort.ahead w q) blk off d').heap.size = w.heap.size := by
  have h2 : Holds (Value.int .i64) (Sort.ahead w q) blk off d := hH
  refine ⟨fun j hj => cell?_putRow (Value.int .i64) (Sort.ahead w q) blk off d d' h2 hs j (by omega), fun k hk => ?_, fun k => ?_, ⟨rfl, rfl, rfl, ?_, fun k hk hn => ?_⟩, ?_⟩
  · exact cell?_putRow_other (Value.int .i64) (Sort.ahead w q) blk off d' ⟨blk, k, none⟩ (.inr (by rw [hs]; exact hk))
  · rw [frozen?_putRow]; rfl
  · rw [size_putRow]; exact Nat.le_refl _
  · show (mapBlock (Sort.ahead w q) blk _).heap[k]? = w.heap[k]?
    unfold mapBlock
    simp only [Array.getElem?_modify]
    rw [if_neg (by omega)]
    rfl
  · rw [size_putRow]; rfl
theorem delete_any (x : Ir) (l : List Ms) (w0 : World) (p : GL) (t : Nat) (v : Nat → Bool) (a : Ist) (s c : Nat) (r : List Nat) (w : World) (hp : GP w0 x.n.toNat p) (hS : GoS w0 w x l p t v a) (hs : s < x.n.toNat) (hm : ∀ i, i < x.n.toNat → (a.B i).length ≤ x.r.toNat) (hr20 : x.r.toNat ≤ 20) (hB : a.B s = c :: r) :
    Calls Try.prog 71 #[bufV p.rm x.r.toNat s (a.B s).length, .int .i64 0, .int .i64 1] w fun e w' => e = .returned (bufV p.rm x.r.toNat s r.length) ∧ Half w0 x l p t v a s r w' := by
  have hlen : (a.B s).length = r.length + 1 := by rw [hB]; rfl
  have hH := hS.mem.holds hm hs
  have hroom := hm s hs
  have h := Try.slices_Delete_int p.rm (s * x.r.toNat) x.r.toNat 0 1 (nI (a.B s)) w hH (by simpa using hroom) (by omega) (by omega) (by simp; omega)
  have e1 : (nI (a.B s)).length = (a.B s).length := nI_length _
  rw [e1] at h
  refine h.mono ?_
  rintro e w' ⟨rfl, q, rfl⟩
  have e2 : (nI (a.B s)).take 0 ++ (nI (a.B s)).drop 1 ++ List.replicate (1 - 0) 0 = nI r ++ [0] := by rw [hB]; rfl
  have e3 : (a.B s).length - (1 - 0) = r.length := by omega
  rw [e2, e3]
  obtain ⟨f1, f2, f3, f4, f5⟩ := putRow_facts (q := q) (d' := (nI r ++ [0]).toArray) hH (by simp [hlen])
  have hsz : (nI (a.B s)).toArray.size = r.length + 1 := by simp [hlen]
  rw [hsz] at f1 f2
  exact ⟨rfl, w, hS, f4, hS.mem.drop hm hs hB (by rw [f5]; exact hS.mem.lt) f1 f2 f3⟩
set_option maxHeartbeats 4000000 in
theorem send_pass (x : Ir) (l : List Ms) (w0 : World) (p : GL) (t : Nat) (v : Nat → Bool) (a : Ist) (s c : Nat) (r : List Nat) (w : World) (hk : Kept x l w0 p) (hS : GoS w0 w x l p t v a) (hs : s < x.n.toNat) (hv : v s = false) (hm : ∀ i, i < x.n.toNat → (a.B i).length ≤ x.r.toNat) (hB : a.B s = c :: r) (hc : c < l.length) (Q : Exit → Act → World → Prop)
    (u2 u3 u5 u6 u7 u8 u9 u10 u11 u12 u13 u14 u15 u16 u17 u18 u19 u20 u21 u22 u23 u24 u25 u26 u27 u28 u29 u30 u31 u32 u33 u34 u35 u36 u37 u38 u39 u40 u41 u42 u43 u44 u45 u46 u47 u48 u49 u50 u51 u52 u53 u54 u55 u56 u57 u58 u59 u60 u61 u62 u63 u64 u65 u66 u67 u68 u69 u70 u71 u72 u73 u74 u75 u76 u77 u78 u79 u80 u81 u82 : Value) (rest : Code) (hrest : (match Try.f65.body with | some (.scope c) => findLabel c 1 | _ => none) = some rest)
    (hQ : ∀ a'' w'', a''.defers = [] → GoS w0 w'' x l p t (up v s true) { a with B := up a.B s r, L := up a.L s (c + 1) } → Q .normal a'' w'') :
    rest.wp Try.prog Q { tmps := #[.pointer (some ⟨p.g, 0, none⟩), .int .i64 s, u2, u3, bufV p.rm x.r.toNat s (a.B s).length, u5, u6, u7, u8, u9, u10, u11, u12, u13, u14, u15, u16, u17, u18, u19, u20, u21, u22, u23, u24, u25, u26, u27, u28, u29, u30, u31, u32, u33, u34, u35, u36, u37, u38, u39, u40, u41, u42, u43, u44, u45, u46, u47, u48, u49, u50, u51, u52, u53, u54, u55, u56, u57, u58, u59, u60, u61, u62, u63, u64, u65, u66, u67, u68, u69, u70, u71, u72, u73, u74, u75, u76, u77, u78, u79, u80, u81, u82], defers := [] } w := by
  have hk0 := hk
  obtain ⟨hp, hok, hr⟩ := hk
  have hin := isIr_in (inOk_in hok).1
  have hr20 : x.r.toNat ≤ 20 := by omega
  have HDE := Lib.hid (fun w h => delete_any x l w0 p t v a s c r w hp h hs hm hr20 hB)
  have hlen : (a.B s).length = r.length + 1 := by rw [hB]; rfl
  have hfin : ∀ w', Half w0 x l p t v a s r w' → BK w' p.bb 30 (rowA x.n.toNat fun s => bufV p.rm x.r.toNat s (a.B s).length) ∧ GoS w0 (w'.setCell ⟨p.bb, s, none⟩ (bufV p.rm x.r.toNat s r.length)) x l p t v { a with B := up a.B s r } := by
    rintro w' ⟨wp, h1, h2, h3⟩
    exact h1.setB hp h2 h3
  have HFIN := Lib.hid hfin
  have HC6 : Hid (∀ w', GoS w0 w' x l p t v a → w'.cell? ⟨p.g, 6, none⟩ = some (.slice (some ⟨p.bb, 0, none⟩) x.n.toNat x.n.toNat)) := by
    show ∀ _, _
    intro w' h
    have := h.run.cell 6
    simpa using this
  have HC7 : Hid (∀ w', Half w0 x l p t v a s r w' → w'.cell? ⟨p.g, 6, none⟩ = some (.slice (some ⟨p.bb, 0, none⟩) x.n.toNat x.n.toNat)) := by
    show ∀ _, _
    intro w' h
    exact h.cell6 hp
  have HC8 : Hid (∀ w', GoS w0 w' x l p t v { a with B := up a.B s r } → w'.cell? ⟨p.g, 6, none⟩ = some (.slice (some ⟨p.bb, 0, none⟩) x.n.toNat x.n.toNat)) := by
    show ∀ _, _
    intro w' h
    have := h.run.cell 6
    simpa using this
  have m0 := hS.mem.cell s hs 0 (by omega)
  rw [hB] at m0
  simp only [List.getD_cons_zero, Nat.add_zero, ctI] at m0
  have HROW : Hid (∀ w', BK w' p.bb 30 (rowA x.n.toNat fun s => bufV p.rm x.r.toNat s (a.B s).length) → w'.cell? ⟨p.bb, s, none⟩ = some (bufV p.rm x.r.toNat s (a.B s).length) ∧ w'.frozen? ⟨p.bb, s, none⟩ = false) := by
    show ∀ _, _
    intro w' h
    have h1 := h.cell s
    rw [rowA_at _ _ _ hs] at h1
    exact ⟨h1, h.free s⟩
  have HFIN2 : Hid (∀ w', Half w0 x l p t v a s r w' → (∃ u, w'.cell? ⟨p.bb, s, none⟩ = some u) ∧ w'.frozen? ⟨p.bb, s, none⟩ = false ∧ GoS w0 (w'.setCell ⟨p.bb, s, none⟩ (bufV p.rm x.r.toNat s r.length)) x l p t v { a with B := up a.B s r }) := by
    show ∀ _, _
    intro w' h
    have h1 := HFIN.out w' h
    have h2 := HROW.out w' h1.1
    exact ⟨⟨_, h2.1⟩, h2.2, h1.2⟩
  have HTAIL := Lib.hid (fun w' h => send_tail x l w0 p t v { a with B := up a.B s r } s c w' hk0 h hs hv hc Q)
  obtain ⟨n, hN⟩ : ∃ n, n = x.n.toNat := ⟨_, rfl⟩
  obtain ⟨g, hg⟩ : ∃ g, g = p.g := ⟨_, rfl⟩
  obtain ⟨bb, hbb⟩ : ∃ bb, bb = p.bb := ⟨_, rfl⟩
  have hsn : s < n := by rw [hN]; exact hs
  have HS := Lib.hid hS
  obtain ⟨len, hln⟩ : ∃ len, len = (a.B s).length := ⟨_, rfl⟩
  obtain ⟨off, hoff⟩ : ∃ off, off = s * x.r.toNat := ⟨_, rfl⟩
  obtain ⟨rmb, hrmb⟩ : ∃ rmb, rmb = p.rm := ⟨_, rfl⟩
  obtain ⟨room, hroom⟩ : ∃ room, room = x.r.toNat := ⟨_, rfl⟩
  have hl0 : 0 < len := by omega
  have hl0I : (0 : Int) < (len : Int) := by omega
  have hlr : len = r.length + 1 := by omega
  dsimp only
  unfold bufV at HDE HFIN2 ⊢
  rw [← hg] at HC6 HC7 HC8 HTAIL ⊢
  rw [← hrmb, ← hoff, ← hln, ← hroom] at HDE ⊢
  rw [← hoff, ← hrmb] at m0
  rw [← hN, ← hbb] at HC6 HC7 HC8
  rw [← hbb, ← hrmb, ← hoff, ← hroom] at HFIN2
  clear hk0 hp hok hr hin hr20 hlen hfin HFIN HROW hN hg hbb hln hoff hrmb hroom hS hm hB
  obtain rfl := Option.some.inj hrest
  clear hrest
  go_upto_region 7 with fail
  refine wp_region_row (by kernel_rfl) (by kernel_rfl) 53 8 (by kernel_rfl) (by decide) (by simp) (fun i => [.pointer (some ⟨g, 0, none⟩), .pointer (some ⟨g, 0, none⟩), .pointer (some ⟨g, 6, none⟩), .slice (some ⟨bb, 0, none⟩) n n, .int .i64 (s : Int), .slice (some ⟨rmb, off, none⟩) len room, .slice (some ⟨rmb, off, none⟩) r.length room, .pointer (some ⟨bb, s, none⟩)].getD i undef)
    (fun D w' => (D 8 = true → D 6 = true) ∧ (if D 8 = true then GoS w0 w' x l p t v { a with B := up a.B s r } else if D 6 = true then Half w0 x l p t v a s r w' else GoS w0 w' x l p t v a)) ?_ ?_ ?_
  · exact ⟨fun h => by simp at h, by rw [if_neg (by simp), if_neg (by simp)]; exact HS.out.drew⟩
  · intro D D' ev w' i hi' hd hpre hD' hev hec hef hW
    have e0 := hev 0
    have e1 := hev 1
    have e4 := hev 4
    simp at e0 e1 e4
    have hi11 : i < 9 := hi'
    match i, hi11 with
    | 0, _ =>
      exact .value w' (by simp [go_sem, execOp, e0]) (by simpa [hD'] using hW)
    | 1, _ =>
      have p0 : D 0 = true := hpre ⟨0, .data⟩ (by simp) rfl
      have f0 := hev 53
      simp [p0] at f0
      exact .value w' (by simp [go_sem, execOp, f0]) (by simpa [hD'] using hW)
    | 2, _ =>
      have p1 : D 1 = true := hpre ⟨1, .data⟩ (by simp) rfl
      have f1 := hev 54
      simp [p1] at f1
      exact .value w' (by simp [go_sem, execOp, f1]) (by simpa [hD'] using hW)
    | 3, _ =>
      have p2 : D 2 = true := hpre ⟨2, .data⟩ (by simp) rfl
      have f2 := hev 55
      simp [p2] at f2
      have c6 : w'.cell? ⟨g, 6, none⟩ = some (.slice (some ⟨bb, 0, none⟩) n n) := by
        have h2 := hW.2
        by_cases h8 : D 8 = true
        · rw [if_pos h8] at h2; exact HC8.out w' h2
        · rw [if_neg h8] at h2
          by_cases h6 : D 6 = true
          · rw [if_pos h6] at h2; exact HC7.out w' h2
          · rw [if_neg h6] at h2; exact HC6.out w' h2
      exact .value w' (by simp [go_sem, execOp, f2, c6]) (by simpa [hD'] using hW)
    | 4, _ =>
      exact .value w' (by simp [go_sem, execOp, e1]) (by simpa [hD'] using hW)
    | 5, _ =>
      exact .value w' (by simp [go_sem, execOp, e4]) (by simpa [hD'] using hW)
    | 6, _ =>
      have p5 : D 5 = true := hpre ⟨5, .data⟩ (by simp) rfl
      have f5 := hev 58
      simp [p5] at f5
      have hd6 : D 6 = false := hd
      have hn8 : ¬ D 8 = true := fun h => by have := hW.1 h; rw [hd6] at this; cases this
      have hpr := hW.2
      rw [if_neg hn8, if_neg (by rw [hd6]; simp)] at hpr
      refine .call 71 #[.slice (some ⟨rmb, off, none⟩) len room, .int .i64 0, .int .i64 1] w' ((run_call_any (f := 71) (ρ := ev) (args := #[.tmp 58, .const (.int .i64 0), .const (.int .i64 1)]) (ats := #[30, 3, 3]) rfl (hef _) Try.func71 (by kernel_rfl) rfl).trans (by simp [f5, hec])) ((HDE.out w' hpr).mono ?_)
      rintro e w'' ⟨rfl, hh⟩
      exact ⟨rfl, fun h => by simp [hD'], by rw [if_neg (by simpa [hD'] using hn8), if_pos (by simp [hD'])]; exact hh⟩
    | 7, _ =>
      have p3 : D 3 = true := hpre ⟨3, .data⟩ (by simp) rfl
      have p4 : D 4 = true := hpre ⟨4, .data⟩ (by simp) rfl
      have f3 := hev 56
      have f4 := hev 57
      simp [p3, p4] at f3 f4
      exact .value w' (by simp [go_sem, execOp, f3, f4, hsn]) (by simpa [hD'] using hW)
    | 8, _ =>
      have p6 : D 6 = true := hpre ⟨6, .data⟩ (by simp) rfl
      have p7 : D 7 = true := hpre ⟨7, .data⟩ (by simp) rfl
      have f6 := hev 59
      have f7 := hev 60
      simp [p6, p7] at f6 f7
      have hd8 : ¬ D 8 = true := by have : D 8 = false := hd; rw [this]; simp
      have hpr := hW.2
      rw [if_neg hd8, if_pos p6] at hpr
      obtain ⟨⟨uu, hu⟩, hfz, hg⟩ := HFIN2.out w' hpr
      refine .skip (w'.setCell ⟨bb, s, none⟩ (.slice (some ⟨rmb, off, none⟩) r.length room)) rfl (by simp [go_sem, execOp, f6, f7, hu, hfz]) ⟨fun _ => by simpa [hD'] using p6, ?_⟩
      rw [if_pos (by simp [hD'])]
      exact hg
  · intro D w' hall hW
    have hW := hW.2
    rw [if_pos (hall 8 (by decide))] at hW
    have HW8 := Lib.hid hW
    clear hW
    simp only [putAll, Act.put, List.getD_cons_zero, List.getD_cons_succ, Nat.reduceAdd, List.setIfInBounds_toArray, List.set_cons_succ, List.set_cons_zero, Exit.then]
    refine ‹∀ (a : Act) (w : World), _ → _› _ _ ?_
    go_wp2_with fail
    go_step3
    simp only [Exit.then]
    refine ‹∀ (a : Act) (w : World), _ → _› _ _ ?_
    exact HTAIL.out _ HW8.out _ _ _ _ _ _ _ _ _ _ _ _ _ _ _ _ _ _ _ _ _ _ _ _ _ _ _ _ _ _ _ _ _ _ _ _ _ _ _ _ _ _ _ _ _ _ _ _ _ _ _ _ _ _ _ _ _ _ _ _ _ _ _ _ _ _ _ _ _ _ _ _ _ _ _ _ _ _ _ _ _ rfl hQ
end Go.Proofs.Ythgnflcdpmedlaa
