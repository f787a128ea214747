/-
  The model's ring makes one tick.
-/
import Derived.Test.YtfphkgialmjfnaaTakeA
import Derived.Test.YtfphkgialmjfnaaChanJ
import Derived.Maps.AppendAt
namespace Go.Proofs.Ytfphkgialmjfnaa
open Go.RowKit Go.Conc
set_option maxRecDepth 100000
set_option linter.unusedVariables false

theorem inMost_any (a b : Int) (w : World) : Calls Try.prog 66 #[.int .i64 a, .int .i64 b] w fun e w' => e = .returned (.int .i64 (max a b)) ∧ w = w' := by
  rw [Int.max_def]
  by_cases h : b < a
  · have h3 : (if a ≤ b then b else a) = a := by rw [if_neg (by omega)]
    rw [h3]
    clear h3
    go_enter Try.func66, Try.ntmps66
    go_wp2
    go_ret
    exact ⟨rfl, rfl⟩
  · have h3 : (if a ≤ b then b else a) = b := by rw [if_pos (by omega)]
    rw [h3]
    have h2 : a ≤ b := by omega
    clear h3
    go_enter Try.func66, Try.ntmps66
    go_wp2
    go_ret
    exact ⟨rfl, rfl⟩
theorem inMostN_any (a b : Nat) (w : World) : Calls Try.prog 66 #[.int .i64 (a : Int), .int .i64 (b : Int)] w (RetV w (.int .i64 ((max a b : Nat) : Int))) := by
  refine (inMost_any a b w).mono ?_
  rintro e w' ⟨rfl, rfl⟩
  exact ⟨by rw [show ((max a b : Nat) : Int) = max (a : Int) (b : Int) by omega], Below.refl _ _⟩
theorem pr_mod {x : Ir} {l : List Ms} {k n : Nat} (hn : n = x.n.toNat) (hk : k < n) (h2 : 2 ≤ n) : ((k : Int) + (n : Int) - 1) % (n : Int) = (((iwOf x l).pr k : Nat) : Int) := by
  have e : (iwOf x l).pr k = (k + n - 1) % n := by rw [hn]; rfl
  rw [e, Int.natCast_emod]
  congr 1
  omega
def TickP (w0 : World) (x : Ir) (l : List Ms) (p : IL) (a : Ist) (e : Ending) (w' : World) : Prop := e = .returned (.tuple #[]) ∧ ∃ vs, InS w0 w' x l p vs a
/-- A cell goes to the end of a buffer. -/
theorem InS.push {w0 w : World} {x : Ir} {l : List Ms} {p : IL} {vs : Nat → Value} {a : Ist} (h : InS w0 w x l p vs a) (hp : IP w0 p) {s c g : Nat} (hs : s < x.n.toNat) (hl : (a.B s).length ≤ 1000) (hc : w.cell? ⟨g, 0, none⟩ = some (.int .i64 (c : Nat))) (ty : TypeId) :
    ∃ A C w2, (Builtin.append_ #[26, 26] ty #[vs s, .slice (some ⟨g, 0, none⟩) 1 1]).run Try.prog w = .ok (.slice A ((a.B s).length + 1) C) w2 ∧ (w2.cell? ⟨p.g, 4, none⟩ = some (.slice (some ⟨p.bb, 0, none⟩) x.n.toNat x.n.toNat) ∧ (∃ u, w2.cell? ⟨p.bb, s, none⟩ = some u) ∧ w2.frozen? ⟨p.bb, s, none⟩ = false) ∧ InS w0 (w2.setCell ⟨p.bb, s, none⟩ (.slice A ((a.B s).length + 1) C)) x l p (up vs s (.slice A ((a.B s).length + 1) C)) { a with B := up a.B s (a.B s ++ [c]) } := by
  obtain ⟨i0, hi, hz0, hz1, hz2⟩ := info_parts int_info
  have hrow := h.rows s hs
  obtain ⟨v', w2, hrun, hown, hg, _, hb⟩ := run_append_own_at (P := Try.prog) w p.lo 26 ty 3 i0 (.int .i64 0) 1 8 Try.underlying26 hi hz0 hz1 hz2 rfl (by decide) (vs s) (a.B s).length (ics (nJ (a.B s))) hrow ⟨g, 0, none⟩ 1 1 [.int .i64 (c : Nat)] rfl (fun j u hu => by
    match j, hu with
    | 0, hu =>
      simp at hu
      subst hu
      rw [addr_add]
      exact hc) (fun u hu => by simp at hu; subst hu; rfl) (by unfold maxLen; omega) (by omega) h.big
  have e : ics (nJ (a.B s)) ++ [.int .i64 (c : Nat)] = ics (nJ (a.B s ++ [c])) := by simp [ics, nJ]
  have e2 : (a.B s ++ [c]).length = (a.B s).length + 1 := by simp
  rw [e] at hown
  obtain ⟨A, C, rfl⟩ := own_sliceI hown
  have h4 := h.row hp hs hg (v' := .slice A ((a.B s).length + 1) C) (b' := a.B s ++ [c]) (by rw [e2]; exact hown) (fun b hb' => by
    rcases hb with hb | hb
    · exact .inl (hb ▸ hb')
    · rw [hb] at hb'; injection hb' with hb'; exact .inr (by omega))
  have c1 := h4.1.1.cell 4
  have c2 := h4.1.2.1.cell s
  rw [rowI_at _ _ _ hs] at c2
  exact ⟨A, C, w2, hrun, ⟨by simpa using c1, ⟨_, c2⟩, h4.1.2.1.free s⟩, h4.2⟩
theorem toNat_eq6 {z : Int} (h : 2 ≤ z ∧ z ≤ 12) : z = ((z.toNat : Nat) : Int) := by omega
theorem step_append_run {P : Program} {ops : Array Oper} {o : Oper} {a : Act} {w : World} {K : Act → World → Prop} {Q : Exit → Act → World → Prop} {E : Prop} (hg : o.guard = none) (s x : Operand) (t : TypeId)
    (hop : o.op = Op.call { callee := Callee.builtin Builtin.append, args := #[s, x], argTypes := #[t, t] }) (v1 v2 : Value) (hs : a.eval s = v1) (hx : a.eval x = v2) (v' : Value) (w' : World) (hrun : (Builtin.append_ #[t, t] o.type #[v1, v2]).run P w = .ok v' w') (hK : K (a.put o.dst v') w') :
    if Region.wanted o (yielded ops a.tmps) = true then Oper.wp P o a w K Q else E := by
  have hw : Region.wanted o (yielded ops a.tmps) = true := by simp [Region.wanted, hg]
  rw [if_pos hw]
  unfold Oper.wp
  simp [execOp, hop, resolve, invoke, builtin, hs, hx, hrun, Result.andThen]
  exact hK
theorem up_up6 {α : Type} (f : Nat → α) (j : Nat) (u v : α) : up (up f j u) j v = up f j v := by
  funext i
  unfold up
  split <;> rfl
set_option maxHeartbeats 16000000 in
theorem inTick_any (x : Ir) (l : List Ms) (w0 : World) (p : IL) (vs : Nat → Value) (a : Ist) (t : Nat) (w : World) (hok : inOk x l = true) (hp : IP w0 p) (hS : InS w0 w x l p vs a) (hr : RMsS w0 w0.heap.size (.slice p.A l.length p.c) l) (hInv : (iwOf x l).Inv ((iwOf x l).vg 0) ((iwOf x l).mg 0) a) (hD : ∀ s, s < x.n.toNat → a.D s ≤ 5000) (ht : t ≤ 3000) :
    Calls Try.prog 55 #[.pointer (some ⟨p.g, 0, none⟩), .int .i64 (t : Nat)] w (TickP w0 x l p ((iwOf x l).tick t a)) := by
  have hx := iwOk hok
  have hin := isIr_in (inOk_in hok).1
  have hr20 : x.r.toNat ≤ 20 := by omega
  have hn12x := toNat_in6 hin.1
  obtain ⟨hl20, hall, _⟩ := areMs_in (inOk_in hok).2
  have hmid := Iw.mid_inv (Iw.gets_inv hx hInv t x.n.toNat (Nat.le_refl _)) hx
  have HOWN := Lib.hid (fun (w1 : World) (vs : Nat → Value) (b : Ist) (s : Nat) (h : InS w0 w1 x l p vs b) (hs : s ≤ 12) => own_any x l w0 p vs b s t w1 hall hl20 h hr (by omega) hs)
  have HTK := Lib.hid (fun (w1 : World) (vs : Nat → Value) (b : Ist) (s c : Nat) (r : List Nat) (h : InS w0 w1 x l p vs b) h1 h2 h3 => take_any x l w0 p vs b s c r w1 hp h h1 h2 h3)
  have HMO := Lib.hid (fun a b w => inMostN_any a b w)
  have HLNK : Hid (∀ k, k < x.n.toNat → ∀ c, a.L ((iwOf x l).pr k) = c + 1 → c < l.length) := by
    show ∀ _, _
    intro k hk c hc
    have h1 := (Iw.gets_inv hx hInv t k (Nat.le_of_lt hk)).lnk _ (Iw.pr_lt hx k) (by unfold Iw.vg; rw [Iw.su_pr hx hk]; simp) c (by rw [Iw.gets_L]; exact hc)
    exact h1
  have HLEN : Hid (∀ k, k < x.n.toNat → ∀ i, i < x.n.toNat → (((iwOf x l).gets t a k).B i).length ≤ 100) := by
    show ∀ _, _
    intro k hk i hi
    have h1 := (Iw.gets_inv hx hInv t k (Nat.le_of_lt hk)).len i hi
    refine Nat.le_trans h1 ?_
    unfold Iw.mg
    show (if i < k then x.r.toNat else x.r.toNat - 1) ≤ 100
    split <;> omega
  have HMEM : Hid (∀ k, k < x.n.toNat → (∀ c ∈ ((iwOf x l).snds t ((iwOf x l).gets t a x.n.toNat) k).B k, c < l.length) ∧ (((iwOf x l).snds t ((iwOf x l).gets t a x.n.toNat) k).B k).length ≤ 100) := by
    show ∀ _, _
    intro k hk
    have h0 := Iw.snds_inv hx hmid t k (Nat.le_of_lt hk)
    refine ⟨fun c hc => (h0.mem k hk c hc).1, Nat.le_trans (h0.len k hk) ?_⟩
    unfold Iw.ms
    show (if k < k then x.r.toNat - 1 else x.r.toNat) ≤ 100
    split <;> omega
  have HDB : Hid (∀ k, k < x.n.toNat → ((iwOf x l).snds t ((iwOf x l).gets t a x.n.toNat) k).D k ≤ 6000) := by
    show ∀ _, _
    intro k hk
    rw [Iw.snds_D, Iw.gets_D]
    have := hD k hk
    split <;> omega
  have HSS : Hid (∀ k, (iwOf x l).snds t ((iwOf x l).gets t a x.n.toNat) (k + 1) = { (iwOf x l).put t k ((iwOf x l).snds t ((iwOf x l).gets t a x.n.toNat) k) with P := max ((iwOf x l).put t k ((iwOf x l).snds t ((iwOf x l).gets t a x.n.toNat) k)).P (((iwOf x l).put t k ((iwOf x l).snds t ((iwOf x l).gets t a x.n.toNat) k)).B k).length }) := by
    show ∀ _, _
    intro k
    rw [Iw.snds]
    unfold Iw.snd
    have e2 : ∀ b : Ist, ((iwOf x l).put t k b).P = b.P := by
      intro b
      unfold Iw.put Iw.pass
      split <;> (try split) <;> (try split) <;> rfl
    rw [e2]
  have HPUT : Hid (∀ k b, (iwOf x l).put t k b = match (iwOf x l).sw.next b.I k t with
    | some c => if (b.B k).length < (iwOf x l).rb then { b with I := up b.I c t, L := up b.L k (c + 1) } else (iwOf x l).pass k b
    | none => (iwOf x l).pass k b) := fun k b => rfl
  have HNXT : Hid (∀ b k c, (iwOf x l).sw.next b k t = some c → c < l.length) := fun b k c h => (Sw.next_some h).1
  have HS1P : Hid (∀ w1 v, InS w0 w1 x l p v ((iwOf x l).gets t a x.n.toNat) → InS w0 w1 x l p v ((iwOf x l).snds t ((iwOf x l).gets t a x.n.toNat) 0)) := fun w1 v h => h
  have hFIN : (iwOf x l).tick t a = (iwOf x l).snds t ((iwOf x l).gets t a x.n.toNat) x.n.toNat := rfl
  rw [hFIN]
  have HRB1 : Hid (1 ≤ (iwOf x l).rb ∧ (iwOf x l).rb = if x.h then x.r.toNat else 1) := by
    refine ⟨?_, rfl⟩
    unfold Iw.rb
    have := hx.r1
    split <;> omega
  have hGL : ∀ k, ((iwOf x l).gets t a k).L = a.L := fun k => Iw.gets_L k
  have HGL := Lib.hid hGL
  have HPRL : Hid (∀ k, (iwOf x l).pr k < x.n.toNat) := fun k => Iw.pr_lt hx k
  have HPRM := Lib.hid (fun (k n : Nat) h1 h2 h3 => pr_mod (x := x) (l := l) (k := k) (n := n) h1 h2 h3)
  have HGK : Hid (∀ k, (iwOf x l).gets t a (k + 1) = match a.L ((iwOf x l).pr k) with
    | 0 => (iwOf x l).gets t a k
    | c + 1 => if (iwOf x l).sw.to_ c = k then { (iwOf x l).gets t a k with R := up ((iwOf x l).gets t a k).R c t } else { (iwOf x l).gets t a k with B := up ((iwOf x l).gets t a k).B k (((iwOf x l).gets t a k).B k ++ [c]) }) := by
    show ∀ _, _
    intro k
    rw [Iw.gets, ← hGL k]
    rfl
  have HTO : Hid (∀ c k, c < l.length → ((iwOf x l).sw.to_ c = k ↔ l[c]!.o = (k : Int))) := by
    show ∀ _, _
    intro c k hc
    obtain ⟨_, _, _, _, h5, _⟩ := msAtI hall c hc
    show l[c]!.o.toNat = k ↔ _
    omega
  obtain ⟨_, _, _, hc⟩ := hr.parts
  have HC := Lib.hid hc
  have HP := Lib.hid hp
  have HS0 : Hid (InS w0 w x l p vs ((iwOf x l).gets t a 0)) := hS
  obtain ⟨n, hN⟩ : ∃ n, n = x.n.toNat := ⟨_, rfl⟩
  have hnx : x.n = (n : Int) := by rw [hN]; exact toNat_eq6 hin.1
  obtain ⟨g, hg⟩ : ∃ g, g = p.g := ⟨_, rfl⟩
  obtain ⟨bb, hbb⟩ : ∃ bb, bb = p.bb := ⟨_, rfl⟩
  obtain ⟨lb, hlb⟩ : ∃ lb, lb = p.lb := ⟨_, rfl⟩
  have HN := Lib.hid hN
  have HNX := Lib.hid hnx
  have HG := Lib.hid hg
  have HBB := Lib.hid hbb
  have HLB := Lib.hid hlb
  have hn12 : n ≤ 12 ∧ 2 ≤ n := by rw [hN]; exact hn12x
  have HRUN : Hid (∀ (v : Nat → Value) (b : Ist) w1, InS w0 w1 x l p v b → w1.cell? ⟨g, 0, none⟩ = some (.int .i64 (n : Int)) ∧ w1.cell? ⟨g, 4, none⟩ = some (.slice (some ⟨bb, 0, none⟩) n n) ∧ w1.cell? ⟨g, 5, none⟩ = some (.slice (some ⟨lb, 0, none⟩) n n) ∧ w1.cell? ⟨g, 1, none⟩ = some (.int .i64 x.r) ∧ w1.cell? ⟨g, 2, none⟩ = some (.bool x.h)) := by
    show ∀ _, _
    intro v b w1 h
    have a0 := h.run.cell 0
    have a1 := h.run.cell 1
    have a2 := h.run.cell 2
    have a4 := h.run.cell 4
    have a5 := h.run.cell 5
    rw [hg, hbb, hlb, hN]
    rw [hnx, hN] at a0
    exact ⟨by simpa using a0, by simpa using a4, by simpa using a5, by simpa using a1, by simpa using a2⟩
  have c0 := (HRUN.out _ _ _ hS).1
  have c4 := (HRUN.out _ _ _ hS).2.1
  rw [← hg]
  clear hFIN hD
  clear hS hInv hp hr hall hok hx hin hr20 hmid hGL hc hN hnx hg hbb hlb hn12x
  go_enter Try.func55, Try.ntmps55
  go_wp2_with fail
  go_loopw [20] (fun i wr => ∃ (k : Nat) (v : Nat → Value), k ≤ n ∧ i = .int .i64 k ∧ InS w0 wr x l p v ((iwOf x l).gets t a k)) (fun i _ => n - (intOf i).toNat)
  case atStart => exact ⟨0, _, Nat.zero_le _, rfl, HS0.out⟩
  case round =>
    clear HS0 c0 c4
    obtain ⟨k, v, hk, rfl, hS⟩ := hrel
    by_cases hlt : k < n
    · have hkI : (k : Int) < (n : Int) := by omega
      have hkx : k < x.n.toNat := by have := HN.out; omega
      have hq := HPRL.out k
      have hmod := HPRM.out k n HN.out hlt hn12.2
      have hGk := HGK.out k
      have hLk := HLNK.out k hkx
      obtain ⟨_, c4, c5, _, _⟩ := HRUN.out _ _ _ hS
      have r0 := hS.links.cell ((iwOf x l).pr k) (by rw [tabl_len]; exact hq)
      rw [tabl_at _ _ _ hq, HGL.out k] at r0
      rw [← HLB.out] at r0
      obtain ⟨q, hqq⟩ : ∃ q, q = (iwOf x l).pr k := ⟨_, rfl⟩
      rw [← hqq] at hq hmod hGk hLk r0
      have hqn : q < n := by have := HN.out; omega
      have hqI : (q : Int) < (n : Int) := by omega
      have ew1 : IntKind.i64.wrap ((k : Int) + (n : Int)) = (k : Int) + (n : Int) := IntWalk.i64_in _ (by omega)
      have ew2 : IntKind.i64.wrap ((k : Int) + (n : Int) - 1) = (k : Int) + (n : Int) - 1 := IntWalk.i64_in _ (by omega)
      have hmod2 : ((k : Int) + (n : Int) - 1).tmod (n : Int) = (q : Int) := by rw [Int.tmod_eq_emod_of_nonneg (by omega)]; exact hmod
      have hn0 : (n : Int) ≠ 0 := by omega
      cases hL : a.L q with
      | zero =>
        rw [hL] at hGk r0
        simp only at hGk
        have HN1 : Hid (InS w0 wr.drew x l p v ((iwOf x l).gets t a (k + 1))) := by
          show InS _ _ _ _ _ _ _
          rw [hGk]
          exact hS.step (Below.refl _ _).drew
        clear hS hGk hLk hL hqq
        go_upto_region 4 with fail
        go_region
        go_wp2_with fail
        go_roundw
        case rel => exact ⟨k + 1, _, by omega, by go_num, HN1.out⟩
        case measure => simp [intOf]; omega
      | succ c =>
        rw [hL] at hGk r0
        simp only at hGk
        have hcl := hLk c hL
        have hcI : (c : Int) < (l.length : Int) := by omega
        have esub2 : ((c + 1 : Nat) : Int) = (c : Int) + 1 := by omega
        rw [esub2] at r0
        have ew3 : IntKind.i64.wrap ((c : Int) + 1 - 1) = (c : Int) := by rw [IntWalk.i64_in _ (by omega)]; omega
        have hc0 : ¬ (c : Int) < 0 := by omega
        obtain ⟨wd, hwd⟩ : ∃ wd, wd = wr.drew := ⟨_, rfl⟩
        have hS1 : InS w0 wd x l p v ((iwOf x l).gets t a k) := by rw [hwd]; exact hS.step (Below.refl _ _).drew
        have HWD := Lib.hid hwd
        obtain ⟨b, off, hA, hbB, hcell⟩ := HC.out (by omega)
        have hm2 := (hS1.bel.cell (p := ⟨b, off + c * 3 + 2, none⟩) hbB).trans (hcell c hcl).2.2
        have x3 := hS1.run.cell 3
        have x7 := hS1.run.cell 7
        simp only [List.getElem?_toArray, List.getElem?_cons_zero, List.getElem?_cons_succ] at x3 x7
        rw [hA, ← HG.out] at x3
        have hT := HTO.out c k hcl
        generalize l[c]! = y at hm2 hT
        obtain ⟨yt, yf, yo⟩ := y
        simp only at hm2 hT
        by_cases hto : yo = (k : Int)
        · rw [if_pos (hT.2 hto)] at hGk
          obtain ⟨cq, hvq, hrq⟩ := hS1.read.at_ c (by rw [tabl_len]; exact hcl)
          rw [tabl_len] at hvq
          rw [hvq, ← HG.out] at x7
          have s0 := hrq.cell c (by rw [tabl_len]; exact hcl)
          have s1 := hrq.free c
          obtain ⟨qb, hqb⟩ : ∃ qb, qb = p.qb := ⟨_, rfl⟩
          rw [← hqb] at x7 s0 s1
          have HN1 : Hid (InS w0 (wd.setCell ⟨qb, c, none⟩ (.int .i64 (t : Nat))) x l p v ((iwOf x l).gets t a (k + 1))) := by
            show InS _ _ _ _ _ _ _
            rw [hGk, hqb]
            exact hS1.setR HP.out hcl t
          subst hto
          clear hS hGk hLk hL hqq hwd hS1 hA hcell hT hvq hrq hqb
          go_upto_region 4 with fail
          go_region
          rw [← HWD.out]
          go_wp2_with fail
          go_roundw
          case rel => exact ⟨k + 1, _, by omega, by go_num, HN1.out⟩
          case measure => simp [intOf]; omega
        · rw [if_neg (fun h => hto (hT.1 h))] at hGk
          have hlb' := HLEN.out k hkx k hkx
          have hAl : InS w0 (wd.alloc (.cells #[.int .i64 (c : Int)] 3)).drew x l p v ((iwOf x l).gets t a k) := hS1.step ((Below.refl _ _).alloc (Nat.le_refl _) _).drew
          obtain ⟨A, C, w2, hrun, ⟨k4, ⟨uu, kb⟩, kf⟩, hfin⟩ := hAl.push HP.out (g := wd.heap.size) (c := c) hkx (by omega) ((BK.made wd 3 #[.int .i64 (c : Int)]).cell 0) 26
          obtain ⟨VA, VC, hV⟩ := own_sliceI (hS1.rows k hkx)
          have d4 := (HRUN.out _ _ _ hS1).2.1
          have db := hS1.bufs.cell k
          have e4 := (HRUN.out _ _ _ (hS1.step ((Below.refl _ _).alloc (Nat.le_refl _) (.cells #[.int .i64 (c : Int)] 3)))).2.1
          have eb := (hS1.step ((Below.refl _ _).alloc (Nat.le_refl _) (.cells #[.int .i64 (c : Int)] 3))).bufs.cell k
          rw [rowI_at _ _ _ hkx, hV, ← HBB.out] at db eb
          rw [hV] at hrun
          rw [← hGk, ← HBB.out] at hfin
          rw [← HG.out, ← HBB.out, ← HN.out] at k4
          rw [← HBB.out] at kb kf
          obtain ⟨len, hlen⟩ : ∃ len, len = (((iwOf x l).gets t a k).B k).length := ⟨_, rfl⟩
          rw [← hlen] at hrun hfin db eb
          have HN1 := Lib.hid hfin
          have htn : ¬ yo = (k : Int) := hto
          clear hS hGk hLk hL hqq hwd hS1 hA hcell hT hAl hV hfin hlen x7 hlb'
          go_upto_region 4 with fail
          go_region
          rw [← HWD.out]
          go_upto_region 8 with fail
          have HRUNA := Lib.hid hrun
          clear hrun
          go_region_law (refine step_append_run rfl (.tmp 66) (.tmp 68) 26 rfl (.slice VA len VC) (.slice (some ⟨wd.heap.size, 0, none⟩) 1 1) (by simp [Act.eval]) (by simp [Act.eval]) _ _ HRUNA.out ?_)
          all_goals (go_wp2_with fail; go_roundw; (case rel => exact ⟨k + 1, _, by omega, by go_num, HN1.out⟩); (case measure => simp [intOf]; omega))
    · have hkn : n = k := by omega
      subst hkn
      have hS3 := hS
      rw [HN.out] at hS3
      have HS3 := Lib.hid (HS1P.out _ _ hS3)
      have c4 := (HRUN.out _ _ _ hS).2.1
      rw [← HN.out]
      obtain ⟨S, hSS⟩ : ∃ S, S = (iwOf x l).snds t ((iwOf x l).gets t a x.n.toNat) := ⟨_, rfl⟩
      rw [← hSS] at HMEM HDB HSS HS3
      have HSEQ := Lib.hid hSS
      clear hSS
      clear hS hS3 HLNK HLEN HGL HPRL HPRM HGK HTO HC HS1P
      go_wp2_with fail
      go_loopw [77] (fun i wr => ∃ (j : Nat) (v : Nat → Value), j ≤ n ∧ i = .int .i64 j ∧ InS w0 wr x l p v (S j)) (fun i _ => n - (intOf i).toNat)
      case atStart => exact ⟨0, _, Nat.zero_le _, rfl, HS3.out⟩
      case round =>
        clear HS3 c4
        obtain ⟨j, vy, hj, rfl, hS⟩ := hrel
        by_cases hlt : j < n
        · have hjI : (j : Int) < (n : Int) := by omega
          have hjn : j < n := hlt
          have hjx : j < x.n.toNat := by have := HN.out; omega
          obtain ⟨_, c4, c5, _, _⟩ := HRUN.out _ _ _ hS
          have r0 := hS.links.cell j (by rw [tabl_len]; exact hjx)
          have r1 := hS.links.free j
          rw [← HLB.out] at r0 r1
          obtain ⟨B0, hB0⟩ : ∃ B0 : Ist, B0 = { S j with L := up (S j).L j 0 } := ⟨_, rfl⟩
          obtain ⟨w1, hw1⟩ : ∃ w1, w1 = wr.setCell ⟨lb, j, none⟩ (.int .i64 0) := ⟨_, rfl⟩
          have HS1 : Hid (InS w0 w1 x l p vy B0) := by
            show InS _ _ _ _ _ _ _
            rw [hB0, hw1, HLB.out]
            exact hS.setL HP.out j 0
          have HW1 := Lib.hid hw1
          have HB0 := Lib.hid hB0
          have hOW := HOWN.out w1 vy B0 j HS1.out (by omega)
          have hI0 : B0.I = (S j).I := by rw [hB0]
          rw [hI0, ← HG.out] at hOW
          have HOW := Lib.hid hOW
          obtain ⟨PT, hPT⟩ : ∃ PT, PT = (iwOf x l).put t j (S j) := ⟨_, rfl⟩
          have hPU := HPUT.out j (S j)
          rw [← hPT] at hPU
          have HPE : Hid (S (j + 1) = { PT with P := max PT.P (PT.B j).length }) := by
            show _ = _
            rw [hPT]
            exact HSS.out j
          obtain ⟨N, hN⟩ : ∃ N, N = (iwOf x l).sw.next (S j).I j t := ⟨_, rfl⟩
          rw [← hN] at hPU HOW
          obtain ⟨hmem, hmlen⟩ := HMEM.out j hjx
          have hBB0 : B0.B = (S j).B := by rw [hB0]
          obtain ⟨VA, VC, hV⟩ := own_sliceI (hS.rows j hjx)
          have HROW : Hid (∀ w', InS w0 w' x l p vy B0 → w'.cell? ⟨g, 4, none⟩ = some (.slice (some ⟨bb, 0, none⟩) n n) ∧ w'.cell? ⟨bb, j, none⟩ = some (.slice VA (B0.B j).length VC) ∧ w'.cell? ⟨g, 1, none⟩ = some (.int .i64 x.r) ∧ w'.cell? ⟨g, 2, none⟩ = some (.bool x.h)) := by
            show ∀ _, _
            intro w' h
            obtain ⟨_, k4, _, k1, k2⟩ := HRUN.out _ _ _ h
            have kb := h.bufs.cell j
            rw [rowI_at _ _ _ hjx, hV, ← HBB.out] at kb
            rw [hBB0]
            exact ⟨k4, kb, k1, k2⟩
          have hrb := HRB1.out
          rw [← hBB0] at hPU hmem hmlen
          have hNX : ∀ c, N = some c → c < l.length := fun c h => HNXT.out (S j).I j c (hN ▸ h)
          have hUU : ∀ y, up B0.L j y = up (S j).L j y := fun y => by rw [hB0]; exact up_up6 _ _ _ _
          clear hS hw1 hB0 hOW hI0 hPT hN hV hBB0
          obtain ⟨len, hlen⟩ : ∃ len, len = (B0.B j).length := ⟨_, rfl⟩
          rw [← hlen] at HROW hPU hmlen
          have HLE := Lib.hid hlen
          have HUU := Lib.hid hUU
          have HRX := Lib.hid hrb
          clear hlen hUU hrb
          cases N with
          | none =>
            simp only at hPU
            simp only [ownI] at HOW
            by_cases hl0 : len = 0
            · have hl0I : ¬ (0 : Int) < (len : Int) := by omega
              have HL0 := Lib.hid hl0
              clear hl0
              have HPU := Lib.hid hPU
              clear hPU
              go_wp2_with fail
              rw [HW1.out.symm]
              refine HOW.out.mono ?_; rintro e w2 ⟨rfl, hb2⟩
              have HS2 := Lib.hid (HS1.out.step hb2)
              obtain ⟨k4, kb, k1, k2⟩ := HROW.out _ HS2.out
              clear hb2 HOW c4 c5 r0 r1
              have hBn : B0.B j = [] := List.eq_nil_of_length_eq_zero (by have := HLE.out; have := HL0.out; omega)
              obtain ⟨d, hd⟩ : ∃ d, d = B0.D j := ⟨_, rfl⟩
              have x9 := HS2.out.run.cell 9
              have s0 := HS2.out.idle.cell j (by rw [tabl_len]; exact hjx)
              rw [tabl_at _ _ _ hjx, ← hd] at s0
              have s1 := HS2.out.idle.free j
              simp only [List.getElem?_toArray, List.getElem?_cons_zero, List.getElem?_cons_succ] at x9
              rw [← HN.out, ← HG.out] at x9
              have hdb := HDB.out j hjx
              have hdd : d ≤ 6000 := by rw [hd, HB0.out]; exact hdb
              have ewd : IntKind.i64.wrap ((d : Int) + 1) = (d : Int) + 1 := IntWalk.i64_in _ (by omega)
              have h4 := HS2.out.setD HP.out j (d + 1)
              rw [show ((d + 1 : Nat) : Int) = (d : Int) + 1 by omega] at h4
              obtain ⟨db, hdb2⟩ : ∃ db, db = p.db := ⟨_, rfl⟩
              rw [← hdb2] at x9 s0 s1 h4
              have HSB : Hid (InS w0 (w2.setCell ⟨db, j, none⟩ (.int .i64 ((d : Int) + 1))) x l p vy PT) := by
                show InS _ _ _ _ _ _ _
                rw [HPU.out]
                have hb := HB0.out
                have hd2 : d = (S j).D j := by rw [hd, hb]
                rw [hb] at h4 hBn
                simp only at h4 hBn
                rw [hd2] at h4 ⊢
                unfold Iw.pass
                rw [hBn]
                exact h4
              clear h4 hd hdb2 hdb HPU HS2 hBn
              go_upto_region 22 with fail
              generalize w2.setCell ⟨db, j, none⟩ (.int .i64 ((d : Int) + 1)) = w4 at *
              clear s0 s1 x9 k4 kb k1 k2 ewd
              obtain ⟨vz, hvz⟩ : ∃ vz, vz = vy := ⟨_, rfl⟩
              rw [← hvz] at HSB
              clear hvz
              obtain ⟨P, hPP⟩ : ∃ P, P = PT.P := ⟨_, rfl⟩
              obtain ⟨len, hlen2⟩ : ∃ len, len = (PT.B j).length := ⟨_, rfl⟩
              obtain ⟨M, hM⟩ : ∃ M, M = max P len := ⟨_, rfl⟩
              have HMM : Hid (∀ w', Calls Try.prog 66 #[.int .i64 (P : Int), .int .i64 (len : Int)] w' (RetV w' (.int .i64 (M : Int)))) := by
                show ∀ _, _
                intro w'
                rw [hM]
                exact HMO.out P len w'
              obtain ⟨VA, VC, hV⟩ := own_sliceI (HSB.out.rows j (by rw [← HN.out]; exact hjn))
              rw [← hlen2] at hV
              have HC1 : Hid (∀ (c : Ist) w', InS w0 w' x l p vz c → w'.cell? ⟨g, 4, none⟩ = some (.slice (some ⟨bb, 0, none⟩) n n) ∧ w'.cell? ⟨bb, j, none⟩ = some (.slice VA len VC)) := by
                show ∀ _, _
                intro c w' h
                have a4 := h.run.cell 4
                have ab := h.bufs.cell j
                rw [rowI_at _ _ _ (by rw [← HN.out]; exact hjn), hV, ← HBB.out] at ab
                rw [HG.out, HBB.out, HN.out]
                exact ⟨by simpa using a4, by rw [← HBB.out]; exact ab⟩
              have HC2 : Hid (∀ w', InS w0 w' x l p vz PT → w'.cell? ⟨g, 8, none⟩ = some (.int .i64 (P : Int))) := by
                show ∀ _, _
                intro w' h
                have a8 := h.run.cell 8
                rw [HG.out, hPP]
                simpa using a8
              have HC3 : Hid (∀ w', InS w0 w' x l p vz PT → ((∃ u, w'.cell? ⟨g, 8, none⟩ = some u) ∧ w'.frozen? ⟨g, 8, none⟩ = false) ∧ InS w0 (w'.setCell ⟨g, 8, none⟩ (.int .i64 (M : Int))) x l p vz (S (j + 1))) := by
                show ∀ _, _
                intro w' h
                have a8 := h.run.cell 8
                rw [HPE.out, HG.out, hM, hPP, hlen2]
                exact ⟨⟨⟨_, by simpa using a8⟩, h.run.free 8⟩, h.setP HP.out (max PT.P (PT.B j).length)⟩
              clear hPP hlen2 hV hM
              refine wp_region_row (by kernel_rfl) (by kernel_rfl) 158 16 (by kernel_rfl) (by decide) (by simp) (fun i => [.pointer (some ⟨g, 0, none⟩), .pointer (some ⟨g, 0, none⟩), .pointer (some ⟨g, 0, none⟩), .pointer (some ⟨g, 8, none⟩), .int .i64 (P : Int), .pointer (some ⟨g, 0, none⟩), .pointer (some ⟨g, 0, none⟩), .pointer (some ⟨g, 4, none⟩), .slice (some ⟨bb, 0, none⟩) n n, .int .i64 (j : Int), .pointer (some ⟨bb, j, none⟩), .slice VA len VC, .int .i64 (len : Int), .int .i64 (M : Int), .pointer (some ⟨g, 0, none⟩), .pointer (some ⟨g, 8, none⟩)].getD i undef)
                (fun D w' => ((D 16 = true → D 13 = true) ∧ (D 13 = true → D 4 = true)) ∧ (if D 16 = true then InS w0 w' x l p vz (S (j + 1)) else InS w0 w' x l p vz PT)) ?_ ?_ ?_
              · exact ⟨⟨fun h => by simp at h, fun h => by simp at h⟩, by rw [if_neg (by simp)]; exact HSB.out.step (Below.refl _ _).drew⟩
              · intro D D' ev w' i hi' hd hpre hD' hev hec hef hW
                have e0 := hev 0
                have e7 := hev 7
                simp at e0 e7
                have hi11 : i < 17 := hi'
                match i, hi11 with
                | 0, _ =>
                  exact .value w' (by simp [go_sem, execOp, e0]) (by simpa [hD'] using hW)
                | 1, _ =>
                  exact .value w' (by simp [go_sem, execOp, e0]) (by simpa [hD'] using hW)
                | 2, _ =>
                  have p1 : D 1 = true := hpre ⟨1, .data⟩ (by simp) rfl
                  have f1 := hev 159
                  simp [p1] at f1
                  exact .value w' (by simp [go_sem, execOp, f1]) (by simpa [hD'] using hW)
                | 3, _ =>
                  have p2 : D 2 = true := hpre ⟨2, .data⟩ (by simp) rfl
                  have f2 := hev 160
                  simp [p2] at f2
                  exact .value w' (by simp [go_sem, execOp, f2]) (by simpa [hD'] using hW)
                | 4, _ =>
                  have p3 : D 3 = true := hpre ⟨3, .data⟩ (by simp) rfl
                  have f3 := hev 161
                  simp [p3] at f3
                  have hn13 : ¬ D 13 = true := fun h => by have := hW.1.2 h; rw [show D 4 = false from hd] at this; cases this
                  have hn16 : ¬ D 16 = true := fun h => hn13 (hW.1.1 h)
                  have h2 := hW.2
                  rw [if_neg hn16] at h2
                  have cp := HC2.out _ h2
                  exact .value w' (by simp [go_sem, execOp, f3, cp]) (⟨⟨by simpa [hD'] using hW.1.1, fun _ => by simp [hD']⟩, by rw [if_neg (by simpa [hD'] using hn16)]; exact h2⟩)
                | 5, _ =>
                  exact .value w' (by simp [go_sem, execOp, e0]) (by simpa [hD'] using hW)
                | 6, _ =>
                  have p5 : D 5 = true := hpre ⟨5, .data⟩ (by simp) rfl
                  have f5 := hev 163
                  simp [p5] at f5
                  exact .value w' (by simp [go_sem, execOp, f5]) (by simpa [hD'] using hW)
                | 7, _ =>
                  have p6 : D 6 = true := hpre ⟨6, .data⟩ (by simp) rfl
                  have f6 := hev 164
                  simp [p6] at f6
                  exact .value w' (by simp [go_sem, execOp, f6]) (by simpa [hD'] using hW)
                | 8, _ =>
                  have p7 : D 7 = true := hpre ⟨7, .data⟩ (by simp) rfl
                  have f7 := hev 165
                  simp [p7] at f7
                  obtain ⟨c4, cb⟩ : w'.cell? ⟨g, 4, none⟩ = some (.slice (some ⟨bb, 0, none⟩) n n) ∧ w'.cell? ⟨bb, j, none⟩ = some (.slice VA len VC) := by
                    have h2 := hW.2
                    by_cases h : D 16 = true
                    · rw [if_pos h] at h2; exact HC1.out _ _ h2
                    · rw [if_neg h] at h2; exact HC1.out _ _ h2
                  exact .value w' (by simp [go_sem, execOp, f7, c4]) (by simpa [hD'] using hW)
                | 9, _ =>
                  exact .value w' (by simp [go_sem, execOp, e7]) (by simpa [hD'] using hW)
                | 10, _ =>
                  have p8 : D 8 = true := hpre ⟨8, .data⟩ (by simp) rfl
                  have p9 : D 9 = true := hpre ⟨9, .data⟩ (by simp) rfl
                  have f8 := hev 166
                  have f9 := hev 167
                  simp [p8, p9] at f8 f9
                  exact .value w' (by simp [go_sem, execOp, f8, f9, hjn]) (by simpa [hD'] using hW)
                | 11, _ =>
                  have p10 : D 10 = true := hpre ⟨10, .data⟩ (by simp) rfl
                  have f10 := hev 168
                  simp [p10] at f10
                  obtain ⟨c4, cb⟩ : w'.cell? ⟨g, 4, none⟩ = some (.slice (some ⟨bb, 0, none⟩) n n) ∧ w'.cell? ⟨bb, j, none⟩ = some (.slice VA len VC) := by
                    have h2 := hW.2
                    by_cases h : D 16 = true
                    · rw [if_pos h] at h2; exact HC1.out _ _ h2
                    · rw [if_neg h] at h2; exact HC1.out _ _ h2
                  exact .value w' (by simp [go_sem, execOp, f10, cb]) (by simpa [hD'] using hW)
                | 12, _ =>
                  have p11 : D 11 = true := hpre ⟨11, .data⟩ (by simp) rfl
                  have f11 := hev 169
                  simp [p11] at f11
                  exact .value w' (by simp [go_sem, execOp, f11]) (by simpa [hD'] using hW)
                | 13, _ =>
                  have p4 : D 4 = true := hpre ⟨4, .data⟩ (by simp) rfl
                  have p12 : D 12 = true := hpre ⟨12, .data⟩ (by simp) rfl
                  have f4 := hev 162
                  have f12 := hev 170
                  simp [p4, p12] at f4 f12
                  refine .call 66 #[.int .i64 (P : Int), .int .i64 (len : Int)] w' ((run_call_any (f := 66) (ρ := ev) (args := #[.tmp 162, .tmp 170]) (ats := #[3, 3]) rfl (hef _) Try.func66 (by kernel_rfl) rfl).trans (by simp [f4, f12])) ((HMM.out w').mono ?_)
                  rintro e w'' ⟨rfl, hb''⟩
                  refine ⟨rfl, ⟨fun _ => by simp [hD'], fun _ => by simpa [hD'] using p4⟩, ?_⟩
                  have h2 := hW.2
                  by_cases h : D 16 = true
                  · rw [if_pos h] at h2; rw [if_pos (by simpa [hD'] using h)]; exact h2.step hb''
                  · rw [if_neg h] at h2; rw [if_neg (by simpa [hD'] using h)]; exact h2.step hb''
                | 14, _ =>
                  have p0 : D 0 = true := hpre ⟨0, .data⟩ (by simp) rfl
                  have f0 := hev 158
                  simp [p0] at f0
                  exact .value w' (by simp [go_sem, execOp, f0]) (by simpa [hD'] using hW)
                | 15, _ =>
                  have p14 : D 14 = true := hpre ⟨14, .data⟩ (by simp) rfl
                  have f14 := hev 172
                  simp [p14] at f14
                  exact .value w' (by simp [go_sem, execOp, f14]) (by simpa [hD'] using hW)
                | 16, _ =>
                  have p13 : D 13 = true := hpre ⟨13, .data⟩ (by simp) rfl
                  have p15 : D 15 = true := hpre ⟨15, .data⟩ (by simp) rfl
                  have f13 := hev 171
                  have f15 := hev 173
                  simp [p13, p15] at f13 f15
                  have hn16 : ¬ D 16 = true := by rw [show D 16 = false from hd]; simp
                  have h2 := hW.2
                  rw [if_neg hn16] at h2
                  obtain ⟨⟨⟨uu, cp⟩, cf⟩, hfin⟩ := HC3.out _ h2
                  refine .skip (w'.setCell ⟨g, 8, none⟩ (.int .i64 (M : Int))) rfl (by simp [go_sem, execOp, f13, f15, cp, cf]) ⟨⟨fun _ => by simpa [hD'] using p13, by simpa [hD'] using hW.1.2⟩, ?_⟩
                  rw [if_pos (by simp [hD'])]
                  exact hfin
                | i + 17, h => exact absurd h (by omega)
              · intro D w' hall hW
                have hW := hW.2
                rw [if_pos (hall 16 (by decide))] at hW
                have HW8 := Lib.hid hW
                clear hW
                simp only [putAll, Act.put, List.getD_cons_zero, List.getD_cons_succ, Nat.reduceAdd, List.setIfInBounds_toArray, List.set_cons_succ, List.set_cons_zero, Exit.then, Exit.inBlock]
                refine ‹∀ (a : Act) (w : World), _ → _› _ _ ?_
                go_wp2_with fail
                go_roundw
                case rel => exact ⟨j + 1, _, by omega, by go_num, HW8.out⟩
                case measure => simp [intOf]; omega
            · have hl0I : (0 : Int) < (len : Int) := by omega
              have HPU := Lib.hid hPU
              clear hPU
              go_wp2_with fail
              rw [HW1.out.symm]
              refine HOW.out.mono ?_; rintro e w2 ⟨rfl, hb2⟩
              have HS2 := Lib.hid (HS1.out.step hb2)
              obtain ⟨k4, kb, k1, k2⟩ := HROW.out _ HS2.out
              clear hb2 HOW c4 c5 r0 r1
              obtain ⟨cB, rB, hBc⟩ : ∃ cB rB, B0.B j = cB :: rB := by
                cases hh : B0.B j with
                | nil => have hlen := HLE.out; rw [hh] at hlen; simp at hlen; omega
                | cons cB rB => exact ⟨cB, rB, rfl⟩
              have hcB := hmem cB (by rw [hBc]; simp)
              have hrB : rB.length ≤ 1000 := by have hlen := HLE.out; rw [hBc] at hlen; simp at hlen; omega
              have ewB : IntKind.i64.wrap ((cB : Int) + 1) = (cB : Int) + 1 := IntWalk.i64_in _ (by omega)
              have HTKE : Hid (∀ w', InS w0 w' x l p vy B0 → Calls Try.prog 65 #[.pointer (some ⟨g, 0, none⟩), .int .i64 (j : Int)] w' (TakeP w0 x l p vy B0 j cB rB)) := by
                show ∀ _, _
                intro w' h
                rw [HG.out]
                exact HTK.out w' vy B0 j cB rB h hjx hBc hrB
              have HL5 : Hid (∀ v b w', InS w0 w' x l p v b → w'.cell? ⟨g, 5, none⟩ = some (.slice (some ⟨lb, 0, none⟩) n n)) := by
                show ∀ _, _
                intro v b w' h
                exact (HRUN.out _ _ _ h).2.2.1
              have HL6 : Hid (∀ v w', InS w0 w' x l p v { B0 with B := up B0.B j rB } → ((∃ u, w'.cell? ⟨lb, j, none⟩ = some u) ∧ w'.frozen? ⟨lb, j, none⟩ = false) ∧ InS w0 (w'.setCell ⟨lb, j, none⟩ (.int .i64 ((cB : Int) + 1))) x l p v PT) := by
                show ∀ _, _
                intro v w' h
                have t0 := h.links.cell j (by rw [tabl_len]; exact hjx)
                have h4 := h.setL HP.out j (cB + 1)
                rw [show ((cB + 1 : Nat) : Int) = (cB : Int) + 1 by omega] at h4
                rw [HLB.out]
                refine ⟨⟨⟨_, t0⟩, h.links.free j⟩, ?_⟩
                rw [HPU.out]
                have e := HUU.out (cB + 1)
                have hb := HB0.out
                rw [hb] at h4 e hBc
                simp only at h4 e hBc
                rw [e] at h4
                unfold Iw.pass
                rw [hBc]
                exact h4
              have HSY := HS2
              clear HPU hBc
              go_upto_region 21 with fail
              refine wp_region_row (by kernel_rfl) (by kernel_rfl) 148 10 (by kernel_rfl) (by decide) (by simp) (fun i => [.pointer (some ⟨g, 0, none⟩), .pointer (some ⟨g, 0, none⟩), .pointer (some ⟨g, 5, none⟩), .slice (some ⟨lb, 0, none⟩) n n, .int .i64 (j : Int), .pointer (some ⟨g, 0, none⟩), .int .i64 (j : Int), .int .i64 (cB : Int), .int .i64 ((cB : Int) + 1), .pointer (some ⟨lb, j, none⟩)].getD i undef)
                (fun D w' => ((D 8 = true → D 7 = true) ∧ (D 10 = true → D 8 = true)) ∧ (if D 10 = true then ∃ vz, InS w0 w' x l p vz PT else if D 7 = true then ∃ vz, InS w0 w' x l p vz { B0 with B := up B0.B j rB } else InS w0 w' x l p vy B0)) ?_ ?_ ?_
              · exact ⟨⟨fun h => by simp at h, fun h => by simp at h⟩, by rw [if_neg (by simp), if_neg (by simp)]; exact HSY.out.step (Below.refl _ _).drew⟩
              · intro D D' ev w' i hi' hd hpre hD' hev hec hef hW
                have e0 := hev 0
                have e7 := hev 7
                simp at e0 e7
                have hi11 : i < 11 := hi'
                match i, hi11 with
                | 0, _ =>
                  exact .value w' (by simp [go_sem, execOp, e0]) (by simpa [hD'] using hW)
                | 1, _ =>
                  have p0 : D 0 = true := hpre ⟨0, .data⟩ (by simp) rfl
                  have f0 := hev 148
                  simp [p0] at f0
                  exact .value w' (by simp [go_sem, execOp, f0]) (by simpa [hD'] using hW)
                | 2, _ =>
                  have p1 : D 1 = true := hpre ⟨1, .data⟩ (by simp) rfl
                  have f1 := hev 149
                  simp [p1] at f1
                  exact .value w' (by simp [go_sem, execOp, f1]) (by simpa [hD'] using hW)
                | 3, _ =>
                  have p2 : D 2 = true := hpre ⟨2, .data⟩ (by simp) rfl
                  have f2 := hev 150
                  simp [p2] at f2
                  have c5 : w'.cell? ⟨g, 5, none⟩ = some (.slice (some ⟨lb, 0, none⟩) n n) := by
                    have h2 := hW.2
                    by_cases h : D 10 = true
                    · rw [if_pos h] at h2; obtain ⟨vz, h2⟩ := h2; exact HL5.out _ _ _ h2
                    · rw [if_neg h] at h2
                      by_cases h7 : D 7 = true
                      · rw [if_pos h7] at h2; obtain ⟨vz, h2⟩ := h2; exact HL5.out _ _ _ h2
                      · rw [if_neg h7] at h2; exact HL5.out _ _ _ h2
                  exact .value w' (by simp [go_sem, execOp, f2, c5]) (by simpa [hD'] using hW)
                | 4, _ =>
                  exact .value w' (by simp [go_sem, execOp, e7]) (by simpa [hD'] using hW)
                | 5, _ =>
                  exact .value w' (by simp [go_sem, execOp, e0]) (by simpa [hD'] using hW)
                | 6, _ =>
                  exact .value w' (by simp [go_sem, execOp, e7]) (by simpa [hD'] using hW)
                | 7, _ =>
                  have p5 : D 5 = true := hpre ⟨5, .data⟩ (by simp) rfl
                  have p6 : D 6 = true := hpre ⟨6, .data⟩ (by simp) rfl
                  have f5 := hev 153
                  have f6 := hev 154
                  simp [p5, p6] at f5 f6
                  have hd7 : D 7 = false := hd
                  have hn8 : ¬ D 8 = true := fun h => by have := hW.1.1 h; rw [hd7] at this; cases this
                  have hn10 : ¬ D 10 = true := fun h => hn8 (hW.1.2 h)
                  have hpr := hW.2
                  rw [if_neg hn10, if_neg (by rw [hd7]; simp)] at hpr
                  refine .call 65 #[.pointer (some ⟨g, 0, none⟩), .int .i64 (j : Int)] w' ((run_call_any (f := 65) (ρ := ev) (args := #[.tmp 153, .tmp 154]) (ats := #[50, 3]) rfl (hef _) Try.func65 (by kernel_rfl) rfl).trans (by simp [f5, f6])) ((HTKE.out w' hpr).mono ?_)
                  rintro e w'' ⟨rfl, vz, hh⟩
                  exact ⟨rfl, ⟨fun h => by simp [hD'], by simpa [hD'] using hW.1.2⟩, by rw [if_neg (by simpa [hD'] using hn10), if_pos (by simp [hD'])]; exact ⟨_, hh⟩⟩
                | 8, _ =>
                  have p7 : D 7 = true := hpre ⟨7, .data⟩ (by simp) rfl
                  have f7 := hev 155
                  simp [p7] at f7
                  exact .value w' (by simp [go_sem, execOp, f7, hec, ewB]) (⟨⟨fun _ => by simpa [hD'] using p7, by simp [hD']⟩, by simpa [hD'] using hW.2⟩)
                | 9, _ =>
                  have p3 : D 3 = true := hpre ⟨3, .data⟩ (by simp) rfl
                  have p4 : D 4 = true := hpre ⟨4, .data⟩ (by simp) rfl
                  have f3 := hev 151
                  have f4 := hev 152
                  simp [p3, p4] at f3 f4
                  exact .value w' (by simp [go_sem, execOp, f3, f4, hjn]) (by simpa [hD'] using hW)
                | 10, _ =>
                  have p8 : D 8 = true := hpre ⟨8, .data⟩ (by simp) rfl
                  have p9 : D 9 = true := hpre ⟨9, .data⟩ (by simp) rfl
                  have f8 := hev 156
                  have f9 := hev 157
                  simp [p8, p9] at f8 f9
                  have p7 : D 7 = true := hW.1.1 p8
                  have hn10 : ¬ D 10 = true := by rw [show D 10 = false from hd]; simp
                  have hpr := hW.2
                  rw [if_neg hn10, if_pos p7] at hpr
                  obtain ⟨vz, hpr⟩ := hpr
                  obtain ⟨⟨⟨uu, cp⟩, cf⟩, hfin⟩ := HL6.out _ _ hpr
                  refine .skip (w'.setCell ⟨lb, j, none⟩ (.int .i64 ((cB : Int) + 1))) rfl (by simp [go_sem, execOp, f8, f9, cp, cf]) ⟨⟨by simpa [hD'] using hW.1.1, fun _ => by simpa [hD'] using p8⟩, ?_⟩
                  rw [if_pos (by simp [hD'])]
                  exact ⟨vz, hfin⟩
              · intro D w4 hall hW
                have hW := hW.2
                rw [if_pos (hall 10 (by decide))] at hW
                obtain ⟨vz, hW⟩ := hW
                have HSB := Lib.hid hW
                clear hW k4 kb k1 k2
                simp only [putAll, Act.put, List.getD_cons_zero, List.getD_cons_succ, Nat.reduceAdd, List.setIfInBounds_toArray, List.set_cons_succ, List.set_cons_zero]
                refine ‹∀ (a : Act) (w : World), _ → _› _ _ ?_
                go_upto_region 22 with fail
                obtain ⟨P, hPP⟩ : ∃ P, P = PT.P := ⟨_, rfl⟩
                obtain ⟨len, hlen2⟩ : ∃ len, len = (PT.B j).length := ⟨_, rfl⟩
                obtain ⟨M, hM⟩ : ∃ M, M = max P len := ⟨_, rfl⟩
                have HMM : Hid (∀ w', Calls Try.prog 66 #[.int .i64 (P : Int), .int .i64 (len : Int)] w' (RetV w' (.int .i64 (M : Int)))) := by
                  show ∀ _, _
                  intro w'
                  rw [hM]
                  exact HMO.out P len w'
                obtain ⟨VA, VC, hV⟩ := own_sliceI (HSB.out.rows j (by rw [← HN.out]; exact hjn))
                rw [← hlen2] at hV
                have HC1 : Hid (∀ (c : Ist) w', InS w0 w' x l p vz c → w'.cell? ⟨g, 4, none⟩ = some (.slice (some ⟨bb, 0, none⟩) n n) ∧ w'.cell? ⟨bb, j, none⟩ = some (.slice VA len VC)) := by
                  show ∀ _, _
                  intro c w' h
                  have a4 := h.run.cell 4
                  have ab := h.bufs.cell j
                  rw [rowI_at _ _ _ (by rw [← HN.out]; exact hjn), hV, ← HBB.out] at ab
                  rw [HG.out, HBB.out, HN.out]
                  exact ⟨by simpa using a4, by rw [← HBB.out]; exact ab⟩
                have HC2 : Hid (∀ w', InS w0 w' x l p vz PT → w'.cell? ⟨g, 8, none⟩ = some (.int .i64 (P : Int))) := by
                  show ∀ _, _
                  intro w' h
                  have a8 := h.run.cell 8
                  rw [HG.out, hPP]
                  simpa using a8
                have HC3 : Hid (∀ w', InS w0 w' x l p vz PT → ((∃ u, w'.cell? ⟨g, 8, none⟩ = some u) ∧ w'.frozen? ⟨g, 8, none⟩ = false) ∧ InS w0 (w'.setCell ⟨g, 8, none⟩ (.int .i64 (M : Int))) x l p vz (S (j + 1))) := by
                  show ∀ _, _
                  intro w' h
                  have a8 := h.run.cell 8
                  rw [HPE.out, HG.out, hM, hPP, hlen2]
                  exact ⟨⟨⟨_, by simpa using a8⟩, h.run.free 8⟩, h.setP HP.out (max PT.P (PT.B j).length)⟩
                clear hPP hlen2 hV hM
                refine wp_region_row (by kernel_rfl) (by kernel_rfl) 158 16 (by kernel_rfl) (by decide) (by simp) (fun i => [.pointer (some ⟨g, 0, none⟩), .pointer (some ⟨g, 0, none⟩), .pointer (some ⟨g, 0, none⟩), .pointer (some ⟨g, 8, none⟩), .int .i64 (P : Int), .pointer (some ⟨g, 0, none⟩), .pointer (some ⟨g, 0, none⟩), .pointer (some ⟨g, 4, none⟩), .slice (some ⟨bb, 0, none⟩) n n, .int .i64 (j : Int), .pointer (some ⟨bb, j, none⟩), .slice VA len VC, .int .i64 (len : Int), .int .i64 (M : Int), .pointer (some ⟨g, 0, none⟩), .pointer (some ⟨g, 8, none⟩)].getD i undef)
                  (fun D w' => ((D 16 = true → D 13 = true) ∧ (D 13 = true → D 4 = true)) ∧ (if D 16 = true then InS w0 w' x l p vz (S (j + 1)) else InS w0 w' x l p vz PT)) ?_ ?_ ?_
                · exact ⟨⟨fun h => by simp at h, fun h => by simp at h⟩, by rw [if_neg (by simp)]; exact HSB.out.step (Below.refl _ _).drew⟩
                · intro D D' ev w' i hi' hd hpre hD' hev hec hef hW
                  have e0 := hev 0
                  have e7 := hev 7
                  simp at e0 e7
                  have hi11 : i < 17 := hi'
                  match i, hi11 with
                  | 0, _ =>
                    exact .value w' (by simp [go_sem, execOp, e0]) (by simpa [hD'] using hW)
                  | 1, _ =>
                    exact .value w' (by simp [go_sem, execOp, e0]) (by simpa [hD'] using hW)
                  | 2, _ =>
                    have p1 : D 1 = true := hpre ⟨1, .data⟩ (by simp) rfl
                    have f1 := hev 159
                    simp [p1] at f1
                    exact .value w' (by simp [go_sem, execOp, f1]) (by simpa [hD'] using hW)
                  | 3, _ =>
                    have p2 : D 2 = true := hpre ⟨2, .data⟩ (by simp) rfl
                    have f2 := hev 160
                    simp [p2] at f2
                    exact .value w' (by simp [go_sem, execOp, f2]) (by simpa [hD'] using hW)
                  | 4, _ =>
                    have p3 : D 3 = true := hpre ⟨3, .data⟩ (by simp) rfl
                    have f3 := hev 161
                    simp [p3] at f3
                    have hn13 : ¬ D 13 = true := fun h => by have := hW.1.2 h; rw [show D 4 = false from hd] at this; cases this
                    have hn16 : ¬ D 16 = true := fun h => hn13 (hW.1.1 h)
                    have h2 := hW.2
                    rw [if_neg hn16] at h2
                    have cp := HC2.out _ h2
                    exact .value w' (by simp [go_sem, execOp, f3, cp]) (⟨⟨by simpa [hD'] using hW.1.1, fun _ => by simp [hD']⟩, by rw [if_neg (by simpa [hD'] using hn16)]; exact h2⟩)
                  | 5, _ =>
                    exact .value w' (by simp [go_sem, execOp, e0]) (by simpa [hD'] using hW)
                  | 6, _ =>
                    have p5 : D 5 = true := hpre ⟨5, .data⟩ (by simp) rfl
                    have f5 := hev 163
                    simp [p5] at f5
                    exact .value w' (by simp [go_sem, execOp, f5]) (by simpa [hD'] using hW)
                  | 7, _ =>
                    have p6 : D 6 = true := hpre ⟨6, .data⟩ (by simp) rfl
                    have f6 := hev 164
                    simp [p6] at f6
                    exact .value w' (by simp [go_sem, execOp, f6]) (by simpa [hD'] using hW)
                  | 8, _ =>
                    have p7 : D 7 = true := hpre ⟨7, .data⟩ (by simp) rfl
                    have f7 := hev 165
                    simp [p7] at f7
                    obtain ⟨c4, cb⟩ : w'.cell? ⟨g, 4, none⟩ = some (.slice (some ⟨bb, 0, none⟩) n n) ∧ w'.cell? ⟨bb, j, none⟩ = some (.slice VA len VC) := by
                      have h2 := hW.2
                      by_cases h : D 16 = true
                      · rw [if_pos h] at h2; exact HC1.out _ _ h2
                      · rw [if_neg h] at h2; exact HC1.out _ _ h2
                    exact .value w' (by simp [go_sem, execOp, f7, c4]) (by simpa [hD'] using hW)
                  | 9, _ =>
                    exact .value w' (by simp [go_sem, execOp, e7]) (by simpa [hD'] using hW)
                  | 10, _ =>
                    have p8 : D 8 = true := hpre ⟨8, .data⟩ (by simp) rfl
                    have p9 : D 9 = true := hpre ⟨9, .data⟩ (by simp) rfl
                    have f8 := hev 166
                    have f9 := hev 167
                    simp [p8, p9] at f8 f9
                    exact .value w' (by simp [go_sem, execOp, f8, f9, hjn]) (by simpa [hD'] using hW)
                  | 11, _ =>
                    have p10 : D 10 = true := hpre ⟨10, .data⟩ (by simp) rfl
                    have f10 := hev 168
                    simp [p10] at f10
                    obtain ⟨c4, cb⟩ : w'.cell? ⟨g, 4, none⟩ = some (.slice (some ⟨bb, 0, none⟩) n n) ∧ w'.cell? ⟨bb, j, none⟩ = some (.slice VA len VC) := by
                      have h2 := hW.2
                      by_cases h : D 16 = true
                      · rw [if_pos h] at h2; exact HC1.out _ _ h2
                      · rw [if_neg h] at h2; exact HC1.out _ _ h2
                    exact .value w' (by simp [go_sem, execOp, f10, cb]) (by simpa [hD'] using hW)
                  | 12, _ =>
                    have p11 : D 11 = true := hpre ⟨11, .data⟩ (by simp) rfl
                    have f11 := hev 169
                    simp [p11] at f11
                    exact .value w' (by simp [go_sem, execOp, f11]) (by simpa [hD'] using hW)
                  | 13, _ =>
                    have p4 : D 4 = true := hpre ⟨4, .data⟩ (by simp) rfl
                    have p12 : D 12 = true := hpre ⟨12, .data⟩ (by simp) rfl
                    have f4 := hev 162
                    have f12 := hev 170
                    simp [p4, p12] at f4 f12
                    refine .call 66 #[.int .i64 (P : Int), .int .i64 (len : Int)] w' ((run_call_any (f := 66) (ρ := ev) (args := #[.tmp 162, .tmp 170]) (ats := #[3, 3]) rfl (hef _) Try.func66 (by kernel_rfl) rfl).trans (by simp [f4, f12])) ((HMM.out w').mono ?_)
                    rintro e w'' ⟨rfl, hb''⟩
                    refine ⟨rfl, ⟨fun _ => by simp [hD'], fun _ => by simpa [hD'] using p4⟩, ?_⟩
                    have h2 := hW.2
                    by_cases h : D 16 = true
                    · rw [if_pos h] at h2; rw [if_pos (by simpa [hD'] using h)]; exact h2.step hb''
                    · rw [if_neg h] at h2; rw [if_neg (by simpa [hD'] using h)]; exact h2.step hb''
                  | 14, _ =>
                    have p0 : D 0 = true := hpre ⟨0, .data⟩ (by simp) rfl
                    have f0 := hev 158
                    simp [p0] at f0
                    exact .value w' (by simp [go_sem, execOp, f0]) (by simpa [hD'] using hW)
                  | 15, _ =>
                    have p14 : D 14 = true := hpre ⟨14, .data⟩ (by simp) rfl
                    have f14 := hev 172
                    simp [p14] at f14
                    exact .value w' (by simp [go_sem, execOp, f14]) (by simpa [hD'] using hW)
                  | 16, _ =>
                    have p13 : D 13 = true := hpre ⟨13, .data⟩ (by simp) rfl
                    have p15 : D 15 = true := hpre ⟨15, .data⟩ (by simp) rfl
                    have f13 := hev 171
                    have f15 := hev 173
                    simp [p13, p15] at f13 f15
                    have hn16 : ¬ D 16 = true := by rw [show D 16 = false from hd]; simp
                    have h2 := hW.2
                    rw [if_neg hn16] at h2
                    obtain ⟨⟨⟨uu, cp⟩, cf⟩, hfin⟩ := HC3.out _ h2
                    refine .skip (w'.setCell ⟨g, 8, none⟩ (.int .i64 (M : Int))) rfl (by simp [go_sem, execOp, f13, f15, cp, cf]) ⟨⟨fun _ => by simpa [hD'] using p13, by simpa [hD'] using hW.1.2⟩, ?_⟩
                    rw [if_pos (by simp [hD'])]
                    exact hfin
                  | i + 17, h => exact absurd h (by omega)
                · intro D w' hall hW
                  have hW := hW.2
                  rw [if_pos (hall 16 (by decide))] at hW
                  have HW8 := Lib.hid hW
                  clear hW
                  simp only [putAll, Act.put, List.getD_cons_zero, List.getD_cons_succ, Nat.reduceAdd, List.setIfInBounds_toArray, List.set_cons_succ, List.set_cons_zero, Exit.then, Exit.inBlock]
                  refine ‹∀ (a : Act) (w : World), _ → _› _ _ ?_
                  go_wp2_with fail
                  go_roundw
                  case rel => exact ⟨j + 1, _, by omega, by go_num, HW8.out⟩
                  case measure => simp [intOf]; omega
          | some c =>
            simp only at hPU
            simp only [ownI] at HOW
            have hcl := hNX c rfl
            have hcI : (c : Int) < (l.length : Int) := by omega
            have hc0 : (0 : Int) ≤ (c : Int) := by omega
            by_cases hl0 : len = 0
            · rw [if_pos (by have := HRX.out.1; omega)] at hPU
              have hl0B : ((len : Int) == 0) = true := by simpa using hl0
              clear hl0
              have HPU := Lib.hid hPU
              clear hPU
              go_wp2_with fail
              rw [HW1.out.symm]
              refine HOW.out.mono ?_; rintro e w2 ⟨rfl, hb2⟩
              have HS2 := Lib.hid (HS1.out.step hb2)
              obtain ⟨k4, kb, k1, k2⟩ := HROW.out _ HS2.out
              clear hb2 HOW c4 c5 r0 r1
              obtain ⟨cc, hvi, hrc⟩ := HS2.out.ins.at_ c (by rw [tabl_len]; exact hcl)
              have x6 := HS2.out.run.cell 6
              rw [tabl_len] at hvi
              rw [hvi, ← HG.out] at x6
              have s0 := hrc.cell c (by rw [tabl_len]; exact hcl)
              have s1 := hrc.free c
              simp only [List.getElem?_toArray, List.getElem?_cons_zero, List.getElem?_cons_succ] at x6
              obtain ⟨ib, hib⟩ : ∃ ib, ib = p.ib := ⟨_, rfl⟩
              rw [← hib] at x6 s0 s1
              have h3 := HS2.out.setI HP.out hcl t
              rw [← hib] at h3
              have k5 := (HRUN.out _ _ _ h3).2.2.1
              have t0 := h3.links.cell j (by rw [tabl_len]; exact hjx)
              have t1 := h3.links.free j
              rw [← HLB.out] at t0 t1
              have h4 := h3.setL HP.out j (c + 1)
              rw [← HLB.out] at h4
              have ewc : IntKind.i64.wrap ((c : Int) + 1) = (c : Int) + 1 := IntWalk.i64_in _ (by omega)
              rw [show ((c + 1 : Nat) : Int) = (c : Int) + 1 by omega] at h4
              have HSB : Hid (InS w0 ((w2.setCell ⟨ib, c, none⟩ (.int .i64 (t : Nat))).setCell ⟨lb, j, none⟩ (.int .i64 ((c : Int) + 1))) x l p vy PT) := by
                show InS _ _ _ _ _ _ _
                rw [HPU.out]
                have e := HUU.out (c + 1)
                have hb := HB0.out
                rw [hb] at h4 e ⊢
                simp only at h4 e ⊢
                rw [e] at h4
                exact h4
              clear h3 h4 hvi hrc hib HPU HS2
              go_upto_region 22 with fail
              generalize (w2.setCell ⟨ib, c, none⟩ (.int .i64 (t : Nat))).setCell ⟨lb, j, none⟩ (.int .i64 ((c : Int) + 1)) = w4 at *
              clear s0 s1 t0 t1 k5 x6 k4 kb k1 k2 ewc
              obtain ⟨vz, hvz⟩ : ∃ vz, vz = vy := ⟨_, rfl⟩
              rw [← hvz] at HSB
              clear hvz
              obtain ⟨P, hPP⟩ : ∃ P, P = PT.P := ⟨_, rfl⟩
              obtain ⟨len, hlen2⟩ : ∃ len, len = (PT.B j).length := ⟨_, rfl⟩
              obtain ⟨M, hM⟩ : ∃ M, M = max P len := ⟨_, rfl⟩
              have HMM : Hid (∀ w', Calls Try.prog 66 #[.int .i64 (P : Int), .int .i64 (len : Int)] w' (RetV w' (.int .i64 (M : Int)))) := by
                show ∀ _, _
                intro w'
                rw [hM]
                exact HMO.out P len w'
              obtain ⟨VA, VC, hV⟩ := own_sliceI (HSB.out.rows j (by rw [← HN.out]; exact hjn))
              rw [← hlen2] at hV
              have HC1 : Hid (∀ (c : Ist) w', InS w0 w' x l p vz c → w'.cell? ⟨g, 4, none⟩ = some (.slice (some ⟨bb, 0, none⟩) n n) ∧ w'.cell? ⟨bb, j, none⟩ = some (.slice VA len VC)) := by
                show ∀ _, _
                intro c w' h
                have a4 := h.run.cell 4
                have ab := h.bufs.cell j
                rw [rowI_at _ _ _ (by rw [← HN.out]; exact hjn), hV, ← HBB.out] at ab
                rw [HG.out, HBB.out, HN.out]
                exact ⟨by simpa using a4, by rw [← HBB.out]; exact ab⟩
              have HC2 : Hid (∀ w', InS w0 w' x l p vz PT → w'.cell? ⟨g, 8, none⟩ = some (.int .i64 (P : Int))) := by
                show ∀ _, _
                intro w' h
                have a8 := h.run.cell 8
                rw [HG.out, hPP]
                simpa using a8
              have HC3 : Hid (∀ w', InS w0 w' x l p vz PT → ((∃ u, w'.cell? ⟨g, 8, none⟩ = some u) ∧ w'.frozen? ⟨g, 8, none⟩ = false) ∧ InS w0 (w'.setCell ⟨g, 8, none⟩ (.int .i64 (M : Int))) x l p vz (S (j + 1))) := by
                show ∀ _, _
                intro w' h
                have a8 := h.run.cell 8
                rw [HPE.out, HG.out, hM, hPP, hlen2]
                exact ⟨⟨⟨_, by simpa using a8⟩, h.run.free 8⟩, h.setP HP.out (max PT.P (PT.B j).length)⟩
              clear hPP hlen2 hV hM
              refine wp_region_row (by kernel_rfl) (by kernel_rfl) 158 16 (by kernel_rfl) (by decide) (by simp) (fun i => [.pointer (some ⟨g, 0, none⟩), .pointer (some ⟨g, 0, none⟩), .pointer (some ⟨g, 0, none⟩), .pointer (some ⟨g, 8, none⟩), .int .i64 (P : Int), .pointer (some ⟨g, 0, none⟩), .pointer (some ⟨g, 0, none⟩), .pointer (some ⟨g, 4, none⟩), .slice (some ⟨bb, 0, none⟩) n n, .int .i64 (j : Int), .pointer (some ⟨bb, j, none⟩), .slice VA len VC, .int .i64 (len : Int), .int .i64 (M : Int), .pointer (some ⟨g, 0, none⟩), .pointer (some ⟨g, 8, none⟩)].getD i undef)
                (fun D w' => ((D 16 = true → D 13 = true) ∧ (D 13 = true → D 4 = true)) ∧ (if D 16 = true then InS w0 w' x l p vz (S (j + 1)) else InS w0 w' x l p vz PT)) ?_ ?_ ?_
              · exact ⟨⟨fun h => by simp at h, fun h => by simp at h⟩, by rw [if_neg (by simp)]; exact HSB.out.step (Below.refl _ _).drew⟩
              · intro D D' ev w' i hi' hd hpre hD' hev hec hef hW
                have e0 := hev 0
                have e7 := hev 7
                simp at e0 e7
                have hi11 : i < 17 := hi'
                match i, hi11 with
                | 0, _ =>
                  exact .value w' (by simp [go_sem, execOp, e0]) (by simpa [hD'] using hW)
                | 1, _ =>
                  exact .value w' (by simp [go_sem, execOp, e0]) (by simpa [hD'] using hW)
                | 2, _ =>
                  have p1 : D 1 = true := hpre ⟨1, .data⟩ (by simp) rfl
                  have f1 := hev 159
                  simp [p1] at f1
                  exact .value w' (by simp [go_sem, execOp, f1]) (by simpa [hD'] using hW)
                | 3, _ =>
                  have p2 : D 2 = true := hpre ⟨2, .data⟩ (by simp) rfl
                  have f2 := hev 160
                  simp [p2] at f2
                  exact .value w' (by simp [go_sem, execOp, f2]) (by simpa [hD'] using hW)
                | 4, _ =>
                  have p3 : D 3 = true := hpre ⟨3, .data⟩ (by simp) rfl
                  have f3 := hev 161
                  simp [p3] at f3
                  have hn13 : ¬ D 13 = true := fun h => by have := hW.1.2 h; rw [show D 4 = false from hd] at this; cases this
                  have hn16 : ¬ D 16 = true := fun h => hn13 (hW.1.1 h)
                  have h2 := hW.2
                  rw [if_neg hn16] at h2
                  have cp := HC2.out _ h2
                  exact .value w' (by simp [go_sem, execOp, f3, cp]) (⟨⟨by simpa [hD'] using hW.1.1, fun _ => by simp [hD']⟩, by rw [if_neg (by simpa [hD'] using hn16)]; exact h2⟩)
                | 5, _ =>
                  exact .value w' (by simp [go_sem, execOp, e0]) (by simpa [hD'] using hW)
                | 6, _ =>
                  have p5 : D 5 = true := hpre ⟨5, .data⟩ (by simp) rfl
                  have f5 := hev 163
                  simp [p5] at f5
                  exact .value w' (by simp [go_sem, execOp, f5]) (by simpa [hD'] using hW)
                | 7, _ =>
                  have p6 : D 6 = true := hpre ⟨6, .data⟩ (by simp) rfl
                  have f6 := hev 164
                  simp [p6] at f6
                  exact .value w' (by simp [go_sem, execOp, f6]) (by simpa [hD'] using hW)
                | 8, _ =>
                  have p7 : D 7 = true := hpre ⟨7, .data⟩ (by simp) rfl
                  have f7 := hev 165
                  simp [p7] at f7
                  obtain ⟨c4, cb⟩ : w'.cell? ⟨g, 4, none⟩ = some (.slice (some ⟨bb, 0, none⟩) n n) ∧ w'.cell? ⟨bb, j, none⟩ = some (.slice VA len VC) := by
                    have h2 := hW.2
                    by_cases h : D 16 = true
                    · rw [if_pos h] at h2; exact HC1.out _ _ h2
                    · rw [if_neg h] at h2; exact HC1.out _ _ h2
                  exact .value w' (by simp [go_sem, execOp, f7, c4]) (by simpa [hD'] using hW)
                | 9, _ =>
                  exact .value w' (by simp [go_sem, execOp, e7]) (by simpa [hD'] using hW)
                | 10, _ =>
                  have p8 : D 8 = true := hpre ⟨8, .data⟩ (by simp) rfl
                  have p9 : D 9 = true := hpre ⟨9, .data⟩ (by simp) rfl
                  have f8 := hev 166
                  have f9 := hev 167
                  simp [p8, p9] at f8 f9
                  exact .value w' (by simp [go_sem, execOp, f8, f9, hjn]) (by simpa [hD'] using hW)
                | 11, _ =>
                  have p10 : D 10 = true := hpre ⟨10, .data⟩ (by simp) rfl
                  have f10 := hev 168
                  simp [p10] at f10
                  obtain ⟨c4, cb⟩ : w'.cell? ⟨g, 4, none⟩ = some (.slice (some ⟨bb, 0, none⟩) n n) ∧ w'.cell? ⟨bb, j, none⟩ = some (.slice VA len VC) := by
                    have h2 := hW.2
                    by_cases h : D 16 = true
                    · rw [if_pos h] at h2; exact HC1.out _ _ h2
                    · rw [if_neg h] at h2; exact HC1.out _ _ h2
                  exact .value w' (by simp [go_sem, execOp, f10, cb]) (by simpa [hD'] using hW)
                | 12, _ =>
                  have p11 : D 11 = true := hpre ⟨11, .data⟩ (by simp) rfl
                  have f11 := hev 169
                  simp [p11] at f11
                  exact .value w' (by simp [go_sem, execOp, f11]) (by simpa [hD'] using hW)
                | 13, _ =>
                  have p4 : D 4 = true := hpre ⟨4, .data⟩ (by simp) rfl
                  have p12 : D 12 = true := hpre ⟨12, .data⟩ (by simp) rfl
                  have f4 := hev 162
                  have f12 := hev 170
                  simp [p4, p12] at f4 f12
                  refine .call 66 #[.int .i64 (P : Int), .int .i64 (len : Int)] w' ((run_call_any (f := 66) (ρ := ev) (args := #[.tmp 162, .tmp 170]) (ats := #[3, 3]) rfl (hef _) Try.func66 (by kernel_rfl) rfl).trans (by simp [f4, f12])) ((HMM.out w').mono ?_)
                  rintro e w'' ⟨rfl, hb''⟩
                  refine ⟨rfl, ⟨fun _ => by simp [hD'], fun _ => by simpa [hD'] using p4⟩, ?_⟩
                  have h2 := hW.2
                  by_cases h : D 16 = true
                  · rw [if_pos h] at h2; rw [if_pos (by simpa [hD'] using h)]; exact h2.step hb''
                  · rw [if_neg h] at h2; rw [if_neg (by simpa [hD'] using h)]; exact h2.step hb''
                | 14, _ =>
                  have p0 : D 0 = true := hpre ⟨0, .data⟩ (by simp) rfl
                  have f0 := hev 158
                  simp [p0] at f0
                  exact .value w' (by simp [go_sem, execOp, f0]) (by simpa [hD'] using hW)
                | 15, _ =>
                  have p14 : D 14 = true := hpre ⟨14, .data⟩ (by simp) rfl
                  have f14 := hev 172
                  simp [p14] at f14
                  exact .value w' (by simp [go_sem, execOp, f14]) (by simpa [hD'] using hW)
                | 16, _ =>
                  have p13 : D 13 = true := hpre ⟨13, .data⟩ (by simp) rfl
                  have p15 : D 15 = true := hpre ⟨15, .data⟩ (by simp) rfl
                  have f13 := hev 171
                  have f15 := hev 173
                  simp [p13, p15] at f13 f15
                  have hn16 : ¬ D 16 = true := by rw [show D 16 = false from hd]; simp
                  have h2 := hW.2
                  rw [if_neg hn16] at h2
                  obtain ⟨⟨⟨uu, cp⟩, cf⟩, hfin⟩ := HC3.out _ h2
                  refine .skip (w'.setCell ⟨g, 8, none⟩ (.int .i64 (M : Int))) rfl (by simp [go_sem, execOp, f13, f15, cp, cf]) ⟨⟨fun _ => by simpa [hD'] using p13, by simpa [hD'] using hW.1.2⟩, ?_⟩
                  rw [if_pos (by simp [hD'])]
                  exact hfin
                | i + 17, h => exact absurd h (by omega)
              · intro D w' hall hW
                have hW := hW.2
                rw [if_pos (hall 16 (by decide))] at hW
                have HW8 := Lib.hid hW
                clear hW
                simp only [putAll, Act.put, List.getD_cons_zero, List.getD_cons_succ, Nat.reduceAdd, List.setIfInBounds_toArray, List.set_cons_succ, List.set_cons_zero, Exit.then, Exit.inBlock]
                refine ‹∀ (a : Act) (w : World), _ → _› _ _ ?_
                go_wp2_with fail
                go_roundw
                case rel => exact ⟨j + 1, _, by omega, by go_num, HW8.out⟩
                case measure => simp [intOf]; omega
            · have hl0I : (0 : Int) < (len : Int) := by omega
              have hl0B : ((len : Int) == 0) = false := by simpa using hl0
              cases hh : x.h with
              | false =>
                rw [hh] at HROW HRX
                rw [if_neg (by have := HRX.out.2; simp at this; omega)] at hPU
                have HPU := Lib.hid hPU
                clear hPU
                go_wp2_with fail
                rw [HW1.out.symm]
                refine HOW.out.mono ?_; rintro e w2 ⟨rfl, hb2⟩
                have HS2 := Lib.hid (HS1.out.step hb2)
                obtain ⟨k4, kb, k1, k2⟩ := HROW.out _ HS2.out
                clear hb2 HOW c4 c5 r0 r1
                obtain ⟨cB, rB, hBc⟩ : ∃ cB rB, B0.B j = cB :: rB := by
                  cases hh : B0.B j with
                  | nil => have hlen := HLE.out; rw [hh] at hlen; simp at hlen; omega
                  | cons cB rB => exact ⟨cB, rB, rfl⟩
                have hcB := hmem cB (by rw [hBc]; simp)
                have hrB : rB.length ≤ 1000 := by have hlen := HLE.out; rw [hBc] at hlen; simp at hlen; omega
                have ewB : IntKind.i64.wrap ((cB : Int) + 1) = (cB : Int) + 1 := IntWalk.i64_in _ (by omega)
                have HTKE : Hid (∀ w', InS w0 w' x l p vy B0 → Calls Try.prog 65 #[.pointer (some ⟨g, 0, none⟩), .int .i64 (j : Int)] w' (TakeP w0 x l p vy B0 j cB rB)) := by
                  show ∀ _, _
                  intro w' h
                  rw [HG.out]
                  exact HTK.out w' vy B0 j cB rB h hjx hBc hrB
                have HL5 : Hid (∀ v b w', InS w0 w' x l p v b → w'.cell? ⟨g, 5, none⟩ = some (.slice (some ⟨lb, 0, none⟩) n n)) := by
                  show ∀ _, _
                  intro v b w' h
                  exact (HRUN.out _ _ _ h).2.2.1
                have HL6 : Hid (∀ v w', InS w0 w' x l p v { B0 with B := up B0.B j rB } → ((∃ u, w'.cell? ⟨lb, j, none⟩ = some u) ∧ w'.frozen? ⟨lb, j, none⟩ = false) ∧ InS w0 (w'.setCell ⟨lb, j, none⟩ (.int .i64 ((cB : Int) + 1))) x l p v PT) := by
                  show ∀ _, _
                  intro v w' h
                  have t0 := h.links.cell j (by rw [tabl_len]; exact hjx)
                  have h4 := h.setL HP.out j (cB + 1)
                  rw [show ((cB + 1 : Nat) : Int) = (cB : Int) + 1 by omega] at h4
                  rw [HLB.out]
                  refine ⟨⟨⟨_, t0⟩, h.links.free j⟩, ?_⟩
                  rw [HPU.out]
                  have e := HUU.out (cB + 1)
                  have hb := HB0.out
                  rw [hb] at h4 e hBc
                  simp only at h4 e hBc
                  rw [e] at h4
                  unfold Iw.pass
                  rw [hBc]
                  exact h4
                have HSY := HS2
                clear HPU hBc
                go_upto_region 21 with fail
                refine wp_region_row (by kernel_rfl) (by kernel_rfl) 148 10 (by kernel_rfl) (by decide) (by simp) (fun i => [.pointer (some ⟨g, 0, none⟩), .pointer (some ⟨g, 0, none⟩), .pointer (some ⟨g, 5, none⟩), .slice (some ⟨lb, 0, none⟩) n n, .int .i64 (j : Int), .pointer (some ⟨g, 0, none⟩), .int .i64 (j : Int), .int .i64 (cB : Int), .int .i64 ((cB : Int) + 1), .pointer (some ⟨lb, j, none⟩)].getD i undef)
                  (fun D w' => ((D 8 = true → D 7 = true) ∧ (D 10 = true → D 8 = true)) ∧ (if D 10 = true then ∃ vz, InS w0 w' x l p vz PT else if D 7 = true then ∃ vz, InS w0 w' x l p vz { B0 with B := up B0.B j rB } else InS w0 w' x l p vy B0)) ?_ ?_ ?_
                · exact ⟨⟨fun h => by simp at h, fun h => by simp at h⟩, by rw [if_neg (by simp), if_neg (by simp)]; exact HSY.out.step (Below.refl _ _).drew⟩
                · intro D D' ev w' i hi' hd hpre hD' hev hec hef hW
                  have e0 := hev 0
                  have e7 := hev 7
                  simp at e0 e7
                  have hi11 : i < 11 := hi'
                  match i, hi11 with
                  | 0, _ =>
                    exact .value w' (by simp [go_sem, execOp, e0]) (by simpa [hD'] using hW)
                  | 1, _ =>
                    have p0 : D 0 = true := hpre ⟨0, .data⟩ (by simp) rfl
                    have f0 := hev 148
                    simp [p0] at f0
                    exact .value w' (by simp [go_sem, execOp, f0]) (by simpa [hD'] using hW)
                  | 2, _ =>
                    have p1 : D 1 = true := hpre ⟨1, .data⟩ (by simp) rfl
                    have f1 := hev 149
                    simp [p1] at f1
                    exact .value w' (by simp [go_sem, execOp, f1]) (by simpa [hD'] using hW)
                  | 3, _ =>
                    have p2 : D 2 = true := hpre ⟨2, .data⟩ (by simp) rfl
                    have f2 := hev 150
                    simp [p2] at f2
                    have c5 : w'.cell? ⟨g, 5, none⟩ = some (.slice (some ⟨lb, 0, none⟩) n n) := by
                      have h2 := hW.2
                      by_cases h : D 10 = true
                      · rw [if_pos h] at h2; obtain ⟨vz, h2⟩ := h2; exact HL5.out _ _ _ h2
                      · rw [if_neg h] at h2
                        by_cases h7 : D 7 = true
                        · rw [if_pos h7] at h2; obtain ⟨vz, h2⟩ := h2; exact HL5.out _ _ _ h2
                        · rw [if_neg h7] at h2; exact HL5.out _ _ _ h2
                    exact .value w' (by simp [go_sem, execOp, f2, c5]) (by simpa [hD'] using hW)
                  | 4, _ =>
                    exact .value w' (by simp [go_sem, execOp, e7]) (by simpa [hD'] using hW)
                  | 5, _ =>
                    exact .value w' (by simp [go_sem, execOp, e0]) (by simpa [hD'] using hW)
                  | 6, _ =>
                    exact .value w' (by simp [go_sem, execOp, e7]) (by simpa [hD'] using hW)
                  | 7, _ =>
                    have p5 : D 5 = true := hpre ⟨5, .data⟩ (by simp) rfl
                    have p6 : D 6 = true := hpre ⟨6, .data⟩ (by simp) rfl
                    have f5 := hev 153
                    have f6 := hev 154
                    simp [p5, p6] at f5 f6
                    have hd7 : D 7 = false := hd
                    have hn8 : ¬ D 8 = true := fun h => by have := hW.1.1 h; rw [hd7] at this; cases this
                    have hn10 : ¬ D 10 = true := fun h => hn8 (hW.1.2 h)
                    have hpr := hW.2
                    rw [if_neg hn10, if_neg (by rw [hd7]; simp)] at hpr
                    refine .call 65 #[.pointer (some ⟨g, 0, none⟩), .int .i64 (j : Int)] w' ((run_call_any (f := 65) (ρ := ev) (args := #[.tmp 153, .tmp 154]) (ats := #[50, 3]) rfl (hef _) Try.func65 (by kernel_rfl) rfl).trans (by simp [f5, f6])) ((HTKE.out w' hpr).mono ?_)
                    rintro e w'' ⟨rfl, vz, hh⟩
                    exact ⟨rfl, ⟨fun h => by simp [hD'], by simpa [hD'] using hW.1.2⟩, by rw [if_neg (by simpa [hD'] using hn10), if_pos (by simp [hD'])]; exact ⟨_, hh⟩⟩
                  | 8, _ =>
                    have p7 : D 7 = true := hpre ⟨7, .data⟩ (by simp) rfl
                    have f7 := hev 155
                    simp [p7] at f7
                    exact .value w' (by simp [go_sem, execOp, f7, hec, ewB]) (⟨⟨fun _ => by simpa [hD'] using p7, by simp [hD']⟩, by simpa [hD'] using hW.2⟩)
                  | 9, _ =>
                    have p3 : D 3 = true := hpre ⟨3, .data⟩ (by simp) rfl
                    have p4 : D 4 = true := hpre ⟨4, .data⟩ (by simp) rfl
                    have f3 := hev 151
                    have f4 := hev 152
                    simp [p3, p4] at f3 f4
                    exact .value w' (by simp [go_sem, execOp, f3, f4, hjn]) (by simpa [hD'] using hW)
                  | 10, _ =>
                    have p8 : D 8 = true := hpre ⟨8, .data⟩ (by simp) rfl
                    have p9 : D 9 = true := hpre ⟨9, .data⟩ (by simp) rfl
                    have f8 := hev 156
                    have f9 := hev 157
                    simp [p8, p9] at f8 f9
                    have p7 : D 7 = true := hW.1.1 p8
                    have hn10 : ¬ D 10 = true := by rw [show D 10 = false from hd]; simp
                    have hpr := hW.2
                    rw [if_neg hn10, if_pos p7] at hpr
                    obtain ⟨vz, hpr⟩ := hpr
                    obtain ⟨⟨⟨uu, cp⟩, cf⟩, hfin⟩ := HL6.out _ _ hpr
                    refine .skip (w'.setCell ⟨lb, j, none⟩ (.int .i64 ((cB : Int) + 1))) rfl (by simp [go_sem, execOp, f8, f9, cp, cf]) ⟨⟨by simpa [hD'] using hW.1.1, fun _ => by simpa [hD'] using p8⟩, ?_⟩
                    rw [if_pos (by simp [hD'])]
                    exact ⟨vz, hfin⟩
                · intro D w4 hall hW
                  have hW := hW.2
                  rw [if_pos (hall 10 (by decide))] at hW
                  obtain ⟨vz, hW⟩ := hW
                  have HSB := Lib.hid hW
                  clear hW k4 kb k1 k2
                  simp only [putAll, Act.put, List.getD_cons_zero, List.getD_cons_succ, Nat.reduceAdd, List.setIfInBounds_toArray, List.set_cons_succ, List.set_cons_zero]
                  refine ‹∀ (a : Act) (w : World), _ → _› _ _ ?_
                  go_upto_region 22 with fail
                  obtain ⟨P, hPP⟩ : ∃ P, P = PT.P := ⟨_, rfl⟩
                  obtain ⟨len, hlen2⟩ : ∃ len, len = (PT.B j).length := ⟨_, rfl⟩
                  obtain ⟨M, hM⟩ : ∃ M, M = max P len := ⟨_, rfl⟩
                  have HMM : Hid (∀ w', Calls Try.prog 66 #[.int .i64 (P : Int), .int .i64 (len : Int)] w' (RetV w' (.int .i64 (M : Int)))) := by
                    show ∀ _, _
                    intro w'
                    rw [hM]
                    exact HMO.out P len w'
                  obtain ⟨VA, VC, hV⟩ := own_sliceI (HSB.out.rows j (by rw [← HN.out]; exact hjn))
                  rw [← hlen2] at hV
                  have HC1 : Hid (∀ (c : Ist) w', InS w0 w' x l p vz c → w'.cell? ⟨g, 4, none⟩ = some (.slice (some ⟨bb, 0, none⟩) n n) ∧ w'.cell? ⟨bb, j, none⟩ = some (.slice VA len VC)) := by
                    show ∀ _, _
                    intro c w' h
                    have a4 := h.run.cell 4
                    have ab := h.bufs.cell j
                    rw [rowI_at _ _ _ (by rw [← HN.out]; exact hjn), hV, ← HBB.out] at ab
                    rw [HG.out, HBB.out, HN.out]
                    exact ⟨by simpa using a4, by rw [← HBB.out]; exact ab⟩
                  have HC2 : Hid (∀ w', InS w0 w' x l p vz PT → w'.cell? ⟨g, 8, none⟩ = some (.int .i64 (P : Int))) := by
                    show ∀ _, _
                    intro w' h
                    have a8 := h.run.cell 8
                    rw [HG.out, hPP]
                    simpa using a8
                  have HC3 : Hid (∀ w', InS w0 w' x l p vz PT → ((∃ u, w'.cell? ⟨g, 8, none⟩ = some u) ∧ w'.frozen? ⟨g, 8, none⟩ = false) ∧ InS w0 (w'.setCell ⟨g, 8, none⟩ (.int .i64 (M : Int))) x l p vz (S (j + 1))) := by
                    show ∀ _, _
                    intro w' h
                    have a8 := h.run.cell 8
                    rw [HPE.out, HG.out, hM, hPP, hlen2]
                    exact ⟨⟨⟨_, by simpa using a8⟩, h.run.free 8⟩, h.setP HP.out (max PT.P (PT.B j).length)⟩
                  clear hPP hlen2 hV hM
                  refine wp_region_row (by kernel_rfl) (by kernel_rfl) 158 16 (by kernel_rfl) (by decide) (by simp) (fun i => [.pointer (some ⟨g, 0, none⟩), .pointer (some ⟨g, 0, none⟩), .pointer (some ⟨g, 0, none⟩), .pointer (some ⟨g, 8, none⟩), .int .i64 (P : Int), .pointer (some ⟨g, 0, none⟩), .pointer (some ⟨g, 0, none⟩), .pointer (some ⟨g, 4, none⟩), .slice (some ⟨bb, 0, none⟩) n n, .int .i64 (j : Int), .pointer (some ⟨bb, j, none⟩), .slice VA len VC, .int .i64 (len : Int), .int .i64 (M : Int), .pointer (some ⟨g, 0, none⟩), .pointer (some ⟨g, 8, none⟩)].getD i undef)
                    (fun D w' => ((D 16 = true → D 13 = true) ∧ (D 13 = true → D 4 = true)) ∧ (if D 16 = true then InS w0 w' x l p vz (S (j + 1)) else InS w0 w' x l p vz PT)) ?_ ?_ ?_
                  · exact ⟨⟨fun h => by simp at h, fun h => by simp at h⟩, by rw [if_neg (by simp)]; exact HSB.out.step (Below.refl _ _).drew⟩
                  · intro D D' ev w' i hi' hd hpre hD' hev hec hef hW
                    have e0 := hev 0
                    have e7 := hev 7
                    simp at e0 e7
                    have hi11 : i < 17 := hi'
                    match i, hi11 with
                    | 0, _ =>
                      exact .value w' (by simp [go_sem, execOp, e0]) (by simpa [hD'] using hW)
                    | 1, _ =>
                      exact .value w' (by simp [go_sem, execOp, e0]) (by simpa [hD'] using hW)
                    | 2, _ =>
                      have p1 : D 1 = true := hpre ⟨1, .data⟩ (by simp) rfl
                      have f1 := hev 159
                      simp [p1] at f1
                      exact .value w' (by simp [go_sem, execOp, f1]) (by simpa [hD'] using hW)
                    | 3, _ =>
                      have p2 : D 2 = true := hpre ⟨2, .data⟩ (by simp) rfl
                      have f2 := hev 160
                      simp [p2] at f2
                      exact .value w' (by simp [go_sem, execOp, f2]) (by simpa [hD'] using hW)
                    | 4, _ =>
                      have p3 : D 3 = true := hpre ⟨3, .data⟩ (by simp) rfl
                      have f3 := hev 161
                      simp [p3] at f3
                      have hn13 : ¬ D 13 = true := fun h => by have := hW.1.2 h; rw [show D 4 = false from hd] at this; cases this
                      have hn16 : ¬ D 16 = true := fun h => hn13 (hW.1.1 h)
                      have h2 := hW.2
                      rw [if_neg hn16] at h2
                      have cp := HC2.out _ h2
                      exact .value w' (by simp [go_sem, execOp, f3, cp]) (⟨⟨by simpa [hD'] using hW.1.1, fun _ => by simp [hD']⟩, by rw [if_neg (by simpa [hD'] using hn16)]; exact h2⟩)
                    | 5, _ =>
                      exact .value w' (by simp [go_sem, execOp, e0]) (by simpa [hD'] using hW)
                    | 6, _ =>
                      have p5 : D 5 = true := hpre ⟨5, .data⟩ (by simp) rfl
                      have f5 := hev 163
                      simp [p5] at f5
                      exact .value w' (by simp [go_sem, execOp, f5]) (by simpa [hD'] using hW)
                    | 7, _ =>
                      have p6 : D 6 = true := hpre ⟨6, .data⟩ (by simp) rfl
                      have f6 := hev 164
                      simp [p6] at f6
                      exact .value w' (by simp [go_sem, execOp, f6]) (by simpa [hD'] using hW)
                    | 8, _ =>
                      have p7 : D 7 = true := hpre ⟨7, .data⟩ (by simp) rfl
                      have f7 := hev 165
                      simp [p7] at f7
                      obtain ⟨c4, cb⟩ : w'.cell? ⟨g, 4, none⟩ = some (.slice (some ⟨bb, 0, none⟩) n n) ∧ w'.cell? ⟨bb, j, none⟩ = some (.slice VA len VC) := by
                        have h2 := hW.2
                        by_cases h : D 16 = true
                        · rw [if_pos h] at h2; exact HC1.out _ _ h2
                        · rw [if_neg h] at h2; exact HC1.out _ _ h2
                      exact .value w' (by simp [go_sem, execOp, f7, c4]) (by simpa [hD'] using hW)
                    | 9, _ =>
                      exact .value w' (by simp [go_sem, execOp, e7]) (by simpa [hD'] using hW)
                    | 10, _ =>
                      have p8 : D 8 = true := hpre ⟨8, .data⟩ (by simp) rfl
                      have p9 : D 9 = true := hpre ⟨9, .data⟩ (by simp) rfl
                      have f8 := hev 166
                      have f9 := hev 167
                      simp [p8, p9] at f8 f9
                      exact .value w' (by simp [go_sem, execOp, f8, f9, hjn]) (by simpa [hD'] using hW)
                    | 11, _ =>
                      have p10 : D 10 = true := hpre ⟨10, .data⟩ (by simp) rfl
                      have f10 := hev 168
                      simp [p10] at f10
                      obtain ⟨c4, cb⟩ : w'.cell? ⟨g, 4, none⟩ = some (.slice (some ⟨bb, 0, none⟩) n n) ∧ w'.cell? ⟨bb, j, none⟩ = some (.slice VA len VC) := by
                        have h2 := hW.2
                        by_cases h : D 16 = true
                        · rw [if_pos h] at h2; exact HC1.out _ _ h2
                        · rw [if_neg h] at h2; exact HC1.out _ _ h2
                      exact .value w' (by simp [go_sem, execOp, f10, cb]) (by simpa [hD'] using hW)
                    | 12, _ =>
                      have p11 : D 11 = true := hpre ⟨11, .data⟩ (by simp) rfl
                      have f11 := hev 169
                      simp [p11] at f11
                      exact .value w' (by simp [go_sem, execOp, f11]) (by simpa [hD'] using hW)
                    | 13, _ =>
                      have p4 : D 4 = true := hpre ⟨4, .data⟩ (by simp) rfl
                      have p12 : D 12 = true := hpre ⟨12, .data⟩ (by simp) rfl
                      have f4 := hev 162
                      have f12 := hev 170
                      simp [p4, p12] at f4 f12
                      refine .call 66 #[.int .i64 (P : Int), .int .i64 (len : Int)] w' ((run_call_any (f := 66) (ρ := ev) (args := #[.tmp 162, .tmp 170]) (ats := #[3, 3]) rfl (hef _) Try.func66 (by kernel_rfl) rfl).trans (by simp [f4, f12])) ((HMM.out w').mono ?_)
                      rintro e w'' ⟨rfl, hb''⟩
                      refine ⟨rfl, ⟨fun _ => by simp [hD'], fun _ => by simpa [hD'] using p4⟩, ?_⟩
                      have h2 := hW.2
                      by_cases h : D 16 = true
                      · rw [if_pos h] at h2; rw [if_pos (by simpa [hD'] using h)]; exact h2.step hb''
                      · rw [if_neg h] at h2; rw [if_neg (by simpa [hD'] using h)]; exact h2.step hb''
                    | 14, _ =>
                      have p0 : D 0 = true := hpre ⟨0, .data⟩ (by simp) rfl
                      have f0 := hev 158
                      simp [p0] at f0
                      exact .value w' (by simp [go_sem, execOp, f0]) (by simpa [hD'] using hW)
                    | 15, _ =>
                      have p14 : D 14 = true := hpre ⟨14, .data⟩ (by simp) rfl
                      have f14 := hev 172
                      simp [p14] at f14
                      exact .value w' (by simp [go_sem, execOp, f14]) (by simpa [hD'] using hW)
                    | 16, _ =>
                      have p13 : D 13 = true := hpre ⟨13, .data⟩ (by simp) rfl
                      have p15 : D 15 = true := hpre ⟨15, .data⟩ (by simp) rfl
                      have f13 := hev 171
                      have f15 := hev 173
                      simp [p13, p15] at f13 f15
                      have hn16 : ¬ D 16 = true := by rw [show D 16 = false from hd]; simp
                      have h2 := hW.2
                      rw [if_neg hn16] at h2
                      obtain ⟨⟨⟨uu, cp⟩, cf⟩, hfin⟩ := HC3.out _ h2
                      refine .skip (w'.setCell ⟨g, 8, none⟩ (.int .i64 (M : Int))) rfl (by simp [go_sem, execOp, f13, f15, cp, cf]) ⟨⟨fun _ => by simpa [hD'] using p13, by simpa [hD'] using hW.1.2⟩, ?_⟩
                      rw [if_pos (by simp [hD'])]
                      exact hfin
                    | i + 17, h => exact absurd h (by omega)
                  · intro D w' hall hW
                    have hW := hW.2
                    rw [if_pos (hall 16 (by decide))] at hW
                    have HW8 := Lib.hid hW
                    clear hW
                    simp only [putAll, Act.put, List.getD_cons_zero, List.getD_cons_succ, Nat.reduceAdd, List.setIfInBounds_toArray, List.set_cons_succ, List.set_cons_zero, Exit.then, Exit.inBlock]
                    refine ‹∀ (a : Act) (w : World), _ → _› _ _ ?_
                    go_wp2_with fail
                    go_roundw
                    case rel => exact ⟨j + 1, _, by omega, by go_num, HW8.out⟩
                    case measure => simp [intOf]; omega
              | true =>
                rw [hh] at HROW HRX
                by_cases hfr : (len : Int) < x.r
                · rw [if_pos (by have := HRX.out.2; simp at this; omega)] at hPU
                  have HPU := Lib.hid hPU
                  clear hPU
                  go_wp2_with fail
                  rw [HW1.out.symm]
                  refine HOW.out.mono ?_; rintro e w2 ⟨rfl, hb2⟩
                  have HS2 := Lib.hid (HS1.out.step hb2)
                  obtain ⟨k4, kb, k1, k2⟩ := HROW.out _ HS2.out
                  clear hb2 HOW c4 c5 r0 r1
                  obtain ⟨cc, hvi, hrc⟩ := HS2.out.ins.at_ c (by rw [tabl_len]; exact hcl)
                  have x6 := HS2.out.run.cell 6
                  rw [tabl_len] at hvi
                  rw [hvi, ← HG.out] at x6
                  have s0 := hrc.cell c (by rw [tabl_len]; exact hcl)
                  have s1 := hrc.free c
                  simp only [List.getElem?_toArray, List.getElem?_cons_zero, List.getElem?_cons_succ] at x6
                  obtain ⟨ib, hib⟩ : ∃ ib, ib = p.ib := ⟨_, rfl⟩
                  rw [← hib] at x6 s0 s1
                  have h3 := HS2.out.setI HP.out hcl t
                  rw [← hib] at h3
                  have k5 := (HRUN.out _ _ _ h3).2.2.1
                  have t0 := h3.links.cell j (by rw [tabl_len]; exact hjx)
                  have t1 := h3.links.free j
                  rw [← HLB.out] at t0 t1
                  have h4 := h3.setL HP.out j (c + 1)
                  rw [← HLB.out] at h4
                  have ewc : IntKind.i64.wrap ((c : Int) + 1) = (c : Int) + 1 := IntWalk.i64_in _ (by omega)
                  rw [show ((c + 1 : Nat) : Int) = (c : Int) + 1 by omega] at h4
                  have HSB : Hid (InS w0 ((w2.setCell ⟨ib, c, none⟩ (.int .i64 (t : Nat))).setCell ⟨lb, j, none⟩ (.int .i64 ((c : Int) + 1))) x l p vy PT) := by
                    show InS _ _ _ _ _ _ _
                    rw [HPU.out]
                    have e := HUU.out (c + 1)
                    have hb := HB0.out
                    rw [hb] at h4 e ⊢
                    simp only at h4 e ⊢
                    rw [e] at h4
                    exact h4
                  clear h3 h4 hvi hrc hib HPU HS2
                  go_upto_region 22 with fail
                  generalize (w2.setCell ⟨ib, c, none⟩ (.int .i64 (t : Nat))).setCell ⟨lb, j, none⟩ (.int .i64 ((c : Int) + 1)) = w4 at *
                  clear s0 s1 t0 t1 k5 x6 k4 kb k1 k2 ewc
                  obtain ⟨vz, hvz⟩ : ∃ vz, vz = vy := ⟨_, rfl⟩
                  rw [← hvz] at HSB
                  clear hvz
                  obtain ⟨P, hPP⟩ : ∃ P, P = PT.P := ⟨_, rfl⟩
                  obtain ⟨len, hlen2⟩ : ∃ len, len = (PT.B j).length := ⟨_, rfl⟩
                  obtain ⟨M, hM⟩ : ∃ M, M = max P len := ⟨_, rfl⟩
                  have HMM : Hid (∀ w', Calls Try.prog 66 #[.int .i64 (P : Int), .int .i64 (len : Int)] w' (RetV w' (.int .i64 (M : Int)))) := by
                    show ∀ _, _
                    intro w'
                    rw [hM]
                    exact HMO.out P len w'
                  obtain ⟨VA, VC, hV⟩ := own_sliceI (HSB.out.rows j (by rw [← HN.out]; exact hjn))
                  rw [← hlen2] at hV
                  have HC1 : Hid (∀ (c : Ist) w', InS w0 w' x l p vz c → w'.cell? ⟨g, 4, none⟩ = some (.slice (some ⟨bb, 0, none⟩) n n) ∧ w'.cell? ⟨bb, j, none⟩ = some (.slice VA len VC)) := by
                    show ∀ _, _
                    intro c w' h
                    have a4 := h.run.cell 4
                    have ab := h.bufs.cell j
                    rw [rowI_at _ _ _ (by rw [← HN.out]; exact hjn), hV, ← HBB.out] at ab
                    rw [HG.out, HBB.out, HN.out]
                    exact ⟨by simpa using a4, by rw [← HBB.out]; exact ab⟩
                  have HC2 : Hid (∀ w', InS w0 w' x l p vz PT → w'.cell? ⟨g, 8, none⟩ = some (.int .i64 (P : Int))) := by
                    show ∀ _, _
                    intro w' h
                    have a8 := h.run.cell 8
                    rw [HG.out, hPP]
                    simpa using a8
                  have HC3 : Hid (∀ w', InS w0 w' x l p vz PT → ((∃ u, w'.cell? ⟨g, 8, none⟩ = some u) ∧ w'.frozen? ⟨g, 8, none⟩ = false) ∧ InS w0 (w'.setCell ⟨g, 8, none⟩ (.int .i64 (M : Int))) x l p vz (S (j + 1))) := by
                    show ∀ _, _
                    intro w' h
                    have a8 := h.run.cell 8
                    rw [HPE.out, HG.out, hM, hPP, hlen2]
                    exact ⟨⟨⟨_, by simpa using a8⟩, h.run.free 8⟩, h.setP HP.out (max PT.P (PT.B j).length)⟩
                  clear hPP hlen2 hV hM
                  refine wp_region_row (by kernel_rfl) (by kernel_rfl) 158 16 (by kernel_rfl) (by decide) (by simp) (fun i => [.pointer (some ⟨g, 0, none⟩), .pointer (some ⟨g, 0, none⟩), .pointer (some ⟨g, 0, none⟩), .pointer (some ⟨g, 8, none⟩), .int .i64 (P : Int), .pointer (some ⟨g, 0, none⟩), .pointer (some ⟨g, 0, none⟩), .pointer (some ⟨g, 4, none⟩), .slice (some ⟨bb, 0, none⟩) n n, .int .i64 (j : Int), .pointer (some ⟨bb, j, none⟩), .slice VA len VC, .int .i64 (len : Int), .int .i64 (M : Int), .pointer (some ⟨g, 0, none⟩), .pointer (some ⟨g, 8, none⟩)].getD i undef)
                    (fun D w' => ((D 16 = true → D 13 = true) ∧ (D 13 = true → D 4 = true)) ∧ (if D 16 = true then InS w0 w' x l p vz (S (j + 1)) else InS w0 w' x l p vz PT)) ?_ ?_ ?_
                  · exact ⟨⟨fun h => by simp at h, fun h => by simp at h⟩, by rw [if_neg (by simp)]; exact HSB.out.step (Below.refl _ _).drew⟩
                  · intro D D' ev w' i hi' hd hpre hD' hev hec hef hW
                    have e0 := hev 0
                    have e7 := hev 7
                    simp at e0 e7
                    have hi11 : i < 17 := hi'
                    match i, hi11 with
                    | 0, _ =>
                      exact .value w' (by simp [go_sem, execOp, e0]) (by simpa [hD'] using hW)
                    | 1, _ =>
                      exact .value w' (by simp [go_sem, execOp, e0]) (by simpa [hD'] using hW)
                    | 2, _ =>
                      have p1 : D 1 = true := hpre ⟨1, .data⟩ (by simp) rfl
                      have f1 := hev 159
                      simp [p1] at f1
                      exact .value w' (by simp [go_sem, execOp, f1]) (by simpa [hD'] using hW)
                    | 3, _ =>
                      have p2 : D 2 = true := hpre ⟨2, .data⟩ (by simp) rfl
                      have f2 := hev 160
                      simp [p2] at f2
                      exact .value w' (by simp [go_sem, execOp, f2]) (by simpa [hD'] using hW)
                    | 4, _ =>
                      have p3 : D 3 = true := hpre ⟨3, .data⟩ (by simp) rfl
                      have f3 := hev 161
                      simp [p3] at f3
                      have hn13 : ¬ D 13 = true := fun h => by have := hW.1.2 h; rw [show D 4 = false from hd] at this; cases this
                      have hn16 : ¬ D 16 = true := fun h => hn13 (hW.1.1 h)
                      have h2 := hW.2
                      rw [if_neg hn16] at h2
                      have cp := HC2.out _ h2
                      exact .value w' (by simp [go_sem, execOp, f3, cp]) (⟨⟨by simpa [hD'] using hW.1.1, fun _ => by simp [hD']⟩, by rw [if_neg (by simpa [hD'] using hn16)]; exact h2⟩)
                    | 5, _ =>
                      exact .value w' (by simp [go_sem, execOp, e0]) (by simpa [hD'] using hW)
                    | 6, _ =>
                      have p5 : D 5 = true := hpre ⟨5, .data⟩ (by simp) rfl
                      have f5 := hev 163
                      simp [p5] at f5
                      exact .value w' (by simp [go_sem, execOp, f5]) (by simpa [hD'] using hW)
                    | 7, _ =>
                      have p6 : D 6 = true := hpre ⟨6, .data⟩ (by simp) rfl
                      have f6 := hev 164
                      simp [p6] at f6
                      exact .value w' (by simp [go_sem, execOp, f6]) (by simpa [hD'] using hW)
                    | 8, _ =>
                      have p7 : D 7 = true := hpre ⟨7, .data⟩ (by simp) rfl
                      have f7 := hev 165
                      simp [p7] at f7
                      obtain ⟨c4, cb⟩ : w'.cell? ⟨g, 4, none⟩ = some (.slice (some ⟨bb, 0, none⟩) n n) ∧ w'.cell? ⟨bb, j, none⟩ = some (.slice VA len VC) := by
                        have h2 := hW.2
                        by_cases h : D 16 = true
                        · rw [if_pos h] at h2; exact HC1.out _ _ h2
                        · rw [if_neg h] at h2; exact HC1.out _ _ h2
                      exact .value w' (by simp [go_sem, execOp, f7, c4]) (by simpa [hD'] using hW)
                    | 9, _ =>
                      exact .value w' (by simp [go_sem, execOp, e7]) (by simpa [hD'] using hW)
                    | 10, _ =>
                      have p8 : D 8 = true := hpre ⟨8, .data⟩ (by simp) rfl
                      have p9 : D 9 = true := hpre ⟨9, .data⟩ (by simp) rfl
                      have f8 := hev 166
                      have f9 := hev 167
                      simp [p8, p9] at f8 f9
                      exact .value w' (by simp [go_sem, execOp, f8, f9, hjn]) (by simpa [hD'] using hW)
                    | 11, _ =>
                      have p10 : D 10 = true := hpre ⟨10, .data⟩ (by simp) rfl
                      have f10 := hev 168
                      simp [p10] at f10
                      obtain ⟨c4, cb⟩ : w'.cell? ⟨g, 4, none⟩ = some (.slice (some ⟨bb, 0, none⟩) n n) ∧ w'.cell? ⟨bb, j, none⟩ = some (.slice VA len VC) := by
                        have h2 := hW.2
                        by_cases h : D 16 = true
                        · rw [if_pos h] at h2; exact HC1.out _ _ h2
                        · rw [if_neg h] at h2; exact HC1.out _ _ h2
                      exact .value w' (by simp [go_sem, execOp, f10, cb]) (by simpa [hD'] using hW)
                    | 12, _ =>
                      have p11 : D 11 = true := hpre ⟨11, .data⟩ (by simp) rfl
                      have f11 := hev 169
                      simp [p11] at f11
                      exact .value w' (by simp [go_sem, execOp, f11]) (by simpa [hD'] using hW)
                    | 13, _ =>
                      have p4 : D 4 = true := hpre ⟨4, .data⟩ (by simp) rfl
                      have p12 : D 12 = true := hpre ⟨12, .data⟩ (by simp) rfl
                      have f4 := hev 162
                      have f12 := hev 170
                      simp [p4, p12] at f4 f12
                      refine .call 66 #[.int .i64 (P : Int), .int .i64 (len : Int)] w' ((run_call_any (f := 66) (ρ := ev) (args := #[.tmp 162, .tmp 170]) (ats := #[3, 3]) rfl (hef _) Try.func66 (by kernel_rfl) rfl).trans (by simp [f4, f12])) ((HMM.out w').mono ?_)
                      rintro e w'' ⟨rfl, hb''⟩
                      refine ⟨rfl, ⟨fun _ => by simp [hD'], fun _ => by simpa [hD'] using p4⟩, ?_⟩
                      have h2 := hW.2
                      by_cases h : D 16 = true
                      · rw [if_pos h] at h2; rw [if_pos (by simpa [hD'] using h)]; exact h2.step hb''
                      · rw [if_neg h] at h2; rw [if_neg (by simpa [hD'] using h)]; exact h2.step hb''
                    | 14, _ =>
                      have p0 : D 0 = true := hpre ⟨0, .data⟩ (by simp) rfl
                      have f0 := hev 158
                      simp [p0] at f0
                      exact .value w' (by simp [go_sem, execOp, f0]) (by simpa [hD'] using hW)
                    | 15, _ =>
                      have p14 : D 14 = true := hpre ⟨14, .data⟩ (by simp) rfl
                      have f14 := hev 172
                      simp [p14] at f14
                      exact .value w' (by simp [go_sem, execOp, f14]) (by simpa [hD'] using hW)
                    | 16, _ =>
                      have p13 : D 13 = true := hpre ⟨13, .data⟩ (by simp) rfl
                      have p15 : D 15 = true := hpre ⟨15, .data⟩ (by simp) rfl
                      have f13 := hev 171
                      have f15 := hev 173
                      simp [p13, p15] at f13 f15
                      have hn16 : ¬ D 16 = true := by rw [show D 16 = false from hd]; simp
                      have h2 := hW.2
                      rw [if_neg hn16] at h2
                      obtain ⟨⟨⟨uu, cp⟩, cf⟩, hfin⟩ := HC3.out _ h2
                      refine .skip (w'.setCell ⟨g, 8, none⟩ (.int .i64 (M : Int))) rfl (by simp [go_sem, execOp, f13, f15, cp, cf]) ⟨⟨fun _ => by simpa [hD'] using p13, by simpa [hD'] using hW.1.2⟩, ?_⟩
                      rw [if_pos (by simp [hD'])]
                      exact hfin
                    | i + 17, h => exact absurd h (by omega)
                  · intro D w' hall hW
                    have hW := hW.2
                    rw [if_pos (hall 16 (by decide))] at hW
                    have HW8 := Lib.hid hW
                    clear hW
                    simp only [putAll, Act.put, List.getD_cons_zero, List.getD_cons_succ, Nat.reduceAdd, List.setIfInBounds_toArray, List.set_cons_succ, List.set_cons_zero, Exit.then, Exit.inBlock]
                    refine ‹∀ (a : Act) (w : World), _ → _› _ _ ?_
                    go_wp2_with fail
                    go_roundw
                    case rel => exact ⟨j + 1, _, by omega, by go_num, HW8.out⟩
                    case measure => simp [intOf]; omega
                · rw [if_neg (by have := HRX.out.2; simp at this; omega)] at hPU
                  have HPU := Lib.hid hPU
                  clear hPU
                  go_wp2_with fail
                  rw [HW1.out.symm]
                  refine HOW.out.mono ?_; rintro e w2 ⟨rfl, hb2⟩
                  have HS2 := Lib.hid (HS1.out.step hb2)
                  obtain ⟨k4, kb, k1, k2⟩ := HROW.out _ HS2.out
                  clear hb2 HOW c4 c5 r0 r1
                  obtain ⟨cB, rB, hBc⟩ : ∃ cB rB, B0.B j = cB :: rB := by
                    cases hh : B0.B j with
                    | nil => have hlen := HLE.out; rw [hh] at hlen; simp at hlen; omega
                    | cons cB rB => exact ⟨cB, rB, rfl⟩
                  have hcB := hmem cB (by rw [hBc]; simp)
                  have hrB : rB.length ≤ 1000 := by have hlen := HLE.out; rw [hBc] at hlen; simp at hlen; omega
                  have ewB : IntKind.i64.wrap ((cB : Int) + 1) = (cB : Int) + 1 := IntWalk.i64_in _ (by omega)
                  have HTKE : Hid (∀ w', InS w0 w' x l p vy B0 → Calls Try.prog 65 #[.pointer (some ⟨g, 0, none⟩), .int .i64 (j : Int)] w' (TakeP w0 x l p vy B0 j cB rB)) := by
                    show ∀ _, _
                    intro w' h
                    rw [HG.out]
                    exact HTK.out w' vy B0 j cB rB h hjx hBc hrB
                  have HL5 : Hid (∀ v b w', InS w0 w' x l p v b → w'.cell? ⟨g, 5, none⟩ = some (.slice (some ⟨lb, 0, none⟩) n n)) := by
                    show ∀ _, _
                    intro v b w' h
                    exact (HRUN.out _ _ _ h).2.2.1
                  have HL6 : Hid (∀ v w', InS w0 w' x l p v { B0 with B := up B0.B j rB } → ((∃ u, w'.cell? ⟨lb, j, none⟩ = some u) ∧ w'.frozen? ⟨lb, j, none⟩ = false) ∧ InS w0 (w'.setCell ⟨lb, j, none⟩ (.int .i64 ((cB : Int) + 1))) x l p v PT) := by
                    show ∀ _, _
                    intro v w' h
                    have t0 := h.links.cell j (by rw [tabl_len]; exact hjx)
                    have h4 := h.setL HP.out j (cB + 1)
                    rw [show ((cB + 1 : Nat) : Int) = (cB : Int) + 1 by omega] at h4
                    rw [HLB.out]
                    refine ⟨⟨⟨_, t0⟩, h.links.free j⟩, ?_⟩
                    rw [HPU.out]
                    have e := HUU.out (cB + 1)
                    have hb := HB0.out
                    rw [hb] at h4 e hBc
                    simp only at h4 e hBc
                    rw [e] at h4
                    unfold Iw.pass
                    rw [hBc]
                    exact h4
                  have HSY := HS2
                  clear HPU hBc
                  go_upto_region 21 with fail
                  refine wp_region_row (by kernel_rfl) (by kernel_rfl) 148 10 (by kernel_rfl) (by decide) (by simp) (fun i => [.pointer (some ⟨g, 0, none⟩), .pointer (some ⟨g, 0, none⟩), .pointer (some ⟨g, 5, none⟩), .slice (some ⟨lb, 0, none⟩) n n, .int .i64 (j : Int), .pointer (some ⟨g, 0, none⟩), .int .i64 (j : Int), .int .i64 (cB : Int), .int .i64 ((cB : Int) + 1), .pointer (some ⟨lb, j, none⟩)].getD i undef)
                    (fun D w' => ((D 8 = true → D 7 = true) ∧ (D 10 = true → D 8 = true)) ∧ (if D 10 = true then ∃ vz, InS w0 w' x l p vz PT else if D 7 = true then ∃ vz, InS w0 w' x l p vz { B0 with B := up B0.B j rB } else InS w0 w' x l p vy B0)) ?_ ?_ ?_
                  · exact ⟨⟨fun h => by simp at h, fun h => by simp at h⟩, by rw [if_neg (by simp), if_neg (by simp)]; exact HSY.out.step (Below.refl _ _).drew⟩
                  · intro D D' ev w' i hi' hd hpre hD' hev hec hef hW
                    have e0 := hev 0
                    have e7 := hev 7
                    simp at e0 e7
                    have hi11 : i < 11 := hi'
                    match i, hi11 with
                    | 0, _ =>
                      exact .value w' (by simp [go_sem, execOp, e0]) (by simpa [hD'] using hW)
                    | 1, _ =>
                      have p0 : D 0 = true := hpre ⟨0, .data⟩ (by simp) rfl
                      have f0 := hev 148
                      simp [p0] at f0
                      exact .value w' (by simp [go_sem, execOp, f0]) (by simpa [hD'] using hW)
                    | 2, _ =>
                      have p1 : D 1 = true := hpre ⟨1, .data⟩ (by simp) rfl
                      have f1 := hev 149
                      simp [p1] at f1
                      exact .value w' (by simp [go_sem, execOp, f1]) (by simpa [hD'] using hW)
                    | 3, _ =>
                      have p2 : D 2 = true := hpre ⟨2, .data⟩ (by simp) rfl
                      have f2 := hev 150
                      simp [p2] at f2
                      have c5 : w'.cell? ⟨g, 5, none⟩ = some (.slice (some ⟨lb, 0, none⟩) n n) := by
                        have h2 := hW.2
                        by_cases h : D 10 = true
                        · rw [if_pos h] at h2; obtain ⟨vz, h2⟩ := h2; exact HL5.out _ _ _ h2
                        · rw [if_neg h] at h2
                          by_cases h7 : D 7 = true
                          · rw [if_pos h7] at h2; obtain ⟨vz, h2⟩ := h2; exact HL5.out _ _ _ h2
                          · rw [if_neg h7] at h2; exact HL5.out _ _ _ h2
                      exact .value w' (by simp [go_sem, execOp, f2, c5]) (by simpa [hD'] using hW)
                    | 4, _ =>
                      exact .value w' (by simp [go_sem, execOp, e7]) (by simpa [hD'] using hW)
                    | 5, _ =>
                      exact .value w' (by simp [go_sem, execOp, e0]) (by simpa [hD'] using hW)
                    | 6, _ =>
                      exact .value w' (by simp [go_sem, execOp, e7]) (by simpa [hD'] using hW)
                    | 7, _ =>
                      have p5 : D 5 = true := hpre ⟨5, .data⟩ (by simp) rfl
                      have p6 : D 6 = true := hpre ⟨6, .data⟩ (by simp) rfl
                      have f5 := hev 153
                      have f6 := hev 154
                      simp [p5, p6] at f5 f6
                      have hd7 : D 7 = false := hd
                      have hn8 : ¬ D 8 = true := fun h => by have := hW.1.1 h; rw [hd7] at this; cases this
                      have hn10 : ¬ D 10 = true := fun h => hn8 (hW.1.2 h)
                      have hpr := hW.2
                      rw [if_neg hn10, if_neg (by rw [hd7]; simp)] at hpr
                      refine .call 65 #[.pointer (some ⟨g, 0, none⟩), .int .i64 (j : Int)] w' ((run_call_any (f := 65) (ρ := ev) (args := #[.tmp 153, .tmp 154]) (ats := #[50, 3]) rfl (hef _) Try.func65 (by kernel_rfl) rfl).trans (by simp [f5, f6])) ((HTKE.out w' hpr).mono ?_)
                      rintro e w'' ⟨rfl, vz, hh⟩
                      exact ⟨rfl, ⟨fun h => by simp [hD'], by simpa [hD'] using hW.1.2⟩, by rw [if_neg (by simpa [hD'] using hn10), if_pos (by simp [hD'])]; exact ⟨_, hh⟩⟩
                    | 8, _ =>
                      have p7 : D 7 = true := hpre ⟨7, .data⟩ (by simp) rfl
                      have f7 := hev 155
                      simp [p7] at f7
                      exact .value w' (by simp [go_sem, execOp, f7, hec, ewB]) (⟨⟨fun _ => by simpa [hD'] using p7, by simp [hD']⟩, by simpa [hD'] using hW.2⟩)
                    | 9, _ =>
                      have p3 : D 3 = true := hpre ⟨3, .data⟩ (by simp) rfl
                      have p4 : D 4 = true := hpre ⟨4, .data⟩ (by simp) rfl
                      have f3 := hev 151
                      have f4 := hev 152
                      simp [p3, p4] at f3 f4
                      exact .value w' (by simp [go_sem, execOp, f3, f4, hjn]) (by simpa [hD'] using hW)
                    | 10, _ =>
                      have p8 : D 8 = true := hpre ⟨8, .data⟩ (by simp) rfl
                      have p9 : D 9 = true := hpre ⟨9, .data⟩ (by simp) rfl
                      have f8 := hev 156
                      have f9 := hev 157
                      simp [p8, p9] at f8 f9
                      have p7 : D 7 = true := hW.1.1 p8
                      have hn10 : ¬ D 10 = true := by rw [show D 10 = false from hd]; simp
                      have hpr := hW.2
                      rw [if_neg hn10, if_pos p7] at hpr
                      obtain ⟨vz, hpr⟩ := hpr
                      obtain ⟨⟨⟨uu, cp⟩, cf⟩, hfin⟩ := HL6.out _ _ hpr
                      refine .skip (w'.setCell ⟨lb, j, none⟩ (.int .i64 ((cB : Int) + 1))) rfl (by simp [go_sem, execOp, f8, f9, cp, cf]) ⟨⟨by simpa [hD'] using hW.1.1, fun _ => by simpa [hD'] using p8⟩, ?_⟩
                      rw [if_pos (by simp [hD'])]
                      exact ⟨vz, hfin⟩
                  · intro D w4 hall hW
                    have hW := hW.2
                    rw [if_pos (hall 10 (by decide))] at hW
                    obtain ⟨vz, hW⟩ := hW
                    have HSB := Lib.hid hW
                    clear hW k4 kb k1 k2
                    simp only [putAll, Act.put, List.getD_cons_zero, List.getD_cons_succ, Nat.reduceAdd, List.setIfInBounds_toArray, List.set_cons_succ, List.set_cons_zero]
                    refine ‹∀ (a : Act) (w : World), _ → _› _ _ ?_
                    go_upto_region 22 with fail
                    obtain ⟨P, hPP⟩ : ∃ P, P = PT.P := ⟨_, rfl⟩
                    obtain ⟨len, hlen2⟩ : ∃ len, len = (PT.B j).length := ⟨_, rfl⟩
                    obtain ⟨M, hM⟩ : ∃ M, M = max P len := ⟨_, rfl⟩
                    have HMM : Hid (∀ w', Calls Try.prog 66 #[.int .i64 (P : Int), .int .i64 (len : Int)] w' (RetV w' (.int .i64 (M : Int)))) := by
                      show ∀ _, _
                      intro w'
                      rw [hM]
                      exact HMO.out P len w'
                    obtain ⟨VA, VC, hV⟩ := own_sliceI (HSB.out.rows j (by rw [← HN.out]; exact hjn))
                    rw [← hlen2] at hV
                    have HC1 : Hid (∀ (c : Ist) w', InS w0 w' x l p vz c → w'.cell? ⟨g, 4, none⟩ = some (.slice (some ⟨bb, 0, none⟩) n n) ∧ w'.cell? ⟨bb, j, none⟩ = some (.slice VA len VC)) := by
                      show ∀ _, _
                      intro c w' h
                      have a4 := h.run.cell 4
                      have ab := h.bufs.cell j
                      rw [rowI_at _ _ _ (by rw [← HN.out]; exact hjn), hV, ← HBB.out] at ab
                      rw [HG.out, HBB.out, HN.out]
                      exact ⟨by simpa using a4, by rw [← HBB.out]; exact ab⟩
                    have HC2 : Hid (∀ w', InS w0 w' x l p vz PT → w'.cell? ⟨g, 8, none⟩ = some (.int .i64 (P : Int))) := by
                      show ∀ _, _
                      intro w' h
                      have a8 := h.run.cell 8
                      rw [HG.out, hPP]
                      simpa using a8
                    have HC3 : Hid (∀ w', InS w0 w' x l p vz PT → ((∃ u, w'.cell? ⟨g, 8, none⟩ = some u) ∧ w'.frozen? ⟨g, 8, none⟩ = false) ∧ InS w0 (w'.setCell ⟨g, 8, none⟩ (.int .i64 (M : Int))) x l p vz (S (j + 1))) := by
                      show ∀ _, _
                      intro w' h
                      have a8 := h.run.cell 8
                      rw [HPE.out, HG.out, hM, hPP, hlen2]
                      exact ⟨⟨⟨_, by simpa using a8⟩, h.run.free 8⟩, h.setP HP.out (max PT.P (PT.B j).length)⟩
                    clear hPP hlen2 hV hM
                    refine wp_region_row (by kernel_rfl) (by kernel_rfl) 158 16 (by kernel_rfl) (by decide) (by simp) (fun i => [.pointer (some ⟨g, 0, none⟩), .pointer (some ⟨g, 0, none⟩), .pointer (some ⟨g, 0, none⟩), .pointer (some ⟨g, 8, none⟩), .int .i64 (P : Int), .pointer (some ⟨g, 0, none⟩), .pointer (some ⟨g, 0, none⟩), .pointer (some ⟨g, 4, none⟩), .slice (some ⟨bb, 0, none⟩) n n, .int .i64 (j : Int), .pointer (some ⟨bb, j, none⟩), .slice VA len VC, .int .i64 (len : Int), .int .i64 (M : Int), .pointer (some ⟨g, 0, none⟩), .pointer (some ⟨g, 8, none⟩)].getD i undef)
                      (fun D w' => ((D 16 = true → D 13 = true) ∧ (D 13 = true → D 4 = true)) ∧ (if D 16 = true then InS w0 w' x l p vz (S (j + 1)) else InS w0 w' x l p vz PT)) ?_ ?_ ?_
                    · exact ⟨⟨fun h => by simp at h, fun h => by simp at h⟩, by rw [if_neg (by simp)]; exact HSB.out.step (Below.refl _ _).drew⟩
                    · intro D D' ev w' i hi' hd hpre hD' hev hec hef hW
                      have e0 := hev 0
                      have e7 := hev 7
                      simp at e0 e7
                      have hi11 : i < 17 := hi'
                      match i, hi11 with
                      | 0, _ =>
                        exact .value w' (by simp [go_sem, execOp, e0]) (by simpa [hD'] using hW)
                      | 1, _ =>
                        exact .value w' (by simp [go_sem, execOp, e0]) (by simpa [hD'] using hW)
                      | 2, _ =>
                        have p1 : D 1 = true := hpre ⟨1, .data⟩ (by simp) rfl
                        have f1 := hev 159
                        simp [p1] at f1
                        exact .value w' (by simp [go_sem, execOp, f1]) (by simpa [hD'] using hW)
                      | 3, _ =>
                        have p2 : D 2 = true := hpre ⟨2, .data⟩ (by simp) rfl
                        have f2 := hev 160
                        simp [p2] at f2
                        exact .value w' (by simp [go_sem, execOp, f2]) (by simpa [hD'] using hW)
                      | 4, _ =>
                        have p3 : D 3 = true := hpre ⟨3, .data⟩ (by simp) rfl
                        have f3 := hev 161
                        simp [p3] at f3
                        have hn13 : ¬ D 13 = true := fun h => by have := hW.1.2 h; rw [show D 4 = false from hd] at this; cases this
                        have hn16 : ¬ D 16 = true := fun h => hn13 (hW.1.1 h)
                        have h2 := hW.2
                        rw [if_neg hn16] at h2
                        have cp := HC2.out _ h2
                        exact .value w' (by simp [go_sem, execOp, f3, cp]) (⟨⟨by simpa [hD'] using hW.1.1, fun _ => by simp [hD']⟩, by rw [if_neg (by simpa [hD'] using hn16)]; exact h2⟩)
                      | 5, _ =>
                        exact .value w' (by simp [go_sem, execOp, e0]) (by simpa [hD'] using hW)
                      | 6, _ =>
                        have p5 : D 5 = true := hpre ⟨5, .data⟩ (by simp) rfl
                        have f5 := hev 163
                        simp [p5] at f5
                        exact .value w' (by simp [go_sem, execOp, f5]) (by simpa [hD'] using hW)
                      | 7, _ =>
                        have p6 : D 6 = true := hpre ⟨6, .data⟩ (by simp) rfl
                        have f6 := hev 164
                        simp [p6] at f6
                        exact .value w' (by simp [go_sem, execOp, f6]) (by simpa [hD'] using hW)
                      | 8, _ =>
                        have p7 : D 7 = true := hpre ⟨7, .data⟩ (by simp) rfl
                        have f7 := hev 165
                        simp [p7] at f7
                        obtain ⟨c4, cb⟩ : w'.cell? ⟨g, 4, none⟩ = some (.slice (some ⟨bb, 0, none⟩) n n) ∧ w'.cell? ⟨bb, j, none⟩ = some (.slice VA len VC) := by
                          have h2 := hW.2
                          by_cases h : D 16 = true
                          · rw [if_pos h] at h2; exact HC1.out _ _ h2
                          · rw [if_neg h] at h2; exact HC1.out _ _ h2
                        exact .value w' (by simp [go_sem, execOp, f7, c4]) (by simpa [hD'] using hW)
                      | 9, _ =>
                        exact .value w' (by simp [go_sem, execOp, e7]) (by simpa [hD'] using hW)
                      | 10, _ =>
                        have p8 : D 8 = true := hpre ⟨8, .data⟩ (by simp) rfl
                        have p9 : D 9 = true := hpre ⟨9, .data⟩ (by simp) rfl
                        have f8 := hev 166
                        have f9 := hev 167
                        simp [p8, p9] at f8 f9
                        exact .value w' (by simp [go_sem, execOp, f8, f9, hjn]) (by simpa [hD'] using hW)
                      | 11, _ =>
                        have p10 : D 10 = true := hpre ⟨10, .data⟩ (by simp) rfl
                        have f10 := hev 168
                        simp [p10] at f10
                        obtain ⟨c4, cb⟩ : w'.cell? ⟨g, 4, none⟩ = some (.slice (some ⟨bb, 0, none⟩) n n) ∧ w'.cell? ⟨bb, j, none⟩ = some (.slice VA len VC) := by
                          have h2 := hW.2
                          by_cases h : D 16 = true
                          · rw [if_pos h] at h2; exact HC1.out _ _ h2
                          · rw [if_neg h] at h2; exact HC1.out _ _ h2
                        exact .value w' (by simp [go_sem, execOp, f10, cb]) (by simpa [hD'] using hW)
                      | 12, _ =>
                        have p11 : D 11 = true := hpre ⟨11, .data⟩ (by simp) rfl
                        have f11 := hev 169
                        simp [p11] at f11
                        exact .value w' (by simp [go_sem, execOp, f11]) (by simpa [hD'] using hW)
                      | 13, _ =>
                        have p4 : D 4 = true := hpre ⟨4, .data⟩ (by simp) rfl
                        have p12 : D 12 = true := hpre ⟨12, .data⟩ (by simp) rfl
                        have f4 := hev 162
                        have f12 := hev 170
                        simp [p4, p12] at f4 f12
                        refine .call 66 #[.int .i64 (P : Int), .int .i64 (len : Int)] w' ((run_call_any (f := 66) (ρ := ev) (args := #[.tmp 162, .tmp 170]) (ats := #[3, 3]) rfl (hef _) Try.func66 (by kernel_rfl) rfl).trans (by simp [f4, f12])) ((HMM.out w').mono ?_)
                        rintro e w'' ⟨rfl, hb''⟩
                        refine ⟨rfl, ⟨fun _ => by simp [hD'], fun _ => by simpa [hD'] using p4⟩, ?_⟩
                        have h2 := hW.2
                        by_cases h : D 16 = true
                        · rw [if_pos h] at h2; rw [if_pos (by simpa [hD'] using h)]; exact h2.step hb''
                        · rw [if_neg h] at h2; rw [if_neg (by simpa [hD'] using h)]; exact h2.step hb''
                      | 14, _ =>
                        have p0 : D 0 = true := hpre ⟨0, .data⟩ (by simp) rfl
                        have f0 := hev 158
                        simp [p0] at f0
                        exact .value w' (by simp [go_sem, execOp, f0]) (by simpa [hD'] using hW)
                      | 15, _ =>
                        have p14 : D 14 = true := hpre ⟨14, .data⟩ (by simp) rfl
                        have f14 := hev 172
                        simp [p14] at f14
                        exact .value w' (by simp [go_sem, execOp, f14]) (by simpa [hD'] using hW)
                      | 16, _ =>
                        have p13 : D 13 = true := hpre ⟨13, .data⟩ (by simp) rfl
                        have p15 : D 15 = true := hpre ⟨15, .data⟩ (by simp) rfl
                        have f13 := hev 171
                        have f15 := hev 173
                        simp [p13, p15] at f13 f15
                        have hn16 : ¬ D 16 = true := by rw [show D 16 = false from hd]; simp
                        have h2 := hW.2
                        rw [if_neg hn16] at h2
                        obtain ⟨⟨⟨uu, cp⟩, cf⟩, hfin⟩ := HC3.out _ h2
                        refine .skip (w'.setCell ⟨g, 8, none⟩ (.int .i64 (M : Int))) rfl (by simp [go_sem, execOp, f13, f15, cp, cf]) ⟨⟨fun _ => by simpa [hD'] using p13, by simpa [hD'] using hW.1.2⟩, ?_⟩
                        rw [if_pos (by simp [hD'])]
                        exact hfin
                      | i + 17, h => exact absurd h (by omega)
                    · intro D w' hall hW
                      have hW := hW.2
                      rw [if_pos (hall 16 (by decide))] at hW
                      have HW8 := Lib.hid hW
                      clear hW
                      simp only [putAll, Act.put, List.getD_cons_zero, List.getD_cons_succ, Nat.reduceAdd, List.setIfInBounds_toArray, List.set_cons_succ, List.set_cons_zero, Exit.then, Exit.inBlock]
                      refine ‹∀ (a : Act) (w : World), _ → _› _ _ ?_
                      go_wp2_with fail
                      go_roundw
                      case rel => exact ⟨j + 1, _, by omega, by go_num, HW8.out⟩
                      case measure => simp [intOf]; omega
        · have hkn : n = j := by omega
          subst hkn
          have HS9 := Lib.hid hS
          clear hS
          go_wp2_with fail
          exact ⟨rfl, .tuple #[], by simp [results, Try.results55, go_sem], rfl, vy, by have h9 := HS9.out; rw [HSEQ.out, HN.out] at h9; exact h9⟩
end Go.Proofs.Ytfphkgialmjfnaa
