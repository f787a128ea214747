/-
  The program's station gets a cell.
-/
import Derived.Test.YtfphkgialmjfnaaFirst
import Derived.Deep.RegionLaw
import Derived.Deep.LoopGhost
import Derived.Shelf.RegionOpenPlain
namespace Go.Proofs.Ytfphkgialmjfnaa
open Go.RowKit Go.Conc Go.Sort
set_option maxRecDepth 100000
set_option linter.unusedVariables false

theorem toNat_in {z : Int} (h : 2 ≤ z ∧ z ≤ 12) : z.toNat ≤ 12 ∧ 2 ≤ z.toNat := by omega
/-- A link is emptied. -/
theorem Iw.qv_got {x : Iw} (hx : x.Ok) (v : Nat → Bool) (a : Ist) {s : Nat} (hs : s < x.sw.n) : x.qv (up v (x.pr s) false) a s = [] ∧ ∀ i, i < x.sw.n → i ≠ s → x.qv (up v (x.pr s) false) a i = x.qv v a i := by
  refine ⟨by unfold Iw.qv; rw [up_same]; rfl, fun i hi hne => ?_⟩
  have h : x.pr i ≠ x.pr s := fun h => hne (by rw [← Iw.su_pr hx hi, ← Iw.su_pr hx hs, h])
  unfold Iw.qv
  rw [up_ne _ _ _ h]
/-- What holds of a ring while it is walked. -/
structure Kept (x : Ir) (l : List Ms) (w0 : World) (p : GL) : Prop where
  gp : GP w0 x.n.toNat p
  ok : inOk x l = true
  rm : RMsS w0 w0.heap.size (.slice p.A l.length p.c) l
def DoneTo (w0 : World) (x : Ir) (l : List Ms) (p : GL) (t : Nat) (v : Nat → Bool) (a : Ist) (e : Ending) (w' : World) : Prop := e = .returned (.tuple #[]) ∧ GoS w0 w' x l p t v a
set_option maxHeartbeats 4000000 in
theorem get_any (x : Ir) (l : List Ms) (w0 : World) (p : GL) (t : Nat) (v : Nat → Bool) (m : Nat → Nat) (a : Ist) (s : Nat) (w : World) (hk : Kept x l w0 p) (hS : GoS w0 w x l p t v a) (hInv : (iwOf x l).Inv v m a) (hs : s < x.n.toNat) (hv : v ((iwOf x l).pr s) = true) (hm : ∀ i, i < x.n.toNat → (a.B i).length ≤ x.r.toNat) (hms : (a.B s).length < x.r.toNat) :
    Calls Try.prog 60 #[.pointer (some ⟨p.g, 0, none⟩), .int .i64 s] w (DoneTo w0 x l p t (up v ((iwOf x l).pr s) false) ((iwOf x l).get t s a)) := by
  obtain ⟨hp, hok, hr⟩ := hk
  have hx := iwOk hok
  have hin := isIr_in (inOk_in hok).1
  obtain ⟨hl20, hall, _⟩ := areMs_in (inOk_in hok).2
  obtain ⟨_, _, _, hc⟩ := hr.parts
  obtain ⟨hq0, hqo⟩ := Iw.qv_got hx v a (s := s) hs
  have hlk := hInv.lnk _ (Iw.pr_lt hx s) hv
  have hgq : (iwOf x l).qv v a s = lkv (a.L ((iwOf x l).pr s)) := by unfold Iw.qv; rw [if_pos hv]
  have hGet : (iwOf x l).get t s a = match a.L ((iwOf x l).pr s) with
    | 0 => a
    | c + 1 => if (iwOf x l).sw.to_ c = s then { a with R := up a.R c t } else { a with B := up a.B s (a.B s ++ [c]) } := rfl
  have HTO : Hid (∀ c, c < l.length → ((iwOf x l).sw.to_ c = s ↔ l[c]!.o = (s : Int))) := by
    show ∀ _, _
    intro c hc
    obtain ⟨_, _, _, _, h5, _⟩ := msAtI hall c hc
    show l[c]!.o.toNat = s ↔ _
    omega
  have hn12 := toNat_in hin.1
  obtain ⟨n, hN⟩ : ∃ n, n = x.n.toNat := ⟨_, rfl⟩
  have hsI : (s : Int) < (n : Int) := by rw [hN]; exact Int.ofNat_lt.2 hs
  have c5 := hS.run.cell 5
  have ck := hS.links.cell s hs
  obtain ⟨sc, rc, hch⟩ := hS.links.ch s hs
  rw [hgq] at hch
  simp only [List.getElem?_toArray, List.getElem?_cons_zero, List.getElem?_cons_succ] at c5
  rw [← hN] at c5
  obtain ⟨g, hg⟩ : ∃ g, g = p.g := ⟨_, rfl⟩
  obtain ⟨kb, hkb⟩ : ∃ kb, kb = p.kb := ⟨_, rfl⟩
  rw [← hg] at c5 ⊢
  rw [← hkb] at c5 ck
  have hsn : s < n := by omega
  cases hL : a.L ((iwOf x l).pr s) with
  | zero =>
    rw [hL] at hch hGet
    simp only [lkv, List.map_nil] at hch
    simp only at hGet
    rw [hGet]
    have HV := Lib.hid (hS.congr (v' := up v ((iwOf x l).pr s) false) (fun j hj => by
      by_cases e : j = s
      · subst e; rw [hq0, hgq, hL]; rfl
      · exact (hqo j hj e).symm) rfl (fun _ _ => rfl) rfl rfl rfl)
    clear hS hInv hqo hq0 hgq hlk hGet hr hp hall hc hx hok hL hm hms hv hg hkb hN
    go_enter Try.func60, Try.ntmps60
    go_upto_region 1 with fail
    refine wp_region_sem ?_
    show SemOps _ _ _ [0, 1, 2] _ _
    refine SemOps.sel_none (z := .int .i64 0) (w' := w) rfl rfl (by simp [go_sem, rcase]) hch ?_
    walk_nrm
    refine SemOps.value (v := .int .i64 (-1)) (w' := w) rfl rfl (by simp [go_sem]) ?_
    walk_nrm
    refine SemOps.value (v := .bool false) (w' := w) rfl rfl (by simp [go_sem]) ?_
    walk_nrm
    refine SemOps.nil ?_
    simp only [Exit.then]
    refine ‹∀ (a : Act) (w : World), _ → _› _ _ ?_
    go_wp2_with fail
    exact ⟨rfl, .tuple #[], by simp [results, Try.results60, go_sem], rfl, HV.out⟩
  | succ c =>
    have hcl := hlk c hL
    rw [hL] at hch hGet
    simp only [lkv, List.map_cons, List.map_nil] at hch
    simp only at hGet
    have hS1 := hS.chan hp hs (v' := up v ((iwOf x l).pr s) false) hqo #[] (by rw [hq0]; rfl) sc (rc + 1)
    have HV := Lib.hid hS1
    obtain ⟨b, off, hA, hbB, hcell⟩ := hc (by have : c < l.length := hcl; omega)
    obtain ⟨hd0, hd1, hd2⟩ := hcell c hcl
    have hm2 := (hS1.bel.cell (p := ⟨b, off + c * 3 + 2, none⟩) hbB).trans hd2
    have g3 := hS1.run.cell 3
    have g4 := hS1.run.cell 4
    have g6 := hS1.run.cell 6
    have g9 := hS1.run.cell 9
    simp only [List.getElem?_toArray, List.getElem?_cons_zero, List.getElem?_cons_succ] at g3 g4 g6 g9
    rw [hA] at g3
    obtain ⟨cq, hvq, hrq⟩ := hS1.read.at_ c (by rw [tabl_len]; exact hcl)
    rw [tabl_len] at hvq
    rw [hvq] at g9
    rw [← hg] at g3 g4 g6 g9
    have r0 := hrq.cell c (by rw [tabl_len]; exact hcl)
    have r1 := hrq.free c
    have hcI : (c : Int) < (l.length : Int) := by have : c < l.length := hcl; omega
    have hT := HTO.out c hcl
    generalize l[c]! = y at hm2 hT
    obtain ⟨yt, yf, yo⟩ := y
    simp only at hm2 hT
    obtain ⟨wc, hwc⟩ : ∃ wc, wc = w.setChan (p.cs s) 1 #[] false sc (rc + 1) false := ⟨_, rfl⟩
    rw [← hwc] at HV hS1 hm2 g3 g4 g6 g9 hrq r0 r1
    have HWC := Lib.hid hwc
    have hcl' : c < l.length := hcl
    obtain ⟨rb, hrb⟩ : ∃ rb, rb = p.qb := ⟨_, rfl⟩
    rw [← hrb] at g9 r0 r1
    clear hwc hS hInv hqo hq0 hgq hlk hr hall hc hd0 hd1 hd2 hcell hok hL hkb
    by_cases hto : yo = (s : Int)
    · rw [if_pos (hT.2 hto)] at hGet
      have HSR : Hid (∀ w', Below wc.heap.size wc w' → GoS w0 (w'.setCell ⟨rb, c, none⟩ (.int .i64 (t : Int))) x l p t (up v ((iwOf x l).pr s) false) ((iwOf x l).get t s a)) := by
        show ∀ _, _
        intro w' hb
        rw [hGet, hrb]
        exact (hS1.step hb).setR hp hcl t
      subst hto
      clear hS1 hp hm hms hx hrq hvq hGet hrb hT hg g6 hN
      go_enter Try.func60, Try.ntmps60
      go_upto_region 1 with fail
      refine wp_region_sem ?_
      show SemOps _ _ _ [0, 1, 2] _ _
      refine SemOps.sel_recv (z := .int .i64 0) (w' := w) rfl rfl (by simp [go_sem, rcase]) hch (by simp) ?_
      have e0 : w.setChan (p.cs s) 1 (Array.extract [ctI c].toArray 1 [ctI c].toArray.size) false sc (rc + 1) false = wc := by rw [HWC.out]; simp
      rw [e0]
      have e1 : [ctI c].toArray.getD 0 undef = .int .i64 (c : Int) := rfl
      rw [e1]
      walk_nrm
      refine SemOps.value (v := .int .i64 0) (w' := wc) rfl rfl (by simp [go_sem]) ?_
      walk_nrm
      refine SemOps.value (v := .bool true) (w' := wc) rfl rfl (by simp [go_sem]) ?_
      walk_nrm
      refine SemOps.nil ?_
      simp only [Exit.then]
      refine ‹∀ (a : Act) (w : World), _ → _› _ _ ?_
      clear hch ck c5 e0 e1 HWC
      go_upto_region 4 with fail
      go_region
      go_wp2_with fail
      exact ⟨rfl, .tuple #[], by simp [results, Try.results60, go_sem], rfl, HSR.out _ (Below.refl _ _).drew⟩
    · rw [if_neg (fun h => hto (hT.1 h))] at hGet
      have hbs := rowA_at n (fun s => bufV p.rm x.r.toNat s (a.B s).length) s hsn
      obtain ⟨i0, hi, hz0, hz1', hz2⟩ := info_parts int_info
      obtain ⟨wA, hwA⟩ : ∃ wA, wA = (wc.alloc (.cells #[.int .i64 (c : Int)] 3)).drew := ⟨_, rfl⟩
      have hbA : Below wc.heap.size wc wA := by rw [hwA]; exact ((Below.refl _ _).alloc (Nat.le_refl _) _).drew
      have hSA := hS1.step hbA
      obtain ⟨off', hoff⟩ : ∃ off', off' = s * x.r.toNat := ⟨_, rfl⟩
      obtain ⟨len, hlen⟩ : ∃ len, len = (a.B s).length := ⟨_, rfl⟩
      obtain ⟨room, hroom⟩ : ∃ room, room = x.r.toNat := ⟨_, rfl⟩
      obtain ⟨rmb, hrmb⟩ : ∃ rmb, rmb = p.rm := ⟨_, rfl⟩
      have hpush := hSA.mem.push hm (c := c) hs hms
      have hsp := hSA.mem.there (s * x.r.toNat + (a.B s).length) (off_lt hs hms)
      obtain ⟨wm, hwm⟩ : ∃ wm, wm = wA.setCell ⟨p.rm, s * x.r.toNat + (a.B s).length, none⟩ (ctI c) := ⟨_, rfl⟩
      rw [← hwm] at hpush
      have hW : Wr p.rm (p.rm + 1) wA wm := by rw [hwm]; exact wrCell _ _ _
      obtain ⟨hbk, hfin⟩ := hSA.setB hp hW hpush
      have hrow := hSA.bufs.cell s
      rw [← hN, hbs] at hrow
      have hrow2 := hbk.cell s
      rw [← hN, hbs] at hrow2
      have hfr2 := hbk.free s
      have k6 := (hSA.run.cell 6)
      have k6m := (hSA.run.far hW (by have := hp.gr; omega)).cell 6
      simp only [List.getElem?_toArray, List.getElem?_cons_zero, List.getElem?_cons_succ] at k6 k6m
      obtain ⟨bb, hbb⟩ : ∃ bb, bb = p.bb := ⟨_, rfl⟩
      rw [← hg, ← hN, ← hbb] at k6 k6m
      rw [← hN, ← hbb] at g6
      have hrow0 := hS1.bufs.cell s
      rw [← hN, hbs] at hrow0
      rw [← hbb] at hrow0
      unfold bufV at hrow0
      rw [← hbb] at hrow hrow2 hfr2
      unfold bufV at hrow hrow2
      have HFIN : Hid (GoS w0 (wm.setCell ⟨bb, s, none⟩ (.slice (some ⟨rmb, off', none⟩) (len + 1) room)) x l p t (up v ((iwOf x l).pr s) false) ((iwOf x l).get t s a)) := by
        show GoS _ _ _ _ _ _ _ _
        rw [hGet, hrmb, hoff, hlen, hroom, hbb]
        have e : (a.B s ++ [c]).length = (a.B s).length + 1 := by simp
        rw [← e]
        exact hfin
      have hcb : ∀ j u, [ctI c][j]? = some u → wA.cell? ((⟨wc.heap.size, 0, none⟩ : Addr).add j) = some u := by
        intro j u hu
        match j, hu with
        | 0, hu =>
          simp at hu
          subst hu
          rw [addr_add, hwA]
          exact (BK.made wc 3 #[.int .i64 (c : Int)]).cell 0
      have hlr : len < room := by omega
      rw [← hrmb, ← hoff, ← hlen, ← hroom] at hrow hrow2 hrow0
      rw [← hrmb, ← hoff, ← hlen] at hwm hsp
      rw [hwA] at hrow k6
      have HCB := Lib.hid hcb
      have HSP : Hid (∀ j, j < [ctI c].length → (wA.cell? ⟨rmb, off' + len * 1 + j, none⟩).isSome = true ∧ wA.frozen? ⟨rmb, off' + len * 1 + j, none⟩ = false) := by
        show ∀ _, _
        intro j hj
        have e : j = 0 := by simp at hj; omega
        rw [e, Nat.mul_one]
        exact hsp
      have HWA := Lib.hid hwA
      have HWM : Hid (wA.setCells rmb (off' + len * 1) [ctI c] = wm) := by show _ = _; rw [Nat.mul_one]; exact hwm.symm
      have HI := Lib.hid hi
      have HZ1 := Lib.hid hz1'
      have htn : ¬ yo = (s : Int) := hto
      clear hS1 hSA hp hm hms hx hrq hvq hGet hrb hT hg hN hoff hlen hroom hrmb hpush hwm hW hbk hfin hbb hcb hsp hwA hbA hbs r0 r1 g4 g9 hz0 hz2
      go_enter Try.func60, Try.ntmps60
      go_upto_region 1 with fail
      refine wp_region_sem ?_
      show SemOps _ _ _ [0, 1, 2] _ _
      refine SemOps.sel_recv (z := .int .i64 0) (w' := w) rfl rfl (by simp [go_sem, rcase]) hch (by simp) ?_
      have e0 : w.setChan (p.cs s) 1 (Array.extract [ctI c].toArray 1 [ctI c].toArray.size) false sc (rc + 1) false = wc := by rw [HWC.out]; simp
      rw [e0]
      have e1 : [ctI c].toArray.getD 0 undef = .int .i64 (c : Int) := rfl
      rw [e1]
      walk_nrm
      refine SemOps.value (v := .int .i64 0) (w' := wc) rfl rfl (by simp [go_sem]) ?_
      walk_nrm
      refine SemOps.value (v := .bool true) (w' := wc) rfl rfl (by simp [go_sem]) ?_
      walk_nrm
      refine SemOps.nil ?_
      simp only [Exit.then]
      refine ‹∀ (a : Act) (w : World), _ → _› _ _ ?_
      clear hch ck c5 e0 e1 HWC
      go_upto_region 5 with fail
      go_region_law (rw [← HWA.out]; refine step_append_room rfl (.tmp 47) (.tmp 49) 26 rfl 3 i0 1 Try.underlying26 HI.out HZ1.out rmb off' len room (by simp [Act.eval]) ⟨wc.heap.size, 0, none⟩ 1 1 [ctI c] (by simp [Act.eval]) rfl HCB.out (by simp [ctI, Value.oneCell']) (by omega) HSP.out ?_; rw [HWM.out])
      all_goals (first | exact ⟨rfl, .tuple #[], by simp [results, Try.results60, go_sem], rfl, HFIN.out⟩ | (go_wp2_with fail; exact ⟨rfl, .tuple #[], by simp [results, Try.results60, go_sem], rfl, HFIN.out⟩))
end Go.Proofs.Ytfphkgialmjfnaa
