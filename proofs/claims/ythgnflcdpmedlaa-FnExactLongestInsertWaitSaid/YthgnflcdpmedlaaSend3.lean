/-
  The program's station sends: the whole.
-/
import Derived.Test.YthgnflcdpmedlaaSend2
namespace Go.Proofs.Ythgnflcdpmedlaa
open Go.RowKit Go.Conc Go.Sort
set_option maxRecDepth 100000
set_option linter.unusedVariables false

theorem up_up {α : Type} (f : Nat → α) (j : Nat) (u v : α) : up (up f j u) j v = up f j v := by
  funext i
  unfold up
  split <;> rfl
set_option maxHeartbeats 4000000 in
theorem send_ins (x : Ir) (l : List Ms) (w0 : World) (p : GL) (t : Nat) (v : Nat → Bool) (a : Ist) (s : Nat) (w : World) (hk : Kept x l w0 p) (hS : GoS w0 w x l p t v a) (hs : s < x.n.toNat) (hv : v s = false) (hI : ∀ i, i < l.length → a.I i = -1 ∨ 0 ≤ a.I i) (hm : ∀ i, i < x.n.toNat → (a.B i).length ≤ x.r.toNat) (N : Option Nat) (hN : (iwOf x l).sw.next a.I s t = N) (c : Nat) (hNc : N = some c) (hlt : (a.B s).length < (iwOf x l).rb) :
    Calls Try.prog 65 #[.pointer (some ⟨p.g, 0, none⟩), .int .i64 s] w (DoneTo w0 x l p t (up v s true) { a with I := up a.I c t, L := up a.L s (c + 1) }) := by
  have hk0 := hk
  obtain ⟨hp, hok, hr⟩ := hk
  have hin := isIr_in (inOk_in hok).1
  obtain ⟨hl20, hall, _⟩ := areMs_in (inOk_in hok).2
  have HFO := Lib.hid (firstOwn_any x l w0 p t v a s w hall hl20 hS hr hI (by omega))
  rw [hN] at HFO
  have HRB := Lib.hid (fun w => roomBeforeOwn_any x l w (by omega))
  obtain ⟨rb, hrb⟩ : ∃ rb, rb = (iwOf x l).rb := ⟨_, rfl⟩
  rw [← hrb] at HRB
  have HRBE := Lib.hid hrb
  obtain ⟨len, hlen⟩ : ∃ len, len = (a.B s).length := ⟨_, rfl⟩
  have HB6 : Hid (w.cell? ⟨p.g, 6, none⟩ = some (.slice (some ⟨p.bb, 0, none⟩) x.n.toNat x.n.toNat)) := by
    show _ = _
    have := hS.run.cell 6
    simpa using this
  have HB7 : Hid (w.cell? ⟨p.bb, s, none⟩ = some (bufV p.rm x.r.toNat s (a.B s).length)) := by
    show _ = _
    have := hS.bufs.cell s
    rw [rowA_at _ _ _ hs] at this
    exact this
  have HS2 : Hid (∀ w1, Below w.heap.size w w1 → (w1.cell? ⟨p.g, 7, none⟩ = some (.slice (some ⟨p.sb, 0, none⟩) x.n.toNat x.n.toNat) ∧ (∃ u, w1.cell? ⟨p.sb, s, none⟩ = some u) ∧ w1.frozen? ⟨p.sb, s, none⟩ = false) ∧ GoS w0 (w1.setCell ⟨p.sb, s, none⟩ (.int .i64 0)) x l p t v { a with L := up a.L s 0 }) := by
    show ∀ _, _
    intro w1 hb
    have h1 := hS.step hb
    have h2 := h1.run.cell 7
    have h3 := h1.sent.cell s (by rw [tabl_len]; exact hs)
    exact ⟨⟨by simpa using h2, ⟨_, h3⟩, h1.sent.free s⟩, h1.setL hp hv 0⟩
  have HRG : Hid (∀ w1, GoS w0 w1 x l p t v { a with L := up a.L s 0 } → w1.cell? ⟨p.g, 0, none⟩ = some (.int .i64 x.n) ∧ w1.cell? ⟨p.g, 1, none⟩ = some (.int .i64 x.r) ∧ w1.cell? ⟨p.g, 2, none⟩ = some (.bool x.h)) := by
    show ∀ _, _
    intro w1 h
    have a0 := h.run.cell 0
    have a1 := h.run.cell 1
    have a2 := h.run.cell 2
    exact ⟨by simpa using a0, by simpa using a1, by simpa using a2⟩
  have hsn : s < x.n.toNat := hs
  have hsI : (s : Int) < ((x.n.toNat : Nat) : Int) := by omega
  subst hNc
  have hcl : c < l.length := (Sw.next_some hN).1
  rw [← hrb, ← hlen] at hlt
  have hltI : (len : Int) < (rb : Int) := by omega
  have hcI : (c : Int) < (l.length : Int) := by omega
  have HS5 : Hid (∀ w1, GoS w0 w1 x l p t v { a with L := up a.L s 0 } → ∃ cc, (w1.cell? ⟨p.g, 8, none⟩ = some (.slice (some ⟨p.ib, 0, none⟩) l.length cc) ∧ w1.cell? ⟨p.g, 4, none⟩ = some (.int .i64 (t : Int)) ∧ (∃ u, w1.cell? ⟨p.ib, c, none⟩ = some u) ∧ w1.frozen? ⟨p.ib, c, none⟩ = false) ∧ ∀ w2, Below w1.heap.size w1 w2 → GoS w0 (w2.setCell ⟨p.ib, c, none⟩ (.int .i64 (t : Int))) x l p t v { a with L := up a.L s 0, I := up a.I c t }) := by
    show ∀ _, _
    intro w1 h
    obtain ⟨cc, hvi, hrc⟩ := h.ins.at_ c (by rw [tabl_len]; exact hcl)
    have h8 := h.run.cell 8
    have h4 := h.run.cell 4
    rw [tabl_len] at hvi
    rw [hvi] at h8
    exact ⟨cc, ⟨by simpa using h8, by simpa using h4, ⟨_, hrc.cell c (by rw [tabl_len]; exact hcl)⟩, hrc.free c⟩, fun w2 hb => (h.step hb).setI hp hcl t⟩
  have HTL : Hid (∀ w1, GoS w0 w1 x l p t v { a with L := up a.L s 0, I := up a.I c t } → ∀ Q, _) := fun w1 h Q => send_tail x l w0 p t v { a with L := up a.L s 0, I := up a.I c t } s c w1 hk0 h hs hv hcl Q
  have c6 := HB6.out
  have c66 := HB7.out
  unfold bufV at c66
  rw [← hlen] at c66
  simp only [firstV] at HFO
  clear hS hk0 hp hok hr hall hin hI hm hlen hrb hN hs hv hlt HB7 HB6
  go_enter Try.func65, Try.ntmps65
  refine wp_scope_fwd 3 ?_
  go_wp2_with fail
  refine HFO.out.mono ?_; rintro e w1 ⟨rfl, hb1⟩
  obtain ⟨⟨c7, ⟨u7, d0⟩, d1⟩, hS2⟩ := HS2.out w1 hb1
  have HS3 := Lib.hid hS2
  clear hb1 hS2 c6 c66
  obtain ⟨g0, g1, g2⟩ := HRG.out _ HS3.out
  go_upto_region 3 with fail
  generalize w1.setCell ⟨p.sb, s, none⟩ (.int .i64 0) = w2 at HS3 g0 g1 g2 ⊢
  clear c7 d0 d1
  go_wp2_with fail
  refine (HRB.out _).mono ?_; rintro e w3 ⟨rfl, hb3⟩
  have HS4 := Lib.hid (HS3.out.step hb3)
  clear hb3 g0 g1 g2
  go_wp2_with fail
  go_step3
  clear HFO HRB HS2 HRG
  refine ⟨_, rfl, ?_⟩
  obtain ⟨cc, ⟨h8, h4, ⟨uu, hu⟩, hfz⟩, hset⟩ := HS5.out w3 HS4.out
  have HSET := Lib.hid (hset _ (Below.refl _ _).drew)
  clear hset HS5
  go_upto_region 5 with fail
  go_region
  go_wp2_with fail
  go_step3
  refine ⟨_, rfl, wp_seq (wp_skip ?_)⟩
  simp only [Exit.then]
  refine HTL.out _ HSET.out _ _ _ _ _ _ _ _ _ _ _ _ _ _ _ _ _ _ _ _ _ _ _ _ _ _ _ _ _ _ _ _ _ _ _ _ _ _ _ _ _ _ _ _ _ _ _ _ _ _ _ _ _ _ _ _ _ _ _ _ _ _ _ _ _ _ _ _ _ _ _ _ _ _ _ _ _ _ _ _ _ _ rfl fun a'' w'' hd h => ?_
  rw [up_up] at h
  exact ⟨hd, .tuple #[], by simp [results, Try.results65, go_sem], rfl, h⟩
set_option maxHeartbeats 4000000 in
theorem send_go_none (x : Ir) (l : List Ms) (w0 : World) (p : GL) (t : Nat) (v : Nat → Bool) (a : Ist) (s : Nat) (w : World) (hk : Kept x l w0 p) (hS : GoS w0 w x l p t v a) (hs : s < x.n.toNat) (hv : v s = false) (hI : ∀ i, i < l.length → a.I i = -1 ∨ 0 ≤ a.I i) (hm : ∀ i, i < x.n.toNat → (a.B i).length ≤ x.r.toNat) (N : Option Nat) (hN : (iwOf x l).sw.next a.I s t = N) (hNc : N = none) (c : Nat) (r : List Nat) (hB : a.B s = c :: r) (hc : c < l.length) :
    Calls Try.prog 65 #[.pointer (some ⟨p.g, 0, none⟩), .int .i64 s] w (DoneTo w0 x l p t (up v s true) { a with B := up a.B s r, L := up a.L s (c + 1) }) := by
  have hk0 := hk
  obtain ⟨hp, hok, hr⟩ := hk
  have hin := isIr_in (inOk_in hok).1
  obtain ⟨hl20, hall, _⟩ := areMs_in (inOk_in hok).2
  have HFO := Lib.hid (firstOwn_any x l w0 p t v a s w hall hl20 hS hr hI (by omega))
  rw [hN] at HFO
  have HRB := Lib.hid (fun w => roomBeforeOwn_any x l w (by omega))
  obtain ⟨rb, hrb⟩ : ∃ rb, rb = (iwOf x l).rb := ⟨_, rfl⟩
  rw [← hrb] at HRB
  have HRBE := Lib.hid hrb
  obtain ⟨len, hlen⟩ : ∃ len, len = (a.B s).length := ⟨_, rfl⟩
  have HB6 : Hid (w.cell? ⟨p.g, 6, none⟩ = some (.slice (some ⟨p.bb, 0, none⟩) x.n.toNat x.n.toNat)) := by
    show _ = _
    have := hS.run.cell 6
    simpa using this
  have HB7 : Hid (w.cell? ⟨p.bb, s, none⟩ = some (bufV p.rm x.r.toNat s (a.B s).length)) := by
    show _ = _
    have := hS.bufs.cell s
    rw [rowA_at _ _ _ hs] at this
    exact this
  have HS2 : Hid (∀ w1, Below w.heap.size w w1 → (w1.cell? ⟨p.g, 7, none⟩ = some (.slice (some ⟨p.sb, 0, none⟩) x.n.toNat x.n.toNat) ∧ (∃ u, w1.cell? ⟨p.sb, s, none⟩ = some u) ∧ w1.frozen? ⟨p.sb, s, none⟩ = false) ∧ GoS w0 (w1.setCell ⟨p.sb, s, none⟩ (.int .i64 0)) x l p t v { a with L := up a.L s 0 }) := by
    show ∀ _, _
    intro w1 hb
    have h1 := hS.step hb
    have h2 := h1.run.cell 7
    have h3 := h1.sent.cell s (by rw [tabl_len]; exact hs)
    exact ⟨⟨by simpa using h2, ⟨_, h3⟩, h1.sent.free s⟩, h1.setL hp hv 0⟩
  have HRG : Hid (∀ w1, GoS w0 w1 x l p t v { a with L := up a.L s 0 } → w1.cell? ⟨p.g, 0, none⟩ = some (.int .i64 x.n) ∧ w1.cell? ⟨p.g, 1, none⟩ = some (.int .i64 x.r) ∧ w1.cell? ⟨p.g, 2, none⟩ = some (.bool x.h)) := by
    show ∀ _, _
    intro w1 h
    have a0 := h.run.cell 0
    have a1 := h.run.cell 1
    have a2 := h.run.cell 2
    exact ⟨by simpa using a0, by simpa using a1, by simpa using a2⟩
  have hsn : s < x.n.toNat := hs
  have hsI : (s : Int) < ((x.n.toNat : Nat) : Int) := by omega
  subst hNc
  have hl0 : 0 < len := by rw [hlen, hB]; simp
  have hl0I : (0 : Int) < (len : Int) := by omega
  have HTL : Hid (∀ w1, GoS w0 w1 x l p t v { a with L := up a.L s 0 } → ∀ Q, _) := fun w1 h Q => send_pass x l w0 p t v { a with L := up a.L s 0 } s c r w1 hk0 h hs hv hm hB hc Q
  have c6 := HB6.out
  have c66 := HB7.out
  unfold bufV at c66 HTL
  simp only at HTL
  rw [← hlen] at c66 HTL
  simp only [firstV] at HFO
  clear hS hk0 hp hok hr hall hin hI hm hlen hrb hN hs hv HB7 HB6 hB
  go_enter Try.func65, Try.ntmps65
  refine wp_scope_fwd 3 ?_
  go_wp2_with fail
  refine HFO.out.mono ?_; rintro e w1 ⟨rfl, hb1⟩
  obtain ⟨⟨c7, ⟨u7, d0⟩, d1⟩, hS2⟩ := HS2.out w1 hb1
  have HS3 := Lib.hid hS2
  clear hb1 hS2 c6 c66
  go_wp2_with fail
  go_step3
  refine ⟨_, rfl, ?_⟩
  refine HTL.out _ HS3.out _ _ _ _ _ _ _ _ _ _ _ _ _ _ _ _ _ _ _ _ _ _ _ _ _ _ _ _ _ _ _ _ _ _ _ _ _ _ _ _ _ _ _ _ _ _ _ _ _ _ _ _ _ _ _ _ _ _ _ _ _ _ _ _ _ _ _ _ _ _ _ _ _ _ _ _ _ _ _ _ _ _ rfl fun a'' w'' hd h => ?_
  rw [up_up] at h
  exact ⟨hd, .tuple #[], by simp [results, Try.results65, go_sem], rfl, h⟩
set_option maxHeartbeats 4000000 in
theorem send_go_some (x : Ir) (l : List Ms) (w0 : World) (p : GL) (t : Nat) (v : Nat → Bool) (a : Ist) (s : Nat) (w : World) (hk : Kept x l w0 p) (hS : GoS w0 w x l p t v a) (hs : s < x.n.toNat) (hv : v s = false) (hI : ∀ i, i < l.length → a.I i = -1 ∨ 0 ≤ a.I i) (hm : ∀ i, i < x.n.toNat → (a.B i).length ≤ x.r.toNat) (N : Option Nat) (hN : (iwOf x l).sw.next a.I s t = N) (c' : Nat) (hNc : N = some c') (hlt : ¬ (a.B s).length < (iwOf x l).rb) (c : Nat) (r : List Nat) (hB : a.B s = c :: r) (hc : c < l.length) :
    Calls Try.prog 65 #[.pointer (some ⟨p.g, 0, none⟩), .int .i64 s] w (DoneTo w0 x l p t (up v s true) { a with B := up a.B s r, L := up a.L s (c + 1) }) := by
  have hk0 := hk
  obtain ⟨hp, hok, hr⟩ := hk
  have hin := isIr_in (inOk_in hok).1
  obtain ⟨hl20, hall, _⟩ := areMs_in (inOk_in hok).2
  have HFO := Lib.hid (firstOwn_any x l w0 p t v a s w hall hl20 hS hr hI (by omega))
  rw [hN] at HFO
  have HRB := Lib.hid (fun w => roomBeforeOwn_any x l w (by omega))
  obtain ⟨rb, hrb⟩ : ∃ rb, rb = (iwOf x l).rb := ⟨_, rfl⟩
  rw [← hrb] at HRB
  have HRBE := Lib.hid hrb
  obtain ⟨len, hlen⟩ : ∃ len, len = (a.B s).length := ⟨_, rfl⟩
  have HB6 : Hid (w.cell? ⟨p.g, 6, none⟩ = some (.slice (some ⟨p.bb, 0, none⟩) x.n.toNat x.n.toNat)) := by
    show _ = _
    have := hS.run.cell 6
    simpa using this
  have HB7 : Hid (w.cell? ⟨p.bb, s, none⟩ = some (bufV p.rm x.r.toNat s (a.B s).length)) := by
    show _ = _
    have := hS.bufs.cell s
    rw [rowA_at _ _ _ hs] at this
    exact this
  have HS2 : Hid (∀ w1, Below w.heap.size w w1 → (w1.cell? ⟨p.g, 7, none⟩ = some (.slice (some ⟨p.sb, 0, none⟩) x.n.toNat x.n.toNat) ∧ (∃ u, w1.cell? ⟨p.sb, s, none⟩ = some u) ∧ w1.frozen? ⟨p.sb, s, none⟩ = false) ∧ GoS w0 (w1.setCell ⟨p.sb, s, none⟩ (.int .i64 0)) x l p t v { a with L := up a.L s 0 }) := by
    show ∀ _, _
    intro w1 hb
    have h1 := hS.step hb
    have h2 := h1.run.cell 7
    have h3 := h1.sent.cell s (by rw [tabl_len]; exact hs)
    exact ⟨⟨by simpa using h2, ⟨_, h3⟩, h1.sent.free s⟩, h1.setL hp hv 0⟩
  have HRG : Hid (∀ w1, GoS w0 w1 x l p t v { a with L := up a.L s 0 } → w1.cell? ⟨p.g, 0, none⟩ = some (.int .i64 x.n) ∧ w1.cell? ⟨p.g, 1, none⟩ = some (.int .i64 x.r) ∧ w1.cell? ⟨p.g, 2, none⟩ = some (.bool x.h)) := by
    show ∀ _, _
    intro w1 h
    have a0 := h.run.cell 0
    have a1 := h.run.cell 1
    have a2 := h.run.cell 2
    exact ⟨by simpa using a0, by simpa using a1, by simpa using a2⟩
  have hsn : s < x.n.toNat := hs
  have hsI : (s : Int) < ((x.n.toNat : Nat) : Int) := by omega
  subst hNc
  rw [← hrb, ← hlen] at hlt
  have hltI : ¬ (len : Int) < (rb : Int) := by omega
  have hl0 : 0 < len := by rw [hlen, hB]; simp
  have hl0I : (0 : Int) < (len : Int) := by omega
  have HTL : Hid (∀ w1, GoS w0 w1 x l p t v { a with L := up a.L s 0 } → ∀ Q, _) := fun w1 h Q => send_pass x l w0 p t v { a with L := up a.L s 0 } s c r w1 hk0 h hs hv hm hB hc Q
  have c6 := HB6.out
  have c66 := HB7.out
  unfold bufV at c66 HTL
  simp only at HTL
  rw [← hlen] at c66 HTL
  simp only [firstV] at HFO
  clear hS hk0 hp hok hr hall hin hI hm hlen hrb hN hs hv HB7 HB6 hB hlt
  go_enter Try.func65, Try.ntmps65
  refine wp_scope_fwd 3 ?_
  go_wp2_with fail
  refine HFO.out.mono ?_; rintro e w1 ⟨rfl, hb1⟩
  obtain ⟨⟨c7, ⟨u7, d0⟩, d1⟩, hS2⟩ := HS2.out w1 hb1
  have HS3 := Lib.hid hS2
  clear hb1 hS2 c6 c66
  obtain ⟨g0, g1, g2⟩ := HRG.out _ HS3.out
  go_upto_region 3 with fail
  generalize w1.setCell ⟨p.sb, s, none⟩ (.int .i64 0) = w2 at HS3 g0 g1 g2 ⊢
  clear c7 d0 d1
  go_wp2_with fail
  refine (HRB.out _).mono ?_; rintro e w3 ⟨rfl, hb3⟩
  have HS4 := Lib.hid (HS3.out.step hb3)
  clear hb3 g0 g1 g2
  go_wp2_with fail
  go_step3
  refine ⟨_, rfl, ?_⟩
  refine HTL.out _ HS4.out _ _ _ _ _ _ _ _ _ _ _ _ _ _ _ _ _ _ _ _ _ _ _ _ _ _ _ _ _ _ _ _ _ _ _ _ _ _ _ _ _ _ _ _ _ _ _ _ _ _ _ _ _ _ _ _ _ _ _ _ _ _ _ _ _ _ _ _ _ _ _ _ _ _ _ _ _ _ _ _ _ _ rfl fun a'' w'' hd h => ?_
  rw [up_up] at h
  exact ⟨hd, .tuple #[], by simp [results, Try.results65, go_sem], rfl, h⟩
set_option maxHeartbeats 4000000 in
theorem send_idle (x : Ir) (l : List Ms) (w0 : World) (p : GL) (t : Nat) (v : Nat → Bool) (a : Ist) (s : Nat) (w : World) (hk : Kept x l w0 p) (hS : GoS w0 w x l p t v a) (hs : s < x.n.toNat) (hv : v s = false) (hI : ∀ i, i < l.length → a.I i = -1 ∨ 0 ≤ a.I i) (hm : ∀ i, i < x.n.toNat → (a.B i).length ≤ x.r.toNat) (N : Option Nat) (hN : (iwOf x l).sw.next a.I s t = N) (hNc : N = none) (hB : a.B s = []) :
    Calls Try.prog 65 #[.pointer (some ⟨p.g, 0, none⟩), .int .i64 s] w (DoneTo w0 x l p t (up v s true) { a with L := up a.L s 0, D := up a.D s (a.D s + 1) }) := by
  have hk0 := hk
  obtain ⟨hp, hok, hr⟩ := hk
  have hin := isIr_in (inOk_in hok).1
  obtain ⟨hl20, hall, _⟩ := areMs_in (inOk_in hok).2
  have HFO := Lib.hid (firstOwn_any x l w0 p t v a s w hall hl20 hS hr hI (by omega))
  rw [hN] at HFO
  have HRB := Lib.hid (fun w => roomBeforeOwn_any x l w (by omega))
  obtain ⟨rb, hrb⟩ : ∃ rb, rb = (iwOf x l).rb := ⟨_, rfl⟩
  rw [← hrb] at HRB
  have HRBE := Lib.hid hrb
  obtain ⟨len, hlen⟩ : ∃ len, len = (a.B s).length := ⟨_, rfl⟩
  have HB6 : Hid (w.cell? ⟨p.g, 6, none⟩ = some (.slice (some ⟨p.bb, 0, none⟩) x.n.toNat x.n.toNat)) := by
    show _ = _
    have := hS.run.cell 6
    simpa using this
  have HB7 : Hid (w.cell? ⟨p.bb, s, none⟩ = some (bufV p.rm x.r.toNat s (a.B s).length)) := by
    show _ = _
    have := hS.bufs.cell s
    rw [rowA_at _ _ _ hs] at this
    exact this
  have HS2 : Hid (∀ w1, Below w.heap.size w w1 → (w1.cell? ⟨p.g, 7, none⟩ = some (.slice (some ⟨p.sb, 0, none⟩) x.n.toNat x.n.toNat) ∧ (∃ u, w1.cell? ⟨p.sb, s, none⟩ = some u) ∧ w1.frozen? ⟨p.sb, s, none⟩ = false) ∧ GoS w0 (w1.setCell ⟨p.sb, s, none⟩ (.int .i64 0)) x l p t v { a with L := up a.L s 0 }) := by
    show ∀ _, _
    intro w1 hb
    have h1 := hS.step hb
    have h2 := h1.run.cell 7
    have h3 := h1.sent.cell s (by rw [tabl_len]; exact hs)
    exact ⟨⟨by simpa using h2, ⟨_, h3⟩, h1.sent.free s⟩, h1.setL hp hv 0⟩
  have HRG : Hid (∀ w1, GoS w0 w1 x l p t v { a with L := up a.L s 0 } → w1.cell? ⟨p.g, 0, none⟩ = some (.int .i64 x.n) ∧ w1.cell? ⟨p.g, 1, none⟩ = some (.int .i64 x.r) ∧ w1.cell? ⟨p.g, 2, none⟩ = some (.bool x.h)) := by
    show ∀ _, _
    intro w1 h
    have a0 := h.run.cell 0
    have a1 := h.run.cell 1
    have a2 := h.run.cell 2
    exact ⟨by simpa using a0, by simpa using a1, by simpa using a2⟩
  have hsn : s < x.n.toNat := hs
  have hsI : (s : Int) < ((x.n.toNat : Nat) : Int) := by omega
  subst hNc
  have hl0 : len = 0 := by rw [hlen, hB]; rfl
  subst hl0
  have HFI : Hid (∀ w1, GoS w0 w1 x l p t v { a with L := up a.L s 0 } → GoS w0 w1 x l p t (up v s true) { a with L := up a.L s 0, D := up a.D s (a.D s + 1) }) := by
    show ∀ _, _
    intro w1 h
    refine h.congr (fun j hj => ?_) rfl (fun _ _ => rfl) rfl rfl rfl
    unfold Iw.qv
    by_cases e : (iwOf x l).pr j = s
    · rw [e, hv, up_same]; simp [up_same, lkv]
    · rw [up_ne _ _ _ e]
  have c6 := HB6.out
  have c66 := HB7.out
  unfold bufV at c66
  rw [← hlen] at c66
  simp only [firstV] at HFO
  clear hS hk0 hp hok hr hall hin hI hm hlen hrb hN hs hv HB7 HB6 hB
  go_enter Try.func65, Try.ntmps65
  refine wp_scope_fwd 3 ?_
  go_wp2_with fail
  refine HFO.out.mono ?_; rintro e w1 ⟨rfl, hb1⟩
  obtain ⟨⟨c7, ⟨u7, d0⟩, d1⟩, hS2⟩ := HS2.out w1 hb1
  have HS3 := Lib.hid hS2
  clear hb1 hS2 c6 c66
  go_wp2_with fail
  exact ⟨rfl, .tuple #[], by simp [results, Try.results65, go_sem], rfl, HFI.out _ HS3.out⟩
/-- A station sends, whatever it has. -/
theorem send_any (x : Ir) (l : List Ms) (w0 : World) (p : GL) (t : Nat) (v : Nat → Bool) (m : Nat → Nat) (a : Ist) (s : Nat) (w : World) (hk : Kept x l w0 p) (hS : GoS w0 w x l p t v a) (hInv : (iwOf x l).Inv v m a) (hs : s < x.n.toNat) (hv : v s = false) (hI : ∀ i, i < l.length → a.I i = -1 ∨ 0 ≤ a.I i) (hm : ∀ i, i < x.n.toNat → (a.B i).length ≤ x.r.toNat) :
    Calls Try.prog 65 #[.pointer (some ⟨p.g, 0, none⟩), .int .i64 s] w (DoneTo w0 x l p t (up v s true) ((iwOf x l).put t s a)) := by
  have hrb : 1 ≤ (iwOf x l).rb := by unfold Iw.rb; have := (iwOk hk.ok).r1; split <;> omega
  unfold Iw.put
  cases hN : (iwOf x l).sw.next a.I s t with
  | none =>
    simp only
    unfold Iw.pass
    cases hB : a.B s with
    | nil => exact send_idle x l w0 p t v a s w hk hS hs hv hI hm none hN rfl hB
    | cons c r => exact send_go_none x l w0 p t v a s w hk hS hs hv hI hm none hN rfl c r hB (hInv.mem s hs c (by rw [hB]; simp)).1
  | some c' =>
    simp only
    by_cases hlt : (a.B s).length < (iwOf x l).rb
    · rw [if_pos hlt]
      exact send_ins x l w0 p t v a s w hk hS hs hv hI hm _ hN c' rfl hlt
    · rw [if_neg hlt]
      unfold Iw.pass
      cases hB : a.B s with
      | nil => rw [hB] at hlt; simp at hlt; omega
      | cons c r => exact send_go_some x l w0 p t v a s w hk hS hs hv hI hm _ hN c' rfl hlt c r hB (hInv.mem s hs c (by rw [hB]; simp)).1
end Go.Proofs.Ythgnflcdpmedlaa
