/-
  Cells that are inserted: each sending brings a cell nearer, so that all of them are read in time; ticks of insertion and reading stay.
-/
import Derived.Test.YthgnflcdpmedlaaMathIns
namespace Go.Proofs.Ythgnflcdpmedlaa
open Go.RowKit
set_option maxRecDepth 100000
set_option linter.unusedVariables false

/-- The distances of a list of cells. -/
def Iw.dl (x : Iw) (s : Nat) : List Nat → Nat
  | [] => 0
  | c :: r => x.d s (x.sw.to_ c) + x.dl s r
theorem Iw.dl_snoc (x : Iw) (s : Nat) (l : List Nat) (c : Nat) : x.dl s (l ++ [c]) = x.dl s l + x.d s (x.sw.to_ c) := by
  induction l with
  | nil => simp [Iw.dl]
  | cons a l ih => rw [List.cons_append, Iw.dl, Iw.dl, ih]; omega
def Iw.ld (x : Iw) (v : Nat → Bool) (a : Ist) (p : Nat) : Nat := if v p = true ∧ a.L p ≠ 0 then x.d (x.su p) (x.sw.to_ (a.L p - 1)) else 0
def Iw.wd (x : Iw) (a : Ist) (c : Nat) : Nat := if a.I c < 0 then x.d (x.sw.fr c) (x.sw.to_ c) else 0
/-- How many links are still to be gone over. -/
def Iw.phi (x : Iw) (v : Nat → Bool) (a : Ist) : Nat := sumN (fun s => x.dl s (a.B s)) x.sw.n + sumN (x.ld v a) x.sw.n + sumN (x.wd a) x.sw.len
theorem Iw.phi_congr {x : Iw} {v v' : Nat → Bool} {a : Ist} (h : ∀ p, p < x.sw.n → v p = v' p) : x.phi v a = x.phi v' a := by
  unfold Iw.phi
  rw [sumN_congr (f := x.ld v a) (g := x.ld v' a) (fun p hp => by unfold Iw.ld; rw [h p hp])]
theorem Iw.phi_get {x : Iw} (hx : x.Ok) {v : Nat → Bool} {m : Nat → Nat} {a : Ist} (h : x.Inv v m a) {t s : Nat} (hs : s < x.sw.n) (hv : v (x.pr s) = true) : x.phi (up v (x.pr s) false) (x.get t s a) = x.phi v a := by
  have hp := x.pr_lt hx s
  have hlk : ∀ (a' : Ist), a'.L = a.L → sumN (x.ld (up v (x.pr s) false) a') x.sw.n + x.ld v a (x.pr s) = sumN (x.ld v a) x.sw.n := by
    intro a' ha
    have h1 := sumN_one (f := x.ld (up v (x.pr s) false) a') (g := x.ld v a) hp (fun i _ hne => by unfold Iw.ld; rw [up_ne _ _ _ hne, ha])
    have h2 : x.ld (up v (x.pr s) false) a' (x.pr s) = 0 := by unfold Iw.ld; rw [up_same, if_neg (by simp)]
    omega
  unfold Iw.get
  split
  · rename_i h0
    have h1 := hlk a rfl
    have h2 : x.ld v a (x.pr s) = 0 := by unfold Iw.ld; rw [h0, if_neg (by simp)]
    unfold Iw.phi
    omega
  · rename_i c0 h0
    have h2 : x.ld v a (x.pr s) = x.d s (x.sw.to_ c0) := by unfold Iw.ld; rw [h0, if_pos ⟨hv, by omega⟩, Iw.su_pr hx hs]; rfl
    split
    · rename_i hto
      have h1 := hlk { a with R := up a.R c0 t } rfl
      rw [hto, Iw.d_self hs] at h2
      have e1 : sumN (x.wd { a with R := up a.R c0 t }) x.sw.len = sumN (x.wd a) x.sw.len := rfl
      unfold Iw.phi
      simp only
      omega
    · have h1 := hlk { a with B := up a.B s (a.B s ++ [c0]) } rfl
      have h3 := sumN_one (f := fun s' => x.dl s' (up a.B s (a.B s ++ [c0]) s')) (g := fun s' => x.dl s' (a.B s')) hs (fun i _ hne => by simp only [up_ne _ _ _ hne])
      simp only [up_same, Iw.dl_snoc] at h3
      have e1 : sumN (x.wd { a with B := up a.B s (a.B s ++ [c0]) }) x.sw.len = sumN (x.wd a) x.sw.len := rfl
      unfold Iw.phi
      simp only
      omega
theorem Iw.ld_put {x : Iw} {v : Nat → Bool} {a : Ist} {s : Nat} (hs : s < x.sw.n) (hv : v s = false) (a' : Ist) (y : Nat) (ha : a'.L = up a.L s y) : sumN (x.ld (up v s true) a') x.sw.n = sumN (x.ld v a) x.sw.n + (if y = 0 then 0 else x.d (x.su s) (x.sw.to_ (y - 1))) := by
  have h1 := sumN_one (f := x.ld (up v s true) a') (g := x.ld v a) hs (fun i _ hne => by unfold Iw.ld; rw [up_ne _ _ _ hne, ha, up_ne _ _ _ hne])
  have h2 : x.ld v a s = 0 := by unfold Iw.ld; rw [hv, if_neg (by simp)]
  have h3 : x.ld (up v s true) a' s = if y = 0 then 0 else x.d (x.su s) (x.sw.to_ (y - 1)) := by unfold Iw.ld; rw [ha, up_same, up_same]; by_cases e : y = 0 <;> simp [e]
  omega
theorem Iw.phi_pass {x : Iw} (hx : x.Ok) {v : Nat → Bool} {m : Nat → Nat} {a : Ist} (h : x.Inv v m a) {s : Nat} (hs : s < x.sw.n) (hv : v s = false) : x.phi (up v s true) (x.pass s a) + (if (x.pass s a).L s = 0 then 0 else 1) = x.phi v a := by
  unfold Iw.pass
  split
  · rename_i h0
    have h1 := Iw.ld_put hs hv { a with L := up a.L s 0, D := up a.D s (a.D s + 1) } 0 rfl
    rw [if_pos rfl] at h1
    have e1 : sumN (x.wd { a with L := up a.L s 0, D := up a.D s (a.D s + 1) }) x.sw.len = sumN (x.wd a) x.sw.len := rfl
    unfold Iw.phi
    simp only [up_same, if_true]
    omega
  · rename_i c0 r h0
    have hc0 := h.mem s hs c0 (by rw [h0]; simp)
    have h1 := Iw.ld_put hs hv { a with L := up a.L s (c0 + 1), B := up a.B s r } (c0 + 1) rfl
    rw [if_neg (by omega)] at h1
    have h3 := sumN_one (f := fun s' => x.dl s' (up a.B s r s')) (g := fun s' => x.dl s' (a.B s')) hs (fun i _ hne => by simp only [up_ne _ _ _ hne])
    simp only [up_same, h0, Iw.dl] at h3
    have h4 := Iw.d_step hx hs (hx.ok.ton c0 hc0.1) hc0.2
    have e1 : sumN (x.wd { a with L := up a.L s (c0 + 1), B := up a.B s r }) x.sw.len = sumN (x.wd a) x.sw.len := rfl
    have e2 : c0 + 1 - 1 = c0 := rfl
    rw [e2] at h1
    unfold Iw.phi
    simp only [up_same]
    rw [if_neg (by omega)]
    omega
theorem Iw.phi_snd {x : Iw} (hx : x.Ok) {v : Nat → Bool} {m : Nat → Nat} {a : Ist} (h : x.Inv v m a) {t s : Nat} (hs : s < x.sw.n) (hv : v s = false) : x.phi (up v s true) (x.snd t s a) + (if (x.snd t s a).L s = 0 then 0 else 1) = x.phi v a := by
  have e0 : ∀ v, x.phi v (x.snd t s a) = x.phi v (x.put t s a) := fun _ => rfl
  have e9 : (x.snd t s a).L = (x.put t s a).L := rfl
  rw [e0, e9]
  unfold Iw.put
  split
  · rename_i c0 h0
    obtain ⟨hc0, hfr, htk, hI⟩ := Sw.next_some h0
    split
    · have h1 := Iw.ld_put hs hv { a with I := up a.I c0 t, L := up a.L s (c0 + 1) } (c0 + 1) rfl
      rw [if_neg (by omega)] at h1
      have h3 := sumN_one (f := x.wd { a with I := up a.I c0 t, L := up a.L s (c0 + 1) }) (g := x.wd a) hc0 (fun i _ hne => by unfold Iw.wd; simp only [up_ne _ _ _ hne])
      have h5 : x.wd { a with I := up a.I c0 t, L := up a.L s (c0 + 1) } c0 = 0 := by unfold Iw.wd; simp only [up_same]; rw [if_neg (by omega)]
      have h6 : x.wd a c0 = x.d s (x.sw.to_ c0) := by unfold Iw.wd; rw [if_pos hI, hfr]
      have h4 := Iw.d_step hx hs (hx.ok.ton c0 hc0) (by rw [← hfr]; exact fun e => hx.ok.ne c0 hc0 e.symm)
      have e2 : c0 + 1 - 1 = c0 := rfl
      rw [e2] at h1
      unfold Iw.phi
      simp only [up_same]
      rw [if_neg (by omega)]
      omega
    · exact Iw.phi_pass hx h hs hv
  · exact Iw.phi_pass hx h hs hv
/-! ### What a sending leaves alone. -/
theorem Iw.pass_L {x : Iw} {s : Nat} {a : Ist} {p : Nat} (hp : p ≠ s) : (x.pass s a).L p = a.L p := by unfold Iw.pass; split <;> simp only [up_ne _ _ _ hp]
theorem Iw.snd_L {x : Iw} {t s : Nat} {a : Ist} {p : Nat} (hp : p ≠ s) : (x.snd t s a).L p = a.L p := by
  show (x.put t s a).L p = a.L p
  unfold Iw.put
  split
  · split
    · simp only [up_ne _ _ _ hp]
    · exact Iw.pass_L hp
  · exact Iw.pass_L hp
theorem Iw.pass_B {x : Iw} {s : Nat} {a : Ist} {p : Nat} (hp : p ≠ s) : (x.pass s a).B p = a.B p := by
  unfold Iw.pass
  split
  · rfl
  · simp only [up_ne _ _ _ hp]
theorem Iw.put_B {x : Iw} {t s : Nat} {a : Ist} {p : Nat} (hp : p ≠ s) : (x.put t s a).B p = a.B p := by
  unfold Iw.put
  split
  · split
    · rfl
    · exact Iw.pass_B hp
  · exact Iw.pass_B hp
theorem Iw.snd_B {x : Iw} {t s : Nat} {a : Ist} {p : Nat} (hp : p ≠ s) : (x.snd t s a).B p = a.B p := Iw.put_B hp
theorem Iw.pass_I {x : Iw} {s : Nat} {a : Ist} : (x.pass s a).I = a.I := by unfold Iw.pass; split <;> rfl
theorem Iw.pass_R {x : Iw} {s : Nat} {a : Ist} : (x.pass s a).R = a.R := by unfold Iw.pass; split <;> rfl
theorem Iw.snd_R {x : Iw} {t s : Nat} {a : Ist} : (x.snd t s a).R = a.R := by
  show (x.put t s a).R = a.R
  unfold Iw.put
  split
  · split
    · rfl
    · exact Iw.pass_R
  · exact Iw.pass_R
theorem Iw.snd_I {x : Iw} {t s : Nat} {a : Ist} (c : Nat) : (x.snd t s a).I c = a.I c ∨ (a.I c < 0 ∧ (x.snd t s a).I c = t ∧ c < x.sw.len ∧ x.sw.fr c = s) := by
  show (x.put t s a).I c = a.I c ∨ (a.I c < 0 ∧ (x.put t s a).I c = t ∧ c < x.sw.len ∧ x.sw.fr c = s)
  unfold Iw.put
  split
  · rename_i c0 h0
    obtain ⟨hc0, hfr, htk, hI⟩ := Sw.next_some h0
    split
    · by_cases e : c = c0
      · subst e; exact .inr ⟨hI, up_same _ _ _, hc0, hfr⟩
      · exact .inl (up_ne _ _ _ e)
    · exact .inl (by rw [Iw.pass_I])
  · exact .inl (by rw [Iw.pass_I])
/-- A station that sends nothing has nothing. -/
theorem Iw.snd_idle {x : Iw} (hx : x.Ok) {t s : Nat} {a : Ist} (h : (x.snd t s a).L s = 0) : (x.snd t s a).B s = [] ∧ ∀ c, c < x.sw.len → x.sw.fr c = s → x.sw.tk c ≤ t → 0 ≤ (x.snd t s a).I c := by
  change (x.put t s a).L s = 0 at h
  show (x.put t s a).B s = [] ∧ ∀ c, c < x.sw.len → x.sw.fr c = s → x.sw.tk c ≤ t → 0 ≤ (x.put t s a).I c
  have hrb : 1 ≤ x.rb := by unfold Iw.rb; have := hx.r1; split <;> omega
  unfold Iw.put at h ⊢
  split at h
  · rename_i c0 h0
    split at h
    · simp [up_same] at h
    · rename_i hlt
      exfalso
      unfold Iw.pass at h
      split at h
      · rename_i h1; rw [h1] at hlt; simp at hlt; omega
      · simp [up_same] at h
  · rename_i h0
    unfold Iw.pass at h ⊢
    split at h
    · rename_i h1
      exact ⟨h1, fun c h2 h3 h4 => Sw.next_none h0 c h2 h3 h4⟩
    · simp [up_same] at h
theorem Iw.snds_idle {x : Iw} (hx : x.Ok) {t : Nat} {a : Ist} (k : Nat) : ∀ s, s < k → (x.snds t a k).L s = 0 → (x.snds t a k).B s = [] ∧ ∀ c, c < x.sw.len → x.sw.fr c = s → x.sw.tk c ≤ t → 0 ≤ (x.snds t a k).I c := by
  induction k with
  | zero => intro s hs; omega
  | succ k ih =>
    intro s hs h0
    rw [Iw.snds] at h0 ⊢
    by_cases e : s = k
    · subst e; exact Iw.snd_idle hx h0
    · rw [Iw.snd_L e] at h0
      obtain ⟨h1, h2⟩ := ih s (by omega) h0
      refine ⟨by rw [Iw.snd_B e]; exact h1, fun c hc hf ht => ?_⟩
      rcases Iw.snd_I (x := x) (t := t) (s := k) (a := x.snds t a k) c with h3 | ⟨_, h3, _, _⟩
      · rw [h3]; exact h2 c hc hf ht
      · rw [h3]; omega
def Iw.sent (a : Ist) (k : Nat) : Nat := sumN (fun s => if a.L s = 0 then 0 else 1) k
theorem Iw.snds_phi {x : Iw} (hx : x.Ok) {a : Ist} (h : x.Inv (vs 0) (x.ms 0) a) (t k : Nat) (hk : k ≤ x.sw.n) : x.phi (vs k) (x.snds t a k) + Iw.sent (x.snds t a k) k = x.phi (vs 0) a := by
  induction k with
  | zero => rfl
  | succ k ih =>
    have h1 := Iw.phi_snd hx (Iw.snds_inv hx h t k (by omega)) (t := t) (s := k) (by omega) (by unfold vs; simp)
    have h2 := ih (by omega)
    have h3 : x.phi (vs (k + 1)) (x.snds t a (k + 1)) = x.phi (up (vs k) k true) (x.snd t k (x.snds t a k)) := Iw.phi_congr (fun p hp => by
      unfold up vs
      split
      · rename_i e; subst e; simp
      · rw [decide_eq_decide]; omega)
    have h4 : Iw.sent (x.snds t a (k + 1)) (k + 1) = Iw.sent (x.snds t a k) k + (if (x.snd t k (x.snds t a k)).L k = 0 then 0 else 1) := by
      unfold Iw.sent
      rw [sumN, sumN_congr (g := fun s => if (x.snds t a k).L s = 0 then 0 else 1) (fun s hs => by rw [Iw.snds, Iw.snd_L (by omega)])]
      rfl
    rw [h3, h4]
    omega
theorem Iw.gets_phi {x : Iw} (hx : x.Ok) {a : Ist} (h : x.Inv (x.vg 0) (x.mg 0) a) (t k : Nat) (hk : k ≤ x.sw.n) : x.phi (x.vg k) (x.gets t a k) = x.phi (x.vg 0) a := by
  induction k with
  | zero => rfl
  | succ k ih =>
    have h1 := Iw.phi_get hx (Iw.gets_inv hx h t k (by omega)) (t := t) (s := k) (by omega) (by unfold Iw.vg; rw [Iw.su_pr hx (by omega)]; simp)
    rw [← ih (by omega), ← h1]
    refine Iw.phi_congr fun p hp => ?_
    by_cases e : p = x.pr k
    · subst e; rw [up_same]; unfold Iw.vg; rw [Iw.su_pr hx (by omega)]; simp
    · rw [up_ne _ _ _ e]
      unfold Iw.vg
      rw [decide_eq_decide]
      have h2 : x.su p ≠ k := fun h3 => e (by rw [← h3, Iw.pr_su hx hp])
      omega
/-- One tick. -/
theorem Iw.tick_phi {x : Iw} (hx : x.Ok) {a : Ist} (h : x.Inv (x.vg 0) (x.mg 0) a) (t : Nat) : x.phi (x.vg 0) (x.tick t a) + Iw.sent (x.tick t a) x.sw.n = x.phi (x.vg 0) a := by
  have h1 := Iw.gets_phi hx h t x.sw.n (Nat.le_refl _)
  have h2 := Iw.mid_inv (Iw.gets_inv hx h t x.sw.n (Nat.le_refl _)) hx
  have h3 := Iw.snds_phi hx h2 t x.sw.n (Nat.le_refl _)
  have h4 : x.phi (x.vg x.sw.n) (x.gets t a x.sw.n) = x.phi (vs 0) (x.gets t a x.sw.n) := Iw.phi_congr fun p hp => by have := x.su_lt hx p; unfold Iw.vg vs; rw [decide_eq_decide]; omega
  have h5 : x.phi (vs x.sw.n) (x.tick t a) = x.phi (x.vg 0) (x.tick t a) := Iw.phi_congr fun p hp => by unfold Iw.vg vs; simp [hp]
  unfold Iw.tick at h5 ⊢
  omega
theorem Iw.tick_sends {x : Iw} (hx : x.Ok) {a : Ist} (h : x.Inv (x.vg 0) (x.mg 0) a) {t c : Nat} (hc : c < x.sw.len) (ht : x.sw.tk c ≤ t) (hr : (x.tick t a).R c < 0) : 1 ≤ Iw.sent (x.tick t a) x.sw.n := by
  have h2 := Iw.mid_inv (Iw.gets_inv hx h t x.sw.n (Nat.le_refl _)) hx
  have h3 := Iw.snds_inv hx h2 t x.sw.n (Nat.le_refl _)
  have h4 := Iw.snds_idle hx (t := t) (a := x.gets t a x.sw.n) x.sw.n
  have key : ∀ s, s < x.sw.n → (x.tick t a).L s ≠ 0 → 1 ≤ Iw.sent (x.tick t a) x.sw.n := by
    intro s hs hne
    have := sumN_le (f := fun s => if (x.tick t a).L s = 0 then 0 else 1) hs
    simp only [if_neg hne] at this
    exact this
  rcases h3.somewhere hc hr with h5 | ⟨s, hs, h5⟩ | ⟨p, hp, _, h5⟩
  · refine key (x.sw.fr c) (hx.ok.frn c hc) fun h6 => ?_
    have := (h4 _ (hx.ok.frn c hc) h6).2 c hc rfl ht
    omega
  · refine key s hs fun h6 => ?_
    rw [(h4 s hs h6).1] at h5
    cases h5
  · exact key p hp (by unfold Iw.tick; rw [h5]; omega)
theorem Iw.get_L {x : Iw} {t s : Nat} {a : Ist} : (x.get t s a).L = a.L := by unfold Iw.get; split <;> (try split) <;> rfl
theorem Iw.get_I {x : Iw} {t s : Nat} {a : Ist} : (x.get t s a).I = a.I := by unfold Iw.get; split <;> (try split) <;> rfl
theorem Iw.get_P {x : Iw} {t s : Nat} {a : Ist} : (x.get t s a).P = a.P := by unfold Iw.get; split <;> (try split) <;> rfl
theorem Iw.get_D {x : Iw} {t s : Nat} {a : Ist} : (x.get t s a).D = a.D := by unfold Iw.get; split <;> (try split) <;> rfl
theorem Iw.gets_L {x : Iw} {t : Nat} {a : Ist} (k : Nat) : (x.gets t a k).L = a.L := by
  induction k with
  | zero => rfl
  | succ k ih => rw [Iw.gets, Iw.get_L, ih]
theorem Iw.gets_I {x : Iw} {t : Nat} {a : Ist} (k : Nat) : (x.gets t a k).I = a.I := by
  induction k with
  | zero => rfl
  | succ k ih => rw [Iw.gets, Iw.get_I, ih]
theorem Iw.gets_P {x : Iw} {t : Nat} {a : Ist} (k : Nat) : (x.gets t a k).P = a.P := by
  induction k with
  | zero => rfl
  | succ k ih => rw [Iw.gets, Iw.get_P, ih]
theorem Iw.gets_D {x : Iw} {t : Nat} {a : Ist} (k : Nat) : (x.gets t a k).D = a.D := by
  induction k with
  | zero => rfl
  | succ k ih => rw [Iw.gets, Iw.get_D, ih]
theorem Iw.get_R {x : Iw} {v : Nat → Bool} {m : Nat → Nat} {a : Ist} (hx : x.Ok) (h : x.Inv v m a) {t s : Nat} (hs : s < x.sw.n) (hv : v (x.pr s) = true) (c : Nat) : (x.get t s a).R c = a.R c ∨ (a.R c < 0 ∧ (x.get t s a).R c = t) := by
  unfold Iw.get
  split
  · exact .inl rfl
  · rename_i c0 h0
    split
    · by_cases e : c = c0
      · subst e
        exact .inr ⟨(h.on_link (x.pr_lt hx s) hv h0).2, up_same _ _ _⟩
      · exact .inl (up_ne _ _ _ e)
    · exact .inl rfl
theorem Iw.gets_R {x : Iw} (hx : x.Ok) {a : Ist} (h : x.Inv (x.vg 0) (x.mg 0) a) (t k : Nat) (hk : k ≤ x.sw.n) (c : Nat) : (x.gets t a k).R c = a.R c ∨ (a.R c < 0 ∧ (x.gets t a k).R c = t) := by
  induction k with
  | zero => exact .inl rfl
  | succ k ih =>
    have h1 := Iw.get_R hx (Iw.gets_inv hx h t k (by omega)) (t := t) (s := k) (by omega) (by unfold Iw.vg; rw [Iw.su_pr hx (by omega)]; simp) c
    rw [Iw.gets]
    rcases ih (by omega) with h2 | ⟨h2, h3⟩ <;> rcases h1 with h4 | ⟨h4, h5⟩
    · exact .inl (h4.trans h2)
    · exact .inr ⟨by omega, h5⟩
    · exact .inr ⟨h2, h4.trans h3⟩
    · exact .inr ⟨h2, h5⟩
theorem Iw.snds_R {x : Iw} {t : Nat} {a : Ist} (k : Nat) : (x.snds t a k).R = a.R := by
  induction k with
  | zero => rfl
  | succ k ih => rw [Iw.snds, Iw.snd_R, ih]
theorem Iw.snds_I {x : Iw} {t : Nat} {a : Ist} (k c : Nat) : (x.snds t a k).I c = a.I c ∨ (a.I c < 0 ∧ (x.snds t a k).I c = t) := by
  induction k with
  | zero => exact .inl rfl
  | succ k ih =>
    rw [Iw.snds]
    rcases ih with h2 | ⟨h2, h3⟩ <;> rcases Iw.snd_I (x := x) (t := t) (s := k) (a := x.snds t a k) c with h4 | ⟨h4, h5, _⟩
    · exact .inl (h4.trans h2)
    · exact .inr ⟨by omega, h5⟩
    · exact .inr ⟨h2, h4.trans h3⟩
    · exact .inr ⟨h2, h5⟩
theorem Iw.tick_R {x : Iw} (hx : x.Ok) {a : Ist} (h : x.Inv (x.vg 0) (x.mg 0) a) (t c : Nat) : (x.tick t a).R c = a.R c ∨ (a.R c < 0 ∧ (x.tick t a).R c = t) := by
  unfold Iw.tick
  rw [Iw.snds_R]
  exact Iw.gets_R hx h t _ (Nat.le_refl _) c
theorem Iw.tick_I {x : Iw} (t c : Nat) (a : Ist) : (x.tick t a).I c = a.I c ∨ (a.I c < 0 ∧ (x.tick t a).I c = t) := by
  unfold Iw.tick
  have := Iw.snds_I (x := x) (t := t) (a := x.gets t a x.sw.n) x.sw.n c
  rw [Iw.gets_I] at this
  exact this
/-- Ticks that are told stay. -/
theorem Iw.run_R {x : Iw} (hx : x.Ok) (t c j : Nat) : (x.run (t + j)).R c = (x.run t).R c ∨ ((x.run t).R c < 0 ∧ (t : Int) ≤ (x.run (t + j)).R c ∧ (x.run (t + j)).R c < ((t + j : Nat) : Int)) := by
  induction j with
  | zero => exact .inl rfl
  | succ j ih =>
    have h1 := Iw.tick_R hx (Iw.run_inv hx (t + j)) (t + j) c
    rw [← Nat.add_assoc, Iw.run]
    rcases ih with h2 | ⟨h2, h3, h6⟩ <;> rcases h1 with h4 | ⟨h4, h5⟩
    · exact .inl (h4.trans h2)
    · exact .inr ⟨by omega, by rw [h5]; omega, by rw [h5]; omega⟩
    · exact .inr ⟨h2, by rw [h4]; exact h3, by rw [h4]; omega⟩
    · exact .inr ⟨h2, by rw [h5]; omega, by rw [h5]; omega⟩
theorem Iw.run_I {x : Iw} (t c j : Nat) : (x.run (t + j)).I c = (x.run t).I c ∨ ((x.run t).I c < 0 ∧ (t : Int) ≤ (x.run (t + j)).I c ∧ (x.run (t + j)).I c < ((t + j : Nat) : Int)) := by
  induction j with
  | zero => exact .inl rfl
  | succ j ih =>
    have h1 := Iw.tick_I (x := x) (t + j) c (x.run (t + j))
    rw [← Nat.add_assoc, Iw.run]
    rcases ih with h2 | ⟨h2, h3, h6⟩ <;> rcases h1 with h4 | ⟨h4, h5⟩
    · exact .inl (h4.trans h2)
    · exact .inr ⟨by omega, by rw [h5]; omega, by rw [h5]; omega⟩
    · exact .inr ⟨h2, by rw [h4]; exact h3, by rw [h4]; omega⟩
    · exact .inr ⟨h2, by rw [h5]; omega, by rw [h5]; omega⟩
theorem Iw.R_in {x : Iw} (hx : x.Ok) (t c : Nat) : (-1 ≤ (x.run t).R c ∧ (x.run t).R c < (t : Int)) ∨ (x.run t).R c = -1 := by
  have := Iw.run_R hx 0 c t
  rw [Nat.zero_add] at this
  rcases this with h | ⟨_, h1, h2⟩
  · exact .inr h
  · exact .inl ⟨by omega, h2⟩
theorem Iw.I_in {x : Iw} (t c : Nat) : (-1 ≤ (x.run t).I c ∧ (x.run t).I c < (t : Int)) ∨ (x.run t).I c = -1 := by
  have := Iw.run_I (x := x) 0 c t
  rw [Nat.zero_add] at this
  rcases this with h | ⟨_, h1, h2⟩
  · exact .inr h
  · exact .inl ⟨by omega, h2⟩
theorem Iw.phi_start (x : Iw) (hx : x.Ok) : x.phi (x.vg 0) Ist.zero ≤ x.sw.len * x.sw.n := by
  unfold Iw.phi
  have h1 : sumN (fun s => x.dl s (Ist.zero.B s)) x.sw.n = 0 := sumN_zero _
  have h2 : sumN (x.ld (x.vg 0) Ist.zero) x.sw.n = 0 := by
    rw [sumN_congr (g := fun _ => 0) (fun p _ => by unfold Iw.ld; rw [if_neg (by simp [Ist.zero])])]; exact sumN_zero _
  have h3 : sumN (x.wd Ist.zero) x.sw.len ≤ x.sw.len * x.sw.n := sumN_bound fun i _ => by
    unfold Iw.wd
    split
    · exact Nat.le_of_lt (x.d_lt hx _ _)
    · omega
  omega
theorem Iw.phi_run {x : Iw} (hx : x.Ok) (t : Nat) : x.phi (x.vg 0) (x.run t) ≤ x.sw.len * x.sw.n := by
  induction t with
  | zero => exact x.phi_start hx
  | succ t ih => have := Iw.tick_phi hx (Iw.run_inv hx t) t; rw [Iw.run]; omega
/-- All cells are read. -/
theorem Iw.all_read {x : Iw} (hx : x.Ok) {T : Nat} (hT : ∀ c, c < x.sw.len → x.sw.tk c ≤ T) : ∀ c, c < x.sw.len → 0 ≤ (x.run (T + (x.sw.len * x.sw.n + 1))).R c := by
  have key : ∀ j, x.phi (x.vg 0) (x.run (T + j)) + j ≤ x.sw.len * x.sw.n ∨ ∀ c, c < x.sw.len → 0 ≤ (x.run (T + j)).R c := by
    intro j
    induction j with
    | zero => exact .inl (by have := Iw.phi_run hx T; omega)
    | succ j ih =>
      by_cases e : ∀ c, c < x.sw.len → 0 ≤ (x.run (T + (j + 1))).R c
      · exact .inr e
      · obtain ⟨c, hc⟩ := Classical.not_forall.1 e
        obtain ⟨h1, h2⟩ := Classical.not_imp.1 hc
        have h3 : (x.run (T + (j + 1))).R c < 0 := by omega
        have h4 : (x.run (T + j)).R c < 0 := by
          have := Iw.run_R hx (T + j) c 1
          rw [Nat.add_assoc] at this
          rcases this with h | ⟨h, _⟩
          · omega
          · exact h
        rcases ih with ih | ih
        · left
          have h5 := Iw.tick_sends hx (Iw.run_inv hx (T + j)) h1 (t := T + j) (by have := hT c h1; omega) h3
          have h6 := Iw.tick_phi hx (Iw.run_inv hx (T + j)) (T + j)
          rw [← Nat.add_assoc T j 1, Iw.run]
          omega
        · have := ih c h1; omega
  rcases key (x.sw.len * x.sw.n + 1) with h | h
  · omega
  · exact h
def Iw.done (x : Iw) (t : Nat) : Bool := (List.range x.sw.len).all fun c => decide (0 ≤ (x.run t).R c)
theorem Iw.done_iff {x : Iw} {t : Nat} : x.done t = true ↔ ∀ c, c < x.sw.len → 0 ≤ (x.run t).R c := by simp [Iw.done]
/-- The first tick ahead of which all are read. -/
def Iw.need (x : Iw) : Nat := ((List.range 400).find? x.done).getD 0
theorem Iw.need_ok {x : Iw} (hx : x.Ok) (hT : ∀ c, c < x.sw.len → x.sw.tk c ≤ 100) (hn : x.sw.n ≤ 12) (hl : x.sw.len ≤ 20) : x.need < 400 ∧ x.done x.need = true ∧ ∀ t, t < x.need → x.done t = false := by
  have h1 : x.done (100 + (x.sw.len * x.sw.n + 1)) = true := Iw.done_iff.2 (Iw.all_read hx hT)
  have h2 : x.sw.len * x.sw.n ≤ 20 * 12 := Nat.mul_le_mul hl hn
  unfold Iw.need
  cases hf : (List.range 400).find? x.done with
  | none =>
    rw [List.find?_eq_none] at hf
    have := hf (100 + (x.sw.len * x.sw.n + 1)) (List.mem_range.2 (by omega))
    rw [h1] at this
    exact absurd rfl this
  | some T =>
    have h3 := List.find?_some hf
    have h4 := List.mem_range.1 (List.mem_of_find?_eq_some hf)
    refine ⟨h4, h3, fun t ht => ?_⟩
    have h5 : ∀ n, n ≤ 400 → (List.range n).find? x.done = none ∨ ∃ T', (List.range n).find? x.done = some T' ∧ ∀ t, t < T' → x.done t = false := by
      intro n
      induction n with
      | zero => intro _; exact .inl rfl
      | succ n ih =>
        intro hn
        rw [List.range_succ, List.find?_append]
        rcases ih (by omega) with h6 | ⟨T', h6, h7⟩
        · rw [h6]
          cases h8 : x.done n with
          | false => left; simp [h8]
          | true =>
            right
            refine ⟨n, by simp [h8], fun t ht => ?_⟩
            rw [List.find?_eq_none] at h6
            have := h6 t (List.mem_range.2 ht)
            simpa using this
        · exact .inr ⟨T', by rw [h6]; rfl, h7⟩
    rcases h5 400 (Nat.le_refl _) with h6 | ⟨T', h6, h7⟩
    · rw [h6] at hf; cases hf
    · rw [h6] at hf
      injection hf with hf
      subst hf
      exact h7 t ht
/-- The peak keeps to the room. -/
theorem Iw.snds_P {x : Iw} (hx : x.Ok) {a : Ist} (h : x.Inv (vs 0) (x.ms 0) a) (t k : Nat) (hk : k ≤ x.sw.n) (hP : a.P ≤ x.room) : (x.snds t a k).P ≤ x.room := by
  induction k with
  | zero => exact hP
  | succ k ih =>
    have h1 := (Iw.snds_inv hx h t (k + 1) hk).len k (by omega)
    have e : x.ms (k + 1) k = x.room - 1 := by unfold Iw.ms; rw [if_pos (by omega)]
    rw [e] at h1
    have h2 := ih (by omega)
    rw [Iw.snds] at h1 ⊢
    show max (x.snds t a k).P ((x.put t k (x.snds t a k)).B k).length ≤ x.room
    have e3 : (x.snd t k (x.snds t a k)).B k = (x.put t k (x.snds t a k)).B k := rfl
    rw [e3] at h1
    omega
theorem Iw.run_P {x : Iw} (hx : x.Ok) (t : Nat) : (x.run t).P ≤ x.room := by
  induction t with
  | zero => exact Nat.zero_le _
  | succ t ih =>
    rw [Iw.run]
    exact Iw.snds_P hx (Iw.mid_inv (Iw.gets_inv hx (Iw.run_inv hx t) t _ (Nat.le_refl _)) hx) t _ (Nat.le_refl _) (by rw [Iw.gets_P]; exact ih)
/-- Idle ticks are those at which nothing is sent. -/
theorem Iw.pass_D {x : Iw} {s : Nat} {a : Ist} (p : Nat) : (x.pass s a).D p = a.D p + (if p = s ∧ (x.pass s a).L s = 0 then 1 else 0) := by
  unfold Iw.pass
  split
  · by_cases e : p = s
    · subst e; simp [up_same]
    · simp only [up_ne _ _ _ e, e, false_and, if_false, Nat.add_zero]
  · simp [up_same]
theorem Iw.snd_D {x : Iw} {t s : Nat} {a : Ist} (p : Nat) : (x.snd t s a).D p = a.D p + (if p = s ∧ (x.snd t s a).L s = 0 then 1 else 0) := by
  show (x.put t s a).D p = a.D p + (if p = s ∧ (x.put t s a).L s = 0 then 1 else 0)
  unfold Iw.put
  split
  · split
    · simp [up_same]
    · exact Iw.pass_D p
  · exact Iw.pass_D p
theorem Iw.snds_D {x : Iw} {t : Nat} {a : Ist} (k p : Nat) : (x.snds t a k).D p = a.D p + (if p < k ∧ (x.snds t a k).L p = 0 then 1 else 0) := by
  induction k with
  | zero => simp [Iw.snds]
  | succ k ih =>
    rw [Iw.snds, Iw.snd_D, ih]
    by_cases e : p = k
    · subst e
      simp
    · rw [Iw.snd_L e]
      have e2 : (p < k + 1) ↔ (p < k) := by omega
      simp only [e, false_and, if_false, Nat.add_zero, e2]
theorem Iw.tick_D {x : Iw} {t : Nat} {a : Ist} (p : Nat) (hp : p < x.sw.n) : (x.tick t a).D p = a.D p + (if (x.tick t a).L p = 0 then 1 else 0) := by
  unfold Iw.tick
  rw [Iw.snds_D, Iw.gets_D]
  simp [hp]
theorem Iw.D_le {x : Iw} (t p : Nat) (hp : p < x.sw.n) : (x.run t).D p ≤ t := by
  induction t with
  | zero => exact Nat.le_refl 0
  | succ t ih => rw [Iw.run, Iw.tick_D p hp]; split <;> omega
end Go.Proofs.Ythgnflcdpmedlaa
