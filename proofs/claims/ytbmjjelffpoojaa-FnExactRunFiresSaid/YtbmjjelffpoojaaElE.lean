/-
  Chapter 7: the contracts of AreStates, HoldersOf, FireStation, IsOneToken and SumOfMessages, both sides.
-/
import Derived.Test.YtbmjjelffpoojaaElD
namespace Go.Proofs.Ytbmjjelffpoojaa
open Go.RowKit
set_option maxRecDepth 100000
set_option linter.unusedVariables false

/-- What AreStates says, and HoldersOf, IsOneToken, FireStation. -/
def areRg (l : List Int) (k : Int) : Bool × Bool := if wi k 2 9 = true then (stOk l k, true) else (false, false)
def holdRg (l : List Int) (k : Int) : List Int × Bool := if stOk l k = true then (holdN l l.length, true) else ([], false)
theorem holdRg_len (l : List Int) (k : Int) : (holdRg l k).1.length ≤ 1048576 := by
  unfold holdRg
  split
  · rename_i h
    have h1 := stOk_len h
    have h2 := holdN_len l l.length
    simp only
    omega
  · simp
def oneB (l : List Int) : Bool := ((holdN l l.length).length : Int) == 1
def oneRg (l : List Int) (k : Int) : Bool × Bool := if stOk l k = true then (oneB l, true) else (false, false)
def fireOk (l : List Int) (k s : Int) : Bool := stOk l k && wi s 0 (l.length - 1) && holdB l s.toNat
def fireRg (l : List Int) (k s : Int) : List Int × Bool := if fireOk l k s = true then (fireL l k s.toNat, true) else ([], false)
theorem fireRg_len (l : List Int) (k s : Int) : (fireRg l k s).1.length ≤ 1048576 := by
  unfold fireRg
  split
  · rename_i h
    simp only [fireOk, Bool.and_eq_true] at h
    have h1 := stOk_len h.1.1
    simp only [fireL_length]
    omega
  · simp


theorem implOne_any (v : Value) (l : List Int) (w : World) (h : RI w w.heap.size v l) (hn : 2 ≤ l.length ∧ l.length ≤ 12) :
    Calls Try.prog 65 #[v] w (RetV w (.bool (oneB l))) := by
  have HH := Lib.hid (implHolders_any v l w h hn)
  have hle := holdN_len l l.length
  unfold oneB
  go_enter Try.func65, Try.ntmps65
  go_wp2_with fail
  refine HH.out.mono ?_; rintro e w1 ⟨u, rfl, ho, hb⟩
  obtain ⟨A9, c9, rfl, _, _⟩ := ho.ri
  have HB := Lib.hid hb
  clear hb ho HH
  generalize (holdN l l.length).length = n at *
  go_wp2_with fail
  go_ret
  exact ⟨by first | exact rfl | simp, HB.out⟩

theorem implAreStates_any (v : Value) (l : List Int) (k : Int) (w : World) (h : RI w w.heap.size v l) (hn : l.length ≤ 1048576) (hx : (Lit.int .i64 k).wf = true) :
    Calls Try.prog 28 #[v, .int .i64 k] w (RetV w (.tuple #[.bool (areRg l k).1, .bool (areRg l k).2])) := by
  have HK := Lib.hid (implK_any k w)
  have HS := Lib.hid (implSt_any v l k w h hn)
  cases hg : wi k 2 9
  · rw [show areRg l k = (false, false) from by simp [areRg, hg]]
    rw [hg] at HK
    clear hg
    go_enter Try.func28, Try.ntmps28
    go_wp2_with fail
    refine HK.out.mono ?_; rintro e w' ⟨rfl, rfl⟩
    go_wp2_with fail
    go_ret2
    exact ⟨rfl, Below.refl _ _⟩
  · rw [show areRg l k = (stOk l k, true) from by simp [areRg, hg]]
    rw [hg] at HK
    clear hg
    go_enter Try.func28, Try.ntmps28
    go_wp2_with fail
    refine HK.out.mono ?_; rintro e w' ⟨rfl, rfl⟩
    go_wp2_with fail
    refine HS.out.mono ?_; rintro e w' ⟨rfl, rfl⟩
    go_wp2_with fail
    go_ret2
    exact ⟨rfl, Below.refl _ _⟩
theorem implHoldersOf_any (v : Value) (l : List Int) (k : Int) (w : World) (h : RI w w.heap.size v l) (hn : l.length ≤ 1048576) (hx : (Lit.int .i64 k).wf = true) :
    Calls Try.prog 30 #[v, .int .i64 k] w (RetLB 3 w (holdRg l k).1 (holdRg l k).2) := by
  have HS := Lib.hid (implSt_any v l k w h hn)
  cases hg : stOk l k
  · rw [show holdRg l k = ([], false) from by simp [holdRg, hg]]
    rw [hg] at HS
    clear hg
    go_enter Try.func30, Try.ntmps30
    go_wp2_with fail
    refine HS.out.mono ?_; rintro e w' ⟨rfl, rfl⟩
    go_wp2_with fail
    go_ret2
    exact ⟨_, rfl, (Acc.nil _ _ _).oi, Below.refl _ _⟩
  · rw [show holdRg l k = (holdN l l.length, true) from by simp [holdRg, hg]]
    rw [hg] at HS
    have HH := Lib.hid (implHolders_any v l w h (stOk_len hg))
    clear hg
    go_enter Try.func30, Try.ntmps30
    go_wp2_with fail
    refine HS.out.mono ?_; rintro e w' ⟨rfl, rfl⟩
    go_wp2_with fail
    refine HH.out.mono ?_; rintro e w1 ⟨u, rfl, ho, hb⟩
    go_wp2_with fail
    go_ret2
    exact ⟨_, rfl, ho, hb⟩
theorem implIsOneToken_any (v : Value) (l : List Int) (k : Int) (w : World) (h : RI w w.heap.size v l) (hn : l.length ≤ 1048576) (hx : (Lit.int .i64 k).wf = true) :
    Calls Try.prog 39 #[v, .int .i64 k] w (RetV w (.tuple #[.bool (oneRg l k).1, .bool (oneRg l k).2])) := by
  have HS := Lib.hid (implSt_any v l k w h hn)
  cases hg : stOk l k
  · rw [show oneRg l k = (false, false) from by simp [oneRg, hg]]
    rw [hg] at HS
    clear hg
    go_enter Try.func39, Try.ntmps39
    go_wp2_with fail
    refine HS.out.mono ?_; rintro e w' ⟨rfl, rfl⟩
    go_wp2_with fail
    go_ret2
    exact ⟨rfl, Below.refl _ _⟩
  · rw [show oneRg l k = (oneB l, true) from by simp [oneRg, hg]]
    rw [hg] at HS
    have HH := Lib.hid (implOne_any v l w h (stOk_len hg))
    clear hg
    go_enter Try.func39, Try.ntmps39
    go_wp2_with fail
    refine HS.out.mono ?_; rintro e w' ⟨rfl, rfl⟩
    go_wp2_with fail
    refine HH.out.mono ?_; rintro e w1 ⟨rfl, hb⟩
    go_wp2_with fail
    go_ret2
    exact ⟨rfl, hb⟩

set_option maxHeartbeats 1000000 in
theorem implFireStation_any (v : Value) (l : List Int) (k s : Int) (w : World) (h : RI w w.heap.size v l) (hn : l.length ≤ 1048576) (hx : (Lit.int .i64 k).wf = true) (hy : (Lit.int .i64 s).wf = true) :
    Calls Try.prog 32 #[v, .int .i64 k, .int .i64 s] w (RetLB 3 w (fireRg l k s).1 (fireRg l k s).2) := by
  have HS := Lib.hid (implSt_any v l k w h hn)
  have hln : (l.length : Int) ≤ 1048576 := by omega
  cases hg : stOk l k
  · rw [show fireRg l k s = ([], false) from by simp [fireRg, fireOk, hg]]
    rw [hg] at HS
    clear hg
    obtain ⟨A, c, rfl, _, _⟩ := h
    go_enter Try.func32, Try.ntmps32
    go_wp2_with fail
    refine HS.out.mono ?_; rintro e w' ⟨rfl, rfl⟩
    go_wp2_with fail
    go_ret2
    exact ⟨_, rfl, (Acc.nil _ _ _).oi, Below.refl _ _⟩
  rw [hg] at HS
  have h0 := stOk_len hg
  have hk := stOk_k hg
  have hin := stOk_in hg
  have HI := Lib.hid (isWithin_wi s 0 ((l.length : Int) - 1) w)
  cases hg2 : wi s 0 ((l.length : Int) - 1)
  · rw [show fireRg l k s = ([], false) from by simp [fireRg, fireOk, hg2]]
    rw [hg2] at HI
    clear hg hg2
    obtain ⟨A, c, rfl, _, _⟩ := h
    go_enter Try.func32, Try.ntmps32
    go_wp2_with fail
    refine HS.out.mono ?_; rintro e w' ⟨rfl, rfl⟩
    go_wp2_with fail
    refine HI.out.mono ?_; rintro e w' ⟨rfl, rfl⟩
    go_wp2_with fail
    go_ret2
    exact ⟨_, rfl, (Acc.nil _ _ _).oi, Below.refl _ _⟩
  rw [hg2] at HI
  obtain ⟨q, rfl, hq⟩ : ∃ q : Nat, s = (q : Int) ∧ q < l.length := by
    simp [wi] at hg2
    exact ⟨s.toNat, by omega, by omega⟩
  have HH := Lib.hid (implHolds_any v l q w h h0 hq)
  cases hg3 : holdB l q
  · rw [show fireRg l k (q : Int) = ([], false) from by simp [fireRg, fireOk, hg3]]
    rw [hg3] at HH
    clear hg hg2 hg3
    obtain ⟨A, c, rfl, _, _⟩ := h
    go_enter Try.func32, Try.ntmps32
    go_wp2_with fail
    refine HS.out.mono ?_; rintro e w' ⟨rfl, rfl⟩
    go_wp2_with fail
    refine HI.out.mono ?_; rintro e w' ⟨rfl, rfl⟩
    go_wp2_with fail
    refine HH.out.mono ?_; rintro e w1 ⟨rfl, hb⟩
    go_wp2_with fail
    go_ret2
    exact ⟨_, rfl, (Acc.nil _ _ _).oi.wide (Nat.le_refl _) (Nat.le_refl _), hb⟩
  · rw [show fireRg l k (q : Int) = (fireL l k q, true) from by simp [fireRg, fireOk, hg, hg2, hg3]]
    rw [hg3] at HH
    have HF : Hid (∀ w1, Below w.heap.size w w1 → Calls Try.prog 61 #[v, .int .i64 k, .int .i64 q] w1 (RetL 3 w1 (fireL l k q))) := by
      show ∀ w1, _
      intro w1 hb
      exact implFire_any v l k q w1 ((h.below hb).more hb.size) h0 hk hin hq
    clear hg hg2 hg3 hin
    obtain ⟨A, c, rfl, _, _⟩ := h
    go_enter Try.func32, Try.ntmps32
    go_wp2_with fail
    refine HS.out.mono ?_; rintro e w' ⟨rfl, rfl⟩
    go_wp2_with fail
    refine HI.out.mono ?_; rintro e w' ⟨rfl, rfl⟩
    go_wp2_with fail
    refine HH.out.mono ?_; rintro e w1 ⟨rfl, hb⟩
    have HF1 := Lib.hid (HF.out w1 hb)
    have HB := Lib.hid hb
    clear hb
    go_wp2_with fail
    refine HF1.out.mono ?_; rintro e w2 ⟨u, rfl, ho, hb2⟩
    go_wp2_with fail
    go_ret2
    exact ⟨_, rfl, ho.wide HB.out.size (Nat.le_refl _), HB.out.trans (hb2.mono HB.out.size)⟩


theorem specAreStates_any (v : Value) (l : List Int) (k : Int) (w : World) (h : RI w w.heap.size v l) (hn : l.length ≤ 1048576) (hx : (Lit.int .i64 k).wf = true) :
    Calls Try.prog 27 #[v, .int .i64 k] w (RetV w (.tuple #[.bool (areRg l k).1, .bool (areRg l k).2])) := by
  have HK := Lib.hid (specK_any k w)
  have HS := Lib.hid (specSt_any v l k w h hn)
  cases hg : wi k 2 9
  · rw [show areRg l k = (false, false) from by simp [areRg, hg]]
    rw [hg] at HK
    clear hg
    go_enter Try.func27, Try.ntmps27
    go_wp2_with fail
    refine HK.out.mono ?_; rintro e w' ⟨rfl, rfl⟩
    go_wp2_with fail
    go_ret2
    exact ⟨rfl, Below.refl _ _⟩
  · rw [show areRg l k = (stOk l k, true) from by simp [areRg, hg]]
    rw [hg] at HK
    clear hg
    go_enter Try.func27, Try.ntmps27
    go_wp2_with fail
    refine HK.out.mono ?_; rintro e w' ⟨rfl, rfl⟩
    go_wp2_with fail
    refine HS.out.mono ?_; rintro e w' ⟨rfl, rfl⟩
    go_wp2_with fail
    go_ret2
    exact ⟨rfl, Below.refl _ _⟩
theorem specHoldersOf_any (v : Value) (l : List Int) (k : Int) (w : World) (h : RI w w.heap.size v l) (hn : l.length ≤ 1048576) (hx : (Lit.int .i64 k).wf = true) :
    Calls Try.prog 29 #[v, .int .i64 k] w (RetLB 3 w (holdRg l k).1 (holdRg l k).2) := by
  have HS := Lib.hid (specSt_any v l k w h hn)
  cases hg : stOk l k
  · rw [show holdRg l k = ([], false) from by simp [holdRg, hg]]
    rw [hg] at HS
    clear hg
    go_enter Try.func29, Try.ntmps29
    go_wp2_with fail
    refine HS.out.mono ?_; rintro e w' ⟨rfl, rfl⟩
    go_wp2_with fail
    go_ret2
    exact ⟨_, rfl, (Acc.nil _ _ _).oi, Below.refl _ _⟩
  · rw [show holdRg l k = (holdN l l.length, true) from by simp [holdRg, hg]]
    rw [hg] at HS
    have HH := Lib.hid (specHolders_any v l w h (stOk_len hg))
    clear hg
    go_enter Try.func29, Try.ntmps29
    go_wp2_with fail
    refine HS.out.mono ?_; rintro e w' ⟨rfl, rfl⟩
    go_wp2_with fail
    refine HH.out.mono ?_; rintro e w1 ⟨u, rfl, ho, hb⟩
    go_wp2_with fail
    go_ret2
    exact ⟨_, rfl, ho, hb⟩
theorem specIsOneToken_any (v : Value) (l : List Int) (k : Int) (w : World) (h : RI w w.heap.size v l) (hn : l.length ≤ 1048576) (hx : (Lit.int .i64 k).wf = true) :
    Calls Try.prog 38 #[v, .int .i64 k] w (RetV w (.tuple #[.bool (oneRg l k).1, .bool (oneRg l k).2])) := by
  have HS := Lib.hid (specSt_any v l k w h hn)
  cases hg : stOk l k
  · rw [show oneRg l k = (false, false) from by simp [oneRg, hg]]
    rw [hg] at HS
    clear hg
    go_enter Try.func38, Try.ntmps38
    go_wp2_with fail
    refine HS.out.mono ?_; rintro e w' ⟨rfl, rfl⟩
    go_wp2_with fail
    go_ret2
    exact ⟨rfl, Below.refl _ _⟩
  · rw [show oneRg l k = (oneB l, true) from by simp [oneRg, hg]]
    rw [hg] at HS
    have HH := Lib.hid (specHolders_any v l w h (stOk_len hg))
    have hle := holdN_len l l.length
    have h12 := (stOk_len hg).2
    unfold oneB
    clear hg
    go_enter Try.func38, Try.ntmps38
    go_wp2_with fail
    refine HS.out.mono ?_; rintro e w' ⟨rfl, rfl⟩
    go_wp2_with fail
    refine HH.out.mono ?_; rintro e w1 ⟨u, rfl, ho, hb⟩
    obtain ⟨A9, c9, rfl, _, _⟩ := ho.ri
    have HB := Lib.hid hb
    clear hb ho HH
    generalize (holdN l l.length).length = n at *
    go_wp2_with fail
    go_ret2
    exact ⟨by first | exact rfl | simp, HB.out⟩

set_option maxHeartbeats 1000000 in
theorem specFireStation_any (v : Value) (l : List Int) (k s : Int) (w : World) (h : RI w w.heap.size v l) (hn : l.length ≤ 1048576) (hx : (Lit.int .i64 k).wf = true) (hy : (Lit.int .i64 s).wf = true) :
    Calls Try.prog 31 #[v, .int .i64 k, .int .i64 s] w (RetLB 3 w (fireRg l k s).1 (fireRg l k s).2) := by
  have HS := Lib.hid (specSt_any v l k w h hn)
  have hln : (l.length : Int) ≤ 1048576 := by omega
  cases hg : stOk l k
  · rw [show fireRg l k s = ([], false) from by simp [fireRg, fireOk, hg]]
    rw [hg] at HS
    clear hg
    obtain ⟨A, c, rfl, _, _⟩ := h
    go_enter Try.func31, Try.ntmps31
    go_wp2_with fail
    refine HS.out.mono ?_; rintro e w' ⟨rfl, rfl⟩
    go_wp2_with fail
    go_ret2
    exact ⟨_, rfl, (Acc.nil _ _ _).oi, Below.refl _ _⟩
  rw [hg] at HS
  have h0 := stOk_len hg
  have hk := stOk_k hg
  have hin := stOk_in hg
  have HI := Lib.hid (l1In_wi s 0 ((l.length : Int) - 1) w)
  cases hg2 : wi s 0 ((l.length : Int) - 1)
  · rw [show fireRg l k s = ([], false) from by simp [fireRg, fireOk, hg2]]
    rw [hg2] at HI
    clear hg hg2
    obtain ⟨A, c, rfl, _, _⟩ := h
    go_enter Try.func31, Try.ntmps31
    go_wp2_with fail
    refine HS.out.mono ?_; rintro e w' ⟨rfl, rfl⟩
    go_wp2_with fail
    refine HI.out.mono ?_; rintro e w' ⟨rfl, rfl⟩
    go_wp2_with fail
    go_ret2
    exact ⟨_, rfl, (Acc.nil _ _ _).oi, Below.refl _ _⟩
  rw [hg2] at HI
  obtain ⟨q, rfl, hq⟩ : ∃ q : Nat, s = (q : Int) ∧ q < l.length := by
    simp [wi] at hg2
    exact ⟨s.toNat, by omega, by omega⟩
  have HH := Lib.hid (specHolds_any v l q w h h0 hq)
  cases hg3 : holdB l q
  · rw [show fireRg l k (q : Int) = ([], false) from by simp [fireRg, fireOk, hg3]]
    rw [hg3] at HH
    clear hg hg2 hg3
    obtain ⟨A, c, rfl, _, _⟩ := h
    go_enter Try.func31, Try.ntmps31
    go_wp2_with fail
    refine HS.out.mono ?_; rintro e w' ⟨rfl, rfl⟩
    go_wp2_with fail
    refine HI.out.mono ?_; rintro e w' ⟨rfl, rfl⟩
    go_wp2_with fail
    refine HH.out.mono ?_; rintro e w1 ⟨rfl, hb⟩
    go_wp2_with fail
    go_ret2
    exact ⟨_, rfl, (Acc.nil _ _ _).oi.wide (Nat.le_refl _) (Nat.le_refl _), hb⟩
  · rw [show fireRg l k (q : Int) = (fireL l k q, true) from by simp [fireRg, fireOk, hg, hg2, hg3]]
    rw [hg3] at HH
    have HF : Hid (∀ w1, Below w.heap.size w w1 → Calls Try.prog 59 #[v, .int .i64 k, .int .i64 q] w1 (RetL 3 w1 (fireL l k q))) := by
      show ∀ w1, _
      intro w1 hb
      exact specFire_any v l k q w1 ((h.below hb).more hb.size) h0 hk hin hq
    clear hg hg2 hg3 hin
    obtain ⟨A, c, rfl, _, _⟩ := h
    go_enter Try.func31, Try.ntmps31
    go_wp2_with fail
    refine HS.out.mono ?_; rintro e w' ⟨rfl, rfl⟩
    go_wp2_with fail
    refine HI.out.mono ?_; rintro e w' ⟨rfl, rfl⟩
    go_wp2_with fail
    refine HH.out.mono ?_; rintro e w1 ⟨rfl, hb⟩
    have HF1 := Lib.hid (HF.out w1 hb)
    have HB := Lib.hid hb
    clear hb
    go_wp2_with fail
    refine HF1.out.mono ?_; rintro e w2 ⟨u, rfl, ho, hb2⟩
    go_wp2_with fail
    go_ret2
    exact ⟨_, rfl, ho.wide HB.out.size (Nat.le_refl _), HB.out.trans (hb2.mono HB.out.size)⟩


/-- n!, and the sum as the program and the model have it. -/
def facN : Nat → Int
  | 0 => 1
  | k + 1 => facN k * ((k : Int) + 1)
def sumI (n : Nat) (f : Int) : Nat → Int
  | 0 => 0
  | i + 1 => sumI n f i + ((n : Int) * f).tdiv ((i : Int) + 1)
def sumS (f : Int) : Nat → Int
  | 0 => 0
  | i + 1 => sumS f i + f.tdiv ((i : Int) + 1)
def sumRg (n : Int) : Int × Bool := if wi n 2 12 = true then (sumI n.toNat (facN n.toNat) n.toNat, true) else (0, false)
theorem sum_same : ∀ n : Nat, 2 ≤ n → n ≤ 12 → (n : Int) * sumS (facN n) n = sumI n (facN n) n := by
  have h : ∀ n : Fin 13, 2 ≤ n.1 → (n.1 : Int) * sumS (facN n.1) n.1 = sumI n.1 (facN n.1) n.1 := by decide
  exact fun n h1 h2 => h ⟨n, by omega⟩ h1
theorem fac_in : ∀ n : Nat, n ≤ 12 → 1 ≤ facN n ∧ facN n ≤ 479001600 := by
  have h : ∀ n : Fin 13, 1 ≤ facN n.1 ∧ facN n.1 ≤ 479001600 := by decide
  exact fun n h2 => h ⟨n, by omega⟩
theorem tdiv_in {a b M : Int} (h : 0 ≤ a ∧ a ≤ M) (hb : 1 ≤ b) : 0 ≤ a.tdiv b ∧ a.tdiv b ≤ M := by
  rw [Int.tdiv_eq_ediv_of_nonneg h.1]
  have h1 := Int.ediv_nonneg h.1 (show 0 ≤ b by omega)
  have h2 := Int.ediv_le_self b h.1
  omega
theorem sumI_in (n : Nat) (f : Int) (hn : n ≤ 12) (hf : 1 ≤ f ∧ f ≤ 479001600) (i : Nat) (hi : i ≤ 12) : 0 ≤ sumI n f i ∧ sumI n f i ≤ 5748019200 * i := by
  induction i with
  | zero => simp [sumI]
  | succ i ih =>
    have h1 := ih (by omega)
    have h3 : 0 ≤ (n : Int) * f ∧ (n : Int) * f ≤ 5748019200 := by
      have a1 := Int.mul_le_mul (show (n : Int) ≤ 12 by omega) hf.2 (by omega) (by omega)
      have a2 := Int.mul_nonneg (show (0 : Int) ≤ n by omega) (show 0 ≤ f by omega)
      omega
    have h2 := tdiv_in (M := 5748019200) h3 (show 1 ≤ (i : Int) + 1 by omega)
    rw [sumI]
    push_cast
    omega
theorem sumS_in (f : Int) (hf : 1 ≤ f ∧ f ≤ 479001600) (i : Nat) (hi : i ≤ 12) : 0 ≤ sumS f i ∧ sumS f i ≤ 479001600 * i := by
  induction i with
  | zero => simp [sumS]
  | succ i ih =>
    have h1 := ih (by omega)
    have h2 := tdiv_in (M := 479001600) (show 0 ≤ f ∧ f ≤ 479001600 by omega) (show 1 ≤ (i : Int) + 1 by omega)
    rw [sumS]
    push_cast
    omega


set_option maxHeartbeats 1000000 in
theorem implSumOfMessages_any (n : Int) (w : World) (hx : (Lit.int .i64 n).wf = true) :
    Calls Try.prog 26 #[.int .i64 n] w (RetV w (.tuple #[.int .i64 (sumRg n).1, .bool (sumRg n).2])) := by
  have HI := Lib.hid (isWithin_wi n 2 12 w)
  cases hg : wi n 2 12
  · rw [show sumRg n = (0, false) from by simp [sumRg, hg]]
    rw [hg] at HI
    clear hg
    go_enter Try.func26, Try.ntmps26
    go_wp2_with fail
    refine HI.out.mono ?_; rintro e w' ⟨rfl, rfl⟩
    go_wp2_with fail
    go_ret2
    exact ⟨rfl, Below.refl _ _⟩
  rw [hg] at HI
  obtain ⟨N, rfl, hN⟩ : ∃ N : Nat, n = (N : Int) ∧ 2 ≤ N ∧ N ≤ 12 := by
    simp [wi] at hg
    exact ⟨n.toNat, by omega, by omega⟩
  rw [show sumRg (N : Int) = (sumI N (facN N) N, true) from by simp [sumRg, hg]]
  clear hg hx
  have hN' : (2 : Int) ≤ (N : Int) ∧ (N : Int) ≤ 12 := by omega
  go_enter Try.func26, Try.ntmps26
  go_wp2_with fail
  refine HI.out.mono ?_; rintro e w' ⟨rfl, rfl⟩
  go_wp2_with fail
  go_loop [4, 12] (fun u i => ∃ k : Nat, k ≤ N ∧ u = .int .i64 (facN k) ∧ i = .int .i64 k) (fun _ i => N - (intOf i).toNat)
  case atStart => exact ⟨0, Nat.zero_le _, rfl, rfl⟩
  case round =>
    obtain ⟨k, hk, rfl, rfl⟩ := hrel
    have hf := fac_in k (by omega)
    by_cases hlt : k < N
    · have hf2 := fac_in (k + 1) (by omega)
      have hs : facN k * ((k : Int) + 1) = facN (k + 1) := rfl
      have HS := Lib.hid hs
      have hw : IntKind.i64.wrap (facN k * ((k : Int) + 1)) = facN (k + 1) := by rw [hs]; exact IntWalk.i64_in _ (by omega)
      clear hs
      obtain ⟨f2, hf2e⟩ : ∃ f2, f2 = facN (k + 1) := ⟨_, rfl⟩
      rw [← hf2e] at hf2 HS hw
      have HF2 := Lib.hid hf2e
      clear hf2e
      generalize facN k = f at hf HS hw ⊢
      have hk12 : (k : Int) < 12 := by omega
      have hlt' : (k : Int) < (N : Int) := by omega
      go_wp2
      go_round
      case rel => exact ⟨k + 1, by omega, by rw [HF2.out], by go_num⟩
      case measure => simp [intOf]; omega
    · obtain rfl : k = N := by omega
      have HSI := Lib.hid (sumI_in k (facN k) (by omega) (by omega))
      obtain ⟨f, hfe⟩ : ∃ f, f = facN k := ⟨_, rfl⟩
      rw [← hfe] at hf HSI ⊢
      have HFE := Lib.hid hfe
      clear hfe
      have hP : 0 ≤ (k : Int) * f ∧ (k : Int) * f ≤ 5748019200 := by
        have a1 := Int.mul_le_mul (show (k : Int) ≤ 12 by omega) hf.2 (by omega) (by omega)
        have a2 := Int.mul_nonneg (show (0 : Int) ≤ k by omega) (show 0 ≤ f by omega)
        omega
      have hPw : IntKind.i64.wrap ((k : Int) * f) = (k : Int) * f := IntWalk.i64_in _ (by omega)
      obtain ⟨P, hPe⟩ : ∃ P, P = (k : Int) * f := ⟨_, rfl⟩
      rw [← hPe] at hP
      have HPE := Lib.hid hPe
      have hPw2 : IntKind.i64.wrap ((k : Int) * f) = P := by rw [hPw, hPe]
      clear hPw hPe
      go_wp2_with fail
      go_loop [6, 21] (fun u i => ∃ j : Nat, j ≤ k ∧ u = .int .i64 (sumI k f j) ∧ i = .int .i64 j) (fun _ i => k - (intOf i).toNat)
      case atStart => exact ⟨0, Nat.zero_le _, rfl, rfl⟩
      case round =>
        obtain ⟨j, hj, rfl, rfl⟩ := hrel
        have hs := HSI.out j (by omega)
        by_cases hlt2 : j < k
        · have HN : Hid (sumI k f (j + 1) = sumI k f j + P.tdiv ((j : Int) + 1)) := by show _ = _; rw [HPE.out, sumI]
          have hq := tdiv_in (M := 5748019200) hP (show 1 ≤ (j : Int) + 1 by omega)
          have hq2 : P / ((j : Int) + 1) = P.tdiv ((j : Int) + 1) := (Int.tdiv_eq_ediv_of_nonneg hP.1).symm
          obtain ⟨q, hqe⟩ : ∃ q, q = P.tdiv ((j : Int) + 1) := ⟨_, rfl⟩
          rw [← hqe] at hq hq2 HN
          have hq3 : P.tdiv ((j : Int) + 1) = q := hqe.symm
          have hq4 : IntKind.i64.wrap q = q := IntWalk.i64_in _ (by omega)
          clear hqe
          have hlt2' : (j : Int) < (k : Int) := by omega
          have hz : (j : Int) + 1 ≠ 0 := by omega
          have hj12 : (j : Int) < 12 := by omega
          have hs2 : sumI k f j ≤ 68976230400 := by omega
          generalize sumI k f j = s at hs hs2 HN ⊢
          go_wp2_with fail
          go_round
          case rel => exact ⟨j + 1, by omega, by rw [HN.out], by go_num⟩
          case measure => simp [intOf]; omega
        · obtain rfl : j = k := by omega
          go_wp2_with fail
          go_ret2
          exact ⟨by rw [← HFE.out]; rfl, Below.refl _ _⟩
set_option maxHeartbeats 1000000 in
theorem specSumOfMessages_any (n : Int) (w : World) (hx : (Lit.int .i64 n).wf = true) :
    Calls Try.prog 25 #[.int .i64 n] w (RetV w (.tuple #[.int .i64 (sumRg n).1, .bool (sumRg n).2])) := by
  have HI := Lib.hid (l1In_wi n 2 12 w)
  cases hg : wi n 2 12
  · rw [show sumRg n = (0, false) from by simp [sumRg, hg]]
    rw [hg] at HI
    clear hg
    go_enter Try.func25, Try.ntmps25
    go_wp2_with fail
    refine HI.out.mono ?_; rintro e w' ⟨rfl, rfl⟩
    go_wp2_with fail
    go_ret2
    exact ⟨rfl, Below.refl _ _⟩
  rw [hg] at HI
  obtain ⟨N, rfl, hN⟩ : ∃ N : Nat, n = (N : Int) ∧ 2 ≤ N ∧ N ≤ 12 := by
    simp [wi] at hg
    exact ⟨n.toNat, by omega, by omega⟩
  rw [show sumRg (N : Int) = (sumI N (facN N) N, true) from by simp [sumRg, hg]]
  clear hg hx
  have HSAME := Lib.hid (sum_same N hN.1 hN.2)
  have hN' : (2 : Int) ≤ (N : Int) ∧ (N : Int) ≤ 12 := by omega
  go_enter Try.func25, Try.ntmps25
  go_wp2_with fail
  refine HI.out.mono ?_; rintro e w' ⟨rfl, rfl⟩
  go_wp2_with fail
  go_loop [4, 5] (fun u i => ∃ k : Nat, 1 ≤ k ∧ k ≤ N ∧ u = .int .i64 (facN k) ∧ i = .int .i64 ((k : Int) + 1)) (fun _ i => N + 1 - (intOf i).toNat)
  case atStart => exact ⟨1, Nat.le_refl _, by omega, rfl, rfl⟩
  case round =>
    obtain ⟨k, hk1, hk, rfl, rfl⟩ := hrel
    have hf := fac_in k (by omega)
    by_cases hlt : k < N
    · have hf2 := fac_in (k + 1) (by omega)
      have hs : facN k * ((k : Int) + 1) = facN (k + 1) := rfl
      have HS := Lib.hid hs
      have hw : IntKind.i64.wrap (facN k * ((k : Int) + 1)) = facN (k + 1) := by rw [hs]; exact IntWalk.i64_in _ (by omega)
      clear hs
      obtain ⟨f2, hf2e⟩ : ∃ f2, f2 = facN (k + 1) := ⟨_, rfl⟩
      rw [← hf2e] at hf2 HS hw
      have HF2 := Lib.hid hf2e
      clear hf2e
      generalize facN k = f at hf HS hw ⊢
      have hk12 : (k : Int) < 12 := by omega
      have hlt' : (k : Int) + 1 ≤ (N : Int) := by omega
      go_wp2
      go_round
      case rel => exact ⟨k + 1, by omega, by omega, by rw [HF2.out], by go_num⟩
      case measure => simp [intOf]; omega
    · obtain rfl : k = N := by omega
      have HSI := Lib.hid (sumS_in (facN k) (by omega))
      obtain ⟨f, hfe⟩ : ∃ f, f = facN k := ⟨_, rfl⟩
      rw [← hfe] at hf HSI HSAME ⊢
      have HFE := Lib.hid hfe
      clear hfe
      have hlt' : ¬ ((k : Int) + 1 ≤ (k : Int)) := by omega
      go_wp2_with fail
      go_loop [6, 7] (fun u i => ∃ j : Nat, j ≤ k ∧ u = .int .i64 (sumS f j) ∧ i = .int .i64 ((j : Int) + 1)) (fun _ i => k + 1 - (intOf i).toNat)
      case atStart => exact ⟨0, Nat.zero_le _, rfl, rfl⟩
      case round =>
        obtain ⟨j, hj, rfl, rfl⟩ := hrel
        have hs := HSI.out j (by omega)
        by_cases hlt2 : j < k
        · have HN : Hid (sumS f (j + 1) = sumS f j + f.tdiv ((j : Int) + 1)) := by show _ = _; rw [sumS]
          have hf0 : 0 ≤ f ∧ f ≤ 479001600 := by omega
          have hq := tdiv_in (M := 479001600) hf0 (show 1 ≤ (j : Int) + 1 by omega)
          have hq2 : f / ((j : Int) + 1) = f.tdiv ((j : Int) + 1) := (Int.tdiv_eq_ediv_of_nonneg hf0.1).symm
          obtain ⟨q, hqe⟩ : ∃ q, q = f.tdiv ((j : Int) + 1) := ⟨_, rfl⟩
          rw [← hqe] at hq hq2 HN
          have hq3 : f.tdiv ((j : Int) + 1) = q := hqe.symm
          have hq4 : IntKind.i64.wrap q = q := IntWalk.i64_in _ (by omega)
          clear hqe
          have hlt2' : (j : Int) + 1 ≤ (k : Int) := by omega
          have hz : (j : Int) + 1 ≠ 0 := by omega
          have hj12 : (j : Int) < 12 := by omega
          have hs2 : sumS f j ≤ 5748019200 := by omega
          generalize sumS f j = s at hs hs2 HN ⊢
          go_wp2_with fail
          go_round
          case rel => exact ⟨j + 1, by omega, by rw [HN.out], by go_num⟩
          case measure => simp [intOf]; omega
        · obtain rfl : j = k := by omega
          have hs2 : sumS f j ≤ 5748019200 := by omega
          have hP : 0 ≤ (j : Int) * sumS f j ∧ (j : Int) * sumS f j ≤ 68976230400 := by
            have a1 := Int.mul_le_mul (show (j : Int) ≤ 12 by omega) hs2 (by omega) (by omega)
            have a2 := Int.mul_nonneg (show (0 : Int) ≤ j by omega) hs.1
            omega
          have hPw : IntKind.i64.wrap ((j : Int) * sumS f j) = (j : Int) * sumS f j := IntWalk.i64_in _ (by omega)
          have HPW : Hid (IntKind.i64.wrap ((j : Int) * sumS f j) = sumI j f j) := by
            show _ = _
            rw [hPw]
            exact HSAME.out
          clear hPw hP HSAME
          obtain ⟨S, hSe⟩ : ∃ S, S = sumI j f j := ⟨_, rfl⟩
          rw [← hSe] at HPW
          have HSE := Lib.hid hSe
          clear hSe
          generalize sumS f j = s at hs hs2 HPW ⊢
          have hpw := HPW.out
          have hlt2' : ¬ ((j : Int) + 1 ≤ (j : Int)) := by omega
          go_wp2_with fail
          go_ret2
          exact ⟨by rw [← HFE.out, ← HSE.out]; rfl, Below.refl _ _⟩
end Go.Proofs.Ytbmjjelffpoojaa
