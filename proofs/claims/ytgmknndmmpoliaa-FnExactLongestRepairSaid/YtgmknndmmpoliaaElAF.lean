/-
  Chapter 7: words for the program's LongestRepair: a map from numbers to slices; numberOf.
-/
import Derived.Test.YtgmknndmmpoliaaElAD
import Derived.Test.YtgmknndmmpoliaaElN
import Derived.Maps.OwnSet
namespace Go.Proofs.Ytgmknndmmpoliaa
open Go.RowKit Go.Maps
set_option maxRecDepth 100000
set_option linter.unusedVariables false

theorem numberOf_any (v : Value) (l : List Int) (k : Nat) (w : World) (h : RI w w.heap.size v l) (hl : 0 < l.length ∧ l.length ≤ 5) (hk : k ≤ 5) (hin : InK l k) :
    Calls Try.prog 82 #[v, .int .i64 k] w (RetV w (.int .i64 (idxN l k : Nat))) := by
  have HIN := Lib.hid hin
  obtain ⟨A, c, rfl, hlc, hc⟩ := h
  obtain ⟨b, off, rfl, hbB, hcell⟩ := hc hl.1
  have hl5 : (l.length : Int) ≤ 5 := by omega
  have HC := Lib.hid hcell
  clear hc hcell
  go_enter Try.func82, Try.ntmps82
  go_wp2_with fail
  go_loopw [5, 10] (fun u i wr => ∃ j : Nat, j ≤ l.length ∧ u = .int .i64 (idxP l k j : Nat) ∧ i = .int .i64 j ∧ Below w.heap.size w wr) (fun _ i _ => l.length - (intOf i).toNat)
  case atStart => exact ⟨0, Nat.zero_le _, rfl, rfl, Below.refl _ _⟩
  case round =>
    obtain ⟨j, hj, rfl, rfl, hb⟩ := hrel
    have HB := Lib.hid hb
    by_cases hlt : j < l.length
    · have hcx := (hb.cell (p := ⟨b, off + j, none⟩) hbB).trans (HC.out j hlt)
      have hx := HIN.out.at j hlt
      have hp := idxP_small HIN.out j hj hl.2 hk
      have HN : Hid (((idxP l k (j + 1) : Nat) : Int) = ((idxP l k j * k : Nat) : Int) + l.getD j 0) := by
        show _ = _
        rw [idxP]
        omega
      have hq : idxP l k j * k ≤ 3125 * 5 := Nat.mul_le_mul hp hk
      have hQ : ((idxP l k j : Nat) : Int) * (k : Int) = ((idxP l k j * k : Nat) : Int) := (Int.natCast_mul _ _).symm
      obtain ⟨Q, hQe⟩ : ∃ Q, Q = idxP l k j * k := ⟨_, rfl⟩
      rw [← hQe] at HN hq hQ
      clear hQe hb
      generalize l.getD j 0 = x at hcx hx HN
      generalize idxP l k j = P at hQ hp ⊢
      have hlt' : (j : Int) < (l.length : Int) := by omega
      have hx5 : 0 ≤ x ∧ x < 5 := by omega
      go_wp2_with fail
      go_roundw
      case rel => exact ⟨j + 1, by omega, by rw [HN.out] <;> go_num, by go_num, HB.out⟩
      case measure => simp [intOf]; omega
    · obtain rfl : j = l.length := by omega
      go_wp2_with fail
      go_ret
      exact ⟨rfl, HB.out⟩

/-- How an element that is a slice reads: as itself. -/
def slElem (v : Value) : Option (DataW Value × List MemPlace) := match v with | .slice a n c => some (.held (.slice a n c), []) | _ => none
theorem slElem_inv {v : Value} {y : DataW Value × List MemPlace} (h : slElem v = some y) : ∃ t : Option Addr × Nat × Nat, v = .slice t.1 t.2.1 t.2.2 := by
  cases v <;> simp [slElem] at h
  exact ⟨(_, _, _), rfl⟩
theorem slElem_is {a : Option Addr} {n c : Nat} {y : DataW Value × List MemPlace} (h : slElem (.slice a n c) = some y) : y.1 = .held (.slice a n c) := by
  simp [slElem] at h
  rw [← h]
def updVal (V : Nat → Value) (i : Nat) (x : Value) : Nat → Value := fun j => if j = i then x else V j
/-- The map holds just the numbers that A tells, each with the slice V. -/
structure MS (D : DataW Value) (n : Nat) (A : Nat → Bool) (V : Nat → Value) : Prop where
  tidy : Tidy D
  has : ∀ i, i < n → Maps.has D (stKey i) = A i
  at_ : ∀ i, i < n → A i = true → ∀ z, D.atKey (stKey i) z = .held (V i)
  only : ∀ kl, Maps.has D kl = true → ∃ i, i < n ∧ kl = stKey i
  size : Maps.size D = cntA A n
theorem MS.congr {D : DataW Value} {n : Nat} {A B : Nat → Bool} {V U : Nat → Value} (h : MS D n A V) (hA : ∀ i, i < n → A i = B i) (hV : ∀ i, i < n → B i = true → V i = U i) : MS D n B U :=
  ⟨h.tidy, fun i hi => by rw [h.has i hi, hA i hi], fun i hi hb z => by rw [h.at_ i hi (by rw [hA i hi]; exact hb) z, hV i hi hb], h.only, by rw [h.size, cntA_congr hA]⟩
theorem MS.empty (n : Nat) (V : Nat → Value) : MS (.map []) n (fun _ => false) V := by
  refine ⟨tidy_empty, fun i hi => rfl, fun i hi h => ?_, fun kl h => ?_, ?_⟩
  · exact absurd h (by simp)
  · simp [Maps.has] at h
  · rw [cntA_none]; rfl
theorem MS.put {D : DataW Value} {n : Nat} {A : Nat → Bool} {V : Nat → Value} (h : MS D n A V) {i : Nat} (hi : i < n) (hn : n ≤ 1000) (x : Value) : MS (D.put (stKey i) (.held x)) n (updB A i true) (updVal V i x) := by
  have hk : WideAt.IsKeyLit (stKey i) := stKey_is (by omega)
  refine ⟨h.tidy.put hk _, fun j hj => ?_, fun j hj hA z => ?_, fun kl hkl => ?_, ?_⟩
  · by_cases e : j = i
    · subst e
      rw [has_put_same h.tidy.isMap hk]
      simp [updB]
    · rw [has_put_other (stKey_ne e), h.has j hj]
      unfold updB
      rw [if_neg e]
  · by_cases e : j = i
    · subst e
      rw [atKey_put_same h.tidy.isMap hk]
      simp [updVal]
    · have hA2 : A j = true := by unfold updB at hA; rw [if_neg e] at hA; exact hA
      rw [atKey_put_other (stKey_ne e), h.at_ j hj hA2 z]
      unfold updVal
      rw [if_neg e]
  · by_cases e : kl = stKey i
    · exact ⟨i, hi, e⟩
    · rw [has_put_other e] at hkl
      exact h.only kl hkl
  · rw [size_put h.tidy, h.has i hi, h.size]
    have := cntA_upd (A := A) (b := true) hi
    split <;> simp_all <;> omega
theorem MS.del {D : DataW Value} {n : Nat} {A : Nat → Bool} {V : Nat → Value} (h : MS D n A V) {i : Nat} (hi : i < n) (hn : n ≤ 1000) : MS (D.del (stKey i)) n (updB A i false) V := by
  refine ⟨h.tidy.del _, fun j hj => ?_, fun j hj hA z => ?_, fun kl hkl => ?_, ?_⟩
  · by_cases e : j = i
    · subst e
      rw [has_del_same]
      simp [updB]
    · rw [has_del_other (stKey_ne e), h.has j hj]
      unfold updB
      rw [if_neg e]
  · by_cases e : j = i
    · subst e
      simp [updB] at hA
    · have hA2 : A j = true := by unfold updB at hA; rw [if_neg e] at hA; exact hA
      rw [atKey_del_other (stKey_ne e), h.at_ j hj hA2 z]
  · by_cases e : kl = stKey i
    · rw [e, has_del_same] at hkl
      cases hkl
    · rw [has_del_other e] at hkl
      exact h.only kl hkl
  · have h1 := size_del (k := stKey i) h.tidy
    rw [h.has i hi, h.size] at h1
    have := cntA_upd (A := A) (b := false) hi
    simp at this
    omega
/-- A number that comes out of it. -/
theorem MS.came {D : DataW Value} {n : Nat} {A : Nat → Bool} {V : Nat → Value} (h : MS D n A V) {x : Int} {c : Value} (hat : ∀ zd, D.atKey (.int .i64 x) zd = .held c) : ∃ i : Nat, i < n ∧ x = (i : Int) ∧ A i = true ∧ c = V i := by
  have h1 := has_true_of_atKey hat
  obtain ⟨i, hi, hk⟩ := h.only _ h1
  have hx : x = (i : Int) := by
    unfold stKey at hk
    injection hk
  subst hx
  have hA : A i = true := by rw [← h.has i hi]; exact h1
  refine ⟨i, hi, rfl, hA, ?_⟩
  have h2 := h.at_ i hi hA .nil
  unfold stKey at h2
  rw [hat] at h2
  injection h2 with h2
/-- The step of a loop over such a map. -/
theorem wpList_next_ranges_sl {P : Program} (w : World) {ops : Array Oper} {rest : List Oper} {o : Oper} {a : Act} {Q : Exit → Act → World → Prop} (hg : o.guard = none) (it : Operand) (hop : o.op = Op.next it false) (k : TypeId) (K : Keyed P k) (hk : P.underlying k = some (.int .i64))
    (b r n : Nat) (D : DataW Value) (left : Lit → Bool) (cnt : Nat) (hit : a.eval it = .pointer (some ⟨r, 0, none⟩)) (h : w.ranges P k slElem b r n D left cnt)
    (hDone : cnt = 0 → (∀ kl, left kl = false) → wpList P ops Q rest (a.put o.dst (.tuple #[.bool false])) w)
    (hMore : ∀ (x : Int) (ad : Option Addr) (m c : Nat) (w' : World) (cnt' : Nat), (Lit.int .i64 x).wf = true → left (.int .i64 x) = true → (∀ zd, D.atKey (.int .i64 x) zd = .held (.slice ad m c)) → w'.ranges P k slElem b r n D (fun z => left z && !z.sameKey (.int .i64 x)) cnt' → cnt' < cnt →
      w.grownBy w' (some r) → w'.heap.size = w.heap.size → (Instr.entry (.pointer (some ⟨r, 0, none⟩))).run P w' = .ok (.tuple #[.int .i64 x, .slice ad m c]) w' → wpList P ops Q rest (a.put o.dst (.tuple #[.bool true, .int .i64 x, .slice ad m c])) w') :
    wpList P ops Q (o :: rest) a w :=
  wpList_next_ranges w hg it hop k K slElem (Value.int .i64) (fun t : Option Addr × Nat × Nat => .slice t.1 t.2.1 t.2.2) (fun key kl hkey => by obtain ⟨x, rfl, _⟩ := Maps.keyOf_int_inv hk hkey; exact ⟨x, rfl⟩) (fun v y hv => slElem_inv hv)
    b r n D left cnt hit h hDone (fun x c kl y w' cnt' hkey hlk hv hat hrg hlt hgr hsz hen => by
      obtain ⟨x', ex, rfl, hwx⟩ := Maps.keyOf_int_inv hk hkey
      cases ex
      exact hMore x c.1 c.2.1 c.2.2 w' cnt' hwx hlk (fun zd => by rw [hat zd, slElem_is hv]) hrg hlt hgr hsz hen)
end Go.Proofs.Ytgmknndmmpoliaa
