/-
  Chapter 7: the program's LongestRepair: does a firing stay in?
-/
import Derived.Test.YtgmknndmmpoliaaElAF
import Derived.Deep.RegionHeld3
namespace Go.Proofs.Ytgmknndmmpoliaa
open Go.RowKit Go.Maps
set_option maxRecDepth 100000
set_option linter.unusedVariables false

theorem zeroSl (w : World) : (zeroValue 22).run Try.prog w = .ok (.slice none 0 0) w := by kernel_rfl
set_option maxHeartbeats 4000000 in
theorem staysIn_any (pl ps pk mb nn m : Nat) (D : DataW Value) (A : Nat → Bool) (V : Nat → Value) (l : List Int) (K s : Nat) (A5 : Option Addr) (c5 : Nat) (W : World)
    (c0 : W.cell? ⟨pl, 0, none⟩ = some (.map (some mb))) (c1 : W.cell? ⟨ps, 0, none⟩ = some (.slice A5 l.length c5)) (c2 : W.cell? ⟨pk, 0, none⟩ = some (.int .i64 K)) (z0 : pl < W.heap.size) (z1 : ps < W.heap.size) (z2 : pk < W.heap.size)
    (hown : W.ownsMap Try.prog 3 slElem mb nn D) (hm : MS D m A V) (hm9 : m ≤ 1000) (hri : RI W W.heap.size (.slice A5 l.length c5) l) (hn : 2 ≤ l.length ∧ l.length ≤ 4) (hK : 2 ≤ K ∧ K ≤ 5) (hin : InK l K) (hs : s < l.length) (hx : idxN (fireL l K s) K < m) :
    Calls Try.prog 81 #[.int .i64 s, .pointer (some ⟨pl, 0, none⟩), .pointer (some ⟨ps, 0, none⟩), .pointer (some ⟨pk, 0, none⟩)] W (RetV W (.bool (A (idxN (fireL l K s) K)))) := by
  have HFI : Hid (∀ W', Below W.heap.size W W' → Calls Try.prog 83 #[.slice A5 l.length c5, .int .i64 K, .int .i64 s] W' (RetL 3 W' (fireL l K s))) := by
    show ∀ W', _
    intro W' hb
    exact implFire_any _ l (K : Int) s W' ((hri.below hb).more hb.size) (by omega) (by omega) hin hs
  have HNO : Hid (∀ W' v, RI W' W'.heap.size v (fireL l K s) → Calls Try.prog 82 #[v, .int .i64 K] W' (RetV W' (.int .i64 (idxN (fireL l K s) K : Nat)))) := by
    show ∀ W' v, _
    intro W' v h
    exact numberOf_any v _ K W' h (by rw [fireL_length]; omega) hK.2 (hin.fire (by omega) s hs)
  have HLK : Hid (∀ W', Below W.heap.size W W' → ∃ v, (Instr.lookup 62 (.map (some mb)) (.int .i64 ((idxN (fireL l K s) K : Nat) : Int)) true).run Try.prog W' = .ok (.tuple #[v, .bool (A (idxN (fireL l K s) K))]) W') := by
    show ∀ W', _
    intro W' hb
    have h1 : W'.ownsMap Try.prog 3 slElem mb nn D := by
      obtain ⟨es, clock, e1, F1, e2, e3⟩ := hown
      exact ⟨es, clock, (hb.block mb (Array.getElem?_eq_some_iff.1 e1).1).trans e1, F1, e2, e3⟩
    have hk : keyOf Try.prog 3 (.int .i64 ((idxN (fireL l K s) K : Nat) : Int)) = some (stKey (idxN (fireL l K s) K)) := keyOf_int_mk Try.underlying3 (stKey_wf (by omega))
    obtain ⟨v, ps', hrun, _⟩ := h1.look_ok (int_keyed Try.underlying3) Try.underlying62 (zeroSl W') (zd := .held (.slice none 0 0)) (zp := []) rfl hk
    rw [hm.has _ hx] at hrun
    exact ⟨v, hrun⟩
  clear hown hm hri hin hx hs
  generalize idxN (fireL l K s) K = nx at *
  generalize fireL l K s = FL at *
  have hd : Below W.heap.size W W.drew := (Below.refl _ _).drew
  go_enter Try.func81, Try.ntmps81
  go_upto_region 1 with fail
  go_region_held3 (fun w' => w'.cell? ⟨pl, 0, none⟩ = some (.map (some mb)) ∧ w'.cell? ⟨ps, 0, none⟩ = some (.slice A5 l.length c5) ∧ w'.cell? ⟨pk, 0, none⟩ = some (.int .i64 K)) (with_reducible first | exact ⟨c0, c1, c2⟩ | exact ⟨f0, f1, f2⟩ | exact ⟨d0, d1, d2⟩ | (refine ⟨?_, ?_, ?_⟩ <;> assumption) | go_keep)
    (first
      | (go_at_call 83; (with_reducible refine (HFI.out _ hd).mono ?_); rintro e w2 ⟨u2, rfl, ho2, hb2⟩; have hb3 := hd.trans (hb2.mono hd.size); have d0 := (hb2.cell (p := ⟨pl, 0, none⟩) z0).trans c0; have d1 := (hb2.cell (p := ⟨ps, 0, none⟩) z1).trans c1; have d2 := (hb2.cell (p := ⟨pk, 0, none⟩) z2).trans c2; have HX := HNO.out w2 u2 ho2.ri; obtain ⟨A8, c8, rfl, _, _⟩ := ho2.ri)
      | (go_at_call 82; (with_reducible refine HX.mono ?_); rintro e w4 ⟨rfl, hb4⟩; have hz4 := hb3.size; have hb5 := hb3.trans (hb4.mono hz4); have f0 := (hb4.cell (p := ⟨pl, 0, none⟩) (by show pl < _; omega)).trans d0; have f1 := (hb4.cell (p := ⟨ps, 0, none⟩) (by show ps < _; omega)).trans d1; have f2 := (hb4.cell (p := ⟨pk, 0, none⟩) (by show pk < _; omega)).trans d2; obtain ⟨vv, hlk⟩ := HLK.out w4 hb5))
  all_goals
    try go_wp2_with fail
    try go_ret
    try exact ⟨rfl, hb5⟩
end Go.Proofs.Ytgmknndmmpoliaa
