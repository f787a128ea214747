/-
  Chapter 8: windows: the contracts of WindowsOf, both sides.
-/
import Derived.Test.YtlanpfcjcafapaaShA
import Derived.Test.YtlanpfcjcafapaaWordsSS
import Derived.Test.YtlanpfcjcafapaaRow5
import Derived.Deep.LoopGhost
namespace Go.Proofs.Ytlanpfcjcafapaa
open Go.RowKit
set_option maxRecDepth 100000
set_option linter.unusedVariables false

theorem RI.tail8 {w : World} {B : Nat} {A : Option Addr} {n c : Nat} {l : List Int} (h : RI w B (.slice A n c) l) (k : Nat) (hk : k ≤ l.length) : RI w B (.slice (if c = k then A else Option.map (fun x => x.add k) A) (l.length - k) (c - k)) (l.drop k) := by
  obtain ⟨A', c', hv, hlc, hc⟩ := h
  injection hv with h1 h2 h3
  subst h1; subst h2; subst h3
  refine ⟨_, c - k, by rw [List.length_drop], ⟨by rw [List.length_drop]; omega, by omega, fun hA => ?_⟩, fun h0 => ?_⟩
  · have h5 : A = none := by
      split at hA
      · exact hA
      · cases A with
        | none => rfl
        | some a => cases hA
    have := hlc.2.2 h5
    omega
  · rw [List.length_drop] at h0
    obtain ⟨b, off, hA, hb, hcell⟩ := hc (by omega)
    refine ⟨b, off + k, ?_, hb, fun j hj => ?_⟩
    · rw [if_neg (by omega), hA]
      simp [addr_add]
    · rw [List.length_drop] at hj
      rw [Nat.add_assoc, hcell (k + j) (by omega)]
      congr 2
      simp [List.getD]
theorem shInts_info : (Try.prog.info? 26).map (fun i => (i.zero, i.size, i.bytes)) = some (some (.slice none 0 0), 1, 24) := by kernel_rfl
/-- 's[k:m]' of a slice that is there. -/
theorem RI.win {w : World} {B b off c : Nat} {l : List Int} (h : RI w B (.slice (some ⟨b, off, none⟩) l.length c) l) (s k : Nat) (hk : 0 < k) (hs : s + k ≤ l.length) : RI w B (.slice (some ⟨b, off + s, none⟩) k (c - s)) ((l.drop s).take k) := by
  have hc : ¬ c = s := by
    obtain ⟨_, _, hv, hlc, _⟩ := h
    injection hv with _ _ h3
    omega
  have h1 := (h.tail8 s (by omega)).front k (by rw [List.length_drop]; omega)
  rw [if_neg hc] at h1
  simpa [addr_add] using h1
/-- What a call gathers of slices. -/
def AccV (T : TypeId) (w : World) (lo : Nat) (v : Value) (xs : List Value) : Prop := w.ownsRow lo T 1 v xs.length xs
theorem AccV.nil (T : TypeId) (w : World) (lo : Nat) : AccV T w lo (.slice none 0 0) [] := World.ownsRow_nil _ _ _ _
theorem wpList_pushV {P : Program} {w : World} {ops : Array Oper} {rest : List Oper} {o : Oper} {a : Act} {Q : Exit → Act → World → Prop} (hgd : o.guard = none) (s x : Operand) (t : TypeId)
    (ho : o.op = .call { callee := .builtin .append, args := #[s, x], argTypes := #[t, t] }) (T : TypeId) (i : TypeInfo) (ht : P.underlying t = some (.slice T)) (hi : P.info? T = some i)
    (hz0 : i.zero = some (.slice none 0 0)) (hz1 : i.size = 1) (hz2 : i.bytes = 24) (W w0 : World) (lo : Nat) (v : Value) (l : List Value) (y : Value) (hone : y.oneCell' = true)
    (hw : w = W.alloc (.cells #[y] T)) (hs : a.eval s = v) (hacc : AccV T W lo v l) (hx : a.eval x = .slice (some ⟨W.heap.size, 0, none⟩) 1 1) (hn : l.length < 1000000) (hlo : lo ≤ W.heap.size) (hb : Below lo w0 W)
    (h : ∀ v' w', AccV T w' lo v' (l ++ [y]) → Below lo w0 w' → wpList P ops Q rest (a.put o.dst v') w') : wpList P ops Q (o :: rest) a w := by
  subst hw
  have hown : (W.alloc (.cells #[y] T)).ownsRow lo T 1 v l.length l := World.ownsRow.alloc hacc _
  have hcl : lo ≤ (W.alloc (.cells #[y] T)).heap.size := by simp; omega
  refine wpList_append_own _ hgd s x t ho lo T i (.slice none 0 0) 1 24 ht hi hz0 hz1 hz2 rfl (by decide) v l.length l hs hown ⟨W.heap.size, 0, none⟩ 1 1 [y] hx rfl ?_ ?_ (by unfold maxLen; omega) (by omega) hcl ?_
  · intro j u hj
    match j, hj with
    | 0, hj => simp at hj; subst hj; simp [Addr.add]
    | j + 1, hj => simp at hj
  · intro u hu
    simp at hu
    subst hu
    exact hone
  · intro v' w' h1 h2 _
    refine h v' w' ?_ ((hb.alloc hlo _).grown h2 hcl (fun k hk => ((World.ownsRow.lt hown) k hk).1))
    unfold AccV
    rw [List.length_append]
    exact h1
/-- Slices of one row, gathered, read as the lists that they show. -/
theorem AccV.rs {T : TypeId} {w : World} {lo : Nat} {v : Value} {xs : List Value} {L : List (List Int)} (h : AccV T w lo v xs) (hL : xs.length = L.length) (hr : ∀ j, j < L.length → RI w w.heap.size (xs.getD j undef) (L.getD j [])) : RS w w.heap.size v L := by
  rcases h.2 with ⟨rfl, hn0⟩ | ⟨g, c, cur, rfl, hg, hh, h3, h4, _⟩
  · refine ⟨xs, none, 0, by rw [← hL, hn0], hL, ⟨by omega, by simp, fun _ => rfl⟩, fun h => by omega, hr⟩
  · refine ⟨xs, some ⟨g, 0, none⟩, c, by rw [hL], hL, ⟨by omega, h4, fun h => by cases h⟩, fun _ => ⟨g, 0, rfl, (Array.getElem?_eq_some_iff.1 hh).1, fun j hj => ?_⟩, hr⟩
    have hj2 : j < xs.length := by omega
    have := World.ownsRow.cellAt h j (by omega)
    rw [Nat.zero_add, this]
    simp [List.getD, hj2]
/-- The windows as values. -/
def winV (b off c k m : Nat) : List Value := (List.range m).map fun s => .slice (some ⟨b, off + s, none⟩) k (c - s)
theorem winV_succ (b off c k m : Nat) : winV b off c k (m + 1) = winV b off c k m ++ [.slice (some ⟨b, off + m, none⟩) k (c - m)] := by simp [winV, List.range_succ]
theorem winV_length (b off c k m : Nat) : (winV b off c k m).length = m := by simp [winV]
theorem winV_at (b off c k m j : Nat) (hj : j < m) : (winV b off c k m).getD j undef = .slice (some ⟨b, off + j, none⟩) k (c - j) := by simp [winV, List.getD, hj]
theorem wnL_at (l : List Int) (k m j : Nat) (hj : j < m) : (wnL l k m).getD j [] = (l.drop j).take k := by simp [wnL, List.getD, hj]
end Go.Proofs.Ytlanpfcjcafapaa
