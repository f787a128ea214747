/-
  The two choices by rank.
-/
import Derived.Test.YteoggoopfjkdkaaBest
namespace Go.Proofs.Yteoggoopfjkdkaa
open Go.RowKit
set_option maxRecDepth 100000
set_option linter.unusedVariables false

/-- The choice of one of those that wait. -/
def pickOf (rk : Jb → Int) (tick : Int) (l : List Jb) : Option Nat := bestOf (fun i => isW tick l[i]!) (fun i => rk l[i]!) l.length
/-- Some job waits, f the first one. -/
def Fst (tick : Int) (l : List Jb) (f : Nat) : Prop := f < l.length ∧ isW tick l[f]! = true ∧ ∀ j, j < f → isW tick l[j]! = false
theorem strict_any (lo g : Nat) (tick step tc : Int) (tb : Bool) (gr pr : Value) (cr : Nat → Int) (l : List Jb) (f : Nat) (w : World) (h : LN w lo g tick step tc tb gr pr cr l) (hn : l.length ≤ 20) (hf : Fst tick l f) :
    Calls Try.prog 31 #[.pointer (some ⟨g, 0, none⟩)] w (RetV w (.int .i64 ((pickOf (·.c) tick l).getD f : Nat))) := by
  have HG := Lib.hid (greatest_strict lo g tick step tc tb gr pr cr l f (·.c) w h hn hf.1 hf.2.1 hf.2.2 (fun k wx _ _ _ => classOf_any _ _ _))
  obtain ⟨R, hR⟩ : ∃ R, (pickOf (·.c) tick l).getD f = R := ⟨_, rfl⟩
  have hR2 : (bestOf (fun i => isW tick l[i]!) (fun i => l[i]!.c) l.length).getD f = R := hR
  rw [hR]
  rw [hR2] at HG
  clear hR hR2 h hf
  go_enter Try.func31, Try.ntmps31
  go_wp2_with fail
  refine HG.out.mono ?_; rintro e w1 ⟨rfl, hb⟩
  go_wp2_with fail
  go_ret
  exact ⟨rfl, hb⟩
theorem aged_any (lo g : Nat) (tick step tc : Int) (tb : Bool) (gr pr : Value) (cr : Nat → Int) (l : List Jb) (f : Nat) (w : World) (h : LN w lo g tick step tc tb gr pr cr l) (hn : l.length ≤ 20) (hf : Fst tick l f)
    (ht : 0 ≤ tick ∧ tick ≤ 10000) (hs : 1 ≤ step ∧ step ≤ 100) (hy : ∀ k, k < l.length → isW tick l[k]! = true → 0 ≤ l[k]!.t ∧ l[k]!.t ≤ tick ∧ 0 ≤ l[k]!.c ∧ l[k]!.c ≤ 7) :
    Calls Try.prog 37 #[.pointer (some ⟨g, 0, none⟩)] w (RetV w (.int .i64 ((pickOf (agedC tick step) tick l).getD f : Nat))) := by
  obtain ⟨cs, v, hbk, hlc, hol⟩ := h.cells
  have hgs := hbk.1
  have c0 := (hbk.cell 0).trans hlc.tick
  have c2 := (hbk.cell 2).trans hlc.step
  have HG := Lib.hid (greatest_aged lo g tick step tc tb gr pr cr l f (agedC tick step) w h hn hf.1 hf.2.1 hf.2.2 (fun k wx hk hw hb => agedClassOf_any g tick step l[k]! wx ((hb.cell (p := ⟨g, 0, none⟩) hgs).trans c0) ((hb.cell (p := ⟨g, 2, none⟩) hgs).trans c2) (Nat.lt_of_lt_of_le hgs hb.size) ht hs ⟨(hy k hk hw).1, (hy k hk hw).2.1⟩ (hy k hk hw).2.2))
  obtain ⟨R, hR⟩ : ∃ R, (pickOf (agedC tick step) tick l).getD f = R := ⟨_, rfl⟩
  have hR2 : (bestOf (fun i => isW tick l[i]!) (fun i => agedC tick step l[i]!) l.length).getD f = R := hR
  rw [hR]
  rw [hR2] at HG
  clear hR hR2 h hf hbk hlc hol c0 c2 hy
  go_enter Try.func37, Try.ntmps37
  go_wp2_with fail
  refine HG.out.mono ?_; rintro e w1 ⟨rfl, hb⟩
  go_wp2_with fail
  go_ret
  exact ⟨rfl, hb⟩
end Go.Proofs.Yteoggoopfjkdkaa
