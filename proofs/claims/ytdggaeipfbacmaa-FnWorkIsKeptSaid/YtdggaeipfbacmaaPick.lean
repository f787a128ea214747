/-
  The two choices by rank.
-/
import Derived.Test.YtdggaeipfbacmaaBest
namespace Go.Proofs.Ytdggaeipfbacmaa
open Go.RowKit
set_option maxRecDepth 100000
set_option linter.unusedVariables false

/-- The choice of one of those that wait. -/
def pickOf (rk : Jb → Int) (tick : Int) (l : List Jb) : Option Nat := bestOf (fun i => isW tick l[i]!) (fun i => rk l[i]!) l.length
/-- Some job waits, f the first one. -/
def Fst (tick : Int) (l : List Jb) (f : Nat) : Prop := f < l.length ∧ isW tick l[f]! = true ∧ ∀ j, j < f → isW tick l[j]! = false
theorem strict_any (lo g : Nat) (tick step tc : Int) (tb : Bool) (gr pr : Value) (cr : Nat → Int) (l : List Jb) (f : Nat) (w : World) (h : LN w lo g tick step tc tb gr pr cr l) (hn : l.length ≤ 20) (hf : Fst tick l f) :
    Calls Try.prog 25 #[.pointer (some ⟨g, 0, none⟩)] w (RetV w (.int .i64 ((pickOf (·.c) tick l).getD f : Nat))) := by
  have HG := Lib.hid (greatest_strict lo g tick step tc tb gr pr cr l f (·.c) w h hn hf.1 hf.2.1 hf.2.2 (fun k wx _ _ _ => classOf_any _ _ _))
  obtain ⟨R, hR⟩ : ∃ R, (pickOf (·.c) tick l).getD f = R := ⟨_, rfl⟩
  have hR2 : (bestOf (fun i => isW tick l[i]!) (fun i => l[i]!.c) l.length).getD f = R := hR
  rw [hR]
  rw [hR2] at HG
  clear hR hR2 h hf
  go_enter Try.func25, Try.ntmps25
  go_wp2_with fail
  refine HG.out.mono ?_; rintro e w1 ⟨rfl, hb⟩
  go_wp2_with fail
  go_ret
  exact ⟨rfl, hb⟩
end Go.Proofs.Ytdggaeipfbacmaa
