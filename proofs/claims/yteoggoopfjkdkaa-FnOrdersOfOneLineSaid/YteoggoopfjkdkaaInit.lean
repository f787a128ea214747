/-
  The word that tells how the dump was made, sign by sign, and what is read off it.
-/
import Derived.Test.YteoggoopfjkdkaaChecked
import Derived.Test.YteoggoopfjkdkaaRows
import Derived.JoinedOf
import Derived.WalkKit
namespace Go.Proofs.Yteoggoopfjkdkaa
open Go.RowKit
set_option maxRecDepth 100000

def initSigns : List Char := [Char.ofNat 104, Char.ofNat 97, Char.ofNat 114, Char.ofNat 110, Char.ofNat 101, Char.ofNat 115, Char.ofNat 115, Char.ofNat 32, Char.ofNat 54, Char.ofNat 51, Char.ofNat 99, Char.ofNat 49, Char.ofNat 53, Char.ofNat 51, Char.ofNat 48, Char.ofNat 50, Char.ofNat 54, Char.ofNat 54, Char.ofNat 102, Char.ofNat 97, Char.ofNat 56, Char.ofNat 98, Char.ofNat 56, Char.ofNat 49, Char.ofNat 100, Char.ofNat 57, Char.ofNat 102, Char.ofNat 53, Char.ofNat 53, Char.ofNat 50, Char.ofNat 101, Char.ofNat 55, Char.ofNat 50, Char.ofNat 99, Char.ofNat 57, Char.ofNat 53, Char.ofNat 53, Char.ofNat 56, Char.ofNat 56, Char.ofNat 49, Char.ofNat 50, Char.ofNat 49, Char.ofNat 51, Char.ofNat 102, Char.ofNat 101, Char.ofNat 56, Char.ofNat 49, Char.ofNat 98, Char.ofNat 51, Char.ofNat 55, Char.ofNat 55, Char.ofNat 52, Char.ofNat 49, Char.ofNat 57, Char.ofNat 99, Char.ofNat 48, Char.ofNat 55, Char.ofNat 54, Char.ofNat 97, Char.ofNat 101, Char.ofNat 49, Char.ofNat 50, Char.ofNat 50, Char.ofNat 51, Char.ofNat 56, Char.ofNat 55, Char.ofNat 57, Char.ofNat 99, Char.ofNat 49, Char.ofNat 97, Char.ofNat 57, Char.ofNat 100, Char.ofNat 32, Char.ofNat 99, Char.ofNat 117, Char.ofNat 116, Char.ofNat 32, Char.ofNat 97, Char.ofNat 116, Char.ofNat 32, Char.ofNat 108, Char.ofNat 111, Char.ofNat 111, Char.ofNat 112, Char.ofNat 46, Char.ofNat 101, Char.ofNat 120, Char.ofNat 97, Char.ofNat 109, Char.ofNat 112, Char.ofNat 108, Char.ofNat 101, Char.ofNat 47, Char.ofNat 103, Char.ofNat 48, Char.ofNat 49, Char.ofNat 49, Char.ofNat 55, Char.ofNat 54, Char.ofNat 47, Char.ofNat 108, Char.ofNat 97, Char.ofNat 119, Char.ofNat 115, Char.ofNat 46, Char.ofNat 70, Char.ofNat 110, Char.ofNat 79, Char.ofNat 114, Char.ofNat 100, Char.ofNat 101, Char.ofNat 114, Char.ofNat 115, Char.ofNat 79, Char.ofNat 102, Char.ofNat 79, Char.ofNat 110, Char.ofNat 101, Char.ofNat 76, Char.ofNat 105, Char.ofNat 110, Char.ofNat 101]
theorem init_is : Try.pinned.checked.prog.initOrder = String.ofList initSigns := by kernel_rfl
theorem init_toList : Try.pinned.checked.prog.initOrder.toList = initSigns := by rw [init_is]; exact String.toList_ofList
def initWords : List (List Char) := [[Char.ofNat 99, Char.ofNat 117, Char.ofNat 116],
  [Char.ofNat 97, Char.ofNat 116],
  [Char.ofNat 108, Char.ofNat 111, Char.ofNat 111, Char.ofNat 112, Char.ofNat 46, Char.ofNat 101, Char.ofNat 120, Char.ofNat 97, Char.ofNat 109, Char.ofNat 112, Char.ofNat 108, Char.ofNat 101, Char.ofNat 47, Char.ofNat 103, Char.ofNat 48, Char.ofNat 49, Char.ofNat 49, Char.ofNat 55, Char.ofNat 54, Char.ofNat 47, Char.ofNat 108, Char.ofNat 97, Char.ofNat 119, Char.ofNat 115, Char.ofNat 46, Char.ofNat 70, Char.ofNat 110, Char.ofNat 79, Char.ofNat 114, Char.ofNat 100, Char.ofNat 101, Char.ofNat 114, Char.ofNat 115, Char.ofNat 79, Char.ofNat 102, Char.ofNat 79, Char.ofNat 110, Char.ofNat 101, Char.ofNat 76, Char.ofNat 105, Char.ofNat 110, Char.ofNat 101]]
theorem init_words : behindMainWord (wordsSigns Try.pinned.checked.prog.initOrder.toList) = initWords := by rw [init_toList]; kernel_rfl
theorem and_t {a b : Bool} (h : a = true) (k : b = true) : (a && b) = true := by rw [h, k]; rfl
theorem strip_cut (rest : List (List Char)) : stripLifts liftWords ("cut".toList :: rest) = ([], "cut".toList :: rest) := by kernel_rfl
theorem mayEnter_cut {P : Program} {rest : List (List Char)} (h : behindMainWord (wordsSigns P.initOrder.toList) = "cut".toList :: rest) (hl : P.laysLater = false) (hr : P.bearsReflect = false) (hd : P.doorFits [] = true) : P.mayEnter = true := by
  unfold Program.mayEnter
  rw [h]
  dsimp only
  rw [strip_cut rest, hl, hr, hd]
  kernel_rfl
theorem liftsFinal_cut {P : Program} {rest : List (List Char)} (h : behindMainWord (wordsSigns P.initOrder.toList) = "cut".toList :: rest) : P.liftsFinal = false := by
  unfold Program.liftsFinal Program.headLifts
  rw [h, strip_cut rest]
  kernel_rfl
theorem make_cut {P : Program} {rest : List (List Char)} (h : behindMainWord (wordsSigns P.initOrder.toList) = "cut".toList :: rest) : P.make = some .cut := by
  unfold Program.make
  rw [h]
  kernel_rfl
theorem init_words_cut : behindMainWord (wordsSigns Try.pinned.checked.prog.initOrder.toList) = "cut".toList :: initWords.tail := init_words.trans (by kernel_rfl)
theorem init_mayEnter : Try.pinned.checked.prog.mayEnter = true := mayEnter_cut init_words_cut (by as_aux_lemma => kernel_rfl) (by as_aux_lemma => kernel_rfl) (by as_aux_lemma => kernel_rfl)
theorem init_liftsFinal : Try.pinned.checked.prog.liftsFinal = false := liftsFinal_cut init_words_cut
theorem init_make : Try.pinned.checked.prog.make = some .cut := make_cut init_words_cut
theorem init_lifted {b : Bool} (h : (b == false) = true) : (b == Try.pinned.checked.prog.liftsFinal) = true := by rw [init_liftsFinal]; exact h
theorem init_mk {m : Option Make} (h : (some Make.cut == m) = true) : (Try.pinned.checked.prog.make == m) = true := by rw [init_make]; exact h
end Go.Proofs.Yteoggoopfjkdkaa
