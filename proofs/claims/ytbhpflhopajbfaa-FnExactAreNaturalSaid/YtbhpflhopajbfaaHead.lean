/-
  Three closed facts on this translation's head, by way of its letters: the kernel need not take the text apart.
-/
import Derived.Test.YtbhpflhopajbfaaRows
import Derived.JoinedOf
namespace Go.Proofs.Ytbhpflhopajbfaa
def headL : List Char := ([104, 97, 114, 110, 101, 115, 115, 32, 98, 53, 102, 100, 100, 53, 100, 55, 51, 52, 51, 55, 52, 101, 97, 53, 100, 50, 48, 50, 51, 50, 48, 57, 50, 100, 53, 55, 54, 101, 56, 99, 54, 55, 49, 48, 50, 99, 48, 99, 102, 48, 48, 54, 98, 54, 52, 102, 99, 54, 99, 55, 52, 101, 51, 51, 52, 101, 48, 99, 55, 57, 55, 56, 32, 99, 117, 116, 32, 97, 116, 32, 108, 111, 111, 112, 46, 101, 120, 97, 109, 112, 108, 101, 47, 103, 48, 49, 52, 48, 52, 47, 108, 97, 119, 115, 46, 70, 110, 69, 120, 97, 99, 116, 70, 101, 119, 101, 115, 116, 83, 108, 111, 116, 115, 32, 108, 111, 111, 112, 46, 101, 120, 97, 109, 112, 108, 101, 47, 103, 48, 49, 52, 48, 52, 47, 108, 97, 119, 115, 46, 70, 110, 69, 120, 97, 99, 116, 68, 101, 97, 100, 108, 105, 110, 101, 83, 108, 111, 116, 115, 32, 108, 111, 111, 112, 46, 101, 120, 97, 109, 112, 108, 101, 47, 103, 48, 49, 52, 48, 52, 47, 108, 97, 119, 115, 46, 70, 110, 69, 120, 97, 99, 116, 70, 105, 114, 115, 116, 76, 97, 116, 101, 32, 108, 111, 111, 112, 46, 101, 120, 97, 109, 112, 108, 101, 47, 103, 48, 49, 52, 48, 52, 47, 108, 97, 119, 115, 46, 70, 110, 69, 120, 97, 99, 116, 67, 97, 110, 77, 101, 101, 116, 32, 108, 111, 111, 112, 46, 101, 120, 97, 109, 112, 108, 101, 47, 103, 48, 49, 52, 48, 52, 47, 108, 97, 119, 115, 46, 70, 110, 69, 120, 97, 99, 116, 84, 117, 114, 110, 115, 79, 102, 74, 111, 98, 115, 32, 108, 111, 111, 112, 46, 101, 120, 97, 109, 112, 108, 101, 47, 103, 48, 49, 52, 48, 52, 47, 108, 97, 119, 115, 46, 70, 110, 69, 120, 97, 99, 116, 71, 97, 112, 115, 79, 102, 84, 117, 114, 110, 115, 32, 108, 111, 111, 112, 46, 101, 120, 97, 109, 112, 108, 101, 47, 103, 48, 49, 52, 48, 52, 47, 108, 97, 119, 115, 46, 70, 110, 69, 120, 97, 99, 116, 65, 114, 101, 78, 97, 116, 117, 114, 97, 108, 32, 108, 111, 111, 112, 46, 101, 120, 97, 109, 112, 108, 101, 47, 103, 48, 49, 52, 48, 52, 47, 108, 97, 119, 115, 46, 70, 110, 69, 120, 97, 99, 116, 80, 117, 116, 83, 101, 116, 115, 32, 108, 111, 111, 112, 46, 101, 120, 97, 109, 112, 108, 101, 47, 103, 48, 49, 52, 48, 52, 47, 108, 97, 119, 115, 46, 70, 110, 69, 120, 97, 99, 116, 70, 105, 114, 115, 116, 82, 111, 117, 116, 101, 32, 108, 111, 111, 112, 46, 101, 120, 97, 109, 112, 108, 101, 47, 103, 48, 49, 52, 48, 52, 47, 108, 97, 119, 115, 46, 70, 110, 69, 120, 97, 99, 116, 83, 104, 111, 114, 116, 101, 115, 116, 82, 111, 117, 110, 100, 32, 108, 111, 111, 112, 46, 101, 120, 97, 109, 112, 108, 101, 47, 103, 48, 49, 52, 48, 52, 47, 108, 97, 119, 115, 46, 70, 110, 69, 120, 97, 99, 116, 78, 101, 119, 68, 101, 115, 107, 32, 108, 111, 111, 112, 46, 101, 120, 97, 109, 112, 108, 101, 47, 103, 48, 49, 52, 48, 52, 47, 108, 97, 119, 115, 46, 70, 110, 69, 120, 97, 99, 116, 73, 115, 68, 101, 115, 107] : List Nat).map Char.ofNat
theorem head_bytes : Try.prog.initOrder.toByteArray = List.utf8Encode headL := by
  unfold Try.prog Try.progTables
  dsimp only
  kernel_rfl
theorem head_eq : Try.prog.initOrder = String.ofList headL := String.toByteArray_inj.1 (head_bytes.trans (by simp))
theorem head_list : Try.prog.initOrder.toList = headL := by rw [head_eq, String.toList_ofList]
theorem head_cut : ∃ rest, behindMainWord (wordsSigns headL) = "cut".toList :: rest := by
  have h : ((behindMainWord (wordsSigns headL)).head? == some "cut".toList) = true := by kernel_rfl
  have h2 := eq_of_beq h
  cases hw : behindMainWord (wordsSigns headL) with
  | nil => rw [hw] at h2; cases h2
  | cons c rest => rw [hw] at h2; simp only [List.head?_cons, Option.some.injEq] at h2; exact ⟨rest, by rw [h2]⟩
theorem strip_cut (rest : List (List Char)) : stripLifts liftWords ("cut".toList :: rest) = ([], "cut".toList :: rest) := by
  simp [stripLifts, liftWords]
section
variable (P : Program) (rest : List (List Char)) (h : behindMainWord (wordsSigns P.initOrder.toList) = "cut".toList :: rest)
include h
theorem mayEnter_of (h1 : P.laysLater = false) (h2 : P.bearsReflect = false) (h3 : P.doorFits [] = true) : P.mayEnter = true := by
  unfold Program.mayEnter
  rw [h]
  dsimp only
  rw [strip_cut, h1, h2, h3]
  simp
theorem headLifts_of : P.headLifts = [] := by
  unfold Program.headLifts
  rw [h]
  dsimp only
  rw [strip_cut]
  simp
theorem liftsFinal_of : P.liftsFinal = false := by
  unfold Program.liftsFinal
  rw [headLifts_of P rest h, h]
  simp
theorem make_of : P.make = some .cut := by
  unfold Program.make
  rw [h]
  simp
end
theorem laysLaterT : Try.prog.laysLater = false := by kernel_rfl
theorem bearsReflectT : Try.prog.bearsReflect = false := by kernel_rfl
theorem doorFitsT : Try.prog.doorFits [] = true := by kernel_rfl
theorem head_words : ∃ rest, behindMainWord (wordsSigns Try.prog.initOrder.toList) = "cut".toList :: rest := by
  rw [head_list]; exact head_cut
theorem mayEnterT : Try.prog.mayEnter = true := head_words.elim fun rest h => mayEnter_of _ rest h laysLaterT bearsReflectT doorFitsT
theorem liftsFinalT : Try.prog.liftsFinal = false := head_words.elim fun rest h => liftsFinal_of _ rest h
theorem makeT : Try.prog.make = some .cut := head_words.elim fun rest h => make_of _ rest h
end Go.Proofs.Ytbhpflhopajbfaa
