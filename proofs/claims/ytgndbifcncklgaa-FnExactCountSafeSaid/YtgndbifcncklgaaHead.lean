/-
  Three closed facts on this translation's head, by way of its letters: the kernel need not take the text apart.
-/
import Derived.Test.YtgndbifcncklgaaRows
import Derived.JoinedOf
namespace Go.Proofs.Ytgndbifcncklgaa
def headL : List Char := ([104, 97, 114, 110, 101, 115, 115, 32, 52, 100, 55, 102, 53, 97, 54, 98, 53, 49, 51, 50, 98, 56, 53, 56, 51, 55, 49, 57, 97, 51, 99, 54, 50, 97, 55, 56, 52, 48, 55, 100, 100, 97, 98, 100, 53, 49, 50, 56, 54, 99, 97, 48, 56, 48, 97, 97, 56, 100, 54, 102, 102, 55, 54, 100, 52, 57, 52, 53, 51, 97, 102, 53, 32, 99, 117, 116, 32, 97, 116, 32, 108, 111, 111, 112, 46, 101, 120, 97, 109, 112, 108, 101, 47, 103, 48, 49, 52, 48, 52, 47, 108, 97, 119, 115, 46, 70, 110, 69, 120, 97, 99, 116, 67, 111, 117, 110, 116, 83, 97, 102, 101, 32, 108, 111, 111, 112, 46, 101, 120, 97, 109, 112, 108, 101, 47, 103, 48, 49, 52, 48, 52, 47, 108, 97, 119, 115, 46, 70, 110, 69, 120, 97, 99, 116, 67, 97, 110, 87, 97, 116, 99, 104, 32, 108, 111, 111, 112, 46, 101, 120, 97, 109, 112, 108, 101, 47, 103, 48, 49, 52, 48, 52, 47, 108, 97, 119, 115, 46, 70, 110, 69, 120, 97, 99, 116, 87, 97, 105, 116, 70, 114, 111, 109, 32, 108, 111, 111, 112, 46, 101, 120, 97, 109, 112, 108, 101, 47, 103, 48, 49, 52, 48, 52, 47, 108, 97, 119, 115, 46, 70, 110, 69, 120, 97, 99, 116, 77, 101, 97, 110, 87, 97, 105, 116, 32, 108, 111, 111, 112, 46, 101, 120, 97, 109, 112, 108, 101, 47, 103, 48, 49, 52, 48, 52, 47, 108, 97, 119, 115, 46, 70, 110, 69, 120, 97, 99, 116, 87, 111, 114, 115, 116, 83, 108, 111, 116, 32, 108, 111, 111, 112, 46, 101, 120, 97, 109, 112, 108, 101, 47, 103, 48, 49, 52, 48, 52, 47, 108, 97, 119, 115, 46, 70, 110, 69, 120, 97, 99, 116, 77, 101, 97, 110, 66, 121, 87, 101, 105, 103, 104, 116, 115, 32, 108, 111, 111, 112, 46, 101, 120, 97, 109, 112, 108, 101, 47, 103, 48, 49, 52, 48, 52, 47, 108, 97, 119, 115, 46, 70, 110, 69, 120, 97, 99, 116, 87, 97, 105, 116, 70, 111, 114, 66, 111, 116, 104, 32, 108, 111, 111, 112, 46, 101, 120, 97, 109, 112, 108, 101, 47, 103, 48, 49, 52, 48, 52, 47, 108, 97, 119, 115, 46, 70, 110, 69, 120, 97, 99, 116, 77, 101, 97, 110, 70, 111, 114, 66, 111, 116, 104, 32, 108, 111, 111, 112, 46, 101, 120, 97, 109, 112, 108, 101, 47, 103, 48, 49, 52, 48, 52, 47, 108, 97, 119, 115, 46, 70, 110, 69, 120, 97, 99, 116, 67, 111, 117, 110, 116, 87, 105, 116, 104, 105, 110, 32, 108, 111, 111, 112, 46, 101, 120, 97, 109, 112, 108, 101, 47, 103, 48, 49, 52, 48, 52, 47, 108, 97, 119, 115, 46, 70, 110, 69, 120, 97, 99, 116, 66, 101, 115, 116, 84, 117, 114, 110, 115, 32, 108, 111, 111, 112, 46, 101, 120, 97, 109, 112, 108, 101, 47, 103, 48, 49, 52, 48, 52, 47, 108, 97, 119, 115, 46, 70, 110, 69, 120, 97, 99, 116, 83, 104, 97, 114, 101, 115, 66, 121, 87, 101, 105, 103, 104, 116, 115, 32, 108, 111, 111, 112, 46, 101, 120, 97, 109, 112, 108, 101, 47, 103, 48, 49, 52, 48, 52, 47, 108, 97, 119, 115, 46, 70, 110, 69, 120, 97, 99, 116, 84, 117, 114, 110, 115, 70, 114, 111, 109, 83, 104, 97, 114, 101, 115, 32, 108, 111, 111, 112, 46, 101, 120, 97, 109, 112, 108, 101, 47, 103, 48, 49, 52, 48, 52, 47, 108, 97, 119, 115, 46, 70, 110, 69, 120, 97, 99, 116, 69, 118, 101, 110, 77, 101, 97, 110] : List Nat).map Char.ofNat
theorem head_bytes : Try.prog.initOrder.toByteArray = List.utf8Encode headL := by
  unfold Try.prog Try.progTables
  dsimp only
  kernel_rfl
theorem head_eq : Try.prog.initOrder = String.ofList headL := String.toByteArray_inj.1 (head_bytes.trans (by simp))
theorem head_list : Try.prog.initOrder.toList = headL := by rw [head_eq, String.toList_ofList]
theorem head_cut : ∃ rest, behindMainWord (wordsSigns headL) = "cut".toList :: rest := by
  have h : ((behindMainWord (wordsSigns headL)).head? == some "cut".toList) = true := by kernel_rfl
  have h2 := eq_of_beq h
  cases hw : behindMainWord (wordsSigns headL) with
  | nil => rw [hw] at h2; cases h2
  | cons c rest => rw [hw] at h2; simp only [List.head?_cons, Option.some.injEq] at h2; exact ⟨rest, by rw [h2]⟩
theorem strip_cut (rest : List (List Char)) : stripLifts liftWords ("cut".toList :: rest) = ([], "cut".toList :: rest) := by
  simp [stripLifts, liftWords]
section
variable (P : Program) (rest : List (List Char)) (h : behindMainWord (wordsSigns P.initOrder.toList) = "cut".toList :: rest)
include h
theorem mayEnter_of (h1 : P.laysLater = false) (h2 : P.bearsReflect = false) (h3 : P.doorFits [] = true) : P.mayEnter = true := by
  unfold Program.mayEnter
  rw [h]
  dsimp only
  rw [strip_cut, h1, h2, h3]
  simp
theorem headLifts_of : P.headLifts = [] := by
  unfold Program.headLifts
  rw [h]
  dsimp only
  rw [strip_cut]
  simp
theorem liftsFinal_of : P.liftsFinal = false := by
  unfold Program.liftsFinal
  rw [headLifts_of P rest h, h]
  simp
theorem make_of : P.make = some .cut := by
  unfold Program.make
  rw [h]
  simp
end
theorem laysLaterT : Try.prog.laysLater = false := by kernel_rfl
theorem bearsReflectT : Try.prog.bearsReflect = false := by kernel_rfl
theorem doorFitsT : Try.prog.doorFits [] = true := by kernel_rfl
theorem head_words : ∃ rest, behindMainWord (wordsSigns Try.prog.initOrder.toList) = "cut".toList :: rest := by
  rw [head_list]; exact head_cut
theorem mayEnterT : Try.prog.mayEnter = true := head_words.elim fun rest h => mayEnter_of _ rest h laysLaterT bearsReflectT doorFitsT
theorem liftsFinalT : Try.prog.liftsFinal = false := head_words.elim fun rest h => liftsFinal_of _ rest h
theorem makeT : Try.prog.make = some .cut := head_words.elim fun rest h => make_of _ rest h
end Go.Proofs.Ytgndbifcncklgaa
