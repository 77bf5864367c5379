/-
  IsDesk of both.
  Conditions: lists of at most 1048576 elements.
-/
import Derived.Test.YtbhpflhopajbfaaJob
import Derived.Test.YtbhpflhopajbfaaGrI
import Derived.Test.YtbhpflhopajbfaaGrS
namespace Go.Proofs.Ytbhpflhopajbfaa
open Go.RowKit Go.Shelf
attribute [local go_sem] Oper.semAt_some

def deskOk (ts us gs : List Int) : Bool := tasksOk ts && turnsOk us 8 && gardenOk gs

set_option maxRecDepth 100000 in
set_option maxHeartbeats 8000000 in
theorem i_IsDesk (cl cp cd : Value) (ts us gs : List Int) (w : World) (hI : Jobs3 w.heap.size w cl cp cd ts us gs) (_hN : J64 ts us gs) (hm : JLen ts us gs) :
    Calls Try.prog 63 #[.agg #[cl, cp, cd]] w fun e w' => e = .returned (.bool (deskOk ts us gs)) ∧ Below w.heap.size w w' := by
  obtain ⟨al, capl, rfl⟩ := hI.l.shape
  obtain ⟨ap, capp, rfl⟩ := hI.p.shape
  obtain ⟨ad, capd, rfl⟩ := hI.d.shape
  have hB0 : Below w.heap.size w (w.alloc (.cells #[.slice al ts.length capl, .slice ap us.length capp, .slice ad gs.length capd] 76)) := (Below.refl _ _).alloc (Nat.le_refl _) _
  have b0 := Box3.new w 76 (.slice al ts.length capl) (.slice ap us.length capp) (.slice ad gs.length capd)
  have hI0 := hI.later hB0
  have h1 := hm.l
  have h2 := hm.p
  have h3 := hm.d
  clear hI hm
  cases ht : tasksOk ts
  · have Hf := Lib.hid (show deskOk ts us gs = false by unfold deskOk; rw [ht]; rfl)
    have Ht := Lib.hid ht
    clear ht
    go_enter Try.func63, Try.ntmps63
    go_wp2_with fail
    refine (isTasks_c _ ts _ hI0.l (by omega)).mono ?_
    rintro e w1 ⟨he, hb⟩
    rw [Ht.out] at he
    subst he
    go_wp2_with fail
    go_ret
    exact ⟨ret_bool Hf.out.symm, hB0.trans (hb.mono (by simp))⟩
  · have Ht := Lib.hid ht
    cases hu : turnsOk us 8
    · have Hf := Lib.hid (show deskOk ts us gs = false by unfold deskOk; rw [ht, hu]; rfl)
      have Hu := Lib.hid hu
      clear ht hu
      go_enter Try.func63, Try.ntmps63
      go_wp2_with fail
      refine (isTasks_c _ ts _ hI0.l (by omega)).mono ?_
      rintro e w1 ⟨he, hb⟩
      rw [Ht.out] at he
      subst he
      have b1 := b0.later hb
      have d1 := b1.c1
      have hI1 := hI0.later hb
      have hB1 := hB0.trans (hb.mono (by simp))
      clear hb
      go_wp2_with fail
      refine (areTurns_c _ us 8 _ hI1.p (by omega)).mono ?_
      rintro e w2 ⟨he, hb⟩
      rw [Hu.out] at he
      subst he
      go_wp2_with fail
      go_ret
      exact ⟨ret_bool Hf.out.symm, hB1.trans (hb.mono hB1.size)⟩
    · have Hf := Lib.hid (show deskOk ts us gs = gardenOk gs by unfold deskOk; rw [ht, hu]; rfl)
      have Hu := Lib.hid hu
      clear ht hu
      go_enter Try.func63, Try.ntmps63
      go_wp2_with fail
      refine (isTasks_c _ ts _ hI0.l (by omega)).mono ?_
      rintro e w1 ⟨he, hb⟩
      rw [Ht.out] at he
      subst he
      have b1 := b0.later hb
      have d1 := b1.c1
      have d2 := b1.c2
      have hI1 := hI0.later hb
      have hB1 := hB0.trans (hb.mono (by simp))
      clear hb
      go_wp2_with fail
      refine (areTurns_c _ us 8 _ hI1.p (by omega)).mono ?_
      rintro e w2 ⟨he, hb⟩
      rw [Hu.out] at he
      subst he
      have b2 := b1.later hb
      have d3 := b2.c2
      have hI2 := hI1.later hb
      have hB2 := hB1.trans (hb.mono hB1.size)
      clear hb d1 d2
      go_wp2_with fail
      refine (isGarden_c _ gs _ hI2.d (by omega)).mono ?_
      rintro e w3 ⟨rfl, hb3⟩
      obtain ⟨g, eg⟩ : ∃ g, gardenOk gs = g := ⟨_, rfl⟩
      have Hg := Lib.hid eg
      rw [eg]
      clear eg
      go_wp2_with fail
      go_ret
      exact ⟨ret_bool (by rw [Hf.out, Hg.out]), hB2.trans (hb3.mono hB2.size)⟩

set_option maxRecDepth 100000 in
set_option maxHeartbeats 8000000 in
theorem s_IsDesk (cl cp cd : Value) (ts us gs : List Int) (w : World) (hI : Jobs3 w.heap.size w cl cp cd ts us gs) (_hN : J64 ts us gs) (hm : JLen ts us gs) :
    Calls Try.prog 61 #[.agg #[cl, cp, cd]] w fun e w' => e = .returned (.bool (deskOk ts us gs)) ∧ Below w.heap.size w w' := by
  obtain ⟨al, capl, rfl⟩ := hI.l.shape
  obtain ⟨ap, capp, rfl⟩ := hI.p.shape
  obtain ⟨ad, capd, rfl⟩ := hI.d.shape
  have hB0 : Below w.heap.size w (w.alloc (.cells #[.slice al ts.length capl, .slice ap us.length capp, .slice ad gs.length capd] 76)) := (Below.refl _ _).alloc (Nat.le_refl _) _
  have b0 := Box3.new w 76 (.slice al ts.length capl) (.slice ap us.length capp) (.slice ad gs.length capd)
  have hI0 := hI.later hB0
  have h1 := hm.l
  have h2 := hm.p
  have h3 := hm.d
  clear hI hm
  cases ht : tasksOk ts
  · have Hf := Lib.hid (show deskOk ts us gs = false by unfold deskOk; rw [ht]; rfl)
    have Ht := Lib.hid ht
    clear ht
    go_enter Try.func61, Try.ntmps61
    go_wp2_with fail
    refine (l01Is_c _ ts _ hI0.l (by omega)).mono ?_
    rintro e w1 ⟨he, hb⟩
    rw [Ht.out] at he
    subst he
    go_wp2_with fail
    go_ret
    exact ⟨ret_bool Hf.out.symm, hB0.trans (hb.mono (by simp))⟩
  · have Ht := Lib.hid ht
    cases hu : turnsOk us 8
    · have Hf := Lib.hid (show deskOk ts us gs = false by unfold deskOk; rw [ht, hu]; rfl)
      have Hu := Lib.hid hu
      clear ht hu
      go_enter Try.func61, Try.ntmps61
      go_wp2_with fail
      refine (l01Is_c _ ts _ hI0.l (by omega)).mono ?_
      rintro e w1 ⟨he, hb⟩
      rw [Ht.out] at he
      subst he
      have b1 := b0.later hb
      have d1 := b1.c1
      have hI1 := hI0.later hb
      have hB1 := hB0.trans (hb.mono (by simp))
      clear hb
      go_wp2_with fail
      refine (l01Turns_c _ us 8 _ hI1.p (by omega) (by omega) (by omega)).mono ?_
      rintro e w2 ⟨he, rfl⟩
      rw [Hu.out] at he
      subst he
      go_wp2_with fail
      go_ret
      exact ⟨ret_bool Hf.out.symm, hB1⟩
    · have Hf := Lib.hid (show deskOk ts us gs = gardenOk gs by unfold deskOk; rw [ht, hu]; rfl)
      have Hu := Lib.hid hu
      clear ht hu
      go_enter Try.func61, Try.ntmps61
      go_wp2_with fail
      refine (l01Is_c _ ts _ hI0.l (by omega)).mono ?_
      rintro e w1 ⟨he, hb⟩
      rw [Ht.out] at he
      subst he
      have b1 := b0.later hb
      have d1 := b1.c1
      have d2 := b1.c2
      have hI1 := hI0.later hb
      have hB1 := hB0.trans (hb.mono (by simp))
      clear hb
      go_wp2_with fail
      refine (l01Turns_c _ us 8 _ hI1.p (by omega) (by omega) (by omega)).mono ?_
      rintro e w2 ⟨he, rfl⟩
      rw [Hu.out] at he
      subst he
      have hI2 := hI1
      have hB2 := hB1
      go_wp2_with fail
      refine (l06Is_c _ gs _ hI2.d (by omega)).mono ?_
      rintro e w3 ⟨rfl, hb3⟩
      obtain ⟨g, eg⟩ : ∃ g, gardenOk gs = g := ⟨_, rfl⟩
      have Hg := Lib.hid eg
      rw [eg]
      clear eg
      go_wp2_with fail
      go_ret
      exact ⟨ret_bool (by rw [Hf.out, Hg.out]), hB2.trans (hb3.mono hB2.size)⟩

end Go.Proofs.Ytbhpflhopajbfaa
