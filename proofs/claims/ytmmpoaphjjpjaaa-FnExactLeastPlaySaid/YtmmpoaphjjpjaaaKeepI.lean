/-
  KeepingChoices of the program.
  Conditions: lists of at most 1048576 elements.
-/
import Derived.Test.YtmmpoaphjjpjaaaKeep
namespace Go.Proofs.Ytmmpoaphjjpjaaa
open Go.RowKit Go.Shelf Go.Maps
attribute [local go_sem] Oper.semAt_some

noncomputable def keepC (zs st : List Int) : Int := if stCode zs st = 0 then lastCode zs st else stCode zs st
noncomputable def keepR (zs st : List Int) : List Int := if keepC zs st = 0 then keepL zs st else []
theorem keepC_ok {zs st : List Int} (h : keepC zs st = 0) : stCode zs st = 0 ∧ lastCode zs st = 0 := by
  unfold keepC at h
  by_cases h0 : stCode zs st = 0
  · rw [if_pos h0] at h; exact ⟨h0, h⟩
  · rw [if_neg h0] at h; exact absurd h h0
theorem keepC_bd (zs st : List Int) : 0 ≤ keepC zs st ∧ keepC zs st ≤ 5 := by
  have h1 := stCode_bd zs st
  have h2 := lastCode_bd zs st
  unfold keepC; split <;> omega
theorem keepN_length (zs st : List Int) (j : Nat) : (keepN zs st j).length ≤ j := by
  unfold keepN
  refine Nat.le_trans (List.length_filter_le _ _) ?_
  simp
theorem keepL_length {zs : List Int} (h : tasksOk zs = true) (st : List Int) : (keepL zs st).length ≤ 9 := by
  have := keepN_length zs st (zs.length + 1)
  have := (tasksOk_len h).2
  unfold keepL; omega
theorem keepN_yes {zs st : List Int} {j : Nat} (h : Kpc zs st ((j : Int) - 1)) : keepN zs st (j + 1) = keepN zs st j ++ [(j : Int) - 1] := by
  rw [keepN_succ, if_pos h]
theorem keepN_no {zs st : List Int} {j : Nat} (h : ¬ Kpc zs st ((j : Int) - 1)) : keepN zs st (j + 1) = keepN zs st j := by
  rw [keepN_succ, if_neg h, List.append_nil]

theorem keepR_len (zs st : List Int) : (keepR zs st).length * 8 ≤ 140737488351232 := by
  unfold keepR
  split
  · rename_i h
    have := keepL_length (stCode_zero (keepC_ok h).1).1 st
    omega
  · simp

theorem Good.kept2 {W W' : World} {gs : List Int} {bO m : Nat} {row : Option Nat} (h : Good W gs bO m) (hg : W.grownBy W' row) (h1 : some bO ≠ row) (h2 : some m ≠ row) : Good W' gs bO m := by
  obtain ⟨hO, B, K, hB, hM, hK⟩ := h
  exact ⟨hO.kept hg h1, B, K, hB, hM.kept hg h2, hK⟩
section
variable {F : Fence} {n : Nat} {P : Program}
theorem yield_roundW {l : Nat} {fn : FuncId} {tmps : Array Value} {ps : Array Tmp} {assign body : Code} {dd : Nat} {args : Array Value} {W : World} {R : Ending → World → Prop} (hfn : F.fn fn)
    (hl : W.heap[l]? = some (.loop (recOf fn tmps ps assign body dd .ready none))) (hps : args.size = ps.size) (a₁ : Act)
    (hassign : ∀ K : Act → World → Prop, K a₁ W → assign.wpIn (F.inRound l) n P (Exit.then K (fun _ _ _ => False)) { tmps := (ps.zip args).foldl (fun t (p, v) => t.setIfInBounds p v) tmps, defers := [] } W)
    (hbody : ∀ Wb, W.grownBy Wb (some l) → Wb.heap[l]? = some (.loop { recOf fn tmps ps assign body dd .ready none with state := .busy }) → body.wpIn (F.inRound l) n P (roundR l fn tmps ps assign body dd R) a₁ Wb) :
    YieldAt F n P l args W R :=
  yield_round hfn hl hps a₁ hassign (hbody _ (grownBy_putObj' W l _) (World.putObj_heap_same (Array.getElem?_eq_some_iff.1 hl).1))
end

end Go.Proofs.Ytmmpoaphjjpjaaa
