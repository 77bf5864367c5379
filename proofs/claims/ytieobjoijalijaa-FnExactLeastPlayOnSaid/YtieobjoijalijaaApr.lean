/-
  An append of a row to an own row, whatever the tail's slice is.
  Conditions: at most 1048576 elements in all.
-/
import Derived.Laws.AppendOwnNone
import Derived.Test.YtieobjoijalijaaWaits
import Derived.Test.YtieobjoijalijaaHelp
namespace Go.Proofs.Ytieobjoijalijaa
open Go.RowKit Go.Shelf
attribute [local go_sem] Oper.semAt_some

theorem wp_append_rows {o : Oper} {a : Act} {K : Act → World → Prop} {Q : Exit → Act → World → Prop} {w : World} (s x : Operand) (ho : o.op = .call { callee := .builtin .append, args := #[s, x], argTypes := #[22, 22] })
    (B : Nat) (v : Value) (xs : List Int) (hs : a.eval s = v) (hown : OwnI B w v xs) (B' : Nat) (y : Value) (ys : List Int) (hx : a.eval x = y) (hy : OwnI B' w y ys) (hl : xs.length + ys.length ≤ 1048576) (hbase : B ≤ w.heap.size)
    (h : ∀ v' w', OwnI B w' v' (xs ++ ys) → w.grownBy w' v.ownBlock → K (a.put o.dst v') w') : o.wp Try.prog a w K Q := by
  obtain ⟨i0, hi, hz0, hz1, hz2⟩ := info_parts Try.infoI
  by_cases h0 : y = .slice none 0 0
  · subst h0
    have hyl : ys = [] := by obtain ⟨_, _, e, _⟩ := hy.ints; simp at e; exact List.length_eq_zero_iff.1 e.2.1.symm
    subst hyl
    have hrun := run_append_owned_none (P := Try.prog) (w := w) B 22 o.type 2 i0 1 Try.underlying22 hi v xs.length _ hown
    unfold Oper.wp execOp
    simp only [ho, resolve, invoke, builtin, Sem.run_bind, Sem.run_pure, Result.andThen_ok, List.map_toArray, List.map_cons, List.map_nil, hs, hx, hrun]
    exact h v w (by simpa using hown) ⟨rfl, rfl, rfl, Nat.le_refl _, fun _ _ _ => rfl⟩
  · have hy' := hy
    obtain ⟨_, h2⟩ := hy'
    rcases h2 with ⟨e, _⟩ | ⟨g, cap, cur, rfl, hg, hh, _⟩
    · exact absurd e h0
    · refine wp_append_own _ s x 22 ho B 2 i0 (.int .i64 0) 1 8 Try.underlying22 hi hz0 hz1 hz2 rfl (by decide) v xs.length _ hs hown ⟨g, 0, none⟩ ys.length cap (ys.map (.int .i64)) hx (by simp) (fun j u hu => ?_) (fun u hu => ?_) (by unfold maxLen; omega) (by omega) hbase (fun v' w' h1 h2 _ => h v' w' ?_ h2)
      · rw [List.getElem?_map] at hu
        obtain ⟨z, hz, rfl⟩ := Option.map_eq_some_iff.1 hu
        have hj := (List.getElem?_eq_some_iff.1 hz).1
        have := hy.cellAt hj
        rw [getElem?_nth hj] at hz
        cases hz
        rw [Go.WideShapes.add_plain, Nat.zero_add]; exact this
      · obtain ⟨z, _, rfl⟩ := List.mem_map.1 hu
        rfl
      · unfold OwnI
        rw [List.length_append, List.map_append]
        exact h1

end Go.Proofs.Ytieobjoijalijaa
