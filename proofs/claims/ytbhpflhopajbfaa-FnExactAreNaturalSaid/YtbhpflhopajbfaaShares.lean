/-
  SharesOf: the model's and the program's contracts, and the law on it.
  Conditions: none but the row's own.
-/
import Derived.Test.YtbhpflhopajbfaaChkI
import Derived.Test.YtbhpflhopajbfaaLaw
import Derived.Sort.QuietIn
namespace Go.Proofs.Ytbhpflhopajbfaa
open Go.RowKit Go.Shelf
attribute [local go_sem] Oper.semAt_some

theorem ret_v2 {v : Value} {a a' : Int} (h : a = a') : Ending.returned (.tuple #[v, .int .i64 a]) = .returned (.tuple #[v, .int .i64 a']) := by rw [h]
theorem ret_v3 {v : Value} {a a' b b' : Int} (h : a = a') (k : b = b') : Ending.returned (.tuple #[v, .int .i64 a, .int .i64 b]) = .returned (.tuple #[v, .int .i64 a', .int .i64 b']) := by rw [h, k]
theorem ownI_made {B n : Nat} {W : World} {v : Value} (h : W.ownsRow B 2 1 v n (madeCells #[Value.int .i64 0] n).toList) : OwnI B W v (List.replicate n 0) := by
  unfold OwnI
  rw [List.length_replicate, ← madeI]
  exact h
def cnt (l : List Int) (i : Int) : Int := ((l.countP fun z => z == i) : Nat)
def sharesL (n : Nat) (l : List Int) : List Int := (List.range n).map fun (i : Nat) => cnt l (i : Int)
def sharesR (zs ts : List Int) : List Int := if codeOf zs ts = 0 then sharesL zs.length ts else []
def idleR (zs ts : List Int) : Int := if codeOf zs ts = 0 then cnt ts (-1) else 0
theorem cnt_nil (i : Int) : cnt [] i = 0 := rfl
theorem cnt_snoc (l : List Int) (z i : Int) : cnt (l ++ [z]) i = cnt l i + if z = i then 1 else 0 := by
  unfold cnt; rw [List.countP_append]; simp [List.countP_cons]; split <;> simp
theorem cnt_bd (l : List Int) (i : Int) : 0 ≤ cnt l i ∧ cnt l i ≤ l.length := by
  unfold cnt; have := List.countP_le_length (p := fun z => z == i) (l := l); omega
theorem sharesL_length (n : Nat) (l : List Int) : (sharesL n l).length = n := by simp [sharesL]
theorem nth_sharesL {n i : Nat} (l : List Int) (h : i < n) : nth (sharesL n l) i = cnt l i := by simp [nth, sharesL, h]
theorem sharesL_idle (n : Nat) (l : List Int) {z : Int} (h : z < 0) : sharesL n (l ++ [z]) = sharesL n l := by
  unfold sharesL
  refine List.map_congr_left fun i _ => ?_
  rw [cnt_snoc, if_neg (by omega)]; omega
theorem sharesL_snoc {n : Nat} (l : List Int) {i : Nat} (_h : i < n) : sharesL n (l ++ [(i : Int)]) = (sharesL n l).set i (cnt l i + 1) := by
  refine ext_nth (by simp [sharesL_length]) fun j hj => ?_
  rw [sharesL_length] at hj
  rw [nth_sharesL _ hj, cnt_snoc]
  unfold nth
  rw [List.getElem?_set]
  by_cases e : i = j
  · subst e; simp [sharesL_length, hj]
  · have := nth_sharesL l hj
    unfold nth at this
    rw [if_neg (by omega), if_neg e, this]; simp
theorem sharesL_zero (n : Nat) : sharesL n [] = List.replicate n 0 := by
  refine ext_nth (by simp [sharesL_length]) fun j hj => ?_
  rw [sharesL_length] at hj
  rw [nth_sharesL _ hj, cnt_nil]; simp [nth, hj]
theorem take_snoc {zs : List Int} {k : Nat} (h : k < zs.length) : zs.take (k + 1) = zs.take k ++ [nth zs k] := by
  rw [List.take_succ_eq_append_getElem h, nth_lt h]
theorem codeOf_zero {zs ts : List Int} (h : codeOf zs ts = 0) : tasksOk zs = true ∧ turnsOk ts zs.length = true := by
  unfold codeOf at h; split at h
  · split at h
    · exact ⟨by assumption, by assumption⟩
    · cases h
  · cases h
theorem tasksOk_len {zs : List Int} (h : tasksOk zs = true) : 1 ≤ zs.length ∧ zs.length ≤ 8 := by
  unfold tasksOk at h; rw [Bool.and_eq_true, inB_true] at h; omega
theorem tasksOk_nth {zs : List Int} (h : tasksOk zs = true) {k : Nat} (hk : k < zs.length) : 1 ≤ nth zs k ∧ nth zs k ≤ 40 := by
  unfold tasksOk at h; rw [Bool.and_eq_true, List.all_eq_true] at h; exact inB_true.1 (h.1 _ (nth_mem hk))
theorem turnsOk_len {ts : List Int} {n : Int} (h : turnsOk ts n = true) : 1 ≤ ts.length ∧ ts.length ≤ 120 := by
  unfold turnsOk at h; rw [Bool.and_eq_true, inB_true] at h; omega
theorem turnsOk_nth {ts : List Int} {n : Int} (h : turnsOk ts n = true) {k : Nat} (hk : k < ts.length) : -1 ≤ nth ts k ∧ nth ts k ≤ n - 1 := by
  unfold turnsOk at h; rw [Bool.and_eq_true, List.all_eq_true] at h; exact inB_true.1 (h.1 _ (nth_mem hk))
theorem ownI_nil (B : Nat) (W : World) : OwnI B W (.slice none 0 0) [] := World.ownsRow_nil _ _ _ _
theorem codeOf_I64 (zs ts : List Int) : 0 ≤ codeOf zs ts ∧ codeOf zs ts ≤ 2 := by unfold codeOf; split <;> (try split) <;> omega

theorem grownBy_setCell2 (W : World) (b j : Nat) (v : Value) : W.grownBy (W.setCell ⟨b, j, none⟩ v) (some b) :=
  ⟨rfl, rfl, rfl, by simp [World.setCell], fun k _ hk => Below.heap_setCell _ _ _ k (fun e => hk (by rw [e]))⟩
theorem map_firsts {zs : List Int} {k : Nat} (hk : k ≤ zs.length) : (firsts zs.length k).map (fun x => nth zs x.1) = zs.take k := by
  induction k with
  | zero => simp [firsts_zero]
  | succ k ih => rw [firsts_succ (by omega), List.map_append, ih (by omega), take_snoc (by omega)]; rfl
theorem ownI_Own {β : Type} (B : Nat) (v : Value) (f : β → List Int) : Own (fun s W => OwnI B W v (f s)) := fun s X Y row hs hg hrow =>
  hs.of_block fun k hk => hg.block k (hs.blk k hk).2 (fun e' => by
    obtain ⟨o, ho, hc⟩ := hrow k e'.symm
    obtain ⟨_, h2⟩ := hs
    rcases h2 with ⟨rfl, _⟩ | ⟨g, cap, cur, rfl, _, hh, _⟩
    · simp [Value.ownBlock] at hk
    · obtain rfl : g = k := by simpa [Value.ownBlock] using hk
      rw [hh] at ho; cases ho; cases hc)
def vals (zs : List Int) (pre : List (Fin zs.length)) : List Int := pre.map fun x => nth zs x.1
theorem vals_snoc {zs : List Int} (pre : List (Fin zs.length)) (x : Fin zs.length) : vals zs (pre ++ [x]) = vals zs pre ++ [nth zs x.1] := by simp [vals]
theorem vals_length {zs : List Int} (pre : List (Fin zs.length)) : (vals zs pre).length = pre.length := by simp [vals]
theorem vals_all (zs : List Int) : vals zs (firsts zs.length zs.length) = zs := by unfold vals; rw [map_firsts (Nat.le_refl _), List.take_length]

theorem sharesR_len (zs ts : List Int) : (sharesR zs ts).length * 8 ≤ 140737488351232 := by
  unfold sharesR
  split
  · rename_i h
    have := tasksOk_len (codeOf_zero h).1
    rw [sharesL_length]; omega
  · simp

end Go.Proofs.Ytbhpflhopajbfaa
