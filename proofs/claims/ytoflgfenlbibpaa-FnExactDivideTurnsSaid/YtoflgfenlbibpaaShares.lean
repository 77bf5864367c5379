/-
  SharesOf: the model's and the program's contracts, and the law on it.
  Conditions: none but the row's own.
-/
import Derived.Test.YtoflgfenlbibpaaChkI
import Derived.Test.YtoflgfenlbibpaaLaw
import Derived.Sort.QuietIn
namespace Go.Proofs.Ytoflgfenlbibpaa
open Go.RowKit Go.Shelf
attribute [local go_sem] Oper.semAt_some

theorem ret_v2 {v : Value} {a a' : Int} (h : a = a') : Ending.returned (.tuple #[v, .int .i64 a]) = .returned (.tuple #[v, .int .i64 a']) := by rw [h]
theorem ret_v3 {v : Value} {a a' b b' : Int} (h : a = a') (k : b = b') : Ending.returned (.tuple #[v, .int .i64 a, .int .i64 b]) = .returned (.tuple #[v, .int .i64 a', .int .i64 b']) := by rw [h, k]
theorem ownI_made {B n : Nat} {W : World} {v : Value} (h : W.ownsRow B 2 1 v n (madeCells #[Value.int .i64 0] n).toList) : OwnI B W v (List.replicate n 0) := by
  unfold OwnI
  rw [List.length_replicate, ← madeI]
  exact h
def cnt (l : List Int) (i : Int) : Int := ((l.countP fun z => z == i) : Nat)
def sharesL (n : Nat) (l : List Int) : List Int := (List.range n).map fun (i : Nat) => cnt l (i : Int)
def sharesR (zs ts : List Int) : List Int := if codeOf zs ts = 0 then sharesL zs.length ts else []
def idleR (zs ts : List Int) : Int := if codeOf zs ts = 0 then cnt ts (-1) else 0
theorem cnt_nil (i : Int) : cnt [] i = 0 := rfl
theorem cnt_snoc (l : List Int) (z i : Int) : cnt (l ++ [z]) i = cnt l i + if z = i then 1 else 0 := by
  unfold cnt; rw [List.countP_append]; simp [List.countP_cons]; split <;> simp
theorem cnt_bd (l : List Int) (i : Int) : 0 ≤ cnt l i ∧ cnt l i ≤ l.length := by
  unfold cnt; have := List.countP_le_length (p := fun z => z == i) (l := l); omega
theorem sharesL_length (n : Nat) (l : List Int) : (sharesL n l).length = n := by simp [sharesL]
theorem nth_sharesL {n i : Nat} (l : List Int) (h : i < n) : nth (sharesL n l) i = cnt l i := by simp [nth, sharesL, h]
theorem sharesL_idle (n : Nat) (l : List Int) {z : Int} (h : z < 0) : sharesL n (l ++ [z]) = sharesL n l := by
  unfold sharesL
  refine List.map_congr_left fun i _ => ?_
  rw [cnt_snoc, if_neg (by omega)]; omega
theorem sharesL_snoc {n : Nat} (l : List Int) {i : Nat} (_h : i < n) : sharesL n (l ++ [(i : Int)]) = (sharesL n l).set i (cnt l i + 1) := by
  refine ext_nth (by simp [sharesL_length]) fun j hj => ?_
  rw [sharesL_length] at hj
  rw [nth_sharesL _ hj, cnt_snoc]
  unfold nth
  rw [List.getElem?_set]
  by_cases e : i = j
  · subst e; simp [sharesL_length, hj]
  · have := nth_sharesL l hj
    unfold nth at this
    rw [if_neg (by omega), if_neg e, this]; simp
theorem sharesL_zero (n : Nat) : sharesL n [] = List.replicate n 0 := by
  refine ext_nth (by simp [sharesL_length]) fun j hj => ?_
  rw [sharesL_length] at hj
  rw [nth_sharesL _ hj, cnt_nil]; simp [nth, hj]
theorem take_snoc {zs : List Int} {k : Nat} (h : k < zs.length) : zs.take (k + 1) = zs.take k ++ [nth zs k] := by
  rw [List.take_succ_eq_append_getElem h, nth_lt h]
theorem codeOf_zero {zs ts : List Int} (h : codeOf zs ts = 0) : tasksOk zs = true ∧ turnsOk ts zs.length = true := by
  unfold codeOf at h; split at h
  · split at h
    · exact ⟨by assumption, by assumption⟩
    · cases h
  · cases h
theorem tasksOk_len {zs : List Int} (h : tasksOk zs = true) : 1 ≤ zs.length ∧ zs.length ≤ 8 := by
  unfold tasksOk at h; rw [Bool.and_eq_true, inB_true] at h; omega
theorem tasksOk_nth {zs : List Int} (h : tasksOk zs = true) {k : Nat} (hk : k < zs.length) : 1 ≤ nth zs k ∧ nth zs k ≤ 40 := by
  unfold tasksOk at h; rw [Bool.and_eq_true, List.all_eq_true] at h; exact inB_true.1 (h.1 _ (nth_mem hk))
theorem turnsOk_len {ts : List Int} {n : Int} (h : turnsOk ts n = true) : 1 ≤ ts.length ∧ ts.length ≤ 120 := by
  unfold turnsOk at h; rw [Bool.and_eq_true, inB_true] at h; omega
theorem turnsOk_nth {ts : List Int} {n : Int} (h : turnsOk ts n = true) {k : Nat} (hk : k < ts.length) : -1 ≤ nth ts k ∧ nth ts k ≤ n - 1 := by
  unfold turnsOk at h; rw [Bool.and_eq_true, List.all_eq_true] at h; exact inB_true.1 (h.1 _ (nth_mem hk))
theorem ownI_nil (B : Nat) (W : World) : OwnI B W (.slice none 0 0) [] := World.ownsRow_nil _ _ _ _
theorem codeOf_I64 (zs ts : List Int) : 0 ≤ codeOf zs ts ∧ codeOf zs ts ≤ 2 := by unfold codeOf; split <;> (try split) <;> omega

theorem grownBy_setCell2 (W : World) (b j : Nat) (v : Value) : W.grownBy (W.setCell ⟨b, j, none⟩ v) (some b) :=
  ⟨rfl, rfl, rfl, by simp [World.setCell], fun k _ hk => Below.heap_setCell _ _ _ k (fun e => hk (by rw [e]))⟩
theorem map_firsts {zs : List Int} {k : Nat} (hk : k ≤ zs.length) : (firsts zs.length k).map (fun x => nth zs x.1) = zs.take k := by
  induction k with
  | zero => simp [firsts_zero]
  | succ k ih => rw [firsts_succ (by omega), List.map_append, ih (by omega), take_snoc (by omega)]; rfl
theorem ownI_Own {β : Type} (B : Nat) (v : Value) (f : β → List Int) : Own (fun s W => OwnI B W v (f s)) := fun s X Y row hs hg hrow =>
  hs.of_block fun k hk => hg.block k (hs.blk k hk).2 (fun e' => by
    obtain ⟨o, ho, hc⟩ := hrow k e'.symm
    obtain ⟨_, h2⟩ := hs
    rcases h2 with ⟨rfl, _⟩ | ⟨g, cap, cur, rfl, _, hh, _⟩
    · simp [Value.ownBlock] at hk
    · obtain rfl : g = k := by simpa [Value.ownBlock] using hk
      rw [hh] at ho; cases ho; cases hc)
def vals (zs : List Int) (pre : List (Fin zs.length)) : List Int := pre.map fun x => nth zs x.1
theorem vals_snoc {zs : List Int} (pre : List (Fin zs.length)) (x : Fin zs.length) : vals zs (pre ++ [x]) = vals zs pre ++ [nth zs x.1] := by simp [vals]
theorem vals_length {zs : List Int} (pre : List (Fin zs.length)) : (vals zs pre).length = pre.length := by simp [vals]
theorem vals_all (zs : List Int) : vals zs (firsts zs.length zs.length) = zs := by unfold vals; rw [map_firsts (Nat.le_refl _), List.take_length]

set_option maxRecDepth 100000 in
set_option maxHeartbeats 2000000 in
theorem i_SharesOf (c0 : Value) (zs : List Int) (c1 : Value) (ts : List Int) (w : World) (hI : Ints w.heap.size w c0 zs) (_hN : I64s zs) (hm : zs.length ≤ 1048576) (hT : Ints w.heap.size w c1 ts) (_hN1 : I64s ts) (hm1 : ts.length ≤ 1048576) :
    Calls Try.prog 29 #[.agg #[c0], c1] w (GivesI w (sharesR zs ts) fun v => .tuple #[v, .int .i64 (idleR zs ts), .int .i64 (codeOf zs ts)]) := by
  obtain ⟨a, cap, rfl⟩ := hI.shape
  obtain ⟨a2, cap2, rfl⟩ := hT.shape
  have hB0 : Below w.heap.size w (w.alloc (.cells #[.slice a zs.length cap] 26)) := (Below.refl _ w).alloc (Nat.le_refl _) _
  refine (callsIn_wide (n := 9)).1 ?_
  by_cases hc : codeOf zs ts = 0
  · obtain ⟨i0, hi, hz0, hz1, hz2⟩ := info_parts Try.infoI
    obtain ⟨h1, h2⟩ := codeOf_zero hc
    have hl := tasksOk_len h1
    have hl2 := turnsOk_len h2
    have Hc := Lib.hid hc
    clear hc
    have r1 : sharesR zs ts = sharesL zs.length ts := if_pos Hc.out
    have r2 : idleR zs ts = cnt ts (-1) := if_pos Hc.out
    have Hr := Lib.hid r1
    have Hq := Lib.hid r2
    clear r1 r2
    refine callsIn_of_wp_marks Try.func29 rfl trivial ?_ rfl
    simp only [Try.ntmps29, List.size_toArray, List.length_cons, List.length_nil, Nat.reduceAdd, Nat.reduceSub, Array.replicate_succ, Array.replicate_zero, List.push_toArray, List.append_toArray, List.nil_append, List.cons_append]
    gi_wp2_with fail
    refine ⟨trivial, (callsIn_wide.2 (checkTurnsFor_c _ _ zs ts _ (hI.later hB0) (hT.later hB0) (by omega) (by omega))).mono ?_⟩
    rintro e w1 ⟨he, hb⟩
    rw [Hc.out] at he
    subst he
    have b1 : Boxed w1 w.heap.size 26 (.slice a zs.length cap) := boxed_later (Boxed.new _ _ _) hb
    have k1 := b1.cell
    have hB1 := hB0.trans (hb.mono (by simp))
    have s1 := hB1.size
    clear hb hB0
    gi_wp2_with (gi_at_make; refine makeIn_full _ rfl _ _ 24 rfl w.heap.size 2 i0 (.int .i64 0) 1 Try.underlying24 hi hz0 hz1 .i64 .i64 _ _ zs.length rfl rfl rfl rfl ?c1 ?c2 ?c3 ?_)
    case c1 => rw [hz2]; omega
    case c2 => unfold maxLen; omega
    case c3 => exact s1
    intro w3 hown hgrow
    have ho3 := ownI_made hown
    rw [← sharesL_zero] at ho3
    have hB3 : Below w.heap.size w w3 := hB1.grown hgrow s1 (by simp)
    have s3 : w1.heap.size < w3.heap.size := (ho3.blk _ rfl).2
    clear hown hgrow b1 k1
    gi_wp2_with (first | (gi_at_call 109; refine (callsIn_wide.2 (numbered_c _ _ _ _)).mono ?_; rintro e w' ⟨rfl, rfl⟩) | (refine ⟨trivial, ?_⟩; gi_at_call 109; refine (callsIn_wide.2 (numbered_c _ _ _ _)).mono ?_; rintro e w' ⟨rfl, rfl⟩))
    obtain ⟨W0, hW0⟩ : ∃ W0, ((w3.alloc (.cells #[.slice (some ⟨w1.heap.size, 0, none⟩) zs.length zs.length] 24)).alloc (.cells #[.int .i64 0] 2)).alloc (.cells #[.slice a2 ts.length cap2] 24) = W0 := ⟨_, rfl⟩
    have hB3' : Below w3.heap.size w3 W0 := by rw [← hW0]; exact (((Below.refl _ w3).alloc (Nat.le_refl _) _).alloc (by simp) _).alloc (by simp; omega) _
    have hs3 := hB3.size
    have hB0' : Below w.heap.size w W0 := hB3.trans (hB3'.mono hs3)
    have hsz : w3.heap.size + 3 ≤ W0.heap.size := by rw [← hW0]; simp
    have bS : Boxed W0 w3.heap.size 24 (.slice (some ⟨w1.heap.size, 0, none⟩) zs.length zs.length) := by rw [← hW0]; exact ((Boxed.new w3 24 (.slice (some ⟨w1.heap.size, 0, none⟩) zs.length zs.length)).alloc _).alloc _
    have bQ : Boxed W0 (w3.heap.size + 1) 2 (.int .i64 0) := by rw [← hW0]; simpa using (Boxed.new (w3.alloc (.cells #[.slice (some ⟨w1.heap.size, 0, none⟩) zs.length zs.length] 24)) 2 (.int .i64 0)).alloc (.cells #[.slice a2 ts.length cap2] 24)
    have bN : Boxed W0 (w3.heap.size + 1 + 1) 24 (.slice a2 ts.length cap2) := by rw [← hW0]; simpa using (Boxed.new ((w3.alloc (.cells #[.slice (some ⟨w1.heap.size, 0, none⟩) zs.length zs.length] 24)).alloc (.cells #[.int .i64 0] 2)) 24 (.slice a2 ts.length cap2))
    have ho0 := ho3.below hB3'
    rw [hW0]
    clear hW0 hB3'
    refine range_numbered rfl (by omega) bN (hT.below hB0') (by omega)
      (fun pre W => ((Boxed W w3.heap.size 24 (.slice (some ⟨w1.heap.size, 0, none⟩) zs.length zs.length) ∧ Boxed W (w3.heap.size + 1) 2 (.int .i64 (cnt (vals ts pre) (-1)))) ∧ OwnI w.heap.size W (.slice (some ⟨w1.heap.size, 0, none⟩) zs.length zs.length) (sharesL zs.length (vals ts pre))) ∧ Below w.heap.size w W)
      (fun _ _ _ => False)
      (OwnFrom.and (OwnFrom.and (OwnFrom.and (Own.from (boxed_own _ _ _) _) (Own.from (boxed_own _ _ _) _)) (Own.from (ownI_Own _ _ _) _)) (ownFrom_below (Nat.le_refl _) (by omega)))
      (fun _ _ _ _ _ hs _ _ => hs)
      ⟨⟨⟨bS, bQ⟩, ho0⟩, hB0'⟩ ?a1 ?assign ?body ?done ?stop
    case assign =>
      intro l x W K hK
      gi_wp2
      exact hK
    case body =>
      rintro l pre x W ⟨⟨⟨bS1, bQ1⟩, ho1⟩, hB⟩ hlt
      have cS := bS1.cell
      have cQ := bQ1.cell
      have fQ := bQ1.frozen
      have hz := turnsOk_nth h2 x.2
      have hcb := cnt_bd (vals ts pre) (-1)
      rw [vals_length] at hcb
      by_cases hneg : nth ts x.1 = -1
      · have hc1 : cnt (vals ts (pre ++ [x])) (-1) = cnt (vals ts pre) (-1) + 1 := by rw [vals_snoc, cnt_snoc, if_pos hneg]
        have HC := Lib.hid hc1
        have Hn := Lib.hid hneg
        have hq : (nth ts x.1 == -1) = true := by simp [hneg]
        clear hc1 hneg
        gi_wp2
        exact ⟨(KeepsOthers.setCell _ _ _).from _, (Below.refl w.heap.size W).setCell (p := ⟨w3.heap.size + 1, 0, none⟩) (by show _ ≤ w3.heap.size + 1; omega) _,
          ⟨⟨⟨bS1.other (by omega) _, by rw [HC.out]; exact bQ1.set _⟩, by rw [vals_snoc, sharesL_idle _ _ (by rw [Hn.out]; omega)]; exact ho1.kept (grownBy_setCell' _ _ _) (.inr (by simp [Value.ownBlock]; omega))⟩, hB.setCell (p := ⟨w3.heap.size + 1, 0, none⟩) (by show _ ≤ w3.heap.size + 1; omega) _⟩⟩
      · have h0 : 0 ≤ nth ts x.1 := by omega
        have hjl : (nth ts x.1).toNat < zs.length := by omega
        have hji : nth ts x.1 < (zs.length : Int) := by omega
        have HJ := Lib.hid (Int.toNat_of_nonneg h0)
        have hc1 : cnt (vals ts (pre ++ [x])) (-1) = cnt (vals ts pre) (-1) := by rw [vals_snoc, cnt_snoc, if_neg hneg]; omega
        have HC := Lib.hid hc1
        have hq : (nth ts x.1 == -1) = false := by rw [beq_eq_false_iff_ne]; omega
        have hcy := ho1.cellAt (j := (nth ts x.1).toNat) (by rw [sharesL_length]; exact hjl)
        rw [nth_sharesL _ hjl, HJ.out] at hcy
        have hfy := ho1.frozen (nth ts x.1).toNat
        have hcj := cnt_bd (vals ts pre) (nth ts x.1)
        rw [vals_length] at hcj
        have hpl : pre.length < 1048576 := by omega
        clear hz hc1 hneg
        gi_wp2
        refine ⟨(KeepsOthers.setCell _ _ _).from _, (Below.refl w.heap.size W).setCell (p := ⟨w1.heap.size, _, none⟩) (by show _ ≤ w1.heap.size; omega) _,
          ⟨⟨⟨bS1.kept (grownBy_setCell2 _ _ _ _) (by simp; omega), by rw [HC.out]; exact bQ1.kept (grownBy_setCell2 _ _ _ _) (by simp; omega)⟩, ?_⟩, hB.setCell (p := ⟨w1.heap.size, _, none⟩) (by show _ ≤ w1.heap.size; omega) _⟩⟩
        have hst := (ho1.stored (nth ts x.1).toNat (cnt (vals ts pre) (nth ts x.1) + 1)).1
        rw [vals_snoc]
        have hsn := sharesL_snoc (vals ts pre) hjl
        rw [HJ.out] at hsn
        rw [hsn]
        exact hst
    case done =>
      rintro D W hD ⟨⟨⟨bS1, bQ1⟩, ho1⟩, hB⟩ hK
      have cS := bS1.cell
      have cQ := bQ1.cell
      rw [vals_all] at ho1 cQ
      gi_wp2
      gi_quiet (fail)
      gi_wp2
      have hK' : (W.drewN nq).heap[D]? = some (.deferred (some [])) := hK
      refine retM1 hK' ⟨_, results_tmp3 rfl _ _ _, ?_⟩
      have ho2 : OwnI w.heap.size (W.drewN nq) (.slice (some ⟨w1.heap.size, 0, none⟩) zs.length zs.length) (sharesL zs.length ts) := ho1
      exact ⟨_, ret_v3 Hq.out.symm Hc.out.symm, by rw [Hr.out]; exact ho2.shut hK', below_shut (below_drewN hB _) (by omega)⟩
    case stop =>
      rintro D c k W hD hk h
      exact h.elim
  · have Hc := Lib.hid hc
    have hp := codeOf_I64 zs ts
    have hq : ((codeOf zs ts) != 0) = true := by simpa using hc
    have Hr := Lib.hid (show sharesR zs ts = [] from if_neg hc)
    have Hq := Lib.hid (show idleR zs ts = 0 from if_neg hc)
    clear hc
    refine callsIn_of_wp_marks Try.func29 rfl trivial ?_ rfl
    simp only [Try.ntmps29, List.size_toArray, List.length_cons, List.length_nil, Nat.reduceAdd, Nat.reduceSub, Array.replicate_succ, Array.replicate_zero, List.push_toArray, List.append_toArray, List.nil_append, List.cons_append]
    gi_wp2_with fail
    refine ⟨trivial, (callsIn_wide.2 (checkTurnsFor_c _ _ zs ts _ (hI.later hB0) (hT.later hB0) (by omega) (by omega))).mono ?_⟩
    rintro e w1 ⟨rfl, hb⟩
    gi_wp2
    refine retM0 ⟨_, results_tmp3 rfl _ _ _, ?_⟩
    exact ⟨_, ret_v3 Hq.out.symm rfl, by rw [Hr.out]; exact ownI_nil _ _, hB0.trans (hb.mono (by simp))⟩

theorem sharesR_len (zs ts : List Int) : (sharesR zs ts).length * 8 ≤ 140737488351232 := by
  unfold sharesR
  split
  · rename_i h
    have := tasksOk_len (codeOf_zero h).1
    rw [sharesL_length]; omega
  · simp

end Go.Proofs.Ytoflgfenlbibpaa
