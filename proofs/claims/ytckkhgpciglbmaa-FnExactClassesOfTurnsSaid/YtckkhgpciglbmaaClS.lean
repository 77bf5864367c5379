/-
  Splits of classes: SplitClass of both.
  Conditions: lists of at most 1048576 elements.
-/
import Derived.Test.YtckkhgpciglbmaaClE
import Derived.Test.YtckkhgpciglbmaaClh
namespace Go.Proofs.Ytckkhgpciglbmaa
open Go.RowKit Go.Shelf
attribute [local go_sem] Oper.semAt_some

/-! ### appends of classes -/
theorem ownC_app {B n m : Nat} {W : World} {v : Value} {xs ys : List Int} (h : W.ownsRow B 87 2 v (n + m) (xs.map (Value.int .i64) ++ ys.map (.int .i64))) : OwnC B W v (n + m) (xs ++ ys) := by
  unfold OwnC; rw [List.map_append]; exact h
theorem ownC_snoc {B : Nat} {W : World} {v : Value} {cs : List (Int × Int)} {x y : Int} (h : W.ownsRow B 87 2 v (cs.length + 1) ((flat cs).map (Value.int .i64) ++ [.int .i64 x, .int .i64 y])) : OwnC B W v (cs ++ [(x, y)]).length (flat (cs ++ [(x, y)])) := by
  rw [flat_append, List.length_append]
  exact ownC_app (ys := [x, y]) h
theorem ownC_cat {B : Nat} {W : World} {v : Value} {cs ds : List (Int × Int)} (h : W.ownsRow B 87 2 v (cs.length + ds.length) ((flat cs).map (Value.int .i64) ++ (flat ds).map (.int .i64))) : OwnC B W v (cs ++ ds).length (flat (cs ++ ds)) := by
  rw [flat_append, List.length_append]
  exact ownC_app h
theorem cls_src {n₀ : Nat} {W : World} {b off n cap : Nat} {cs : List (Int × Int)} (h : Cls n₀ W (.slice (some ⟨b, off, none⟩) n cap) cs) (hn : n = cs.length) :
    ∀ j u, ((flat cs).map (Value.int .i64))[j]? = some u → W.cell? ((⟨b, off, none⟩ : Addr).add j) = some u := by
  intro j u hu
  subst hn
  have hj : j < (flat cs).length := by
    have := (List.getElem?_eq_some_iff.1 hu).1
    simpa using this
  have hl := flat_length cs
  obtain ⟨b2, off2, e, _, hc⟩ := Prs.at_ h (k := 0) (by omega)
  cases e
  rw [Go.WideShapes.add_plain, hc j (by omega)]
  rw [List.getElem?_map, getElem?_nth hj] at hu
  exact hu
theorem cell_two_new (w : World) (x y : Value) (t : TypeId) : ∀ j u, [x, y][j]? = some u → (w.alloc (.cells #[x, y] t)).cell? ((⟨w.heap.size, 0, none⟩ : Addr).add j) = some u := by
  intro j u hj
  match j, hj with
  | 0, hj =>
    simp at hj
    subst hj
    simp [Addr.add]
  | 1, hj =>
    simp at hj
    subst hj
    simp [Addr.add]
  | j + 2, hj => simp at hj
theorem splitL_eq (cs : List (Int × Int)) (i m : Nat) : splitL cs i m = cs.take i ++ partsTo (rst cs i) (gp cs i) m m ++ cs.drop (i + 1) := rfl
theorem splitL_length {cs : List (Int × Int)} {i m : Nat} (h : i < cs.length) : (splitL cs i m).length = cs.length + m - 1 := by
  rw [splitL_eq]; simp [partsTo_length]; omega
theorem flat_drop : ∀ (cs : List (Int × Int)) (k : Nat), flat (cs.drop k) = (flat cs).drop (k * 2)
  | [], k => by simp [flat]
  | c :: cs, 0 => by simp
  | c :: cs, k + 1 => by
    rw [show (k + 1) * 2 = k * 2 + 1 + 1 by omega]
    simp [flat, flat_drop cs k]
theorem cls_drop {n₀ k : Nat} {W : World} {b off cap len : Nat} {cs : List (Int × Int)} (h : Cls n₀ W (.slice (some ⟨b, off, none⟩) len cap) cs) (hk : k ≤ cs.length) : Cls n₀ W (.slice (some ⟨b, off + k * 2, none⟩) (cs.length - k) (cap - k)) (cs.drop k) := by
  have hl : (cs.drop k).length = cs.length - k := by simp
  obtain ⟨a', c', e, _, h2⟩ := h
  cases e
  refine ⟨_, cap - k, by rw [hl], flat_length _, ?_⟩
  rw [hl]
  by_cases h0 : cs.length - k = 0
  · exact .inl h0
  · rcases h2 with h2 | ⟨b2, off2, ha, hb, hc⟩
    · omega
    · cases ha
      refine .inr ⟨b, off + k * 2, rfl, hb, fun j hj => ?_⟩
      rw [Nat.add_assoc, hc (k * 2 + j) (by omega), flat_drop]
      unfold nth
      rw [List.getElem?_drop]

set_option maxRecDepth 100000 in
set_option maxHeartbeats 8000000 in
theorem l05Split_c (sv : Value) (cs : List (Int × Int)) (i m : Nat) (w : World) (hI : Cls w.heap.size w sv cs) (hcl : Clss cs) (hl : cs.length ≤ 8) (hcp : CapOk sv cs.length) (hi : i < cs.length) (hm : m ≤ 8) (hmg : (m : Int) * gp cs i ≤ 40) :
    Calls Try.prog 123 #[sv, .int .i64 i, .int .i64 m] w (GivesC w (splitL cs i m) id) := by
  obtain ⟨i0, hi0, hz0, hz1, hz2⟩ := info_parts2 Try.infoC
  obtain ⟨a, cap, rfl⟩ := hI.shape
  obtain ⟨_, _, hce, hcap, hcapm⟩ := hcp
  cases hce
  unfold maxLen at hcapm
  obtain ⟨b, off, rfl, hb, hc⟩ := hI.at_ hi
  obtain ⟨e1, e2⟩ := hc i hi
  have hgi := hcl i hi
  obtain ⟨r, hrq⟩ : ∃ r : Nat, rst cs i = r := ⟨(rst cs i).toNat, by omega⟩
  obtain ⟨g, hgq⟩ : ∃ g : Nat, gp cs i = g := ⟨(gp cs i).toNat, by omega⟩
  rw [hrq, hgq] at hgi
  rw [hrq] at e1
  rw [hgq] at e2 hmg
  have hic : (i : Int) ≤ (cap : Int) := by omega
  have hil : (i : Int) < (cs.length : Int) := by omega
  have hfw : Try.prog.follows Departure.mixedOrders = true := by kernel_rfl
  have hIt : Cls w.heap.size w (.slice (some ⟨b, off, none⟩) i cap) (cs.take i) := cls_take hI (by omega)
  have hlt : (cs.take i).length = i := by simp; omega
  have Hsp := Lib.hid (splitL_eq cs i m)
  have Hrq := Lib.hid hrq
  have Hgq := Lib.hid hgq
  have HI := Lib.hid hI
  have Hlt := Lib.hid hlt
  clear hc hcl hrq hgq hI hlt
  have hI2 : Cls w.heap.size (w.alloc (.cells #[] 87)) (.slice (some ⟨b, off, none⟩) i cap) (cs.take i) := hIt.below ((Below.refl _ w).alloc (Nat.le_refl _) _)
  have ho0 : (w.alloc (.cells #[] 87)).ownsRow w.heap.size 87 2 (.slice (some ⟨w.heap.size, 0, none⟩) 0 0) 0 ((flat []).map (.int .i64)) := World.ownsRow_made w #[] 0 (Nat.le_refl _) (by unfold maxLen; omega) rfl
  have hB0 : Below w.heap.size w (w.alloc (.cells #[] 87)) := (Below.refl _ w).alloc (Nat.le_refl _) _
  go_enter Try.func123, Try.ntmps123
  go_wp2_with (at_builtin; refine wpList_append_own _ rfl _ _ 54 rfl w.heap.size 87 i0 (.agg #[.int .i64 0, .int .i64 0]) 2 16 Try.underlying54 hi0 hz0 hz1 hz2 rfl (by decide) _ _ _ rfl ho0 ⟨b, off, none⟩ i cap ((flat (cs.take i)).map (.int .i64)) rfl (by rw [List.length_map, flat_length, Hlt.out]) (cls_src hI2 Hlt.out.symm) (cells_one _) (by unfold maxLen; omega) (by omega) (by simp) ?_)
  intro v' w1 hown' hgrow _
  have ho1 : OwnC w.heap.size w1 v' (cs.take i ++ partsTo (rst cs i) (gp cs i) m 0).length (flat (cs.take i ++ partsTo (rst cs i) (gp cs i) m 0)) := by
    have h := ownC_app (n := 0) (m := i) (xs := flat []) (ys := flat (cs.take i)) (by rw [Nat.zero_add]; exact hown')
    rw [partsTo_zero, List.append_nil, Hlt.out]
    simpa [flat] using h
  have hB1 : Below w.heap.size w w1 := hB0.grown hgrow (by simp) (fun j e => by simp [Value.ownBlock] at e; omega)
  clear hown' hgrow ho0 hI2 hIt hB0
  go_wp2
  go_loopw [7, 8] (fun v kk wr => ∃ k : Nat, k ≤ m ∧ kk = .int .i64 k ∧ OwnC w.heap.size wr v (cs.take i ++ partsTo (rst cs i) (gp cs i) m k).length (flat (cs.take i ++ partsTo (rst cs i) (gp cs i) m k)) ∧ Below w.heap.size w wr) (fun _ kk _ => m - (intOf kk).toNat)
  case atStart => exact ⟨0, Nat.zero_le _, rfl, ho1, hB1⟩
  case round =>
    obtain ⟨k, hk, rfl, ho, hB⟩ := hrel
    clear ho1 hB1
    obtain ⟨L, hL⟩ : ∃ L, cs.take i ++ partsTo (rst cs i) (gp cs i) m k = L := ⟨_, rfl⟩
    have hLl : L.length = i + k := by rw [← hL, List.length_append, partsTo_length, Hlt.out]
    rw [hL] at ho
    have HL := Lib.hid hL
    have hsz := hB.size
    clear hL
    by_cases hkm : k < m
    · have hkm' : (k : Int) < (m : Int) := by omega
      have hp1 : k * g ≤ 8 * 40 := Nat.mul_le_mul (by omega) (by omega)
      obtain ⟨p, hp⟩ : ∃ p : Nat, k * g = p := ⟨_, rfl⟩
      rw [hp] at hp1
      have hpi : (k : Int) * (g : Int) = (p : Int) := by rw [← hp]; simp
      obtain ⟨t, ht⟩ : ∃ t : Nat, m * g = t := ⟨_, rfl⟩
      have hti : (m : Int) * (g : Int) = (t : Int) := by rw [← ht]; simp
      have ht40 : (t : Int) ≤ 40 := by rw [← hti]; exact hmg
      have Hnext := Lib.hid (show cs.take i ++ partsTo (rst cs i) (gp cs i) m (k + 1) = L ++ [((r : Int) + p, (t : Int))] by
        rw [partsTo_succ, ← List.append_assoc, HL.out, Hrq.out, Hgq.out, hpi, hti])
      have hrow : wr.drew.ownsRow w.heap.size 87 2 u7 L.length ((flat L).map (.int .i64)) := World.ownsRow.drew ho
      have hwp : IntKind.i64.wrap ((p : Nat) : Int) = p := by rw [IntKind.wrap_i64]; omega
      have hws : IntKind.i64.wrap ((r : Int) + p) = (r : Int) + p := by rw [IntKind.wrap_i64]; omega
      have hwt : IntKind.i64.wrap ((t : Nat) : Int) = t := by rw [IntKind.wrap_i64]; omega
      clear hp ht hmg
      go_wp2_with fail
      refine wp_region_held_drew (S := fun w' => Below w.heap.size w w') hfw hB.drew ?_
      intro hS0
      refine wpAnyH_take (i := 0) (v := ?vs1q0) rfl (by kernel_rfl) (by kernel_rfl) (by kernel_rfl) (fun _ _ _ h => h) (.inl ⟨by first | kernel_rfl | rfl, ?ys1q0⟩) hS0 ?_
      case ys1q0 =>
        intro w' hS
        (have k1 := (hS.cell (p := ⟨b, off + i * 2, none⟩) hb).trans e1; have k2 := (hS.cell (p := ⟨b, off + i * 2 + 1, none⟩) hb).trans e2; clear hS)
        go_simp
        try with_reducible rfl
      refine wpAnyH_take (i := 1) (v := ?vs1q1) rfl (by kernel_rfl) (by kernel_rfl) (by kernel_rfl) (fun _ _ _ h => h) (.inl ⟨by first | kernel_rfl | rfl, ?ys1q1⟩) hS0 ?_
      case ys1q1 =>
        intro w' hS
        (have k1 := (hS.cell (p := ⟨b, off + i * 2, none⟩) hb).trans e1; have k2 := (hS.cell (p := ⟨b, off + i * 2 + 1, none⟩) hb).trans e2; clear hS)
        go_simp
        try with_reducible rfl
      refine wpAnyH_take (i := 2) (v := ?vs1q2) rfl (by kernel_rfl) (by kernel_rfl) (by kernel_rfl) (fun _ _ _ h => h) (.inl ⟨by first | kernel_rfl | rfl, ?ys1q2⟩) hS0 ?_
      case ys1q2 =>
        intro w' hS
        (have k1 := (hS.cell (p := ⟨b, off + i * 2, none⟩) hb).trans e1; have k2 := (hS.cell (p := ⟨b, off + i * 2 + 1, none⟩) hb).trans e2; clear hS)
        go_simp
        try with_reducible rfl
      refine wpAnyH_take (i := 3) (v := ?vs1q3) rfl (by kernel_rfl) (by kernel_rfl) (by kernel_rfl) (fun _ _ _ h => h) (.inl ⟨by first | kernel_rfl | rfl, ?ys1q3⟩) hS0 ?_
      case ys1q3 =>
        intro w' hS
        (have k1 := (hS.cell (p := ⟨b, off + i * 2, none⟩) hb).trans e1; have k2 := (hS.cell (p := ⟨b, off + i * 2 + 1, none⟩) hb).trans e2; clear hS)
        go_simp
        try with_reducible rfl
      refine wpAnyH_take (i := 4) (v := ?vs1q4) rfl (by kernel_rfl) (by kernel_rfl) (by kernel_rfl) (fun _ _ _ h => h) (.inl ⟨by first | kernel_rfl | rfl, ?ys1q4⟩) hS0 ?_
      case ys1q4 =>
        intro w' hS
        (have k1 := (hS.cell (p := ⟨b, off + i * 2, none⟩) hb).trans e1; have k2 := (hS.cell (p := ⟨b, off + i * 2 + 1, none⟩) hb).trans e2; clear hS)
        go_simp
        try with_reducible rfl
      refine wpAnyH_take (i := 5) (v := ?vs1q5) rfl (by kernel_rfl) (by kernel_rfl) (by kernel_rfl) (fun _ _ _ h => h) (.inl ⟨by first | kernel_rfl | rfl, ?ys1q5⟩) hS0 ?_
      case ys1q5 =>
        intro w' hS
        (have k1 := (hS.cell (p := ⟨b, off + i * 2, none⟩) hb).trans e1; have k2 := (hS.cell (p := ⟨b, off + i * 2 + 1, none⟩) hb).trans e2; clear hS)
        go_simp
        try with_reducible rfl
      refine wpAnyH_take (i := 6) (v := ?vs1q6) rfl (by kernel_rfl) (by kernel_rfl) (by kernel_rfl) (fun _ _ _ h => h) (.inl ⟨by first | kernel_rfl | rfl, ?ys1q6⟩) hS0 ?_
      case ys1q6 =>
        intro w' hS
        (have k1 := (hS.cell (p := ⟨b, off + i * 2, none⟩) hb).trans e1; have k2 := (hS.cell (p := ⟨b, off + i * 2 + 1, none⟩) hb).trans e2; clear hS)
        go_simp
        try with_reducible rfl
      refine wpAnyH_take (i := 7) (v := ?vs1q7) rfl (by kernel_rfl) (by kernel_rfl) (by kernel_rfl) (fun _ _ _ h => h) (.inl ⟨by first | kernel_rfl | rfl, ?ys1q7⟩) hS0 ?_
      case ys1q7 =>
        intro w' hS
        (have k1 := (hS.cell (p := ⟨b, off + i * 2, none⟩) hb).trans e1; have k2 := (hS.cell (p := ⟨b, off + i * 2 + 1, none⟩) hb).trans e2; clear hS)
        go_simp
        try with_reducible rfl
      refine wpAnyH_take (i := 8) (v := ?vs1q8) rfl (by kernel_rfl) (by kernel_rfl) (by kernel_rfl) (fun _ _ _ h => h) (.inl ⟨by first | kernel_rfl | rfl, ?ys1q8⟩) hS0 ?_
      case ys1q8 =>
        intro w' hS
        (have k1 := (hS.cell (p := ⟨b, off + i * 2, none⟩) hb).trans e1; have k2 := (hS.cell (p := ⟨b, off + i * 2 + 1, none⟩) hb).trans e2; clear hS)
        go_simp
        try with_reducible rfl
      refine wpAnyH_take (i := 9) (v := ?vs1q9) rfl (by kernel_rfl) (by kernel_rfl) (by kernel_rfl) (fun _ _ _ h => h) (.inl ⟨by first | kernel_rfl | rfl, ?ys1q9⟩) hS0 ?_
      case ys1q9 =>
        intro w' hS
        (have k1 := (hS.cell (p := ⟨b, off + i * 2, none⟩) hb).trans e1; have k2 := (hS.cell (p := ⟨b, off + i * 2 + 1, none⟩) hb).trans e2; clear hS)
        go_simp
        try with_reducible rfl
      refine wpAnyH_take (i := 10) (v := ?vs1q10) rfl (by kernel_rfl) (by kernel_rfl) (by kernel_rfl) (fun _ _ _ h => h) (.inl ⟨by first | kernel_rfl | rfl, ?ys1q10⟩) hS0 ?_
      case ys1q10 =>
        intro w' hS
        (have k1 := (hS.cell (p := ⟨b, off + i * 2, none⟩) hb).trans e1; have k2 := (hS.cell (p := ⟨b, off + i * 2 + 1, none⟩) hb).trans e2; clear hS)
        go_simp
        try with_reducible rfl
      refine wpAnyH_take (i := 11) (v := ?vs1q11) rfl (by kernel_rfl) (by kernel_rfl) (by kernel_rfl) (fun _ _ _ h => h) (.inl ⟨by first | kernel_rfl | rfl, ?ys1q11⟩) hS0 ?_
      case ys1q11 =>
        intro w' hS
        (have k1 := (hS.cell (p := ⟨b, off + i * 2, none⟩) hb).trans e1; have k2 := (hS.cell (p := ⟨b, off + i * 2 + 1, none⟩) hb).trans e2; clear hS)
        go_simp
        try with_reducible rfl
      refine wpAnyH_take (i := 12) (v := (.int .i64 p)) rfl (by kernel_rfl) (by kernel_rfl) (by kernel_rfl) (fun _ _ _ h => h) (.inl ⟨by first | kernel_rfl | rfl, ?ys2q12⟩) hS0 ?_
      case ys2q12 =>
        intro w' hS
        (clear hS)
        go_simp
        first | done | (simp; done) | (simp; omega) | omega | (simp [*]; done)
      refine wpAnyH_take (i := 13) (v := (.int .i64 ((r : Int) + p))) rfl (by kernel_rfl) (by kernel_rfl) (by kernel_rfl) (fun _ _ _ h => h) (.inl ⟨by first | kernel_rfl | rfl, ?ys3q13⟩) hS0 ?_
      case ys3q13 =>
        intro w' hS
        (clear hS)
        go_simp
        first | done | (simp; done) | (simp; omega) | omega | (simp [*]; done)
      refine wpAnyH_take (i := 14) (v := ?vs4q14) rfl (by kernel_rfl) (by kernel_rfl) (by kernel_rfl) (fun _ _ _ h => h) (.inl ⟨by first | kernel_rfl | rfl, ?ys4q14⟩) hS0 ?_
      case ys4q14 =>
        intro w' hS
        (have k1 := (hS.cell (p := ⟨b, off + i * 2, none⟩) hb).trans e1; have k2 := (hS.cell (p := ⟨b, off + i * 2 + 1, none⟩) hb).trans e2; clear hS)
        go_simp
        try with_reducible rfl
      refine wpAnyH_take (i := 15) (v := ?vs4q15) rfl (by kernel_rfl) (by kernel_rfl) (by kernel_rfl) (fun _ _ _ h => h) (.inl ⟨by first | kernel_rfl | rfl, ?ys4q15⟩) hS0 ?_
      case ys4q15 =>
        intro w' hS
        (have k1 := (hS.cell (p := ⟨b, off + i * 2, none⟩) hb).trans e1; have k2 := (hS.cell (p := ⟨b, off + i * 2 + 1, none⟩) hb).trans e2; clear hS)
        go_simp
        try with_reducible rfl
      refine wpAnyH_take (i := 16) (v := ?vs4q16) rfl (by kernel_rfl) (by kernel_rfl) (by kernel_rfl) (fun _ _ _ h => h) (.inl ⟨by first | kernel_rfl | rfl, ?ys4q16⟩) hS0 ?_
      case ys4q16 =>
        intro w' hS
        (have k1 := (hS.cell (p := ⟨b, off + i * 2, none⟩) hb).trans e1; have k2 := (hS.cell (p := ⟨b, off + i * 2 + 1, none⟩) hb).trans e2; clear hS)
        go_simp
        try with_reducible rfl
      refine wpAnyH_take (i := 17) (v := ?vs4q17) rfl (by kernel_rfl) (by kernel_rfl) (by kernel_rfl) (fun _ _ _ h => h) (.inl ⟨by first | kernel_rfl | rfl, ?ys4q17⟩) hS0 ?_
      case ys4q17 =>
        intro w' hS
        (have k1 := (hS.cell (p := ⟨b, off + i * 2, none⟩) hb).trans e1; have k2 := (hS.cell (p := ⟨b, off + i * 2 + 1, none⟩) hb).trans e2; clear hS)
        go_simp
        try with_reducible rfl
      refine wpAnyH_take (i := 18) (v := ?vs4q18) rfl (by kernel_rfl) (by kernel_rfl) (by kernel_rfl) (fun _ _ _ h => h) (.inl ⟨by first | kernel_rfl | rfl, ?ys4q18⟩) hS0 ?_
      case ys4q18 =>
        intro w' hS
        (have k1 := (hS.cell (p := ⟨b, off + i * 2, none⟩) hb).trans e1; have k2 := (hS.cell (p := ⟨b, off + i * 2 + 1, none⟩) hb).trans e2; clear hS)
        go_simp
        try with_reducible rfl
      refine wpAnyH_take (i := 19) (v := ?vs4q19) rfl (by kernel_rfl) (by kernel_rfl) (by kernel_rfl) (fun _ _ _ h => h) (.inl ⟨by first | kernel_rfl | rfl, ?ys4q19⟩) hS0 ?_
      case ys4q19 =>
        intro w' hS
        (have k1 := (hS.cell (p := ⟨b, off + i * 2, none⟩) hb).trans e1; have k2 := (hS.cell (p := ⟨b, off + i * 2 + 1, none⟩) hb).trans e2; clear hS)
        go_simp
        try with_reducible rfl
      refine wpAnyH_take (i := 20) (v := (.int .i64 t)) rfl (by kernel_rfl) (by kernel_rfl) (by kernel_rfl) (fun _ _ _ h => h) (.inl ⟨by first | kernel_rfl | rfl, ?ys5q20⟩) hS0 ?_
      case ys5q20 =>
        intro w' hS
        (clear hS)
        go_simp
        first | done | (simp; done) | (simp; omega) | omega | (simp [*]; done)
      refine wpAnyH_take (i := 21) (v := ?vs6q21) rfl (by kernel_rfl) (by kernel_rfl) (by kernel_rfl) (fun _ _ _ h => h) (.inl ⟨by first | kernel_rfl | rfl, ?ys6q21⟩) hS0 ?_
      case ys6q21 =>
        intro w' hS
        (clear hS)
        go_simp
        try with_reducible rfl
      refine wpAnyH_ready (rs := [22]) (by kernel_rfl) (by simp) ?_
      refine AllReadyH.cons rfl (fun K' hK' => ?_) AllReadyH.nil
      rw [if_pos (by first | kernel_rfl | rfl)]
      go_simp
      refine hK'.out _ _ (hS0.alloc hS0.size _) fun hS2 => ?_
      refine wpAnyH_ready (rs := [23]) (by kernel_rfl) (by simp) ?_
      refine AllReadyH.cons rfl (fun K' hK' => ?_) AllReadyH.nil
      rw [if_pos (by first | kernel_rfl | rfl)]
      refine wp_append_own _ (.tmp 19) (.tmp 41) 54 rfl w.heap.size 87 i0 (.agg #[.int .i64 0, .int .i64 0]) 2 16 Try.underlying54 hi0 hz0 hz1 hz2 rfl (by decide) _ _ _ rfl (World.ownsRow.alloc hrow _) ⟨wr.heap.size, 0, none⟩ 1 1 [.int .i64 ((r : Int) + p), .int .i64 t] rfl rfl (cell_two_new _ _ _ _) (by simp [Value.oneCell']) (by unfold maxLen; omega) (by omega) (by simp; omega) ?_
      intro v' w5 hown' hgrow hfar
      have ho6 := ownC_snoc hown'
      rw [← Hnext.out] at ho6
      have hb5 : ∀ j, u7.ownBlock = some j → w.heap.size ≤ j := fun j e => (ho.blk j e).1
      have s4 : Below w.heap.size w w5 := hS2.grown hgrow hS2.size (fun j e => by have := hb5 j e; omega)
      clear hown' hgrow hfar hS2 hS0 ho hrow hB
      refine hK'.out _ _ s4 fun hS3 => ?_
      refine wpAnyH_take (i := 24) (v := ?vs7q24) rfl (by kernel_rfl) (by kernel_rfl) (by kernel_rfl) (fun _ _ _ h => h) (.inl ⟨by first | kernel_rfl | rfl, ?ys7q24⟩) hS3 ?_
      case ys7q24 =>
        intro w' hS
        (clear hS)
        go_simp
        try with_reducible rfl
      refine wpAnyH_done (by kernel_rfl) ?_ _
      clear hS3
      go_wp2
      go_roundw
      case rel => exact ⟨k + 1, by omega, by simp, ho6, s4⟩
      case measure => simp [intOf]; omega
    · obtain rfl : k = m := by omega
      have hId := cls_drop (k := i + 1) (HI.out.below hB) (by omega)
      have hld : (cs.drop (i + 1)).length = cs.length - (i + 1) := by simp
      have hic2 : ((i : Int) + 1) ≤ (cs.length : Int) := by omega
      have hic3 : (cs.length : Int) ≤ (cap : Int) := by omega
      have hfin : L ++ cs.drop (i + 1) = splitL cs i k := by rw [Hsp.out, HL.out]
      have Hfin := Lib.hid hfin
      have hLm : L.length + (cs.length - (i + 1)) ≤ 24 := by omega
      have Hld := Lib.hid hld
      clear hfin hld
      have hrow : wr.ownsRow w.heap.size 87 2 u7 L.length ((flat L).map (.int .i64)) := ho
      have hsrc : ∀ ad : Addr, (cap = i + 1 → ad = ⟨b, off, none⟩) → (¬ cap = i + 1 → ad = ⟨b, off + (i + 1) * 2, none⟩) → ∀ j u, ((flat (cs.drop (i + 1))).map (Value.int .i64))[j]? = some u → wr.cell? (ad.add j) = some u := fun ad h1 h2 => by
        by_cases hcc : cap = i + 1
        · have : cs.drop (i + 1) = [] := List.drop_eq_nil_of_le (by omega)
          rw [this]
          intro j u hu
          simp [flat] at hu
        · rw [h2 hcc]
          exact cls_src hId Hld.out.symm
      have Hsrc := Lib.hid hsrc
      have hnl : ((flat (cs.drop (i + 1))).map (Value.int .i64)).length = (cs.length - (i + 1)) * 2 := by rw [List.length_map, flat_length, Hld.out]
      have Hnl := Lib.hid hnl
      have hb5 : ∀ j, u7.ownBlock = some j → w.heap.size ≤ j := fun j e => (ho.blk j e).1
      have Hb5 := Lib.hid hb5
      clear hsrc hnl hId hb5
      by_cases hcc : cap = i + 1
      · have hdn : cs.drop (i + 1) = [] := List.drop_eq_nil_of_le (by omega)
        have hLs : L = splitL cs i k := by rw [← Hfin.out, hdn, List.append_nil]
        have HLs := Lib.hid hLs
        have hml : cs.length = i + 1 := by omega
        clear hdn hLs
        go_wp2_with (at_builtin; refine wpList_append_own _ rfl _ _ 54 rfl w.heap.size 87 i0 (.agg #[.int .i64 0, .int .i64 0]) 2 16 Try.underlying54 hi0 hz0 hz1 hz2 rfl (by decide) _ _ _ rfl hrow _ 0 _ [] rfl rfl (by intro j u hu; simp at hu) (by simp) (by unfold maxLen; omega) (by omega) hsz ?_)
        intro v2 w5 hown' hgrow _
        have ho6 : OwnC w.heap.size w5 v2 L.length (flat L) := by unfold OwnC; rw [hLl]; simpa using hown'
        rw [HLs.out] at ho6
        have s4 : Below w.heap.size w w5 := hB.grown hgrow hsz (fun j e => by have := Hb5.out j e; omega)
        clear hown' hgrow
        go_wp2
        go_ret
        exact ⟨_, rfl, ho6, s4⟩
      · have hcc2 : ¬ (cap : Int) = (i : Int) + 1 := by omega
        go_wp2_with (at_builtin; refine wpList_append_own _ rfl _ _ 54 rfl w.heap.size 87 i0 (.agg #[.int .i64 0, .int .i64 0]) 2 16 Try.underlying54 hi0 hz0 hz1 hz2 rfl (by decide) _ _ _ rfl hrow ⟨b, off + (i + 1) * 2, none⟩ (cs.length - (i + 1)) _ ((flat (cs.drop (i + 1))).map (.int .i64)) rfl Hnl.out (Hsrc.out _ (fun h => absurd h hcc) (fun _ => rfl)) (cells_one _) (by unfold maxLen; omega) (by omega) hsz ?_)
        intro v2 w5 hown' hgrow _
        have ho6 := ownC_cat (cs := L) (ds := cs.drop (i + 1)) (by rw [Hld.out, hLl]; exact hown')
        rw [Hfin.out] at ho6
        have s4 : Below w.heap.size w w5 := hB.grown hgrow hsz (fun j e => by have := Hb5.out j e; omega)
        clear hown' hgrow
        go_wp2
        go_ret
        exact ⟨_, rfl, ho6, s4⟩

/-! ### SplitClass -/
def spC (cs : List (Int × Int)) (i m : Int) : Int := if clsOk cs then (if inB i 0 (cs.length - 1) && inB m 2 8 then (if 8 < (cs.length : Int) + m - 1 ∨ 40 < m * gp cs i.toNat then 3 else 0) else 2) else 1
def spR (cs : List (Int × Int)) (i m : Int) : List (Int × Int) := if spC cs i m = 0 then splitL cs i.toNat m.toNat else []
theorem spC_zero {cs : List (Int × Int)} {i m : Int} (h : spC cs i m = 0) : clsOk cs = true ∧ (0 ≤ i ∧ i < cs.length) ∧ (2 ≤ m ∧ m ≤ 8) ∧ cs.length + m ≤ 9 ∧ m * gp cs i.toNat ≤ 40 := by
  unfold spC at h
  cases h1 : clsOk cs
  · rw [h1] at h; simp at h
  · rw [h1, if_pos rfl] at h
    cases h2 : inB i 0 (cs.length - 1) && inB m 2 8
    · rw [h2] at h; simp at h
    · rw [h2, if_pos rfl] at h
      rw [Bool.and_eq_true, inB_true, inB_true] at h2
      by_cases h3 : 8 < (cs.length : Int) + m - 1 ∨ 40 < m * gp cs i.toNat
      · rw [if_pos h3] at h; simp at h
      · exact ⟨rfl, by omega, by omega, by omega, by omega⟩
theorem spR_len (cs : List (Int × Int)) (i m : Int) : (spR cs i m).length * 16 ≤ 140737488351232 := by
  unfold spR
  split
  · rename_i h
    obtain ⟨h1, h2, h3, h4, h5⟩ := spC_zero h
    rw [splitL_length (by omega)]; omega
  · simp
theorem spR_no {cs : List (Int × Int)} {i m : Int} (h : spC cs i m ≠ 0) : spR cs i m = [] := by unfold spR; rw [if_neg h]
theorem ret_vi2 {v : Value} {a b : Int} (h : a = b) : Ending.returned (.tuple #[v, .int .i64 a]) = .returned (.tuple #[v, .int .i64 b]) := by rw [h]

set_option maxRecDepth 100000 in
set_option maxHeartbeats 8000000 in
theorem s_SplitClass (c0 : Value) (cs : List (Int × Int)) (x1 x2 : Int) (w : World) (hI : Cls w.heap.size w c0 cs) (_hN : C64 cs) (hm : cs.length ≤ 1048576) (hcp : CapOk c0 cs.length) (hx1 : I64 x1) (hx2 : I64 x2) :
    Calls Try.prog 69 #[c0, .int .i64 x1, .int .i64 x2] w (GivesC w (spR cs x1 x2) fun v => .tuple #[v, .int .i64 (spC cs x1 x2)]) := by
  obtain ⟨a, cap, rfl⟩ := hI.shape
  cases h1 : clsOk cs
  · have hc : spC cs x1 x2 = 1 := by unfold spC; rw [h1]; rfl
    have Hr := Lib.hid (spR_no (cs := cs) (i := x1) (m := x2) (by omega))
    have Hc := Lib.hid hc
    have H := Lib.hid h1
    clear h1 hc
    go_enter Try.func69, Try.ntmps69
    go_wp2_with fail
    refine (l05Are_c _ cs _ hI hm).mono ?_
    rintro e w1 ⟨he, hb⟩
    rw [H.out] at he
    subst he
    go_wp2
    go_ret2
    exact ⟨_, ret_vi2 Hc.out.symm, by rw [Hr.out]; exact ownC_nil _ _, hb⟩
  have hl := clsOk_len h1
  have H := Lib.hid h1
  cases h2 : inB x1 0 (cs.length - 1)
  · have hc : spC cs x1 x2 = 2 := by unfold spC; rw [h1, h2]; rfl
    have Hr := Lib.hid (spR_no (cs := cs) (i := x1) (m := x2) (by omega))
    have Hc := Lib.hid hc
    have H2 := Lib.hid h2
    clear h1 h2 hc
    go_enter Try.func69, Try.ntmps69
    go_wp2_with fail
    refine (l05Are_c _ cs _ hI hm).mono ?_
    rintro e w1 ⟨he, hb⟩
    rw [H.out] at he
    subst he
    go_wp2_with fail
    refine (l01In_d false _ _ _ _ H2.out).mono ?_
    rintro e w2 ⟨rfl, rfl⟩
    go_wp2
    go_ret2
    exact ⟨_, ret_vi2 Hc.out.symm, by rw [Hr.out]; exact ownC_nil _ _, hb⟩
  cases h3 : inB x2 2 8
  · have hc : spC cs x1 x2 = 2 := by unfold spC; rw [h1, h2, h3]; rfl
    have Hr := Lib.hid (spR_no (cs := cs) (i := x1) (m := x2) (by omega))
    have Hc := Lib.hid hc
    have H2 := Lib.hid h2
    have H3 := Lib.hid h3
    clear h1 h2 h3 hc
    go_enter Try.func69, Try.ntmps69
    go_wp2_with fail
    refine (l05Are_c _ cs _ hI hm).mono ?_
    rintro e w1 ⟨he, hb⟩
    rw [H.out] at he
    subst he
    go_wp2_with fail
    refine (l01In_d true _ _ _ _ H2.out).mono ?_
    rintro e w2 ⟨rfl, rfl⟩
    go_wp2_with fail
    refine (l01In_d false _ _ _ _ H3.out).mono ?_
    rintro e w2 ⟨rfl, rfl⟩
    go_wp2
    go_ret2
    exact ⟨_, ret_vi2 Hc.out.symm, by rw [Hr.out]; exact ownC_nil _ _, hb⟩
  have hi := inB_true.1 h2
  have hmm := inB_true.1 h3
  obtain ⟨i, rfl⟩ := Int.eq_ofNat_of_zero_le hi.1
  obtain ⟨m, rfl⟩ := Int.eq_ofNat_of_zero_le (show 0 ≤ x2 by omega)
  have hil : i < cs.length := by omega
  have H2 := Lib.hid h2
  have H3 := Lib.hid h3
  have hgi := clsOk_at h1 hil
  obtain ⟨g, hgq⟩ : ∃ g : Nat, gp cs i = g := ⟨(gp cs i).toNat, by omega⟩
  have hp1 : m * g ≤ 8 * 40 := Nat.mul_le_mul (by omega) (by omega)
  obtain ⟨p, hp⟩ : ∃ p : Nat, m * g = p := ⟨_, rfl⟩
  have hpi : (m : Int) * (g : Int) = (p : Int) := by rw [← hp]; simp
  rw [hp] at hp1
  have hu : spC cs i m = if 8 < (cs.length : Int) + m - 1 ∨ 40 < (p : Int) then 3 else 0 := by
    unfold spC; rw [h1, h2, h3, if_pos rfl]; simp only [Bool.and_self, if_true, Int.toNat_natCast, hgq, hpi]
  have hiI : (i : Int) < (cs.length : Int) := by omega
  by_cases h4 : 8 < (cs.length : Int) + m - 1
  · have hc : spC cs i m = 3 := by rw [hu, if_pos (.inl h4)]
    have Hr := Lib.hid (spR_no (cs := cs) (i := i) (m := m) (by omega))
    have Hc := Lib.hid hc
    clear h1 h2 h3 hc hu hp hgq
    go_enter Try.func69, Try.ntmps69
    go_wp2_with fail
    refine (l05Are_c _ cs _ hI hm).mono ?_
    rintro e w1 ⟨he, hb⟩
    rw [H.out] at he
    subst he
    go_wp2_with fail
    refine (l01In_d true _ _ _ _ H2.out).mono ?_
    rintro e w2 ⟨rfl, rfl⟩
    go_wp2_with fail
    refine (l01In_d true _ _ _ _ H3.out).mono ?_
    rintro e w2 ⟨rfl, rfl⟩
    go_wp2
    go_ret2
    exact ⟨_, ret_vi2 Hc.out.symm, by rw [Hr.out]; exact ownC_nil _ _, hb⟩
  obtain ⟨b, off, rfl, hbb, hcc⟩ := hI.at_ hil
  obtain ⟨e1, e2⟩ := hcc i hil
  rw [hgq] at e2
  have hwp : IntKind.i64.wrap ((p : Nat) : Int) = p := by rw [IntKind.wrap_i64]; omega
  by_cases h5 : 40 < (p : Int)
  · have hc : spC cs i m = 3 := by rw [hu, if_pos (.inr h5)]
    have Hr := Lib.hid (spR_no (cs := cs) (i := i) (m := m) (by omega))
    have Hc := Lib.hid hc
    clear h1 h2 h3 hc hu hp hgq hcc
    go_enter Try.func69, Try.ntmps69
    go_wp2_with fail
    refine (l05Are_c _ cs _ hI hm).mono ?_
    rintro e w1 ⟨he, hb⟩
    rw [H.out] at he
    subst he
    have e3 := (hb.cell (p := ⟨b, off + i * 2 + 1, none⟩) hbb).trans e2
    go_wp2_with fail
    refine (l01In_d true _ _ _ _ H2.out).mono ?_
    rintro e w2 ⟨rfl, rfl⟩
    go_wp2_with fail
    refine (l01In_d true _ _ _ _ H3.out).mono ?_
    rintro e w2 ⟨rfl, rfl⟩
    go_wp2
    go_ret2
    exact ⟨_, ret_vi2 Hc.out.symm, by rw [Hr.out]; exact ownC_nil _ _, hb⟩
  have hc : spC cs i m = 0 := by rw [hu, if_neg (by omega)]
  have Hr := Lib.hid (show spR cs i m = splitL cs i m by unfold spR; rw [if_pos hc]; simp)
  have Hc := Lib.hid hc
  have hmg : (m : Int) * gp cs i ≤ 40 := by rw [hgq, hpi]; omega
  have Hmg := Lib.hid hmg
  clear h1 h2 h3 hc hu hp hgq hcc hmg
  go_enter Try.func69, Try.ntmps69
  go_wp2_with fail
  refine (l05Are_c _ cs _ hI hm).mono ?_
  rintro e w1 ⟨he, hb⟩
  rw [H.out] at he
  subst he
  have e3 := (hb.cell (p := ⟨b, off + i * 2 + 1, none⟩) hbb).trans e2
  go_wp2_with fail
  refine (l01In_d true _ _ _ _ H2.out).mono ?_
  rintro e w2 ⟨rfl, rfl⟩
  go_wp2_with fail
  refine (l01In_d true _ _ _ _ H3.out).mono ?_
  rintro e w2 ⟨rfl, rfl⟩
  go_wp2_with fail
  refine (l05Split_c _ cs i m _ (hI.later hb) (clss_of H.out) hl.2 hcp hil (by omega) Hmg.out).mono ?_
  rintro e w3 ⟨v, rfl, ho, hb3⟩
  go_wp2
  go_ret2
  exact ⟨_, ret_vi2 Hc.out.symm, by rw [Hr.out]; exact ho.base hb.size, hb.trans (hb3.mono hb.size)⟩

end Go.Proofs.Ytckkhgpciglbmaa
