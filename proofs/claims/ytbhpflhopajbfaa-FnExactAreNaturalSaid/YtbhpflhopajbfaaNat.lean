/-
  AreNatural of both: classes come by splits exactly if they are natural and exact.
  Conditions: at most eight classes.
-/
import Derived.Test.YtbhpflhopajbfaaNas
import Derived.Test.YtbhpflhopajbfaaNam
import Derived.Test.YtbhpflhopajbfaaClG
namespace Go.Proofs.Ytbhpflhopajbfaa
open Go.RowKit Go.Shelf
attribute [local go_sem] Oper.semAt_some

/-! ### the program's recursion -/
theorem cbs_eq (n : Nat) (cs : List (Int × Int)) (r g : Nat) : cbs n cs r g = cbsS (match n with | 0 => fun _ _ _ => false | n + 1 => cbs n) cs r g := by
  cases n <;> rfl
theorem inP_cls {cs : List (Int × Int)} {r g m j : Nat} (h : Clss cs) : Clss (inP cs r g m j) := clss_filter h
/-- parts with gaps beyond 40 are empty; the others have greater gaps -/
theorem inP_fuel {cs : List (Int × Int)} {r g m j n : Nat} (h : Clss cs) (h2 : 2 ≤ m) (hg : 1 ≤ g) (hf : 41 ≤ g + (n + 1)) : inP cs r g m j = [] ∨ (m * g ≤ 40 ∧ 41 ≤ m * g + n) := by
  have hmg : 2 * g ≤ m * g := Nat.mul_le_mul_right g h2
  by_cases hb : m * g ≤ 40
  · exact .inr ⟨hb, by omega⟩
  · refine .inl ?_
    cases hl : inP cs r g m j with
    | nil => rfl
    | cons c l =>
      have hm := inP_mem (show c ∈ inP cs r g m j by rw [hl]; exact List.mem_cons_self)
      have hc := clss_iff.1 h c hm.1
      have := Nat.le_of_dvd (by omega) (Nat.dvd_of_mod_eq_zero hm.2)
      omega
theorem part_lt {r g m j : Nat} (hr : r < g) (hj : j < m) : r + j * g < m * g := by
  have : (j + 1) * g ≤ m * g := Nat.mul_le_mul_right g hj
  rw [Nat.succ_mul] at this
  omega
theorem comeBy_c : ∀ (n : Nat) (cs : List (Int × Int)) (r g : Nat) (sv : Value) (w : World), Cls w.heap.size w sv cs → Clss cs → cs.length ≤ 8 → 1 ≤ g → r < g → (cs = [] ∨ (g ≤ 40 ∧ 41 ≤ g + n)) →
    Calls Try.prog 85 #[sv, .agg #[.int .i64 r, .int .i64 g]] w fun e w' => e = .returned (.bool (cbs n cs r g)) ∧ Below w.heap.size w w' := by
  intro n
  induction n with
  | zero =>
    intro cs r g sv w hI hcl h8 hg hr hfu
    have he : cs = [] := by
      rcases hfu with h | h
      · exact h
      · omega
    subst he
    exact come_step _ [] r g sv w hI hcl (by simp) h8 hg hr (.inl rfl) fun sv' w' m j h2 hm => by simp at hm; omega
  | succ n ih =>
    intro cs r g sv w hI hcl h8 hg hr hfu
    by_cases h1 : cs.length = 1
    · obtain ⟨c, rfl⟩ := List.length_eq_one_iff.1 h1
      obtain ⟨x, y⟩ := c
      have h := come_one x y r g sv w hI
      rw [show cbs (n + 1) [(x, y)] r g = decide (x = (r : Int) ∧ y = (g : Int)) by
        rw [cbs_eq]; unfold cbsS; rw [if_pos (show [(x, y)].length = 1 from rfl)]; simp]
      exact h
    · refine come_step _ cs r g sv w hI hcl h1 h8 hg hr (hfu.imp id fun h => h.1) fun sv' w' m j h2 hm hj hI2 => ?_
      have hf : g ≤ 40 ∧ 41 ≤ g + (n + 1) := by
        rcases hfu with h | h
        · rw [h] at hm; simp at hm; omega
        · exact h
      exact ih _ _ _ sv' w' hI2 (inP_cls hcl) (Nat.le_trans (inP_len _ _ _ _ _) h8) (Nat.mul_pos (by omega) hg) (part_lt hr hj) (inP_fuel hcl h2 hg hf.2)

/-! ### what it answers -/
/-- the classes seen from a class with the gap g -/
def nrm (g : Nat) (cs : List (Int × Int)) : List (Nat × Nat) := cs.map fun c => (c.1.toNat / g, c.2.toNat / g)
def Ins (r g : Nat) (cs : List (Int × Int)) : Prop := ∀ c ∈ cs, c.2.toNat % g = 0 ∧ c.1.toNat % g = r
theorem insB_iff {y b : Nat} {c : Int × Int} : insB y b c = true ↔ c.2.toNat % b = 0 ∧ c.1.toNat % b = y := by
  unfold insB; simp
theorem inP_ins {cs : List (Int × Int)} {r g m j : Nat} : Ins (r + j * g) (m * g) (inP cs r g m j) := fun _ hc => insB_iff.1 (List.mem_filter.1 hc).2
theorem ins_part {r g m j x : Nat} (hr : r < g) : x % (m * g) = r + j * g ↔ x % g = r ∧ x / g % m = j := by
  rw [Nat.mul_comm m g, Nat.mul_comm j g]
  exact Ntr.mod_two hr
/-- the parts hold all classes exactly if m divides the gaps -/
theorem left_sum {r g m : Nat} (hr : r < g) (hm : 0 < m) : ∀ (cs : List (Int × Int)), Ins r g cs → ((List.range m).map fun j => (inP cs r g m j).length).sum = (cs.filter fun c => decide (c.2.toNat % (m * g) = 0)).length
  | [], _ => by
    rw [show ((List.range m).map fun j => (inP ([] : List (Int × Int)) r g m j).length) = (List.range m).map fun _ => 0 from rfl, Ntr.sum_const]; rfl
  | c :: cs, h => by
    have ih := left_sum hr hm cs fun d hd => h d (List.mem_cons_of_mem _ hd)
    have hc := h c List.mem_cons_self
    have h1 : ((List.range m).map fun j => (inP (c :: cs) r g m j).length) = (List.range m).map fun j => (if c.1.toNat / g % m = j then (if c.2.toNat % (m * g) = 0 then 1 else 0) else 0) + (inP cs r g m j).length := List.map_congr_left fun j _ => by
      unfold inP
      have hi : insB (r + j * g) (m * g) c = true ↔ c.2.toNat % (m * g) = 0 ∧ c.1.toNat / g % m = j := by
        rw [insB_iff, ins_part hr]
        exact ⟨fun h => ⟨h.1, h.2.2⟩, fun h => ⟨h.1, hc.2, h.2⟩⟩
      by_cases e : insB (r + j * g) (m * g) c = true
      · rw [List.filter_cons_of_pos e, List.length_cons, if_pos (hi.1 e).2, if_pos (hi.1 e).1]; omega
      · rw [List.filter_cons_of_neg e]
        by_cases e1 : c.1.toNat / g % m = j
        · rw [if_pos e1, if_neg fun e2 => e (hi.2 ⟨e2, e1⟩)]; omega
        · rw [if_neg e1]; omega
    rw [h1, Ntr.sum_both, Ntr.sum_pick, if_pos (Nat.mod_lt _ hm), ih]
    by_cases e : c.2.toNat % (m * g) = 0
    · rw [if_pos e, List.filter_cons_of_pos (by simpa using e), List.length_cons]; omega
    · rw [if_neg e, List.filter_cons_of_neg (by simpa using e)]; omega
theorem left_all {r g m : Nat} (hr : r < g) (hm : 0 < m) {cs : List (Int × Int)} (h : Ins r g cs) : leftTo cs r g m m = 0 ↔ ∀ c ∈ cs, c.2.toNat % (m * g) = 0 := by
  unfold leftTo
  rw [left_sum hr hm cs h]
  have h1 := List.length_filter_le (fun c : Int × Int => decide (c.2.toNat % (m * g) = 0)) cs
  constructor
  · intro e c hc
    have h2 : (cs.filter fun c : Int × Int => decide (c.2.toNat % (m * g) = 0)).length = cs.length := by omega
    rw [List.length_filter_eq_length_iff] at h2
    simpa using h2 c hc
  · intro e
    rw [List.filter_eq_self.2 fun c hc => by simpa using e c hc]
    omega
theorem nrm_sub {r g m k : Nat} (hr : r < g) {cs : List (Int × Int)} (h : Ins r g cs) (hd : ∀ c ∈ cs, c.2.toNat % (m * g) = 0) : Ntr.sub m k (nrm g cs) = nrm (m * g) (inP cs r g m k) := by
  unfold Ntr.sub nrm inP
  rw [List.filter_map, List.map_map]
  have h1 : cs.filter ((fun c : Nat × Nat => c.1 % m == k) ∘ fun c : Int × Int => (c.1.toNat / g, c.2.toNat / g)) = cs.filter (insB (r + k * g) (m * g)) := List.filter_congr fun c hc => by
    rw [Bool.eq_iff_iff, insB_iff, ins_part hr]
    simp only [Function.comp, beq_iff_eq]
    exact ⟨fun e => ⟨hd c hc, (h c hc).2, e⟩, fun e => e.2.2⟩
  rw [h1]
  refine List.map_congr_left fun _ _ => ?_
  simp only [Function.comp, Nat.div_div_eq_div_mul, Nat.mul_comm m g]
theorem sub_len_le {m : Nat} (hm : 0 < m) {l : List (Nat × Nat)} (h : ∀ k, k < m → Ntr.sub m k l ≠ []) : m ≤ l.length := by
  have h1 := Ntr.sum_parts hm (fun _ => 1) l
  have h2 : ∀ l : List (Nat × Nat), (l.map fun _ => 1).sum = l.length := fun l => by
    induction l with
    | nil => rfl
    | cons _ l ih => rw [List.map_cons, List.sum_cons, ih, List.length_cons]; omega
  rw [h2] at h1
  have h3 : m ≤ ((List.range m).map fun k => ((l.filter fun c => c.1 % m == k).map fun _ => 1).sum).sum := by
    have key : ∀ n, n ≤ m → n ≤ ((List.range n).map fun k => ((l.filter fun c => c.1 % m == k).map fun _ => 1).sum).sum := by
      intro n
      induction n with
      | zero => intro _; omega
      | succ n ih =>
        intro hn
        have := ih (by omega)
        rw [List.range_succ, List.map_append, List.sum_append]
        have h4 := h n (by omega)
        unfold Ntr.sub at h4
        have h5 : 1 ≤ (l.filter fun c => c.1 % m == n).length := List.length_pos_iff.2 fun e => h4 (by rw [e]; rfl)
        simp only [h2] at this
        simp only [List.map_cons, List.map_nil, List.sum_cons, List.sum_nil, h2]
        omega
    exact key m (Nat.le_refl _)
  omega
theorem okTo_all {f : List (Int × Int) → Nat → Nat → Bool} {cs : List (Int × Int)} {r g m k : Nat} : okTo f cs r g m k = true ↔ ∀ j, j < k → f (inP cs r g m j) (r + j * g) (m * g) = true := by
  unfold okTo; rw [List.all_eq_true]; simp only [List.mem_range]
theorem cbs_tree : ∀ (n : Nat) (cs : List (Int × Int)) (r g : Nat), Clss cs → 1 ≤ g → r < g → Ins r g cs → (cs = [] ∨ (g ≤ 40 ∧ 41 ≤ g + n)) → (cbs n cs r g = true ↔ Ntr.Tree (nrm g cs)) := by
  intro n
  induction n with
  | zero =>
    intro cs r g hcl hg hr hin hfu
    have he : cs = [] := by
      rcases hfu with h | h
      · exact h
      · omega
    subst he
    refine ⟨fun h => ?_, fun h => absurd rfl (Ntr.tree_ne h)⟩
    simp [cbs, cbsS] at h
  | succ n ih =>
    intro cs r g hcl hg hr hin hfu
    rw [show cbs (n + 1) cs r g = cbsS (cbs n) cs r g from rfl]
    unfold cbsS
    by_cases h1 : cs.length = 1
    · rw [if_pos h1]
      obtain ⟨c, rfl⟩ := List.length_eq_one_iff.1 h1
      have hc := clss_iff.1 hcl c List.mem_cons_self
      have hi := hin c List.mem_cons_self
      obtain ⟨x, y⟩ := c
      dsimp only at hc hi
      have e1 := Nat.div_add_mod x.toNat g
      have e2 := Nat.div_add_mod y.toNat g
      rw [decide_eq_true_eq]
      constructor
      · intro h
        simp only [List.cons.injEq, Prod.mk.injEq, and_true] at h
        obtain ⟨rfl, rfl⟩ := h
        unfold nrm
        simp only [List.map_cons, List.map_nil, Int.toNat_natCast]
        rw [Nat.div_eq_of_lt hr, Nat.div_self hg]
        exact Ntr.Tree.leaf
      · intro h
        have h2 : nrm g [(x, y)] = [(0, 1)] := by
          generalize hl : nrm g [(x, y)] = l at h
          cases h with
          | leaf => rfl
          | node m l h2 hd hk => exact absurd (by rw [← hl]; rfl) (Ntr.tree_long h2 fun k hk' => Ntr.tree_ne (hk k hk'))
        unfold nrm at h2
        simp only [List.map_cons, List.map_nil, List.cons.injEq, Prod.mk.injEq, and_true] at h2
        rw [h2.1, hi.2] at e1
        rw [h2.2, hi.1] at e2
        simp only [List.cons.injEq, Prod.mk.injEq, and_true]
        omega
    · rw [if_neg h1]
      by_cases h0 : cs = []
      · subst h0
        refine ⟨fun h => ?_, fun h => absurd rfl (Ntr.tree_ne h)⟩
        simp at h
      · have hf : g ≤ 40 ∧ 41 ≤ g + (n + 1) := hfu.resolve_left h0
        have hrec : ∀ m j, 2 ≤ m → j < m → (cbs n (inP cs r g m j) (r + j * g) (m * g) = true ↔ Ntr.Tree (nrm (m * g) (inP cs r g m j))) := fun m j h2 hj => ih _ _ _ (inP_cls hcl) (Nat.mul_pos (by omega) hg) (part_lt hr hj) inP_ins (inP_fuel hcl h2 hg hf.2)
        rw [List.any_eq_true]
        constructor
        · rintro ⟨i, _, h⟩
          rw [Bool.and_eq_true, decide_eq_true_eq, left_all hr (by omega) hin, okTo_all] at h
          refine Ntr.Tree.node (i + 2) _ (by omega) (fun c hc => ?_) fun k hk => ?_
          · unfold nrm at hc
            rw [List.mem_map] at hc
            obtain ⟨d, hd, rfl⟩ := hc
            obtain ⟨q, hq⟩ := Nat.dvd_of_mod_eq_zero (h.2 d hd)
            dsimp only
            rw [hq, Nat.mul_assoc, Nat.mul_comm g q, ← Nat.mul_assoc, Nat.mul_div_cancel _ (by omega)]
            exact Nat.dvd_mul_right _ _
          · rw [nrm_sub hr hin h.2]
            exact (hrec _ _ (by omega) hk).1 (h.1 k hk)
        · intro h
          generalize hl : nrm g cs = l at h
          cases h with
          | leaf =>
            have : (nrm g cs).length = 1 := by rw [hl]; rfl
            unfold nrm at this
            rw [List.length_map] at this
            exact absurd this h1
          | node m l h2 hd hk =>
            subst hl
            have hdm : ∀ c ∈ cs, c.2.toNat % (m * g) = 0 := fun c hc => by
              obtain ⟨q, hq⟩ := hd (c.1.toNat / g, c.2.toNat / g) (List.mem_map.2 ⟨c, hc, rfl⟩)
              have e2 := Nat.div_add_mod c.2.toNat g
              rw [(hin c hc).1] at e2
              dsimp only at hq
              rw [hq] at e2
              rw [← e2, Nat.add_zero, ← Nat.mul_assoc, Nat.mul_comm g m]
              exact Nat.mul_mod_right _ _
            have hml := sub_len_le (show 0 < m by omega) fun k hk' => Ntr.tree_ne (hk k hk')
            unfold nrm at hml
            rw [List.length_map] at hml
            refine ⟨m - 2, by rw [List.mem_range]; omega, ?_⟩
            rw [show m - 2 + 2 = m by omega, Bool.and_eq_true, decide_eq_true_eq, left_all hr (by omega) hin, okTo_all]
            refine ⟨fun j hj => ?_, hdm⟩
            have h5 := hk j hj
            rw [nrm_sub hr hin hdm] at h5
            exact (hrec m j h2 hj).2 h5

/-! ### exactly the natural classes -/
/-- are these classes natural? -/
def natB (cs : List (Int × Int)) : Bool := cbs 40 cs 0 1
def naV (cs : List (Int × Int)) : Bool := clsOk cs && natB cs
theorem nrm_one (cs : List (Int × Int)) : nrm 1 cs = toN cs := by
  unfold nrm toN
  simp only [Nat.div_one]
theorem natB_tree {cs : List (Int × Int)} (h : Clss cs) : natB cs = true ↔ Ntr.Tree (toN cs) := by
  rw [← nrm_one]
  exact cbs_tree 40 cs 0 1 h (by omega) (by omega) (fun c _ => ⟨Nat.mod_one _, Nat.mod_one _⟩) (.inr ⟨by omega, by omega⟩)
theorem tree_full {cs : List (Int × Int)} (ht : Ntr.Tree (toN cs)) : fullB cs = true := by
  unfold fullB
  rw [decide_eq_true_eq]
  have hgs : natsTo (gapsL cs) (gapsL cs).length = (toN cs).map (·.2) := by
    unfold natsTo gapsL toN
    rw [List.take_length, List.map_map, List.map_map]
    rfl
  rw [hgs]
  have hs : sumTo ((toN cs).map (·.2)) (lcmTo ((toN cs).map (·.2))) = lcmTo ((toN cs).map (·.2)) := by
    have h1 := Ntr.tree_whole ht (lcmTo ((toN cs).map (·.2))) fun c hc => dvd_lcmTo (List.mem_map.2 ⟨c, hc, rfl⟩)
    unfold sumTo
    rw [List.map_map]
    exact h1
  unfold densN densD lowN lowD
  rw [hs]
theorem toN_at {cs : List (Int × Int)} {k : Nat} (hk : k < cs.length) (h : k < (toN cs).length) : (toN cs)[k] = ((rst cs k).toNat, (gp cs k).toNat) := by
  have e : ∀ (l : List (Int × Int)) (f : Int × Int → Nat × Nat) (h1 : k < l.length) (h2 : k < (l.map f).length), (l.map f)[k]'h2 = f (l[k]'h1) := fun l f h1 h2 => List.getElem_map ..
  rw [show (toN cs)[k] = (cs.map fun c => (c.1.toNat, c.2.toNat))[k]'(by rw [List.length_map]; exact hk) from rfl, e _ _ hk, rg_eq hk]
theorem tree_apart {cs : List (Int × Int)} (h : Clss cs) (ht : Ntr.Tree (toN cs)) : apartB cs = true := by
  unfold apartB
  rw [decide_eq_true_eq]
  intro i hi k hk
  have h1 := (List.pairwise_iff_getElem.1 (Ntr.tree_ap ht)) k i (by unfold toN; rw [List.length_map]; omega) (by unfold toN; rw [List.length_map]; omega) hk
  rw [toN_at (by omega), toN_at hi] at h1
  have ha := h i hi
  have hb := h k (by omega)
  unfold meets gcdC
  rw [decide_eq_false_iff_not]
  intro he
  refine h1 ?_
  unfold Ntr.mt
  dsimp only
  have hd := Int.dvd_of_tmod_eq_zero he
  rw [Nat.gcd_comm, show (((rst cs k).toNat : Nat) : Int) = rst cs k by omega, show (((rst cs i).toNat : Nat) : Int) = rst cs i by omega, ← Int.neg_sub]
  exact Int.dvd_neg.2 hd
theorem exact_nat {cs : List (Int × Int)} (h : Clss cs) : natB cs = true ↔ exactB cs = true ∧ Ntr.Nm (toN cs) := by
  rw [natB_tree h]
  constructor
  · intro ht
    refine ⟨?_, Ntr.tree_nm ht⟩
    unfold exactB
    rw [tree_full ht, tree_apart h ht]
    rfl
  · rintro ⟨_, hn⟩
    refine Ntr.nm_tree hn fun c hc => ?_
    unfold toN at hc
    rw [List.mem_map] at hc
    obtain ⟨d, hd, rfl⟩ := hc
    have := clss_iff.1 h d hd
    dsimp only
    omega

set_option maxRecDepth 100000 in
set_option maxHeartbeats 8000000 in
theorem i_AreNatural (c0 : Value) (cs : List (Int × Int)) (w : World) (hI : Cls w.heap.size w c0 cs) (hN : C64 cs) (hm : cs.length ≤ 1048576) :
    Calls Try.prog 42 #[c0] w fun e w' => e = .returned (.tuple #[.bool (naV cs), .int .i64 (apC cs)]) ∧ Below w.heap.size w w' := by
  obtain ⟨a, cap, rfl⟩ := hI.shape
  cases h : clsOk cs
  · have Hv := Lib.hid (show naV cs = false by unfold naV; rw [h]; rfl)
    have Hc := Lib.hid (show apC cs = 1 by unfold apC; rw [h]; rfl)
    have H := Lib.hid h
    clear h
    go_enter Try.func42, Try.ntmps42
    go_wp2_with fail
    refine (i_AreClasses _ cs _ hI hN hm).mono ?_
    rintro e w1 ⟨he, hb⟩
    rw [H.out] at he
    subst he
    go_wp2
    go_ret2
    exact ⟨by rw [Hv.out, Hc.out]; rfl, hb⟩
  · have Hv := Lib.hid (show naV cs = natB cs by unfold naV; rw [h]; rfl)
    have Hc := Lib.hid (show apC cs = 0 by unfold apC; rw [h]; rfl)
    have H := Lib.hid h
    have hl := clsOk_len h
    clear h
    go_enter Try.func42, Try.ntmps42
    go_wp2_with fail
    refine (i_AreClasses _ cs _ hI hN hm).mono ?_
    rintro e w1 ⟨he, hb⟩
    rw [H.out] at he
    subst he
    go_wp2_with fail
    refine (comeBy_c 40 cs 0 1 _ _ (hI.later hb) (clss_of H.out) hl.2 (by omega) (by omega) (.inr ⟨by omega, by omega⟩)).mono ?_
    rintro e w2 ⟨rfl, hb2⟩
    go_wp2
    go_ret2
    exact ⟨by rw [Hv.out, Hc.out]; rfl, hb.trans (hb2.mono hb.size)⟩

set_option maxRecDepth 100000 in
set_option maxHeartbeats 8000000 in
theorem s_AreNatural (c0 : Value) (cs : List (Int × Int)) (w : World) (hI : Cls w.heap.size w c0 cs) (_hN : C64 cs) (hm : cs.length ≤ 1048576) :
    Calls Try.prog 40 #[c0] w fun e w' => e = .returned (.tuple #[.bool (naV cs), .int .i64 (apC cs)]) ∧ Below w.heap.size w w' := by
  obtain ⟨a, cap, rfl⟩ := hI.shape
  cases h : clsOk cs
  · have Hv := Lib.hid (show naV cs = false by unfold naV; rw [h]; rfl)
    have Hc := Lib.hid (show apC cs = 1 by unfold apC; rw [h]; rfl)
    have H := Lib.hid h
    clear h
    go_enter Try.func40, Try.ntmps40
    go_wp2_with fail
    refine (l05Are_c _ cs _ hI hm).mono ?_
    rintro e w1 ⟨he, hb⟩
    rw [H.out] at he
    subst he
    go_wp2
    go_ret2
    exact ⟨by rw [Hv.out, Hc.out]; rfl, hb⟩
  · have Hv := Lib.hid (show naV cs = natB cs by unfold naV; rw [h]; rfl)
    have Hc := Lib.hid (show apC cs = 0 by unfold apC; rw [h]; rfl)
    have H := Lib.hid h
    have hl := clsOk_len h
    have Hx := Lib.hid (exact_nat (clss_of h))
    clear h
    go_enter Try.func40, Try.ntmps40
    go_wp2_with fail
    refine (l05Are_c _ cs _ hI hm).mono ?_
    rintro e w1 ⟨he, hb⟩
    rw [H.out] at he
    subst he
    go_wp2_with fail
    refine (l05Exact_c _ cs _ (hI.later hb) H.out).mono ?_
    rintro e w2 ⟨rfl, hb2⟩
    have hB2 := hb.trans (hb2.mono hb.size)
    cases hx : exactB cs
    · have Hn := Lib.hid (show natB cs = false by
        cases hn : natB cs
        · rfl
        · have := (Hx.out.1 hn).1
          rw [hx] at this
          cases this)
      clear hx
      go_wp2_with fail
      go_ret2
      exact ⟨by rw [Hv.out, Hc.out, Hn.out]; rfl, hB2⟩
    · have H2 := Lib.hid hx
      clear hx
      go_wp2_with fail
      refine (l05Natural_c cs _ _ (hI.later hB2) (clss_of H.out) (by omega) hl.2).mono ?_
      rintro e w3 ⟨d, rfl, hd, hb3⟩
      have Hn := Lib.hid (show natB cs = d by
        rw [Bool.eq_iff_iff, Hx.out, hd]
        exact ⟨fun h => h.2, fun h => ⟨H2.out, h⟩⟩)
      go_wp2
      go_ret2
      exact ⟨by rw [Hv.out, Hc.out, Hn.out]; rfl, hB2.trans (hb3.mono hB2.size)⟩

end Go.Proofs.Ytbhpflhopajbfaa
