/-
  Waits: the iterator slotsOf, waitsOfTask, greatestWait; the model's l01Waits, l01Greatest.
  Conditions: a slice that is ranged over takes at most 140737488351232 bytes.
-/
import Derived.Test.YtbhpflhopajbfaaIter
import Derived.Test.YtbhpflhopajbfaaShares
import Derived.Maps.AppendAt
namespace Go.Proofs.Ytbhpflhopajbfaa
open Go.RowKit Go.Shelf
attribute [local go_sem] Oper.semAt_some

/-- the slots below k in which the task i has its turns -/
def slotsTo (zs : List Int) (i : Int) (k : Nat) : List Nat := (List.range k).filter fun j => nth zs j == i
theorem slotsTo_zero (zs : List Int) (i : Int) : slotsTo zs i 0 = [] := rfl
theorem slotsTo_yes {zs : List Int} {i : Int} {k : Nat} (h : nth zs k = i) : slotsTo zs i (k + 1) = slotsTo zs i k ++ [k] := by
  simp [slotsTo, List.range_succ, h]
theorem slotsTo_no {zs : List Int} {i : Int} {k : Nat} (h : nth zs k ≠ i) : slotsTo zs i (k + 1) = slotsTo zs i k := by
  simp [slotsTo, List.range_succ, h]
theorem slotsTo_prefix (zs : List Int) (i : Int) {k n : Nat} (h : k ≤ n) : slotsTo zs i k <+: slotsTo zs i n := by
  induction n with
  | zero => obtain rfl : k = 0 := by omega
            exact List.prefix_refl _
  | succ n ih =>
    by_cases e : k = n + 1
    · subst e; exact List.prefix_refl _
    · refine (ih (by omega)).trans ?_
      by_cases hn : nth zs n = i
      · rw [slotsTo_yes hn]; exact List.prefix_append _ _
      · rw [slotsTo_no hn]; exact List.prefix_refl _
theorem slotsTo_lt {zs : List Int} {i : Int} {k s : Nat} (h : s ∈ slotsTo zs i k) : s < k := by
  simp [slotsTo] at h; exact h.1
theorem slotsTo_at {zs : List Int} {i : Int} {k n : Nat} (hk : k < n) (h : nth zs k = i) : (slotsTo zs i n)[(slotsTo zs i k).length]? = some k := by
  obtain ⟨t, ht⟩ := slotsTo_prefix zs i (show k + 1 ≤ n by omega)
  rw [← ht, slotsTo_yes h]; simp
def slotsL (zs : List Int) (i : Int) : List Nat := slotsTo zs i zs.length
def slotN (zs : List Int) (i : Int) (c : Nat) : Nat := (slotsL zs i)[c]?.getD 0
theorem slotN_eq {zs : List Int} {i : Int} {k : Nat} (hk : k < zs.length) (h : nth zs k = i) : slotN zs i (slotsTo zs i k).length = k := by
  unfold slotN slotsL; rw [slotsTo_at hk h]; rfl
theorem slotN_lt {zs : List Int} {i : Int} {c : Nat} (hc : c < (slotsL zs i).length) : slotN zs i c < zs.length := by
  unfold slotN; rw [List.getElem?_eq_getElem hc]; exact slotsTo_lt (List.getElem_mem hc)
def slotAt (zs : List Int) (i : Int) (c : Nat) : Array Value := #[.int .i64 ((slotN zs i c : Nat) : Int)]

theorem yieldAt_wide {m : Nat} (m' : Nat) {P : Program} {l : Nat} {args : Array Value} {W : World} {R : Ending → World → Prop} (h : YieldAt Fence.wide m P l args W R) : YieldAt Fence.wide m' P l args W R := by
  obtain ⟨fn, tmps, assign, body, hy, hR⟩ := h
  exact ⟨fn, tmps, assign, body, hy, hR.1, fun c cs _ => hR.2 c cs (room_wide _)⟩

theorem slotsOf_c (a : Option Addr) (len cap : Nat) (i : Int) (w : World) :
    Calls Try.prog 193 #[.slice a len cap, .int .i64 i] w fun e w' => e = .returned (.func (.func 197) #[] #[.pointer (some ⟨w.heap.size, 0, none⟩), .pointer (some ⟨w.heap.size + 1, 0, none⟩)]) ∧ w' = (w.alloc (.cells #[.slice a len cap] 22)).alloc (.cells #[.int .i64 i] 2) := by
  go_enter Try.func193, Try.ntmps193
  go_wp2
  go_ret
  exact ⟨rfl, rfl⟩

set_option maxRecDepth 100000 in
set_option maxHeartbeats 4000000 in
theorem slotsOf_at (n : Nat) (bT bI n₀ : Nat) (sv : Value) (zs : List Int) (i : Int) (hreach : zs.length * 8 ≤ 140737488351232) (w : World) (hT : Boxed w bT 22 sv) (hi : Boxed w bI 2 (.int .i64 i)) (hn₀ : n₀ ≤ w.heap.size) (hI0 : Ints n₀ w sv zs) :
    SeqAt Fence.wide n Try.prog 197 #[.pointer (some ⟨bT, 0, none⟩), .pointer (some ⟨bI, 0, none⟩)] (slotAt zs i) (fun b => b < n₀ ∨ b = bI) 4 (slotsL zs i).length w := fun l J Jx W hW hJ hJx hY h0 => by
  refine callsIn_wide.2 ((callsIn_wide (n := 9)).1 ?_)
  have hI := hI0.below (hW.mono hn₀)
  have bT1 := boxed_later hT hW
  have bI1 := boxed_later hi hW
  have cT := (bT1.alloc (.cells #[.func (.yield l) #[] #[]] 113)).cell
  have hws := hW.size
  have hbI := bI1.lt
  clear hI0
  obtain ⟨a, cap, rfl⟩ := hI.shape
  refine callsIn_of_wp_marks Try.func197 rfl trivial ?_ rfl
  simp only [Try.ntmps197, List.size_toArray, List.length_cons, List.length_nil, Nat.reduceAdd, Nat.reduceSub, Array.replicate_succ, Array.replicate_zero, List.push_toArray, List.append_toArray, List.nil_append, List.cons_append]
  gi_wp2_with (first | (gi_at_call 93; refine (callsIn_wide.2 (numbered_c _ _ _ _)).mono ?_; rintro e w' ⟨rfl, rfl⟩) | (refine ⟨trivial, ?_⟩; gi_at_call 93; refine (callsIn_wide.2 (numbered_c _ _ _ _)).mono ?_; rintro e w' ⟨rfl, rfl⟩))
  obtain ⟨W0, hW0⟩ : ∃ W0, (W.alloc (.cells #[.func (.yield l) #[] #[]] 113)).alloc (.cells #[.slice a zs.length cap] 22) = W0 := ⟨_, rfl⟩
  have hB0 : Below W.heap.size W W0 := by rw [← hW0]; exact ((Below.refl _ W).alloc (Nat.le_refl _) _).alloc (by simp) _
  have hsz : W0.heap.size = W.heap.size + 2 := by rw [← hW0]; simp
  have bY : Boxed W0 W.heap.size 113 (.func (.yield l) #[] #[]) := by rw [← hW0]; exact (Boxed.new W _ _).alloc _
  have bN : Boxed W0 (W.heap.size + 1) 22 (.slice a zs.length cap) := by rw [← hW0]; simpa using Boxed.new (W.alloc (.cells #[.func (.yield l) #[] #[]] 113)) 22 (.slice a zs.length cap)
  have bI2 := boxed_below bI1 hB0 hbI
  have hJ0 : J 0 W0 := by rw [← hW0]; exact hJ.alloc _ (hJ.alloc _ h0)
  have hI0 := (hI.mono (show n₀ ≤ W.heap.size by omega)).below hB0
  rw [hW0]
  clear hW0 cT
  have Hsz := Lib.hid hsz
  have hs1 : W.heap.size + 2 ≤ W0.heap.size := by omega
  clear hsz
  refine range_outA rfl (by omega) rfl trivial (enters_of Try.func151 (by kernel_rfl) rfl) (numbered_at Fence.wide 8 trivial rfl (by omega) (W.heap.size + 1) n₀ _ zs hreach W0 bN (by omega) (hI.below (hB0.mono (by omega)))) (fun b hb => by omega) (fun _ => rfl)
    (fun k W' => J (slotsTo zs i k).length W' ∧ Boxed W' bI 2 (.int .i64 i) ∧ Boxed W' W.heap.size 113 (.func (.yield l) #[] #[]))
    (fun c _ W' => c = .ret ∧ ∃ m, m ≤ (slotsL zs i).length ∧ Jx m W')
    ?hI ?hIx ⟨hJ0, bI2, bY⟩ ?a1 ?assign ?body ?done ?stop
  case hI => exact OwnFrom.and (fun s A B row hs hg hr => OwnFrom.up hJ (by omega) _ A B row hs hg hr) (OwnFrom.and (Own.from (boxed_own _ _ _) _) (Own.from (boxed_own _ _ _) _))
  case hIx =>
    rintro c s A B row ⟨h1, m, h2, h3⟩ hg hr
    exact ⟨h1, m, h2, OwnFrom.up hJx (by omega) _ A B row h3 hg hr⟩
  case assign =>
    intro l2 k W' K hk hK
    simp only [numAt]
    gi_wp2
    exact hK
  case body =>
    rintro l2 k W' hl2 hr2 ⟨hj, bI3, bY3⟩ hk hs
    have cI := bI3.cell
    have cY := bY3.cell
    by_cases he : nth zs k = i
    · have hlen : (slotsTo zs i k).length < (slotsL zs i).length := by
        have h1 := slotsTo_at hk he
        exact (List.getElem?_eq_some_iff.1 h1).1
      obtain ⟨fn, tmps, assign, body, hy, hR⟩ := yieldAt_wide 6 (hY _ W' hj hlen (by omega))
      have hq : (nth zs k == i) = true := by simp [he]
      have hsl := slotN_eq hk he
      simp only [slotAt, hsl] at hy hR
      have He := Lib.hid he
      have Hs := Lib.hid hsl
      clear he hsl hY
      gi_wp2
      have hsz := Hsz.out
      have sub : ∀ b, Band (fun b => b < n₀) W0.heap.size (W0.heap.size + 2 + 0) b → (b < n₀ ∨ b = bI) ∨ W.heap.size ≤ b ∧ b < W.heap.size + 4 := fun b hb => by
        rcases hb with hb | hb
        · exact .inl (.inl hb)
        · exact .inr (by omega)
      have Hsub := Lib.hid sub
      clear hsz sub
      refine RoundIn.mono (F := Fence.wide.inRound l2) hR ?_
      rintro e W3 ⟨hk3, (⟨rfl, hJ3⟩ | ⟨rfl, hJx3⟩)⟩
      · gi_wp2
        exact ⟨hk3.mono Hsub.out, by rw [slotsTo_yes He.out]; simpa using hJ3, hk3.boxed (.inl (.inr rfl)) bI3, hk3.boxed (.inr (by omega)) bY3⟩
      · gi_wp2
        exact ⟨hk3.mono Hsub.out, rfl, _, hlen, hJx3⟩
    · have hq : (nth zs k == i) = false := by simpa using he
      have He := Lib.hid he
      clear he hY
      gi_wp2
      refine ⟨fun _ h => (by cases h), ?_⟩
      gi_wp2
      exact ⟨Kps.refl _ _, by rw [slotsTo_no He.out]; exact hj, bI3, bY3⟩
  case done =>
    rintro D W' hD ⟨hj, bI3, bY3⟩ hK
    gi_wp2
    refine retM1' hK ⟨_, results_none rfl _ _ _, ⟨_, rfl⟩, .inl ?_⟩
    exact hJ.putObj _ hj (by omega) hK rfl
  case stop =>
    rintro D c k W' hD hk ⟨rfl, m, hm, hj⟩ hK
    gi_wp2
    refine retM1 hK ⟨_, results_none rfl _ _ _, ⟨_, rfl⟩, .inr ⟨m, hm, ?_⟩⟩
    exact hJx.putObj _ hj (by omega) hK rfl

/-! ### what a round of a loop that collects may turn -/
structure Chg (R : Nat → Prop) (A B : World) : Prop where
  os : B.os = A.os
  tape : B.tape = A.tape
  output : B.output = A.output
  size : A.heap.size ≤ B.heap.size
  same : ∀ k, ¬ R k → k < A.heap.size → B.heap[k]? = A.heap[k]?
theorem Chg.refl (R : Nat → Prop) (A : World) : Chg R A A := ⟨rfl, rfl, rfl, Nat.le_refl _, fun _ _ _ => rfl⟩
theorem Chg.trans {R : Nat → Prop} {A B C : World} (h : Chg R A B) (k : Chg R B C) : Chg R A C := ⟨k.os.trans h.os, k.tape.trans h.tape, k.output.trans h.output, Nat.le_trans h.size k.size, fun i hi hl => (k.same i hi (Nat.lt_of_lt_of_le hl h.size)).trans (h.same i hi hl)⟩
theorem Chg.grown {R : Nat → Prop} {A B : World} {row : Option Nat} (h : A.grownBy B row) (hr : ∀ k, row = some k → R k) : Chg R A B := ⟨h.os, h.tape, h.output, h.size, fun i hi hl => h.block i hl (fun e => hi (hr i e.symm))⟩
theorem Chg.alloc (R : Nat → Prop) (A : World) (o : Obj) : Chg R A (A.alloc o) := Chg.grown (World.grownBy_alloc A o none) (by simp)
theorem Chg.setCell {R : Nat → Prop} (A : World) (b j : Nat) (v : Value) (hb : R b) : Chg R A (A.setCell ⟨b, j, none⟩ v) := Chg.grown (grownBy_setCell2 A b j v) (fun k e => by cases e; exact hb)
theorem Chg.boxed {R : Nat → Prop} {A B : World} (h : Chg R A B) {b : Nat} {t : TypeId} {v : Value} (hb : ¬ R b) (hx : Boxed A b t v) : Boxed B b t v := (h.same b hb hx.lt).trans hx
theorem Chg.kps {R S : Nat → Prop} {A B : World} (h : Chg R A B) (hs : ∀ k, S k → ¬ R k) : Kps S A B := ⟨h.size, fun k hk hl => h.same k (hs k hk) hl⟩
theorem Chg.below {R : Nat → Prop} {n : Nat} {w A B : World} (h : Chg R A B) (hw : Below n w A) (hs : ∀ k, k < n → ¬ R k) (hn : n ≤ A.heap.size) : Below n w B :=
  hw.trans ⟨h.os, h.tape, h.output, h.size, fun k hk => h.same k (hs k hk) (by omega)⟩
theorem Chg.ownI {R : Nat → Prop} {n : Nat} {A B : World} {v : Value} {zs : List Int} (h : Chg R A B) (ho : OwnI n A v zs) (hs : ∀ k, v.ownBlock = some k → ¬ R k) : OwnI n B v zs := ho.of_block fun k hk => h.same k (hs k hk) (ho.blk k hk).2
theorem boxRow_Own {β : Type} (B top : Nat) (t : TypeId) (f : β → List Int) : Own (fun s W => ∃ v, Boxed W B t v ∧ OwnI top W v (f s)) := by
  rintro s X Y row ⟨v, hv, ho⟩ hg hrow
  exact ⟨v, boxed_own B t (fun (_ : Unit) => v) () X Y row hv hg hrow, ownI_Own top v (fun (_ : Unit) => f s) () X Y row ho hg hrow⟩
/-- 'x = append(x, ..)' on a box and its row: what has been turned -/
theorem appended {W w1 : World} {top B : Nat} {t : TypeId} {v v' : Value} {xs ys : List Int} {tmp : Obj} (hv : Boxed W B t v) (hB : B < top) (hrow : OwnI top W v xs) (hown' : OwnI top w1 v' ys) (hgrow : (W.alloc tmp).grownBy w1 v.ownBlock) :
    Boxed w1 B t v ∧ Boxed (w1.setCell ⟨B, 0, none⟩ v') B t v' ∧ OwnI top (w1.setCell ⟨B, 0, none⟩ v') v' ys ∧ Chg (fun k => k = B ∨ top ≤ k) W (w1.setCell ⟨B, 0, none⟩ v') := by
  have hb1 : Boxed w1 B t v := (hv.alloc tmp).kept hgrow (fun e => by have := (hrow.blk B e.symm).1; omega)
  refine ⟨hb1, hb1.set v', hown'.kept (grownBy_setCell' w1 B v') (.inr fun e => by have := (hown'.blk B e).1; omega), ?_⟩
  exact ((Chg.alloc _ W tmp).trans (Chg.grown hgrow (fun k e => .inr (hrow.blk k e).1))).trans (Chg.setCell _ _ _ _ (.inl rfl))

/-! ### the waits -/
def stF (zs : List Int) (i : Int) (c : Nat) : Int := if c = 0 then -1 else (slotN zs i 0 : Int)
def stL (zs : List Int) (i : Int) (c : Nat) : Int := if c = 0 then -1 else (slotN zs i (c - 1) : Int)
def diffs (zs : List Int) (i : Int) (c : Nat) : List Int := (List.range (c - 1)).map fun (j : Nat) => (slotN zs i (j + 1) : Int) - (slotN zs i j : Int)
def waitsL (zs : List Int) (i : Int) : List Int :=
  if (slotsL zs i).length = 0 then [] else diffs zs i (slotsL zs i).length ++ [(slotN zs i 0 : Int) + zs.length - (slotN zs i ((slotsL zs i).length - 1) : Int)]
theorem diffs_zero (zs : List Int) (i : Int) : diffs zs i 0 = [] := rfl
theorem diffs_one (zs : List Int) (i : Int) : diffs zs i 1 = [] := rfl
theorem diffs_succ (zs : List Int) (i : Int) {c : Nat} (h : 0 < c) : diffs zs i (c + 1) = diffs zs i c ++ [(slotN zs i c : Int) - (slotN zs i (c - 1) : Int)] := by
  obtain ⟨d, rfl⟩ : ∃ d, c = d + 1 := ⟨c - 1, by omega⟩
  simp [diffs, List.range_succ]
theorem diffs_length (zs : List Int) (i : Int) (c : Nat) : (diffs zs i c).length = c - 1 := by simp [diffs]
theorem slotsL_length (zs : List Int) (i : Int) : (slotsL zs i).length ≤ zs.length := by
  have := List.length_filter_le (fun j => nth zs j == i) (List.range zs.length)
  simpa [slotsL, slotsTo] using this

theorem ownFrom_size (B top : Nat) : OwnFrom B (fun (c : Nat) W => c = 0 ∨ top ≤ W.heap.size) := fun _ _ _ _ hs hg _ => hs.imp id (fun h => Nat.le_trans h hg.size)
theorem ownI_snoc {B : Nat} {W : World} {v : Value} {xs : List Int} {x : Int} (h : W.ownsRow B 2 1 v (xs.length + 1) (xs.map (Value.int .i64) ++ [.int .i64 x])) : OwnI B W v (xs ++ [x]) := by
  unfold OwnI; simpa using h
theorem Try.infoI2 : (Try.prog.info? 2).map (fun i => (i.zero, i.size, i.bytes)) = some (some (.int .i64 0), 1, 8) := by kernel_rfl

set_option maxRecDepth 100000 in
set_option maxHeartbeats 8000000 in
theorem waitsOfTask_c (sv : Value) (zs : List Int) (i : Int) (w : World) (hI : Ints w.heap.size w sv zs) (hl : zs.length ≤ 1048576) :
    Calls Try.prog 175 #[sv, .int .i64 i] w (GivesI w (waitsL zs i) id) := by
  obtain ⟨i0, hi, hz0, hz1, hz2⟩ := info_parts Try.infoI2
  obtain ⟨a, cap, rfl⟩ := hI.shape
  have hsl := slotsL_length zs i
  refine (callsIn_wide (n := 9)).1 ?_
  refine callsIn_of_wp_marks Try.func175 rfl trivial ?_ rfl
  simp only [Try.ntmps175, List.size_toArray, List.length_cons, List.length_nil, Nat.reduceAdd, Nat.reduceSub, Array.replicate_succ, Array.replicate_zero, List.push_toArray, List.append_toArray, List.nil_append, List.cons_append]
  gi_wp2_with (first | (gi_at_call 193; refine (callsIn_wide.2 (slotsOf_c _ _ _ _ _)).mono ?_; rintro e w' ⟨rfl, rfl⟩) | (refine ⟨trivial, ?_⟩; gi_at_call 193; refine (callsIn_wide.2 (slotsOf_c _ _ _ _ _)).mono ?_; rintro e w' ⟨rfl, rfl⟩))
  obtain ⟨W0, hW0⟩ : ∃ W0, ((((w.alloc (.cells #[.slice none 0 0] 22)).alloc (.cells #[.int .i64 (-1)] 2)).alloc (.cells #[.int .i64 (-1)] 2)).alloc (.cells #[.slice a zs.length cap] 22)).alloc (.cells #[.int .i64 i] 2) = W0 := ⟨_, rfl⟩
  have hB0 : Below w.heap.size w W0 := by rw [← hW0]; exact (((((Below.refl _ w).alloc (Nat.le_refl _) _).alloc (by simp) _).alloc (by simp; omega) _).alloc (by simp; omega) _).alloc (by simp; omega) _
  have hsz : w.heap.size + 5 ≤ W0.heap.size := by rw [← hW0]; simp
  have bW : Boxed W0 w.heap.size 22 (.slice none 0 0) := by rw [← hW0]; repeat first | (refine boxed_at ?_; (simp; done)) | refine Boxed.alloc ?_ _
  have bF : Boxed W0 (w.heap.size + 1) 2 (.int .i64 (-1)) := by rw [← hW0]; repeat first | (refine boxed_at ?_; (simp; done)) | refine Boxed.alloc ?_ _
  have bL : Boxed W0 (w.heap.size + 1 + 1) 2 (.int .i64 (-1)) := by rw [← hW0]; repeat first | (refine boxed_at ?_; (simp; done)) | refine Boxed.alloc ?_ _
  have bT : Boxed W0 (w.heap.size + 1 + 1 + 1) 22 (.slice a zs.length cap) := by rw [← hW0]; repeat first | (refine boxed_at ?_; (simp; done)) | refine Boxed.alloc ?_ _
  have bI : Boxed W0 (w.heap.size + 1 + 1 + 1 + 1) 2 (.int .i64 i) := by rw [← hW0]; repeat first | (refine boxed_at ?_; (simp; done)) | refine Boxed.alloc ?_ _
  rw [hW0]
  clear hW0
  obtain ⟨top, htop⟩ : ∃ top, W0.heap.size + 2 + 4 = top := ⟨_, rfl⟩
  have Htop := Lib.hid htop
  have htop1 : w.heap.size + 11 ≤ top := by omega
  refine range_outA (Keep := fun b => b < w.heap.size ∨ b = w.heap.size + 1 + 1 + 1 + 1) (c := 4) rfl (by omega) rfl trivial (enters_of Try.func197 (by kernel_rfl) rfl) (slotsOf_at 8 _ _ w.heap.size _ zs i (by omega) W0 bT bI (by omega) (hI.below hB0)) (fun b hb => by omega) (fun _ => rfl)
    (fun c W => ((∃ v, Boxed W w.heap.size 22 v ∧ OwnI top W v (diffs zs i c)) ∧ Boxed W (w.heap.size + 1) 2 (.int .i64 (stF zs i c)) ∧ Boxed W (w.heap.size + 1 + 1) 2 (.int .i64 (stL zs i c))) ∧ Below w.heap.size w W ∧ (c = 0 ∨ top ≤ W.heap.size))
    (fun _ _ _ => False)
    (OwnFrom.and (OwnFrom.and (Own.from (boxRow_Own _ _ _ _) _) (OwnFrom.and (Own.from (boxed_own _ _ _) _) (Own.from (boxed_own _ _ _) _))) (OwnFrom.and (ownFrom_below (Nat.le_refl _) (by omega)) (ownFrom_size _ _)))
    (fun _ _ _ _ _ hs _ _ => hs)
    ⟨⟨⟨_, bW, ownI_nil _ _⟩, bF, bL⟩, hB0, .inl rfl⟩ ?a1 ?assign ?body ?done ?stop
  case assign =>
    intro l c W K hk hK
    simp only [slotAt]
    gi_wp2
    exact hK
  case body =>
    rintro l c W hl hr ⟨⟨⟨v, bW1, ho1⟩, bF1, bL1⟩, hB1, _⟩ hc hs
    clear htop
    have htop := Htop.out
    have hsW : top ≤ W.heap.size := by omega
    have hband : ∀ k, Band (fun b => b < w.heap.size ∨ b = w.heap.size + 1 + 1 + 1 + 1) W0.heap.size (W0.heap.size + 2 + 4) k → ¬ ((k = w.heap.size ∨ k = w.heap.size + 1 ∨ k = w.heap.size + 2) ∨ top ≤ k) := fun k hk => by
      rcases hk with hk | hk <;> omega
    have Hband := Lib.hid hband
    clear htop hband hs
    have cW := bW1.cell
    have fW := bW1.frozen
    have cF := bF1.cell
    have fF := bF1.frozen
    have cL := bL1.cell
    have fL := bL1.frozen
    have hlt := slotN_lt hc
    by_cases h0 : c = 0
    · subst h0
      simp only [stF, stL, if_true] at cF cL bF1 bL1
      have e1 : stF zs i (0 + 1) = (slotN zs i 0 : Int) := rfl
      have e2 : stL zs i (0 + 1) = (slotN zs i 0 : Int) := rfl
      have E1 := Lib.hid e1
      have E2 := Lib.hid e2
      clear e1 e2
      gi_wp2
      have hch : Chg (fun k => (k = w.heap.size ∨ k = w.heap.size + 1 ∨ k = w.heap.size + 2) ∨ top ≤ k) W ((W.setCell ⟨w.heap.size + 1, 0, none⟩ (.int .i64 (slotN zs i 0 : Int))).setCell ⟨w.heap.size + 1 + 1, 0, none⟩ (.int .i64 (slotN zs i 0 : Int))) :=
        (Chg.setCell _ _ _ _ (.inl (by omega))).trans (Chg.setCell _ _ _ _ (.inl (by omega)))
      exact ⟨hch.kps Hband.out, ⟨⟨v, (bW1.other (by omega) _).other (by omega) _, (ho1.kept (grownBy_setCell' _ _ _) (.inr fun e => by have := (ho1.blk _ e).1; omega)).kept (grownBy_setCell' _ _ _) (.inr fun e => by have := (ho1.blk _ e).1; omega)⟩,
        by rw [E1.out]; exact (bF1.set _).other (by omega) _, by rw [E2.out]; exact (bL1.other (by omega) _).set _⟩, hch.below hB1 (fun k hk => by omega) (by omega), .inr (Nat.le_trans hsW hch.size)⟩
    · have e0 : stF zs i c = (slotN zs i 0 : Int) := if_neg h0
      have e0' : stL zs i c = (slotN zs i (c - 1) : Int) := if_neg h0
      have e1 : stF zs i (c + 1) = (slotN zs i 0 : Int) := if_neg (by omega)
      have e2 : stL zs i (c + 1) = (slotN zs i c : Int) := by unfold stL; rw [if_neg (by omega)]; rfl
      rw [e0] at cF bF1
      rw [e0'] at cL bL1
      have hdl := diffs_length zs i c
      have hlt2 := slotN_lt (zs := zs) (i := i) (c := c - 1) (by omega)
      have hd := diffs_succ zs i (c := c) (by omega)
      have HD := Lib.hid hd
      have Hdl := Lib.hid hdl
      have hdb : (diffs zs i c).length ≤ 1048576 := by omega
      have E1 := Lib.hid e1
      have E2 := Lib.hid e2
      clear e0 e0' e1 e2 hd hdl
      gi_wp2_with (gi_at_builtin; refine wpListIn_append_own _ rfl _ _ 22 rfl top 2 i0 (.int .i64 0) 1 8 Try.underlying22 hi hz0 hz1 hz2 rfl (by decide) _ _ _ rfl (World.ownsRow.alloc ho1 _) ⟨W.heap.size, 0, none⟩ 1 1 [.int .i64 ((slotN zs i c : Int) - (slotN zs i (c - 1) : Int))] rfl rfl (Go.cell_one_new _ _ _) (by simp [Value.oneCell']) (by unfold maxLen; omega) (by omega) (by simp; omega) ?_)
      intro v' w1 hown' hgrow _
      have ho2 := ownI_snoc hown'
      rw [← HD.out] at ho2
      obtain ⟨g', cap', rfl, hg1, hg2⟩ := ho2.shape (by rw [diffs_length]; omega)
      obtain ⟨r1, r2, r3, r4⟩ := appended bW1 (by omega) ho1 ho2 hgrow
      have c1 := r1.cell
      have f1 := r1.frozen
      have bL2 : Boxed (w1.setCell ⟨w.heap.size, 0, none⟩ (.slice (some ⟨g', 0, none⟩) (diffs zs i (c + 1)).length cap')) (w.heap.size + 1 + 1) 2 (.int .i64 (slotN zs i (c - 1) : Int)) := r4.boxed (by omega) bL1
      have bF2 : Boxed (w1.setCell ⟨w.heap.size, 0, none⟩ (.slice (some ⟨g', 0, none⟩) (diffs zs i (c + 1)).length cap')) (w.heap.size + 1) 2 (.int .i64 (slotN zs i 0 : Int)) := r4.boxed (by omega) bF1
      have r4' : Chg (fun k => (k = w.heap.size ∨ k = w.heap.size + 1 ∨ k = w.heap.size + 2) ∨ top ≤ k) W (w1.setCell ⟨w.heap.size, 0, none⟩ (.slice (some ⟨g', 0, none⟩) (diffs zs i (c + 1)).length cap')) := ⟨r4.os, r4.tape, r4.output, r4.size, fun k hk hl => r4.same k (by omega) hl⟩
      have bL3 : Boxed w1 (w.heap.size + 1 + 1) 2 (.int .i64 (slotN zs i (c - 1) : Int)) := (bL1.alloc _).kept hgrow (fun e => by have := (ho1.blk _ e.symm).1; omega)
      have c3 := bL3.cell
      have f3 := bL3.frozen
      clear hown' hgrow cW fW cF fF cL fL
      gi_wp2
      have hch : Chg (fun k => (k = w.heap.size ∨ k = w.heap.size + 1 ∨ k = w.heap.size + 2) ∨ top ≤ k) W ((w1.setCell ⟨w.heap.size, 0, none⟩ (.slice (some ⟨g', 0, none⟩) (diffs zs i (c + 1)).length cap')).setCell ⟨w.heap.size + 1 + 1, 0, none⟩ (.int .i64 (slotN zs i c : Int))) :=
        r4'.trans (Chg.setCell _ _ _ _ (.inl (by omega)))
      exact ⟨hch.kps Hband.out, ⟨⟨_, r2.other (by omega) _, r3.kept (grownBy_setCell' _ _ _) (.inr fun e => by have := (r3.blk _ e).1; omega)⟩,
        by rw [E1.out]; exact bF2.other (by omega) _, by rw [E2.out]; exact bL2.set _⟩, hch.below hB1 (fun k hk => by omega) (by omega), .inr (Nat.le_trans hsW hch.size)⟩
  case done =>
    rintro D W hD ⟨⟨⟨v, bW1, ho1⟩, bF1, bL1⟩, hB1, htp⟩ hK
    have cW := bW1.cell
    have fW := bW1.frozen
    have cF := bF1.cell
    have cL := bL1.cell
    have hsD := hB1.size
    by_cases h0 : (slotsL zs i).length = 0
    · have hw : waitsL zs i = [] := if_pos h0
      have Hw := Lib.hid hw
      have e0 : stF zs i (slotsL zs i).length = -1 := if_pos h0
      rw [e0] at cF
      rw [h0] at ho1
      obtain ⟨a1, c1, rfl⟩ := ho1.ints.shape
      clear hw h0 e0
      gi_wp2
      refine retM1 hK ⟨_, results_tmp rfl _ _ _, ?_⟩
      exact ⟨_, rfl, by rw [Hw.out]; exact (ho1.base (by omega)).shut hK, below_shut hB1 (by omega)⟩
    · have hw : waitsL zs i = diffs zs i (slotsL zs i).length ++ [(slotN zs i 0 : Int) + zs.length - (slotN zs i ((slotsL zs i).length - 1) : Int)] := if_neg h0
      have Hw := Lib.hid hw
      have e0 : stF zs i (slotsL zs i).length = (slotN zs i 0 : Int) := if_neg h0
      have e1 : stL zs i (slotsL zs i).length = (slotN zs i ((slotsL zs i).length - 1) : Int) := if_neg h0
      rw [e0] at cF
      rw [e1] at cL
      have hlt := slotN_lt (zs := zs) (i := i) (c := 0) (by omega)
      have hlt2 := slotN_lt (zs := zs) (i := i) (c := (slotsL zs i).length - 1) (by omega)
      have hdl := diffs_length zs i (slotsL zs i).length
      have hdb : (diffs zs i (slotsL zs i).length).length ≤ 1048576 := by omega
      have htW : top ≤ W.heap.size := by omega
      clear hw h0 e0 e1 hdl htp
      gi_wp2_with (gi_at_builtin; refine wpListIn_append_own _ rfl _ _ 22 rfl top 2 i0 (.int .i64 0) 1 8 Try.underlying22 hi hz0 hz1 hz2 rfl (by decide) _ _ _ rfl (World.ownsRow.alloc ho1 _) ⟨W.heap.size, 0, none⟩ 1 1 [.int .i64 ((slotN zs i 0 : Int) + zs.length - (slotN zs i ((slotsL zs i).length - 1) : Int))] rfl rfl (Go.cell_one_new _ _ _) (by simp [Value.oneCell']) (by unfold maxLen; omega) (by omega) (by simp; omega) ?_)
      intro v' w1 hown' hgrow _
      have ho2 := ownI_snoc hown'
      rw [← Hw.out] at ho2
      obtain ⟨g', cap', rfl, hg1, hg2⟩ := ho2.shape (by rw [Hw.out]; simp)
      obtain ⟨r1, r2, r3, r4⟩ := appended bW1 (by omega) ho1 ho2 hgrow
      have c1 := r1.cell
      have f1 := r1.frozen
      have hKD : (w1.setCell ⟨w.heap.size, 0, none⟩ (.slice (some ⟨g', 0, none⟩) (waitsL zs i).length cap')).heap[D]? = some (.deferred (some [])) := (r4.same D (by
        intro h
        rcases h with h | h
        · omega
        · have := Htop.out; omega) (Array.getElem?_eq_some_iff.1 hK).1).trans hK
      clear hown' hgrow
      gi_wp2
      refine retM1 hKD ⟨_, results_tmp rfl _ _ _, ?_⟩
      exact ⟨_, rfl, (r3.base (by omega)).shut hKD, below_shut (r4.below hB1 (fun k hk => by omega) (by omega)) (by omega)⟩
  case stop =>
    rintro D c k W hD hk h
    exact h.elim

end Go.Proofs.Ytbhpflhopajbfaa
