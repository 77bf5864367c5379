/-
  RenumberTasks: the tests for an order of numbers; RenumberTasks of both.
  Conditions: lists of at most 1048576 elements.
-/
import Derived.Test.YtmmpoaphjjpjaaaClone
import Derived.Test.YtmmpoaphjjpjaaaReg
namespace Go.Proofs.Ytmmpoaphjjpjaaa
open Go.RowKit Go.Shelf
attribute [local go_sem] Oper.semAt_some

/-- THE SLICE VALUE v OWNS THE bools bs, in a block from B on. -/
def OwnB (B : Nat) (W : World) (v : Value) (bs : List Bool) : Prop := W.ownsRow B 4 1 v bs.length (bs.map .bool)
theorem OwnB.blk {B : Nat} {W : World} {v : Value} {bs : List Bool} (h : OwnB B W v bs) : ∀ k, v.ownBlock = some k → B ≤ k ∧ k < W.heap.size := World.ownsRow.lt h
theorem OwnB.of_block {B : Nat} {W W' : World} {v : Value} {bs : List Bool} (h : OwnB B W v bs) (hb : ∀ k, v.ownBlock = some k → W'.heap[k]? = W.heap[k]?) : OwnB B W' v bs := by
  obtain ⟨h1, h2⟩ := h
  refine ⟨h1, ?_⟩
  rcases h2 with ⟨e, h0⟩ | ⟨g, cap, cur, e, hg, hh, r⟩
  · exact .inl ⟨e, h0⟩
  · exact .inr ⟨g, cap, cur, e, hg, (hb g (by simp [e, Value.ownBlock])).trans hh, r⟩
theorem OwnB.below {B : Nat} {W W' : World} {v : Value} {bs : List Bool} (h : OwnB B W v bs) (hb : Below W.heap.size W W') : OwnB B W' v bs := h.of_block fun k hk => hb.block k (h.blk k hk).2
theorem OwnB.kept {B : Nat} {W W' : World} {row : Option Nat} {v : Value} {bs : List Bool} (h : OwnB B W v bs) (hg : W.grownBy W' row) (hne : v.ownBlock = none ∨ v.ownBlock ≠ row) : OwnB B W' v bs := World.ownsRow.kept h hg hne
theorem OwnB.len {B g n cap : Nat} {W : World} {bs : List Bool} (h : OwnB B W (.slice (some ⟨g, 0, none⟩) n cap) bs) : bs.length = n := by
  obtain ⟨_, h2⟩ := h
  rcases h2 with ⟨e, _⟩ | ⟨g', cap', cur, e, _⟩
  · simp at e
  · simp only [Value.slice.injEq] at e; exact e.2.1.symm
theorem OwnB.cellAt {B g n cap : Nat} {W : World} {bs : List Bool} (h : OwnB B W (.slice (some ⟨g, 0, none⟩) n cap) bs) {j : Nat} {b : Bool} (hj : bs[j]? = some b) : W.cell? ⟨g, j, none⟩ = some (.bool b) := by
  have hl := h.len
  subst hl
  have hlt := (List.getElem?_eq_some_iff.1 hj).1
  rw [World.ownsRow.cellAt (show W.ownsRow B 4 1 _ _ _ from h) j (by omega)]
  simp [hj]
theorem OwnB.frozen {B g n cap : Nat} {W : World} {bs : List Bool} (h : OwnB B W (.slice (some ⟨g, 0, none⟩) n cap) bs) (j : Nat) : W.frozen? ⟨g, j, none⟩ = false := by
  have hl := h.len
  subst hl
  exact World.ownsRow.frozenAt (show W.ownsRow B 4 1 _ _ _ from h) j
theorem OwnB.stored {B g n cap : Nat} {W : World} {bs : List Bool} (h : OwnB B W (.slice (some ⟨g, 0, none⟩) n cap) bs) (j : Nat) (u : Bool) : OwnB B (W.setCell ⟨g, j, none⟩ (.bool u)) (.slice (some ⟨g, 0, none⟩) n cap) (bs.set j u) := by
  have hl := h.len
  subst hl
  have := (World.ownsRow.stored (show W.ownsRow B 4 1 _ _ _ from h) j (.bool u)).1
  unfold OwnB
  rw [List.length_set, List.map_set]
  exact this
theorem ownB_made {B n : Nat} {W : World} {v : Value} (h : W.ownsRow B 4 1 v n (madeCells #[Value.bool false] n).toList) : OwnB B W v (List.replicate n false) := by
  unfold OwnB
  rw [toList_madeCells_one] at h
  simpa using h
theorem ownB_Own {β : Type} (B : Nat) (v : Value) (f : β → List Bool) : Own (fun s W => OwnB B W v (f s)) := fun s X Y row hs hg hrow =>
  hs.of_block fun k hk => hg.block k (hs.blk k hk).2 (fun e' => by
    obtain ⟨o, ho, hc⟩ := hrow k e'.symm
    obtain ⟨_, h2⟩ := hs
    rcases h2 with ⟨rfl, _⟩ | ⟨g, cap, cur, rfl, _, hh, _⟩
    · simp [Value.ownBlock] at hk
    · obtain rfl : g = k := by simpa [Value.ownBlock] using hk
      rw [hh] at ho; cases ho; cases hc)
theorem Try.infoB : (Try.prog.info? 4).map (fun i => (i.zero, i.size, i.bytes)) = some (some (.bool false), 1, 1) := by kernel_rfl
theorem info_partsB {P : Program} {t : TypeId} {z : Value} {a b : Nat} (h : (P.info? t).map (fun i => (i.zero, i.size, i.bytes)) = some (some z, a, b)) : ∃ i, P.info? t = some i ∧ i.zero = some z ∧ i.size = a ∧ i.bytes = b := by
  cases hi : P.info? t with
  | none => rw [hi] at h; cases h
  | some i => rw [hi] at h; simp at h; exact ⟨i, rfl, h.1, h.2.1, h.2.2⟩

/-- has one of the first k numbers of p the value m? -/
def metIn (p : List Int) (k : Nat) (m : Int) : Bool := (p.take k).contains m
theorem metIn_zero (p : List Int) (m : Int) : metIn p 0 m = false := by simp [metIn]
theorem metIn_succ {p : List Int} {k : Nat} (h : k < p.length) (m : Int) : metIn p (k + 1) m = (metIn p k m || (nth p k == m)) := by
  unfold metIn
  rw [List.take_succ_eq_append_getElem h, nth_lt h, Bool.eq_iff_iff]
  simp only [List.contains_iff_mem, List.mem_append, List.mem_singleton, Bool.or_eq_true, beq_iff_eq]
  constructor <;> rintro (h | h) <;> first | exact .inl h | exact .inr h.symm
def metL (n : Nat) (p : List Int) (k : Nat) : List Bool := (List.range n).map fun (m : Nat) => metIn p k (m : Int)
theorem metL_length (n : Nat) (p : List Int) (k : Nat) : (metL n p k).length = n := by simp [metL]
theorem metL_at {n : Nat} {p : List Int} {k m : Nat} (h : m < n) : (metL n p k)[m]? = some (metIn p k (m : Int)) := by simp [metL, h]
theorem metL_zero (n : Nat) (p : List Int) : metL n p 0 = List.replicate n false := by
  refine List.ext_getElem (by simp [metL]) fun m h1 h2 => ?_
  simp [metL, metIn_zero]
theorem metL_succ {n : Nat} {p : List Int} {k j : Nat} (h : k < p.length) (hj : nth p k = (j : Int)) : metL n p (k + 1) = (metL n p k).set j true := by
  refine List.ext_getElem? fun m => ?_
  rw [List.getElem?_set]
  by_cases hm : m < n
  · rw [metL_at hm, metL_length, metIn_succ h, hj, metL_at hm]
    by_cases e : j = m
    · subst e; simp [hm]
    · rw [if_neg e]
      have : ((j : Int) == (m : Int)) = false := by rw [beq_eq_false_iff_ne]; omega
      rw [this, Bool.or_false]
  · rw [List.getElem?_eq_none (by rw [metL_length]; omega), List.getElem?_eq_none (by rw [metL_length]; omega), metL_length]
    split <;> (try split) <;> first | rfl | omega
def fineTo (n : Nat) (p : List Int) (k : Nat) : Bool := (List.range k).all fun i => decide (0 ≤ nth p i ∧ nth p i < n) && !metIn p i (nth p i)
theorem fineTo_succ (n : Nat) (p : List Int) (k : Nat) : fineTo n p (k + 1) = (fineTo n p k && (decide (0 ≤ nth p k ∧ nth p k < n) && !metIn p k (nth p k))) := by
  simp [fineTo, List.range_succ]
theorem fineTo_false {n : Nat} {p : List Int} {k m : Nat} (hk : k < m) (h : (decide (0 ≤ nth p k ∧ nth p k < n) && !metIn p k (nth p k)) = false) : fineTo n p m = false := by
  unfold fineTo; rw [List.all_eq_false]; exact ⟨k, by simpa using hk, by rw [h]; simp⟩
/-- is p a list of the numbers below n, each once? -/
def ordOk (n : Nat) (p : List Int) : Bool := decide (p.length = n) && fineTo n p p.length
/-- the gaps put at their places, the first k of them -/
def putTo (zs p : List Int) : Nat → List Int
  | 0 => List.replicate zs.length 0
  | k + 1 => (putTo zs p k).set (nth p k).toNat (nth zs k)
theorem putTo_length (zs p : List Int) (k : Nat) : (putTo zs p k).length = zs.length := by
  induction k with
  | zero => simp [putTo]
  | succ k ih => simp [putTo, ih]
theorem fineTo_at {n : Nat} {p : List Int} {k m : Nat} (h : fineTo n p m = true) (hk : k < m) : 0 ≤ nth p k ∧ nth p k < n := by
  unfold fineTo at h
  rw [List.all_eq_true] at h
  have := h k (by simpa using hk)
  rw [Bool.and_eq_true, decide_eq_true_eq] at this
  exact this.1

set_option maxRecDepth 100000 in
set_option maxHeartbeats 8000000 in
theorem l01Order_c (sv : Value) (p : List Int) (n : Nat) (w : World) (hI : Ints w.heap.size w sv p) (hl : p.length ≤ 1048576) (hn : n ≤ 8) :
    Calls Try.prog 92 #[sv, .int .i64 n] w fun e w' => e = .returned (.bool (ordOk n p)) ∧ Below w.heap.size w w' := by
  obtain ⟨i0, hi, hz0, hz1, hz2⟩ := info_partsB Try.infoB
  obtain ⟨a, cap, rfl⟩ := hI.shape
  go_enter Try.func92, Try.ntmps92
  go_wp2_with (at_make; refine wpList_make_full _ rfl _ _ 63 rfl w.heap.size 4 i0 (.bool false) 1 Try.underlying63 hi hz0 hz1 .i64 .i64 _ _ n rfl rfl rfl rfl ?c1 ?c2 ?c3 ?_)
  case c1 => rw [hz2]; omega
  case c2 => unfold maxLen; omega
  case c3 => exact Nat.le_refl _
  intro w1 hown hgrow
  have ho1 := ownB_made hown
  rw [← metL_zero n p] at ho1
  have hB1 : Below w.heap.size w w1 := (Below.refl _ w).grown hgrow (Nat.le_refl _) (by simp)
  clear hown hgrow
  go_wp2
  go_loopw [6] (fun i wr => ∃ k : Nat, k ≤ p.length ∧ i = .int .i64 k ∧ fineTo n p k = true ∧ OwnB w.heap.size wr (.slice (some ⟨w.heap.size, 0, none⟩) n n) (metL n p k) ∧ Below w.heap.size w wr) (fun i _ => p.length - (intOf i).toNat)
  case atStart => exact ⟨0, Nat.zero_le _, rfl, rfl, ho1, hB1⟩
  case round =>
    obtain ⟨k, hk, rfl, hf, ho, hB⟩ := hrel
    by_cases hlt : k < p.length
    · obtain ⟨b, off, rfl, hb, hc⟩ := (hI.below hB).at_ hlt
      have hcx := hc k hlt
      have Hs := Lib.hid (fineTo_succ n p k)
      have Hf := Lib.hid hf
      clear hc hf
      cases hin : inB (nth p k) 0 ((n : Int) - 1)
      · have hbad : ordOk n p = false := by
          unfold ordOk; rw [fineTo_false hlt (by rw [inB_false] at hin; simp; omega)]; simp
        have Hbad := Lib.hid hbad
        have Hin := Lib.hid hin
        clear hin hbad
        go_wp2_with (go_at_call 88; refine (l01In_d false _ _ _ _ Hin.out).mono ?_; rintro e w' ⟨rfl, rfl⟩)
        go_ret
        exact ⟨ret_bool Hbad.out.symm, hB⟩
      · have hin2 := inB_true.1 hin
        obtain ⟨m, hm⟩ : ∃ m : Nat, nth p k = m := ⟨(nth p k).toNat, by omega⟩
        have hmn : m < n := by omega
        rw [hm] at hcx hin
        have Hin := Lib.hid hin
        cases hmet : metIn p k (m : Int)
        · have hcm := ho.cellAt (j := m) (by rw [metL_at hmn, hmet])
          have hfm := ho.frozen m
          have hf2 : fineTo n p (k + 1) = true := by rw [Hs.out, Hf.out, hm, hmet]; simp; omega
          have Hf2 := Lib.hid hf2
          have HL := Lib.hid (metL_succ (n := n) hlt hm)
          clear hin hmet hf2 hm hin2
          go_wp2_with (go_at_call 88; refine (l01In_d true _ _ _ _ Hin.out).mono ?_; rintro e w' ⟨rfl, rfl⟩)
          go_roundw
          case rel => exact ⟨k + 1, by omega, by simp, Hf2.out, by rw [HL.out]; exact ho.stored m true, hB.setCell (p := ⟨w.heap.size, m, none⟩) (Nat.le_refl _) _⟩
          case measure => simp [intOf]; omega
        · have hcm := ho.cellAt (j := m) (by rw [metL_at hmn, hmet])
          have hbad : ordOk n p = false := by
            unfold ordOk; rw [fineTo_false hlt (by rw [hm, hmet]; simp)]; simp
          have Hbad := Lib.hid hbad
          clear hin hmet hbad hm hin2
          go_wp2_with (go_at_call 88; refine (l01In_d true _ _ _ _ Hin.out).mono ?_; rintro e w' ⟨rfl, rfl⟩)
          go_ret
          exact ⟨ret_bool Hbad.out.symm, hB⟩
    · obtain rfl : k = p.length := by omega
      have hok : ordOk n p = decide ((p.length : Int) = n) := by
        unfold ordOk; rw [hf, Bool.and_true, decide_eq_decide]; omega
      have Hok := Lib.hid hok
      clear hf hok
      go_wp2
      go_ret
      exact ⟨ret_bool (by rw [Hok.out]; rfl), hB⟩

set_option maxRecDepth 100000 in
set_option maxHeartbeats 8000000 in
theorem isOrderOf_c (sv : Value) (p : List Int) (n : Nat) (w : World) (hI : Ints w.heap.size w sv p) (hl : p.length ≤ 1048576) (hn : n ≤ 8) :
    Calls Try.prog 93 #[sv, .int .i64 n] w fun e w' => e = .returned (.bool (ordOk n p)) ∧ Below w.heap.size w w' := by
  obtain ⟨i0, hi, hz0, hz1, hz2⟩ := info_partsB Try.infoB
  obtain ⟨a, cap, rfl⟩ := hI.shape
  refine (callsIn_wide (n := 9)).1 ?_
  by_cases he : p.length = n
  · subst he
    have hbd : p.length ≤ 8 := hn
    refine callsIn_of_wp_marks Try.func93 rfl trivial ?_ rfl
    simp only [Try.ntmps93, List.size_toArray, List.length_cons, List.length_nil, Nat.reduceAdd, Nat.reduceSub, Array.replicate_succ, Array.replicate_zero, List.push_toArray, List.append_toArray, List.nil_append, List.cons_append]
    gi_wp2_with (gi_at_make; refine makeIn_full _ rfl _ _ 63 rfl w.heap.size 4 i0 (.bool false) 1 Try.underlying63 hi hz0 hz1 .i64 .i64 _ _ p.length rfl rfl rfl rfl ?c1 ?c2 ?c3 ?_)
    case c1 => rw [hz2]; omega
    case c2 => unfold maxLen; omega
    case c3 => simp; omega
    intro w1 hown hgrow
    have ho1 := ownB_made hown
    rw [← metL_zero p.length p] at ho1
    have hB0 : Below w.heap.size w ((w.alloc (.cells #[.int .i64 p.length] 3)).alloc (.cells #[.bool false] 4)) := ((Below.refl _ w).alloc (Nat.le_refl _) _).alloc (by simp) _
    have hB1 : Below w.heap.size w w1 := hB0.grown hgrow (by simp; omega) (by simp)
    have bK : Boxed w1 w.heap.size 3 (.int .i64 p.length) := ((Boxed.new w _ _).alloc _).kept hgrow (by simp)
    have bR : Boxed w1 (w.heap.size + 1) 4 (.bool false) := by have := Boxed.new (w.alloc (.cells #[.int .i64 p.length] 3)) 4 (.bool false); simp only [World.size_alloc] at this; exact this.kept hgrow (by simp)
    have hg1 : w.heap.size + 2 < w1.heap.size := by have := (ho1.blk _ rfl).2; simpa using this
    clear hown hgrow hB0
    gi_wp2_with (first | (gi_at_call 84; refine (callsIn_wide.2 (numbered_c _ _ _ _)).mono ?_; rintro e w' ⟨rfl, rfl⟩) | (refine ⟨trivial, ?_⟩; gi_at_call 84; refine (callsIn_wide.2 (numbered_c _ _ _ _)).mono ?_; rintro e w' ⟨rfl, rfl⟩))
    obtain ⟨W0, hW2⟩ : ∃ W0, ((w1.alloc (.cells #[.slice (some ⟨w.heap.size + 1 + 1, 0, none⟩) p.length p.length] 63)).alloc (.cells #[.slice a p.length cap] 22)) = W0 := ⟨_, rfl⟩
    have hB2 : Below w1.heap.size w1 W0 := by rw [← hW2]; exact (((Below.refl _ w1).alloc (Nat.le_refl _) _).alloc (by simp; try omega) _)
    have hs2 : w1.heap.size + 2 ≤ W0.heap.size := by rw [← hW2]; simp
    have bS : Boxed W0 (w1.heap.size) 63 (.slice (some ⟨w.heap.size + 1 + 1, 0, none⟩) p.length p.length) := by rw [← hW2]; repeat first | (refine boxed_at ?_; (simp; done)) | refine Boxed.alloc ?_ _
    have bN : Boxed W0 (w1.heap.size + 1) 22 (.slice a p.length cap) := by rw [← hW2]; repeat first | (refine boxed_at ?_; (simp; done)) | refine Boxed.alloc ?_ _
    rw [hW2]
    clear hW2
    have hB2' := hB1.trans (hB2.mono (by omega))
    replace bK := boxed_later bK hB2
    replace bR := boxed_later bR hB2
    have ho2 := ho1.below hB2
    refine range_outA rfl (by omega) rfl trivial (enters_of Try.func116 (by kernel_rfl) rfl) (numbered_at Fence.wide 8 trivial rfl (by omega) _ w.heap.size _ p (by omega) W0 bN (by omega) (hI.below hB2')) (fun b hb => by omega) (fun _ => rfl)
      (fun k W => (fineTo p.length p k = true ∧ OwnB w.heap.size W (.slice (some ⟨w.heap.size + 1 + 1, 0, none⟩) p.length p.length) (metL p.length p k)) ∧ (Boxed W w.heap.size 3 (.int .i64 p.length) ∧ Boxed W (w.heap.size + 1) 4 (.bool false) ∧ Boxed W w1.heap.size 63 (.slice (some ⟨w.heap.size + 1 + 1, 0, none⟩) p.length p.length)) ∧ Below w.heap.size w W)
      (fun c _ W => ((c = .ret ∧ ordOk p.length p = false) ∧ Boxed W (w.heap.size + 1) 4 (.bool false)) ∧ Below w.heap.size w W)
      (by repeat' (first | exact ownFrom_pure _ _ | exact Own.from (boxed_own _ _ _) _ | exact Own.from (ownI_Own _ _ _) _ | exact Own.from (ownB_Own _ _ _) _ | exact ownFrom_below (Nat.le_refl _) (by omega) | exact ownFrom_kps (by omega) | apply OwnFrom.and))
      (fun _ => (by repeat' (first | exact ownFrom_pure _ _ | exact Own.from (boxed_own _ _ _) _ | exact Own.from (ownI_Own _ _ _) _ | exact Own.from (ownB_Own _ _ _) _ | exact ownFrom_below (Nat.le_refl _) (by omega) | exact ownFrom_kps (by omega) | apply OwnFrom.and)))
      ⟨⟨rfl, ho2⟩, ⟨bK, bR, bS⟩, hB2'⟩ ?a1 ?assign ?body ?done ?stop
    case assign =>
      intro l k W K hk hK
      simp only [numAt]
      gi_wp2
      exact hK
    case body =>
      rintro l k W hl2 hr ⟨⟨hf, ho⟩, ⟨bK1, bR1, bS1⟩, hB⟩ hlt hsW
      have cK := bK1.cell
      have cS := bS1.cell
      have cR := bR1.cell
      have fR := bR1.frozen
      have Hs := Lib.hid (fineTo_succ p.length p k)
      have Hf := Lib.hid hf
      have hsh : w.heap.size + 1 + 1 < w1.heap.size := by omega
      clear hf
      have hkR : ∀ (v : Value), Kps (Band (fun b => b < w.heap.size) W0.heap.size (W0.heap.size + 2 + 0)) W (W.setCell ⟨w.heap.size + 1, 0, none⟩ v) := fun v => Kps.setCell _ _ _ _ (not_band (by omega) (by omega))
      have HkR := Lib.hid hkR
      clear hkR
      have bad : (decide (0 ≤ nth p k ∧ nth p k < (p.length : Int)) && !metIn p k (nth p k)) = false → ordOk p.length p = false := fun h => by
        unfold ordOk; rw [fineTo_false hlt h]; simp
      by_cases h0 : nth p k < 0
      · have Hb := Lib.hid (bad (by simp; omega))
        clear bad
        gi_wp2
        exact ⟨HkR.out _, ⟨⟨rfl, Hb.out⟩, bR1.set _⟩, hB.setCell (p := ⟨w.heap.size + 1, 0, none⟩) (by show w.heap.size ≤ w.heap.size + 1; omega) _⟩
      by_cases h1 : (p.length : Int) ≤ nth p k
      · have Hb := Lib.hid (bad (by simp; omega))
        clear bad
        gi_wp2
        exact ⟨HkR.out _, ⟨⟨rfl, Hb.out⟩, bR1.set _⟩, hB.setCell (p := ⟨w.heap.size + 1, 0, none⟩) (by show w.heap.size ≤ w.heap.size + 1; omega) _⟩
      obtain ⟨m, hm⟩ : ∃ m : Nat, nth p k = m := ⟨(nth p k).toNat, by omega⟩
      have hmn : m < p.length := by omega
      have HL := Lib.hid (metL_succ (n := p.length) hlt hm)
      rw [hm] at bad h0 h1 ⊢
      have Hm := Lib.hid hm
      clear hm
      cases hmet : metIn p k (m : Int)
      · have hcm := ho.cellAt (j := m) (by rw [metL_at hmn, hmet])
        have hfm := ho.frozen m
        have hf2 : fineTo p.length p (k + 1) = true := by rw [Hs.out, Hf.out, Hm.out, hmet]; simp; omega
        have Hf2 := Lib.hid hf2
        clear hmet hf2 bad
        gi_wp2
        exact ⟨Kps.setCell _ _ _ _ (not_band (by omega) (by omega)), ⟨Hf2.out, by rw [HL.out]; exact ho.stored m true⟩, ⟨bK1.kept (grownBy_setCell2 _ _ _ _) (by simp; try omega), bR1.kept (grownBy_setCell2 _ _ _ _) (by simp; try omega), bS1.kept (grownBy_setCell2 _ _ _ _) (by simp; omega)⟩, hB.setCell (p := ⟨w.heap.size + 1 + 1, m, none⟩) (by show w.heap.size ≤ w.heap.size + 1 + 1; omega) _⟩
      · have hcm := ho.cellAt (j := m) (by rw [metL_at hmn, hmet])
        have Hb := Lib.hid (bad (by rw [hmet]; simp))
        clear hmet bad
        gi_wp2
        exact ⟨HkR.out _, ⟨⟨rfl, Hb.out⟩, bR1.set _⟩, hB.setCell (p := ⟨w.heap.size + 1, 0, none⟩) (by show w.heap.size ≤ w.heap.size + 1; omega) _⟩
    case done =>
      rintro D W hD ⟨⟨hf, ho⟩, ⟨bK1, bR1, bS1⟩, hB⟩ hK
      have Hok := Lib.hid (show ordOk p.length p = true by unfold ordOk; rw [hf]; simp)
      have cR := bR1.cell
      have fR := bR1.frozen
      clear hf
      gi_wp2
      have hK' := (KeepsOthers.setCell W ⟨w.heap.size + 1, 0, none⟩ (.bool true)).same D _ hK rfl
      have cR2 := (boxed_shut (bR1.set (.bool true)) hK').cell
      exact retM1 hK' ⟨.bool true, by simp [results, Try.f93, go_sem, cR2], ret_bool Hok.out.symm, below_shut (hB.setCell (p := ⟨w.heap.size + 1, 0, none⟩) (by show w.heap.size ≤ w.heap.size + 1; omega) _) (by omega)⟩
    case stop =>
      rintro D c k W hD hk ⟨⟨⟨rfl, hs⟩, bR1⟩, hB1⟩ hK
      gi_wp2
      have cR2 := (boxed_shut bR1 hK).cell
      exact retM1 hK ⟨.bool false, by simp [results, Try.f93, go_sem, cR2], ret_bool hs.symm, below_shut hB1 (by omega)⟩
  · have hbad : ordOk n p = false := by unfold ordOk; rw [decide_eq_false he]; simp
    have Hbad := Lib.hid hbad
    have hq : ((p.length : Int) != (n : Int)) = true := by rw [bne_iff_ne]; omega
    clear he hbad
    refine callsIn_of_wp_marks Try.func93 rfl trivial ?_ rfl
    simp only [Try.ntmps93, List.size_toArray, List.length_cons, List.length_nil, Nat.reduceAdd, Nat.reduceSub, Array.replicate_succ, Array.replicate_zero, List.push_toArray, List.append_toArray, List.nil_append, List.cons_append]
    gi_wp2_with fail
    exact retM0 ⟨_, by simp [results, Try.f93, go_sem], ret_bool Hbad.out.symm, ((Below.refl _ w).alloc (Nat.le_refl _) _).alloc (by simp) _⟩

/-! ### RenumberTasks -/
theorem boxed_setFar {W : World} {B b j : Nat} {t : TypeId} {v u : Value} (h : Boxed W B t v) (hne : B ≠ b) : Boxed (W.setCell ⟨b, j, none⟩ u) B t v := h.kept (grownBy_setCell2 W b j u) (by simpa using hne)
def renC (zs p : List Int) : Int := if tasksOk zs then if ordOk zs.length p then 0 else 2 else 1
def renR (zs p : List Int) : List Int := if renC zs p = 0 then putTo zs p zs.length else []
theorem renC_zero {zs p : List Int} (h : renC zs p = 0) : tasksOk zs = true ∧ ordOk zs.length p = true := by
  unfold renC at h; split at h
  · split at h
    · exact ⟨by assumption, by assumption⟩
    · cases h
  · cases h
theorem renR_len (zs p : List Int) : (renR zs p).length * 8 ≤ 140737488351232 := by
  unfold renR; split
  · rename_i h
    have := tasksOk_len (renC_zero h).1
    rw [putTo_length]; omega
  · simp
theorem ordOk_len {n : Nat} {p : List Int} (h : ordOk n p = true) : p.length = n ∧ fineTo n p p.length = true := by
  unfold ordOk at h; rw [Bool.and_eq_true, decide_eq_true_eq] at h; exact h
theorem ret_t2 {v : Value} {a a' : Int} (h : a = a') : Ending.returned (.tuple #[.agg #[v], .int .i64 a]) = .returned (.tuple #[.agg #[v], .int .i64 a']) := by rw [h]

end Go.Proofs.Ytmmpoaphjjpjaaa
