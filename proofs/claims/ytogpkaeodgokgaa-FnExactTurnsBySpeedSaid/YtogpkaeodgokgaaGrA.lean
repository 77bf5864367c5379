/-
  Heights of the program, as arrays of eight int64s: the array of a list and the list of an array; byPlantOf, grown, without, numbers.
  Conditions: lists of at most eight numbers, heights far from the ends of int64.
-/
import Derived.Test.YtogpkaeodgokgaaShift
import Derived.Test.YtogpkaeodgokgaaRen
import Derived.Test.YtogpkaeodgokgaaGrI
import Derived.Test.YtogpkaeodgokgaaGrS
import Derived.Laws.Cover3
namespace Go.Proofs.Ytogpkaeodgokgaa
open Go.RowKit Go.Shelf
attribute [local go_sem] Oper.semAt_some

/-! ### arrays -/
/-- the cells of the array of a list: zeros behind its end -/
def ceI (xs : List Int) : Array Value := #[.int .i64 (nth xs 0), .int .i64 (nth xs 1), .int .i64 (nth xs 2), .int .i64 (nth xs 3), .int .i64 (nth xs 4), .int .i64 (nth xs 5), .int .i64 (nth xs 6), .int .i64 (nth xs 7)]
def arI (xs : List Int) : Value := .agg (ceI xs)
/-- the block b is a variable that holds the array of xs -/
def ArI (W : World) (b : Nat) (xs : List Int) : Prop := W.heap[b]? = some (.cells (ceI xs) 90 (0, 0))
theorem ceI_at {xs : List Int} {i : Nat} (h : i < 8) : (ceI xs)[i]? = some (.int .i64 (nth xs i)) := by
  have : i = 0 ∨ i = 1 ∨ i = 2 ∨ i = 3 ∨ i = 4 ∨ i = 5 ∨ i = 6 ∨ i = 7 := by omega
  rcases this with h | h | h | h | h | h | h | h <;> subst h <;> rfl
theorem ceI_ext {xs ys : List Int} (h : ∀ i, i < 8 → nth xs i = nth ys i) : ceI xs = ceI ys := by
  unfold ceI
  rw [h 0 (by omega), h 1 (by omega), h 2 (by omega), h 3 (by omega), h 4 (by omega), h 5 (by omega), h 6 (by omega), h 7 (by omega)]
theorem ceI_inj {xs ys : List Int} (h : ceI xs = ceI ys) {i : Nat} (hi : i < 8) : nth xs i = nth ys i := by
  have h1 := ceI_at (xs := xs) hi
  have h2 := ceI_at (xs := ys) hi
  rw [h, h2] at h1
  simpa using h1.symm
theorem ArI.lt {W : World} {b : Nat} {xs : List Int} (h : ArI W b xs) : b < W.heap.size := (Array.getElem?_eq_some_iff.1 h).1
theorem ArI.cell {W : World} {b : Nat} {xs : List Int} (h : ArI W b xs) {i : Nat} (hi : i < 8) : W.cell? ⟨b, i, none⟩ = some (.int .i64 (nth xs i)) := by
  simp [World.cell?, show W.heap[b]? = _ from h, ceI_at hi]
theorem ArI.frozen {W : World} {b : Nat} {xs : List Int} (h : ArI W b xs) (i : Nat) : W.frozen? ⟨b, i, none⟩ = false := by simp [World.frozen?, show W.heap[b]? = _ from h]
theorem ArI.new (W : World) (xs : List Int) : ArI (W.alloc (.cells (ceI xs) 90)) W.heap.size xs := World.alloc_heap_new W _
theorem ArI.kept {W W' : World} {row : Option Nat} {b : Nat} {xs : List Int} (h : ArI W b xs) (hg : W.grownBy W' row) (hne : some b ≠ row) : ArI W' b xs := (hg.block b h.lt hne).trans h
theorem ArI.alloc {W : World} {b : Nat} {xs : List Int} (h : ArI W b xs) (o : Obj) : ArI (W.alloc o) b xs := h.kept (World.grownBy_alloc W o none) (by simp)
theorem ArI.below {n : Nat} {W W' : World} {b : Nat} {xs : List Int} (h : ArI W b xs) (hb : Below n W W') (hn : b < n) : ArI W' b xs := (hb.block b hn).trans h
theorem ArI.later {W W' : World} {b : Nat} {xs : List Int} (h : ArI W b xs) (hb : Below W.heap.size W W') : ArI W' b xs := (hb.block b h.lt).trans h
theorem ArI.ext {W : World} {b : Nat} {xs ys : List Int} (h : ArI W b xs) (he : ∀ i, i < 8 → nth xs i = nth ys i) : ArI W b ys := by unfold ArI; rw [← ceI_ext he]; exact h
theorem ceI_set {xs ys : List Int} {i : Nat} {u : Int} (hy : ∀ j, j < 8 → nth ys j = if j = i then u else nth xs j) : (ceI xs).setIfInBounds i (.int .i64 u) = ceI ys := by
  refine Array.ext (by simp [ceI]) fun j h1 h2 => ?_
  have hj : j < 8 := by simpa [ceI] using h2
  have e1 := ceI_at (xs := xs) hj
  have e2 := ceI_at (xs := ys) hj
  rw [Array.getElem?_eq_getElem h2, hy j hj] at e2
  rw [Array.getElem?_eq_getElem (by simpa using h1)] at e1
  rw [Array.getElem_setIfInBounds]
  simp only [Option.some.injEq] at e1 e2
  rw [e2]
  by_cases h : i = j
  · subst h; rw [if_pos rfl, if_pos rfl]
  · rw [if_neg h, if_neg (fun e => h e.symm)]; exact e1
theorem ArI.set {W : World} {b : Nat} {xs ys : List Int} {i : Nat} {u : Int} (h : ArI W b xs) (hy : ∀ j, j < 8 → nth ys j = if j = i then u else nth xs j) : ArI (W.setCell ⟨b, i, none⟩ (.int .i64 u)) b ys := by
  obtain ⟨hlt, hk⟩ := Array.getElem?_eq_some_iff.1 h
  show (W.heap.modify b _)[b]? = _
  rw [Array.getElem?_eq_getElem (by rw [Array.size_modify]; exact hlt), Array.getElem_modify_self, hk]
  simp only [Option.isSome_none, Bool.false_eq_true, if_false]
  rw [ceI_set hy]
theorem ArI.other {W : World} {b b' i : Nat} {xs : List Int} (h : ArI W b xs) (hne : b ≠ b') (u : Value) : ArI (W.setCell ⟨b', i, none⟩ u) b xs := h.kept (grownBy_setCell2 W b' i u) (by simpa using hne)
theorem arI_own {β : Type} (b : Nat) (f : β → List Int) : Own (fun s W => ArI W b (f s)) := fun s X Y row hs hg hrow =>
  hs.kept hg (fun e' => by obtain ⟨o, ho, hc⟩ := hrow b e'.symm; rw [show X.heap[b]? = _ from hs] at ho; cases ho; cases hc)
theorem arI_shut {W : World} {b D : Nat} {xs : List Int} (h : ArI W b xs) (hK : W.heap[D]? = some (.deferred (some []))) : ArI (W.putObj D (.deferred none)) b xs :=
  (World.putObj_heap_other (by rintro rfl; rw [show W.heap[b]? = _ from h] at hK; cases hK)).trans h
def mixI (xs ys : List Int) (k : Nat) : List Int := (List.range 8).map fun (i : Nat) => if i < k then nth ys i else nth xs i
theorem nth_mixI {xs ys : List Int} {k j : Nat} (h : j < 8) : nth (mixI xs ys k) j = if j < k then nth ys j else nth xs j := by simp [nth, mixI, h]
theorem ArI.mix {W : World} {b : Nat} {xs ys : List Int} {k : Nat} (h : ArI W b (mixI xs ys k)) (_hk : k < 8) : ArI (W.setCell ⟨b, k, none⟩ (.int .i64 (nth ys k))) b (mixI xs ys (k + 1)) :=
  h.set fun j hj => by
    rw [nth_mixI hj, nth_mixI hj]
    by_cases e : j = k
    · subst e; rw [if_pos rfl, if_pos (by omega)]
    · rw [if_neg e]
      by_cases e2 : j < k
      · rw [if_pos e2, if_pos (by omega)]
      · rw [if_neg e2, if_neg (by omega)]
/-- the world in which the array of ys has been stored into the variable b -/
def stoI (W : World) (b : Nat) (ys : List Int) : World := ((((((((W.setCell ⟨b, 0, none⟩ (.int .i64 (nth ys 0))).setCell ⟨b, 1, none⟩ (.int .i64 (nth ys 1))).setCell ⟨b, 2, none⟩ (.int .i64 (nth ys 2))).setCell ⟨b, 3, none⟩ (.int .i64 (nth ys 3))).setCell ⟨b, 4, none⟩ (.int .i64 (nth ys 4))).setCell ⟨b, 5, none⟩ (.int .i64 (nth ys 5))).setCell ⟨b, 6, none⟩ (.int .i64 (nth ys 6))).setCell ⟨b, 7, none⟩ (.int .i64 (nth ys 7)))
theorem ArI.storedI {W : World} {b : Nat} {xs : List Int} (ys : List Int) (h : ArI W b xs) : ArI (stoI W b ys) b ys := by
  have h0 : ArI W b (mixI xs ys 0) := h.ext fun i hi => by rw [nth_mixI hi, if_neg (by omega)]
  have h1 := h0.mix (by omega)
  have h2 := h1.mix (by omega)
  have h3 := h2.mix (by omega)
  have h4 := h3.mix (by omega)
  have h5 := h4.mix (by omega)
  have h6 := h5.mix (by omega)
  have h7 := h6.mix (by omega)
  have h8 := h7.mix (by omega)
  unfold stoI
  exact h8.ext fun i hi => by rw [nth_mixI hi, if_pos hi]
theorem grownBy_stoI (W : World) (b : Nat) (ys : List Int) : W.grownBy (stoI W b ys) (some b) :=
  (((((((grownBy_setCell2 W b 0 _).trans (grownBy_setCell2 _ b 1 _)).trans (grownBy_setCell2 _ b 2 _)).trans (grownBy_setCell2 _ b 3 _)).trans (grownBy_setCell2 _ b 4 _)).trans (grownBy_setCell2 _ b 5 _)).trans (grownBy_setCell2 _ b 6 _)).trans (grownBy_setCell2 _ b 7 _)
theorem below_stoI {n : Nat} {w W : World} {b : Nat} (ys : List Int) (h : Below n w W) (hb : n ≤ b) (hn : n ≤ w.heap.size) : Below n w (stoI W b ys) := by
  have hg := grownBy_stoI W b ys
  exact ⟨hg.os.trans h.os, hg.tape.trans h.tape, hg.output.trans h.output, Nat.le_trans h.size hg.size, fun k hk => (hg.block k (Nat.lt_of_lt_of_le hk (Nat.le_trans hn h.size)) (fun e => by cases e; omega)).trans (h.block k hk)⟩
theorem def_stoI {W : World} {b D : Nat} {xs : List Int} (ys : List Int) (h : ArI W b xs) (hK : W.heap[D]? = some (.deferred (some []))) : (stoI W b ys).heap[D]? = some (.deferred (some [])) :=
  ((grownBy_stoI W b ys).block D (Array.getElem?_eq_some_iff.1 hK).1 (fun e => by cases e; rw [show W.heap[_]? = _ from h] at hK; cases hK)).trans hK


/-! ### lists, one behind the other -/
def catI (ls : Nat → List Int) : Nat → List Int
  | 0 => []
  | k + 1 => catI ls k ++ ls k

set_option maxRecDepth 100000 in
set_option maxHeartbeats 8000000 in
theorem concatI_c (N : Nat) (ls : Nat → List Int) (bs os cp : Nat → Nat) (w : World) (bk : Nat) (hbk : bk < w.heap.size)
    (hc : ∀ k, k < N → w.cell? ⟨bk, k, none⟩ = some (.slice (some ⟨bs k, os k, none⟩) (ls k).length (cp k))) (hI : ∀ k, k < N → Ints w.heap.size w (.slice (some ⟨bs k, os k, none⟩) (ls k).length (cp k)) (ls k))
    (hN : N ≤ 1000) (h0 : 0 < (catI ls N).length) (hb : ∀ k, k ≤ N → (catI ls k).length ≤ 1000) :
    Calls Try.prog 123 #[.slice (some ⟨bk, 0, none⟩) N N] w (GivesI w (catI ls N) id) := by
  obtain ⟨i0, hi0, hz0, hz1, hz2⟩ := info_parts Try.infoI
  have Hc := Lib.hid hc
  have HI := Lib.hid hI
  have Hb := Lib.hid hb
  clear hc hI hb
  go_enter Try.func123, Try.ntmps123
  go_wp2_with fail
  go_loop [3, 11] (fun s i => ∃ k : Nat, k ≤ N ∧ i = .int .i64 k ∧ s = .int .i64 ((catI ls k).length : Nat)) (fun _ i => N - (intOf i).toNat)
  case atStart => exact ⟨0, by omega, rfl, rfl⟩
  case round =>
    obtain ⟨k, hk, rfl, rfl⟩ := hrel
    have hbk2 := Hb.out k hk
    obtain ⟨q, hq⟩ : ∃ q, (catI ls k).length = q := ⟨_, rfl⟩
    have Hq := Lib.hid hq
    rw [hq] at hbk2 ⊢
    clear hq
    by_cases hlt : k < N
    · have hck := Hc.out k hlt
      have hk1 := Hb.out (k + 1) (by omega)
      have hkl : (catI ls (k + 1)).length = q + (ls k).length := by rw [← Hq.out]; simp [catI]
      rw [hkl] at hk1
      have Hkl := Lib.hid hkl
      have hltI : (k : Int) < (N : Int) := by omega
      have hw : IntKind.i64.wrap ((q : Int) + ((ls k).length : Int)) = ((q + (ls k).length : Nat) : Int) := by rw [IntKind.wrap_i64]; omega
      clear hkl
      go_wp2
      exact ⟨⟨k + 1, by omega, by simp, by rw [Hkl.out]; simp⟩, by simp [intOf]; omega⟩
    · obtain rfl : k = N := by omega
      have hq0 : 0 < q := by rw [← Hq.out]; exact h0
      go_wp2_with fail
      refine (growNil_c q w hq0 (by omega)).mono ?_
      rintro e w1 ⟨v, rfl, ho, hB⟩
      simp only [id]
      go_wp2
      go_loopw [6, 27] (fun v i wr => ∃ j : Nat, j ≤ k ∧ i = .int .i64 j ∧ OwnI w.heap.size wr v (catI ls j) ∧ Below w.heap.size w wr) (fun _ i _ => k - (intOf i).toNat)
      case atStart => exact ⟨0, by omega, rfl, ho, hB⟩
      case round =>
        obtain ⟨j, hj, rfl, hoj, hBj⟩ := hrel
        clear ho hB
        have hsw := hBj.size
        have hbj := Hb.out j hj
        by_cases hlj : j < k
        · have hcj := (hBj.cell (p := ⟨bk, j, none⟩) hbk).trans (Hc.out j hlj)
          have hIj := (HI.out j hlj).below hBj
          have hbj1 := Hb.out (j + 1) (by omega)
          have hkl : (catI ls (j + 1)).length = (catI ls j).length + (ls j).length := by simp [catI]
          rw [hkl] at hbj1
          have hltJ : (j : Int) < (k : Int) := by omega
          have Hnx := Lib.hid (show catI ls (j + 1) = catI ls j ++ ls j from rfl)
          have hb5 : ∀ j, u6.ownBlock = some j → w.heap.size ≤ j := fun j e => (hoj.blk j e).1
          have Hb5 := Lib.hid hb5
          clear hkl hb5
          go_wp2_with (at_builtin; refine wpList_append_own _ rfl _ _ 22 rfl w.heap.size 2 i0 (.int .i64 0) 1 8 Try.underlying22 hi0 hz0 hz1 hz2 rfl (by decide) _ _ _ rfl hoj ⟨bs j, os j, none⟩ (ls j).length (cp j) ((ls j).map (.int .i64)) rfl (by simp) (cells_src hIj) (cells_one _) (by unfold maxLen; omega) (by omega) hsw ?_)
          intro v' w3 hown' hgrow _
          have ho3 := ownI_app hown'
          rw [← Hnx.out] at ho3
          have hB3 : Below w.heap.size w w3 := hBj.grown hgrow hsw (fun j e => Hb5.out j e)
          clear hown' hgrow
          go_wp2
          go_roundw
          case rel => exact ⟨j + 1, by omega, by simp, ho3, hB3⟩
          case measure => simp [intOf]; omega
        · obtain rfl : j = k := by omega
          go_wp2
          go_ret
          exact ⟨_, rfl, hoj, hBj⟩

/-! ### the array of a list -/
set_option maxRecDepth 100000 in
set_option maxHeartbeats 8000000 in
theorem byPlantOf_c (c0 : Value) (rs : List Int) (w : World) (hI : Ints w.heap.size w c0 rs) (h0 : 1 ≤ rs.length) (h8 : rs.length ≤ 8) :
    Calls Try.prog 89 #[c0] w fun e w' => e = .returned (arI rs) ∧ Below w.heap.size w w' := by
  obtain ⟨i0, hi, hz0, hz1, hz2⟩ := info_parts Try.infoI
  obtain ⟨a, cap, rfl⟩ := hI.shape
  obtain ⟨b, off, rfl, hb, _⟩ := hI.at_ (show 0 < rs.length by omega)
  go_enter Try.func89, Try.ntmps89
  go_wp2_with (at_make; refine wpList_make_full _ rfl (.const (.int .i64 8)) (.const (.int .i64 8)) 22 rfl (w.heap.size + 1) 2 i0 (.int .i64 0) 1 Try.underlying22 hi hz0 hz1 .i64 .i64 _ _ 8 rfl rfl rfl rfl ?c1 ?c2 ?c3 ?_)
  case c1 => rw [hz2]; omega
  case c2 => unfold maxLen; omega
  case c3 => simp
  intro w1 hown hgrow
  have hz8 := ownI_made hown
  have hB0 : Below w.heap.size w (w.alloc (.cells #[.int .i64 0, .int .i64 0, .int .i64 0, .int .i64 0, .int .i64 0, .int .i64 0, .int .i64 0, .int .i64 0] 90)) := (Below.refl _ w).alloc (Nat.le_refl _) _
  have bR : ArI (w.alloc (.cells #[.int .i64 0, .int .i64 0, .int .i64 0, .int .i64 0, .int .i64 0, .int .i64 0, .int .i64 0, .int .i64 0] 90)) w.heap.size [] := ArI.new w []
  have hB1 : Below w.heap.size w w1 := hB0.grown hgrow (by simp) (by simp)
  have bR1 := bR.kept hgrow (by simp)
  have hs1 : w.heap.size + 1 ≤ w1.heap.size := by have := hgrow.size; simpa using this
  clear hown hgrow hB0 bR
  obtain ⟨ls, hls⟩ : ∃ ls : Nat → List Int, ls = fun k => if k = 0 then rs else List.replicate 8 0 := ⟨_, rfl⟩
  obtain ⟨Wb, hWb⟩ : ∃ Wb, w1.alloc (.cells #[.slice (some ⟨b, off, none⟩) rs.length cap, .slice (some ⟨w.heap.size + 1, 0, none⟩) 8 8] 22) = Wb := ⟨_, rfl⟩
  have hBb : Below w1.heap.size w1 Wb := by rw [← hWb]; exact (Below.refl _ _).alloc (Nat.le_refl _) _
  have c0 : Wb.cell? ⟨w1.heap.size, 0, none⟩ = some (.slice (some ⟨b, off, none⟩) rs.length cap) := by rw [← hWb]; simp [go_sem]
  have c1 : Wb.cell? ⟨w1.heap.size, 1, none⟩ = some (.slice (some ⟨w.heap.size + 1, 0, none⟩) 8 8) := by rw [← hWb]; simp [go_sem]
  have hsb : w1.heap.size + 1 ≤ Wb.heap.size := by rw [← hWb]; simp
  have e0 : ls 0 = rs := by rw [hls]; rfl
  have e1 : ls 1 = List.replicate 8 0 := by rw [hls]; rfl
  have ecat : catI ls 2 = rs ++ List.replicate 8 0 := by simp [catI, e0, e1]
  have hcc := concatI_c 2 ls (fun k => if k = 0 then b else w.heap.size + 1) (fun k => if k = 0 then off else 0) (fun k => if k = 0 then cap else 8) Wb w1.heap.size (by omega)
    (fun k hk => by
      match k, hk with
      | 0, _ => rw [c0, e0]; rfl
      | 1, _ => rw [c1, e1]; rfl)
    (fun k hk => by
      match k, hk with
      | 0, _ => rw [e0]; exact (hI.later hB1).later hBb
      | 1, _ => rw [e1, List.length_replicate]; exact (hz8.below hBb).ints)
    (by omega) (by rw [ecat]; simp) (fun k hk => by
      match k, hk with
      | 0, _ => simp [catI]
      | 1, _ => simp [catI, e0]; omega
      | 2, _ => simp [catI, e0, e1]; omega)
  rw [ecat] at hcc
  clear hI c0 c1 e0 e1 ecat
  go_wp2_with fail
  refine hcc.mono ?_
  rintro e w2 ⟨v, rfl, ho, hB2⟩
  simp only [id]
  have hB3 : Below w.heap.size w w2 := hB1.trans ((hBb.mono hB1.size).trans (hB2.mono (by omega)))
  have bR2 : ArI w2 w.heap.size [] := (bR1.later hBb).later hB2
  have hll : (rs ++ List.replicate 8 0).length = rs.length + 8 := by simp
  obtain ⟨g, cap2, rfl, hg, _⟩ := ho.shape (by rw [hll]; omega)
  have hat : ∀ w, (Instr.arrayAt 90 (.slice (some ⟨g, 0, none⟩) (rs ++ List.replicate 8 0).length cap2)).run Try.prog w = .ok (.pointer (some ⟨g, 0, none⟩)) w := fun w => run_arrayAt w 90 _ 8 _ _ cap2 Try.underlying90 (by rw [hll]; omega)
  have hcell : ∀ i, i < 8 → w2.cell? ⟨g, i, none⟩ = some (.int .i64 (nth rs i)) := fun i hi => by
    rw [ho.cellAt (by rw [hll]; omega)]
    congr 2
    by_cases h : i < rs.length
    · rw [nth_append_left h]
    · rw [nth_append_right (by omega), nth_zeros, nth_end (by omega)]
  have q0 := hcell 0 (by omega)
  have q1 := hcell 1 (by omega)
  have q2 := hcell 2 (by omega)
  have q3 := hcell 3 (by omega)
  have q4 := hcell 4 (by omega)
  have q5 := hcell 5 (by omega)
  have q6 := hcell 6 (by omega)
  have q7 := hcell 7 (by omega)
  obtain ⟨n, hn⟩ : ∃ n, (rs ++ List.replicate 8 0).length = n := ⟨_, rfl⟩
  rw [hn] at hat
  rw [hn]
  have cR0 := bR2.cell (i := 0) (by omega)
  have cR1 := bR2.cell (i := 1) (by omega)
  have cR2 := bR2.cell (i := 2) (by omega)
  have cR3 := bR2.cell (i := 3) (by omega)
  have cR4 := bR2.cell (i := 4) (by omega)
  have cR5 := bR2.cell (i := 5) (by omega)
  have cR6 := bR2.cell (i := 6) (by omega)
  have cR7 := bR2.cell (i := 7) (by omega)
  have fR0 := bR2.frozen 0
  have fR1 := bR2.frozen 1
  have fR2 := bR2.frozen 2
  have fR3 := bR2.frozen 3
  have fR4 := bR2.frozen 4
  have fR5 := bR2.frozen 5
  have fR6 := bR2.frozen 6
  have fR7 := bR2.frozen 7
  clear hcell ho hcc hn hll hB1 hBb hB2 hWb hz8 bR1
  go_wp2
  obtain ⟨W1, hW1⟩ : ∃ W1, ((((((((w2.setCell ⟨w.heap.size, 0, none⟩ (.int .i64 (nth rs 0))).setCell ⟨w.heap.size, 1, none⟩ (.int .i64 (nth rs 1))).setCell ⟨w.heap.size, 2, none⟩ (.int .i64 (nth rs 2))).setCell ⟨w.heap.size, 3, none⟩ (.int .i64 (nth rs 3))).setCell ⟨w.heap.size, 4, none⟩ (.int .i64 (nth rs 4))).setCell ⟨w.heap.size, 5, none⟩ (.int .i64 (nth rs 5))).setCell ⟨w.heap.size, 6, none⟩ (.int .i64 (nth rs 6))).setCell ⟨w.heap.size, 7, none⟩ (.int .i64 (nth rs 7))) = W1 := ⟨_, rfl⟩
  have hE : stoI w2 w.heap.size rs = W1 := hW1
  rw [hW1]
  clear hW1
  have bR3 : ArI W1 w.heap.size rs := by rw [← hE]; exact ArI.storedI rs bR2
  have hB4 : Below w.heap.size w W1 := by rw [← hE]; exact below_stoI rs hB3 (Nat.le_refl _) (Nat.le_refl _)
  clear hE
  clear cR0 cR1 cR2 cR3 cR4 cR5 cR6 cR7 fR0 fR1 fR2 fR3 fR4 fR5 fR6 fR7
  have cR0 := bR3.cell (i := 0) (by omega)
  have cR1 := bR3.cell (i := 1) (by omega)
  have cR2 := bR3.cell (i := 2) (by omega)
  have cR3 := bR3.cell (i := 3) (by omega)
  have cR4 := bR3.cell (i := 4) (by omega)
  have cR5 := bR3.cell (i := 5) (by omega)
  have cR6 := bR3.cell (i := 6) (by omega)
  have cR7 := bR3.cell (i := 7) (by omega)
  exact bodyPost_ret (v := arI rs) (by simp [results, Try.results89, go_sem, cR0, cR1, cR2, cR3, cR4, cR5, cR6, cR7]; rfl) rfl ⟨rfl, hB4⟩

/-! ### a cut -/
set_option maxRecDepth 100000 in
set_option maxHeartbeats 8000000 in
theorem without_c (xs ys : List Int) (c : Int) (w : World) (h0 : -1 ≤ c) (h1 : c < 8) (hy : ∀ i : Nat, i < 8 → nth ys i = if c = (i : Int) then 0 else nth xs i) :
    Calls Try.prog 100 #[arI xs, .int .i64 c] w fun e w' => e = .returned (arI ys) ∧ Below w.heap.size w w' := by
  have fin : ∀ (W : World), Below w.heap.size w W → ArI W w.heap.size ys → ArI W (w.heap.size + 1) [] → ∃ W1, stoI W (w.heap.size + 1) ys = W1 ∧ ArI W1 (w.heap.size + 1) ys ∧ Below w.heap.size w W1 := fun W hB _ b2 =>
    ⟨_, rfl, ArI.storedI ys b2, below_stoI ys hB (by omega) (Nat.le_refl _)⟩
  obtain ⟨W0, hW0⟩ : ∃ W0, (w.alloc (.cells (ceI xs) 90)).alloc (.cells (ceI []) 90) = W0 := ⟨_, rfl⟩
  have hB0 : Below w.heap.size w W0 := by rw [← hW0]; exact ((Below.refl _ w).alloc (Nat.le_refl _) _).alloc (by simp) _
  have bH : ArI W0 w.heap.size xs := by rw [← hW0]; exact (ArI.new w xs).alloc _
  have bR : ArI W0 (w.heap.size + 1) [] := by rw [← hW0]; simpa using ArI.new (w.alloc (.cells (ceI xs) 90)) []
  have hW1 : (w.alloc (.cells #[.int .i64 (nth xs 0), .int .i64 (nth xs 1), .int .i64 (nth xs 2), .int .i64 (nth xs 3), .int .i64 (nth xs 4), .int .i64 (nth xs 5), .int .i64 (nth xs 6), .int .i64 (nth xs 7)] 90)).alloc (.cells #[.int .i64 0, .int .i64 0, .int .i64 0, .int .i64 0, .int .i64 0, .int .i64 0, .int .i64 0, .int .i64 0] 90) = W0 := hW0
  have Hfin := Lib.hid fin
  have Hy := Lib.hid hy
  clear hW0 fin hy
  unfold arI ceI
  by_cases hc : c = -1
  · subst hc
    have e : ∀ i, i < 8 → nth xs i = nth ys i := fun i hi => by rw [Hy.out i hi, if_neg (by omega)]
    have bH2 := bH.ext e
    obtain ⟨W1, hE, bR3, hB3⟩ := Hfin.out W0 hB0 bH2 bR
    have cH0 := bH2.cell (i := 0) (by omega)
    have cH1 := bH2.cell (i := 1) (by omega)
    have cH2 := bH2.cell (i := 2) (by omega)
    have cH3 := bH2.cell (i := 3) (by omega)
    have cH4 := bH2.cell (i := 4) (by omega)
    have cH5 := bH2.cell (i := 5) (by omega)
    have cH6 := bH2.cell (i := 6) (by omega)
    have cH7 := bH2.cell (i := 7) (by omega)
    have cR0 := bR.cell (i := 0) (by omega)
    have cR1 := bR.cell (i := 1) (by omega)
    have cR2 := bR.cell (i := 2) (by omega)
    have cR3 := bR.cell (i := 3) (by omega)
    have cR4 := bR.cell (i := 4) (by omega)
    have cR5 := bR.cell (i := 5) (by omega)
    have cR6 := bR.cell (i := 6) (by omega)
    have cR7 := bR.cell (i := 7) (by omega)
    have fR0 := bR.frozen 0
    have fR1 := bR.frozen 1
    have fR2 := bR.frozen 2
    have fR3 := bR.frozen 3
    have fR4 := bR.frozen 4
    have fR5 := bR.frozen 5
    have fR6 := bR.frozen 6
    have fR7 := bR.frozen 7
    clear e bH
    go_enter Try.func100, Try.ntmps100
    go_wp2_with fail
    unfold stoI at hE
    rw [hE]
    clear hE cR0 cR1 cR2 cR3 cR4 cR5 cR6 cR7 fR0 fR1 fR2 fR3 fR4 fR5 fR6 fR7
    have cR0 := bR3.cell (i := 0) (by omega)
    have cR1 := bR3.cell (i := 1) (by omega)
    have cR2 := bR3.cell (i := 2) (by omega)
    have cR3 := bR3.cell (i := 3) (by omega)
    have cR4 := bR3.cell (i := 4) (by omega)
    have cR5 := bR3.cell (i := 5) (by omega)
    have cR6 := bR3.cell (i := 6) (by omega)
    have cR7 := bR3.cell (i := 7) (by omega)
    exact bodyPost_ret (v := arI ys) (by simp [results, Try.results100, go_sem, cR0, cR1, cR2, cR3, cR4, cR5, cR6, cR7]; rfl) rfl ⟨rfl, hB3⟩
  · obtain ⟨j, rfl⟩ : ∃ j : Nat, c = (j : Int) := ⟨c.toNat, by omega⟩
    have hj : j < 8 := by omega
    have bH2 : ArI (W0.setCell ⟨w.heap.size, j, none⟩ (.int .i64 0)) w.heap.size ys := bH.set fun i hi => by
      rw [Hy.out i hi]
      by_cases e : i = j
      · rw [if_pos e, if_pos (by omega)]
      · rw [if_neg e, if_neg (by omega)]
    have bR2 : ArI (W0.setCell ⟨w.heap.size, j, none⟩ (.int .i64 0)) (w.heap.size + 1) [] := bR.other (by omega) _
    obtain ⟨W2, hW2⟩ : ∃ W2, W0.setCell ⟨w.heap.size, j, none⟩ (.int .i64 0) = W2 := ⟨_, rfl⟩
    have hB2 : Below w.heap.size w W2 := by rw [← hW2]; exact hB0.setCell (p := ⟨w.heap.size, j, none⟩) (Nat.le_refl _) _
    rw [hW2] at bH2 bR2
    obtain ⟨W1, hE, bR3, hB3⟩ := Hfin.out W2 hB2 bH2 bR2
    have cj := bH.cell (i := j) hj
    have fj := bH.frozen j
    have hq : ((j : Int) != -1) = true := by rw [bne_iff_ne]; omega
    have hji : (j : Int) < 8 := by omega
    have cH0 := bH2.cell (i := 0) (by omega)
    have cH1 := bH2.cell (i := 1) (by omega)
    have cH2 := bH2.cell (i := 2) (by omega)
    have cH3 := bH2.cell (i := 3) (by omega)
    have cH4 := bH2.cell (i := 4) (by omega)
    have cH5 := bH2.cell (i := 5) (by omega)
    have cH6 := bH2.cell (i := 6) (by omega)
    have cH7 := bH2.cell (i := 7) (by omega)
    have cR0 := bR2.cell (i := 0) (by omega)
    have cR1 := bR2.cell (i := 1) (by omega)
    have cR2 := bR2.cell (i := 2) (by omega)
    have cR3 := bR2.cell (i := 3) (by omega)
    have cR4 := bR2.cell (i := 4) (by omega)
    have cR5 := bR2.cell (i := 5) (by omega)
    have cR6 := bR2.cell (i := 6) (by omega)
    have cR7 := bR2.cell (i := 7) (by omega)
    have fR0 := bR2.frozen 0
    have fR1 := bR2.frozen 1
    have fR2 := bR2.frozen 2
    have fR3 := bR2.frozen 3
    have fR4 := bR2.frozen 4
    have fR5 := bR2.frozen 5
    have fR6 := bR2.frozen 6
    have fR7 := bR2.frozen 7
    unfold stoI at hE
    clear bH bH2 bR2 bR hB2 hB0 hc
    go_enter Try.func100, Try.ntmps100
    go_wp2_with fail
    try rw [hE]
    clear hE cR0 cR1 cR2 cR3 cR4 cR5 cR6 cR7 fR0 fR1 fR2 fR3 fR4 fR5 fR6 fR7
    have cR0 := bR3.cell (i := 0) (by omega)
    have cR1 := bR3.cell (i := 1) (by omega)
    have cR2 := bR3.cell (i := 2) (by omega)
    have cR3 := bR3.cell (i := 3) (by omega)
    have cR4 := bR3.cell (i := 4) (by omega)
    have cR5 := bR3.cell (i := 5) (by omega)
    have cR6 := bR3.cell (i := 6) (by omega)
    have cR7 := bR3.cell (i := 7) (by omega)
    exact bodyPost_ret (v := arI ys) (by simp [results, Try.results100, go_sem, cR0, cR1, cR2, cR3, cR4, cR5, cR6, cR7]; rfl) rfl ⟨rfl, hB3⟩

/-! ### days without cuts -/
set_option maxRecDepth 100000 in
set_option maxHeartbeats 8000000 in
theorem grown_c (xs rs ys : List Int) (d : Int) (w : World) (hx : ∀ i : Nat, 0 ≤ nth xs i ∧ nth xs i ≤ 100000) (hr : ∀ i : Nat, 0 ≤ nth rs i ∧ nth rs i ≤ 20) (hd0 : 0 ≤ d) (hd1 : d ≤ 200) (hy : ∀ i : Nat, i < 8 → nth ys i = nth xs i + d * nth rs i) :
    Calls Try.prog 90 #[arI xs, arI rs, .int .i64 d] w fun e w' => e = .returned (arI ys) ∧ Below w.heap.size w w' := by
  have hfw : Try.prog.follows Departure.mixedOrders = true := by kernel_rfl
  obtain ⟨W0, hW0⟩ : ∃ W0, ((w.alloc (.cells (ceI xs) 90)).alloc (.cells (ceI rs) 90)).alloc (.cells (ceI []) 90) = W0 := ⟨_, rfl⟩
  have hB0 : Below w.heap.size w W0 := by rw [← hW0]; exact (((Below.refl _ w).alloc (Nat.le_refl _) _).alloc (by simp) _).alloc (by simp; omega) _
  have bH : ArI W0 w.heap.size xs := by rw [← hW0]; exact ((ArI.new w xs).alloc _).alloc _
  have bS : ArI W0 (w.heap.size + 1) rs := by rw [← hW0]; simpa using (ArI.new (w.alloc (.cells (ceI xs) 90)) rs).alloc (.cells (ceI []) 90)
  have bR : ArI W0 (w.heap.size + 1 + 1) [] := by rw [← hW0]; simpa using ArI.new ((w.alloc (.cells (ceI xs) 90)).alloc (.cells (ceI rs) 90)) []
  have hW1 : ((w.alloc (.cells #[.int .i64 (nth xs 0), .int .i64 (nth xs 1), .int .i64 (nth xs 2), .int .i64 (nth xs 3), .int .i64 (nth xs 4), .int .i64 (nth xs 5), .int .i64 (nth xs 6), .int .i64 (nth xs 7)] 90)).alloc (.cells #[.int .i64 (nth rs 0), .int .i64 (nth rs 1), .int .i64 (nth rs 2), .int .i64 (nth rs 3), .int .i64 (nth rs 4), .int .i64 (nth rs 5), .int .i64 (nth rs 6), .int .i64 (nth rs 7)] 90)).alloc (.cells #[.int .i64 0, .int .i64 0, .int .i64 0, .int .i64 0, .int .i64 0, .int .i64 0, .int .i64 0, .int .i64 0] 90) = W0 := hW0
  have bH0 : ArI W0 w.heap.size (mixI xs ys 0) := bH.ext fun i hi => by rw [nth_mixI hi, if_neg (by omega)]
  have Hx := Lib.hid hx
  have Hr := Lib.hid hr
  have Hy := Lib.hid hy
  clear hW0 bH hx hr hy
  unfold arI
  rw [show ceI xs = #[.int .i64 (nth xs 0), .int .i64 (nth xs 1), .int .i64 (nth xs 2), .int .i64 (nth xs 3), .int .i64 (nth xs 4), .int .i64 (nth xs 5), .int .i64 (nth xs 6), .int .i64 (nth xs 7)] from rfl, show ceI rs = #[.int .i64 (nth rs 0), .int .i64 (nth rs 1), .int .i64 (nth rs 2), .int .i64 (nth rs 3), .int .i64 (nth rs 4), .int .i64 (nth rs 5), .int .i64 (nth rs 6), .int .i64 (nth rs 7)] from rfl]
  go_enter Try.func90, Try.ntmps90
  go_wp2_with fail
  go_loopw [8] (fun i wr => ∃ k : Nat, k ≤ 8 ∧ i = .int .i64 k ∧ ArI wr w.heap.size (mixI xs ys k) ∧ ArI wr (w.heap.size + 1) rs ∧ ArI wr (w.heap.size + 1 + 1) [] ∧ Below w.heap.size w wr) (fun i _ => 8 - (intOf i).toNat)
  case atStart => exact ⟨0, Nat.zero_le _, rfl, bH0, bS, bR, hB0⟩
  case round =>
    obtain ⟨k, hk, rfl, h1, h2, h3, hB⟩ := hrel
    clear bH0 bS bR hB0 hW1
    by_cases hlt : k < 8
    · have hki : (k : Int) < 8 := by omega
      have e1 := h1.cell (i := k) hlt
      rw [nth_mixI hlt, if_neg (by omega)] at e1
      have f1 := h1.frozen k
      have e2 := h2.cell (i := k) hlt
      have hx1 := Hx.out k
      have hr1 := Hr.out k
      have hm := mul_bd (r := nth rs k) hd0 hd1 hr1.1 hr1.2
      have hyk := Hy.out k hlt
      obtain ⟨q, hq⟩ : ∃ q : Int, d * nth rs k = q := ⟨_, rfl⟩
      rw [hq] at hm hyk
      have hq2 : nth rs k * d = q := by rw [Int.mul_comm]; exact hq
      have hwp : IntKind.i64.wrap q = q := by rw [IntKind.wrap_i64]; omega
      have hws : IntKind.i64.wrap (nth xs k + q) = nth xs k + q := by rw [IntKind.wrap_i64]; omega
      have Hyk := Lib.hid hyk
      clear hyk hq
      go_wp2_with fail
      refine wp_region_held_drew (S := fun w' => ArI w' (w.heap.size + 1) rs ∧ Below w.heap.size w w') hfw ⟨h2.later (Below.refl _ _).drew, hB.drew⟩ ?_
      intro hS0
      refine wpAnyH_take (i := 0) (v := ?vs1q0) rfl (by kernel_rfl) (by kernel_rfl) (by kernel_rfl) (fun _ _ _ h => h) (.inl ⟨by first | kernel_rfl | rfl, ?ys1q0⟩) hS0 ?_
      case ys1q0 =>
        intro w' hS
        (have k1 := hS.1.cell (i := k) hlt; clear hS)
        go_simp
        try with_reducible rfl
      refine wpAnyH_take (i := 1) (v := ?vs1q1) rfl (by kernel_rfl) (by kernel_rfl) (by kernel_rfl) (fun _ _ _ h => h) (.inl ⟨by first | kernel_rfl | rfl, ?ys1q1⟩) hS0 ?_
      case ys1q1 =>
        intro w' hS
        (have k1 := hS.1.cell (i := k) hlt; clear hS)
        go_simp
        try with_reducible rfl
      refine wpAnyH_take (i := 3) (v := ?vs1q3) rfl (by kernel_rfl) (by kernel_rfl) (by kernel_rfl) (fun _ _ _ h => h) (.inl ⟨by first | kernel_rfl | rfl, ?ys1q3⟩) hS0 ?_
      case ys1q3 =>
        intro w' hS
        (have k1 := hS.1.cell (i := k) hlt; clear hS)
        go_simp
        try with_reducible rfl
      refine wpAnyH_take (i := 4) (v := ?vs1q4) rfl (by kernel_rfl) (by kernel_rfl) (by kernel_rfl) (fun _ _ _ h => h) (.inl ⟨by first | kernel_rfl | rfl, ?ys1q4⟩) hS0 ?_
      case ys1q4 =>
        intro w' hS
        (have k1 := hS.1.cell (i := k) hlt; clear hS)
        go_simp
        try with_reducible rfl
      refine wpAnyH_take (i := 5) (v := ?vs1q5) rfl (by kernel_rfl) (by kernel_rfl) (by kernel_rfl) (fun _ _ _ h => h) (.inl ⟨by first | kernel_rfl | rfl, ?ys1q5⟩) hS0 ?_
      case ys1q5 =>
        intro w' hS
        (have k1 := hS.1.cell (i := k) hlt; clear hS)
        go_simp
        try with_reducible rfl
      refine wpAnyH_take (i := 6) (v := ?vs1q6) rfl (by kernel_rfl) (by kernel_rfl) (by kernel_rfl) (fun _ _ _ h => h) (.inl ⟨by first | kernel_rfl | rfl, ?ys1q6⟩) hS0 ?_
      case ys1q6 =>
        intro w' hS
        (have k1 := hS.1.cell (i := k) hlt; clear hS)
        go_simp
        try with_reducible rfl
      refine wpAnyH_take (i := 7) (v := (.int .i64 q)) rfl (by kernel_rfl) (by kernel_rfl) (by kernel_rfl) (fun _ _ _ h => h) (.inl ⟨by first | kernel_rfl | rfl, ?ys2q7⟩) hS0 ?_
      case ys2q7 =>
        intro w' hS
        (clear hS)
        go_simp
        first | done | (simp; done) | (simp; omega) | omega | (simp [*]; done)
      have e1d : wr.drew.cell? ⟨w.heap.size, k, none⟩ = some (.int .i64 (nth xs k)) := (Below.cell (B := wr.heap.size) (Below.refl _ _).drew (p := ⟨w.heap.size, k, none⟩) h1.lt).trans e1
      refine wpAnyH_ready (rs := [2]) (by kernel_rfl) (by simp) ?_
      refine AllReadyH.cons rfl (fun K' hK' => ?_) AllReadyH.nil
      rw [if_pos (by first | kernel_rfl | rfl)]
      go_simp
      refine hK'.out _ _ hS0 fun hS2 => ?_
      refine wpAnyH_take (i := 8) (v := (.int .i64 (nth xs k + q))) rfl (by kernel_rfl) (by kernel_rfl) (by kernel_rfl) (fun _ _ _ h => h) (.inl ⟨by first | kernel_rfl | rfl, ?ys4q8⟩) hS2 ?_
      case ys4q8 =>
        intro w' hS
        (clear hS)
        go_simp
        first | done | (simp; done) | (simp; omega) | omega | (simp [*]; done)
      refine wpAnyH_take (i := 9) (v := ?vs3q9) rfl (by kernel_rfl) (by kernel_rfl) (by kernel_rfl) (fun _ _ _ h => h) (.inl ⟨by first | kernel_rfl | rfl, ?ys3q9⟩) hS2 ?_
      case ys3q9 =>
        intro w' hS
        (clear hS)
        go_simp
        try with_reducible rfl
      refine wpAnyH_ready (rs := [10]) (by kernel_rfl) (by simp) ?_
      refine AllReadyH.cons rfl (fun K' hK' => ?_) AllReadyH.nil
      rw [if_pos (by first | kernel_rfl | rfl)]
      go_simp
      have g1 := h1.mix hlt
      rw [Hyk.out] at g1
      have g2 := h2.other (b' := w.heap.size) (i := k) (by omega) (.int .i64 (nth xs k + q))
      have g3 := h3.other (b' := w.heap.size) (i := k) (by omega) (.int .i64 (nth xs k + q))
      have gB := (hB.setCell (p := ⟨w.heap.size, k, none⟩) (Nat.le_refl _) (.int .i64 (nth xs k + q))).drew
      obtain ⟨W5, hW5⟩ : ∃ W5, (wr.setCell ⟨w.heap.size, k, none⟩ (.int .i64 (nth xs k + q))).drew = W5 := ⟨_, rfl⟩
      replace g1 : ArI W5 w.heap.size (mixI xs ys (k + 1)) := by rw [← hW5]; exact g1.later (Below.refl _ _).drew
      replace g2 : ArI W5 (w.heap.size + 1) rs := by rw [← hW5]; exact g2.later (Below.refl _ _).drew
      replace g3 : ArI W5 (w.heap.size + 1 + 1) [] := by rw [← hW5]; exact g3.later (Below.refl _ _).drew
      rw [hW5] at gB ⊢
      clear hW5 h1 h2 h3 hB hS0 hS2 e1 f1 e2 e1d
      refine hK'.out _ _ ⟨g2, gB⟩ fun hS3 => ?_
      refine wpAnyH_done (by kernel_rfl) ?_ _
      clear hS3
      go_wp2
      go_roundw
      case rel => exact ⟨k + 1, by omega, by simp, g1, g2, g3, gB⟩
      case measure => simp [intOf]; omega
    · obtain rfl : k = 8 := by omega
      have bH : ArI wr w.heap.size ys := h1.ext fun i hi => by rw [nth_mixI hi, if_pos hi]
      have bR3 : ArI (stoI wr (w.heap.size + 1 + 1) ys) (w.heap.size + 1 + 1) ys := ArI.storedI ys h3
      have hB3 := below_stoI ys hB (b := w.heap.size + 1 + 1) (by omega) (Nat.le_refl _)
      obtain ⟨W1, hE⟩ : ∃ W1, stoI wr (w.heap.size + 1 + 1) ys = W1 := ⟨_, rfl⟩
      rw [hE] at bR3 hB3
      unfold stoI at hE
      have cH0 := bH.cell (i := 0) (by omega)
      have cH1 := bH.cell (i := 1) (by omega)
      have cH2 := bH.cell (i := 2) (by omega)
      have cH3 := bH.cell (i := 3) (by omega)
      have cH4 := bH.cell (i := 4) (by omega)
      have cH5 := bH.cell (i := 5) (by omega)
      have cH6 := bH.cell (i := 6) (by omega)
      have cH7 := bH.cell (i := 7) (by omega)
      have cR0 := h3.cell (i := 0) (by omega)
      have cR1 := h3.cell (i := 1) (by omega)
      have cR2 := h3.cell (i := 2) (by omega)
      have cR3 := h3.cell (i := 3) (by omega)
      have cR4 := h3.cell (i := 4) (by omega)
      have cR5 := h3.cell (i := 5) (by omega)
      have cR6 := h3.cell (i := 6) (by omega)
      have cR7 := h3.cell (i := 7) (by omega)
      have fR0 := h3.frozen 0
      have fR1 := h3.frozen 1
      have fR2 := h3.frozen 2
      have fR3 := h3.frozen 3
      have fR4 := h3.frozen 4
      have fR5 := h3.frozen 5
      have fR6 := h3.frozen 6
      have fR7 := h3.frozen 7
      clear h1 h2 h3 hB bH
      go_wp2
      try rw [hE]
      clear hE cR0 cR1 cR2 cR3 cR4 cR5 cR6 cR7 fR0 fR1 fR2 fR3 fR4 fR5 fR6 fR7
      have cR0 := bR3.cell (i := 0) (by omega)
      have cR1 := bR3.cell (i := 1) (by omega)
      have cR2 := bR3.cell (i := 2) (by omega)
      have cR3 := bR3.cell (i := 3) (by omega)
      have cR4 := bR3.cell (i := 4) (by omega)
      have cR5 := bR3.cell (i := 5) (by omega)
      have cR6 := bR3.cell (i := 6) (by omega)
      have cR7 := bR3.cell (i := 7) (by omega)
      exact bodyPost_ret (v := arI ys) (by simp [results, Try.results90, go_sem, cR0, cR1, cR2, cR3, cR4, cR5, cR6, cR7]; rfl) rfl ⟨rfl, hB3⟩

/-! ### the list of an array -/
set_option maxRecDepth 100000 in
set_option maxHeartbeats 8000000 in
theorem numbers_c2 (xs : List Int) (c1 : Value) (rs : List Int) (w : World) (hI : Ints w.heap.size w c1 rs) (h0 : 1 ≤ rs.length) (h8 : rs.length ≤ 8) (hl : xs.length = rs.length) :
    Calls Try.prog 91 #[arI xs, .agg #[c1]] w (GivesI w xs id) := by
  obtain ⟨a, cap, rfl⟩ := hI.shape
  obtain ⟨W0, hW0⟩ : ∃ W0, (w.alloc (.cells (ceI xs) 90)).alloc (.cells #[.slice a rs.length cap] 48) = W0 := ⟨_, rfl⟩
  have hB0 : Below w.heap.size w W0 := by rw [← hW0]; exact ((Below.refl _ w).alloc (Nat.le_refl _) _).alloc (by simp) _
  have bH : ArI W0 w.heap.size xs := by rw [← hW0]; exact (ArI.new w xs).alloc _
  have bG : Boxed W0 (w.heap.size + 1) 48 (.slice a rs.length cap) := by rw [← hW0]; simpa using Boxed.new (w.alloc (.cells (ceI xs) 90)) 48 (.slice a rs.length cap)
  have hW1 : (w.alloc (.cells #[.int .i64 (nth xs 0), .int .i64 (nth xs 1), .int .i64 (nth xs 2), .int .i64 (nth xs 3), .int .i64 (nth xs 4), .int .i64 (nth xs 5), .int .i64 (nth xs 6), .int .i64 (nth xs 7)] 90)).alloc (.cells #[.slice a rs.length cap] 48) = W0 := hW0
  have kG := bG.cell
  have hIx : Ints W0.heap.size W0 (.slice (some ⟨w.heap.size, 0, none⟩) xs.length 8) xs := ⟨_, _, rfl, .inr ⟨w.heap.size, 0, rfl, bH.lt, fun j hj => by rw [Nat.zero_add]; exact bH.cell (by omega)⟩⟩
  have hci : (rs.length : Int) ≤ 8 := by omega
  rw [hl] at hIx
  clear hW0
  unfold arI
  rw [show ceI xs = #[.int .i64 (nth xs 0), .int .i64 (nth xs 1), .int .i64 (nth xs 2), .int .i64 (nth xs 3), .int .i64 (nth xs 4), .int .i64 (nth xs 5), .int .i64 (nth xs 6), .int .i64 (nth xs 7)] from rfl]
  go_enter Try.func91, Try.ntmps91
  go_wp2_with fail
  refine (clone_c _ xs W0 hIx (by omega) (by omega)).mono ?_
  rintro e w2 ⟨v, rfl, ho, hB2⟩
  simp only [id]
  go_wp2
  go_ret
  exact ⟨_, rfl, ho.base hB0.size, hB0.trans (hB2.mono hB0.size)⟩

end Go.Proofs.Ytogpkaeodgokgaa
