/-
  FoldTasks of both: slices.Concat of two lists; folded gaps.
  Conditions: lists of at most 1048576 elements.
-/
import Derived.Test.YtoflgfenlbibpaaRen
import Derived.Test.YtoflgfenlbibpaaShift
namespace Go.Proofs.Ytoflgfenlbibpaa
open Go.RowKit Go.Shelf
attribute [local go_sem] Oper.semAt_some

/-- the first k of two lists, one behind the other -/
def catTo (xs ys : List Int) : Nat → List Int
  | 0 => []
  | 1 => xs
  | _ => xs ++ ys
def foldOk (zs : List Int) (i j : Int) : Bool := decide (0 ≤ i) && decide (i < j) && decide (j < zs.length)
def foldM (zs : List Int) (i j : Int) : Int := min (nth zs i.toNat) (nth zs j.toNat)
def foldC (zs : List Int) (i j : Int) : Int := if tasksOk zs then (if foldOk zs i j then (if foldM zs i j = 1 then 5 else 0) else 2) else 1
def foldG (zs : List Int) (i j : Int) : List Int := (zs.take j.toNat ++ zs.drop (j.toNat + 1)).set i.toNat (foldM zs i j / 2)
def foldR (zs : List Int) (i j : Int) : List Int := if foldC zs i j = 0 then foldG zs i j else []
theorem foldR_len (zs : List Int) (i j : Int) : (foldR zs i j).length * 8 ≤ 140737488351232 := by
  unfold foldR
  split
  · rename_i h
    have ht : tasksOk zs = true := by
      cases e : tasksOk zs
      · unfold foldC at h; rw [e] at h; simp at h
      · rfl
    have := tasksOk_len ht
    unfold foldG; rw [List.length_set, List.length_append, List.length_take, List.length_drop]; omega
  · simp

set_option maxRecDepth 100000 in
set_option maxHeartbeats 8000000 in
theorem concat_c (a a2 : Option Addr) (cap cap2 : Nat) (xs ys : List Int) (w : World) (hX : Ints w.heap.size w (.slice a xs.length cap) xs) (hY : Ints w.heap.size w (.slice a2 ys.length cap2) ys) (b2 o2 : Nat) (ha2 : a2 = some ⟨b2, o2, none⟩) (h0 : 0 < xs.length) (hl : xs.length ≤ 1048576) (hl2 : ys.length ≤ 1048576) (bk : Nat) (hbk : bk < w.heap.size)
    (h1 : w.cell? ⟨bk, 0, none⟩ = some (.slice a xs.length cap)) (h2 : w.cell? ⟨bk, 1, none⟩ = some (.slice a2 ys.length cap2)) :
    Calls Try.prog 180 #[.slice (some ⟨bk, 0, none⟩) 2 2] w (GivesI w (xs ++ ys) id) := by
  obtain ⟨i0, hi, hz0, hz1, hz2⟩ := info_parts Try.infoI2
  subst ha2
  obtain ⟨b, off, ea, hb, _⟩ := hX.at_ h0
  subst ea
  have g1 : ∀ W : World, Below w.heap.size w W → W.cell? ⟨bk, 0, none⟩ = some (.slice (some ⟨b, off, none⟩) xs.length cap) := fun W hW => (hW.cell (p := ⟨bk, 0, none⟩) hbk).trans h1
  have g2 : ∀ W : World, Below w.heap.size w W → W.cell? ⟨bk, 1, none⟩ = some (.slice (some ⟨b2, o2, none⟩) ys.length cap2) := fun W hW => (hW.cell (p := ⟨bk, 1, none⟩) hbk).trans h2
  have G1 := Lib.hid g1
  have G2 := Lib.hid g2
  clear g1 g2
  go_enter Try.func180, Try.ntmps180
  go_wp2_with fail
  go_loop [3, 11] (fun s i => (i = .int .i64 0 ∧ s = .int .i64 0) ∨ (i = .int .i64 1 ∧ s = .int .i64 (xs.length : Nat)) ∨ (i = .int .i64 2 ∧ s = .int .i64 (xs.length + ys.length : Nat))) (fun _ i => 2 - (intOf i).toNat)
  case atStart => exact .inl ⟨rfl, rfl⟩
  case round =>
    rcases hrel with ⟨rfl, rfl⟩ | ⟨rfl, rfl⟩ | ⟨rfl, rfl⟩
    · go_wp2
      exact ⟨.inr (.inl ⟨rfl, rfl⟩), by simp [intOf]⟩
    · have e : (xs.length : Int) + (ys.length : Int) = ((xs.length + ys.length : Nat) : Int) := by simp
      obtain ⟨q, hq⟩ : ∃ q : Int, ((xs.length + ys.length : Nat) : Int) = q := ⟨_, rfl⟩
      rw [hq] at e
      have Hq := Lib.hid hq
      have hq0 : 0 ≤ q := by omega
      clear hq
      go_wp2
      exact ⟨.inr (.inr ⟨rfl, by rw [Hq.out]⟩), by simp [intOf]⟩
    · go_wp2_with fail
      refine (growNil_c (xs.length + ys.length) w (by omega) (by omega)).mono ?_
      rintro e w1 ⟨v, rfl, ho, hB⟩
      simp only [id]
      clear h1 h2
      go_wp2
      go_loopw [6, 27] (fun v i wr => ∃ k : Nat, k ≤ 2 ∧ i = .int .i64 k ∧ OwnI w.heap.size wr v (catTo xs ys k) ∧ Below w.heap.size w wr) (fun _ i _ => 2 - (intOf i).toNat)
      case atStart => exact ⟨0, by omega, rfl, ho, hB⟩
      case round =>
        obtain ⟨k, hk, rfl, hok, hBk⟩ := hrel
        have hsw := hBk.size
        by_cases hk0 : k = 0
        · subst hk0
          have hc := G1.out wr hBk
          have hIk := hX.below hBk
          go_wp2_with (at_builtin; refine wpList_append_own _ rfl _ _ 24 rfl w.heap.size 2 i0 (.int .i64 0) 1 8 Try.underlying24 hi hz0 hz1 hz2 rfl (by decide) _ _ _ rfl hok ⟨b, off, none⟩ xs.length cap (xs.map (.int .i64)) rfl (by simp) (cells_src hIk) (cells_one xs) (by unfold maxLen; simp [catTo]; omega) (by simp [catTo]; omega) hsw ?_)
          intro v' w3 hown' hgrow _
          have ho3 : OwnI w.heap.size w3 v' (catTo xs ys 1) := by
            have := ownI_app (xs := []) (ys := xs) hown'
            simpa [catTo] using this
          have hB3 : Below w.heap.size w w3 := hBk.grown hgrow hsw (fun j e => (hok.blk j e).1)
          clear hown' hgrow
          go_wp2
          go_roundw
          case rel => exact ⟨1, by omega, rfl, ho3, hB3⟩
          case measure => simp [intOf]
        · by_cases hk1 : k = 1
          · subst hk1
            have hc := G2.out wr hBk
            have hIk := hY.below hBk
            go_wp2_with (at_builtin; refine wpList_append_own _ rfl _ _ 24 rfl w.heap.size 2 i0 (.int .i64 0) 1 8 Try.underlying24 hi hz0 hz1 hz2 rfl (by decide) _ _ _ rfl hok ⟨b2, o2, none⟩ ys.length cap2 (ys.map (.int .i64)) rfl (by simp) (cells_src hIk) (cells_one ys) (by unfold maxLen; simp [catTo]; omega) (by simp [catTo]; omega) hsw ?_)
            intro v' w3 hown' hgrow _
            have ho3 : OwnI w.heap.size w3 v' (catTo xs ys 2) := ownI_app (xs := xs) (ys := ys) hown'
            have hB3 : Below w.heap.size w w3 := hBk.grown hgrow hsw (fun j e => (hok.blk j e).1)
            clear hown' hgrow
            go_wp2
            go_roundw
            case rel => exact ⟨2, by omega, rfl, ho3, hB3⟩
            case measure => simp [intOf]
          · obtain rfl : k = 2 := by omega
            go_wp2
            go_ret
            exact ⟨_, rfl, hok, hBk⟩

theorem ownI_ne_box2 {B b : Nat} {W : World} {v u : Value} {zs : List Int} (h : OwnI B W v zs) (hb : Boxed W b 26 u) : v.ownBlock ≠ some b := by
  intro e
  obtain ⟨_, h2⟩ := h
  rcases h2 with ⟨rfl, _⟩ | ⟨g, cap, cur, rfl, _, hh, _⟩
  · simp [Value.ownBlock] at e
  · obtain rfl : g = b := by simpa [Value.ownBlock] using e
    have := hh.symm.trans hb
    simp at this

/-! ### the model -/
set_option maxRecDepth 100000 in
set_option maxHeartbeats 8000000 in
theorem s_FoldTasks (c0 : Value) (zs : List Int) (i j : Int) (w : World) (hI : Ints w.heap.size w c0 zs) (_hN : I64s zs) (hm : zs.length ≤ 1048576) (hC : CapOk c0 zs.length) (hvi : I64 i) (hvj : I64 j) :
    Calls Try.prog 85 #[.agg #[c0], .int .i64 i, .int .i64 j] w (GivesI w (foldR zs i j) fun v => .tuple #[.agg #[v], .int .i64 (foldC zs i j)]) := by
  obtain ⟨i0, hi, hz0, hz1, hz2⟩ := info_parts Try.infoI2
  obtain ⟨a, cap, rfl⟩ := hI.shape
  obtain ⟨hi0, hi1⟩ := hvi
  obtain ⟨hj0, hj1⟩ := hvj
  have hw0 : IntKind.i64.wrap ((zs.length : Int) - 1) = (zs.length : Int) - 1 := by rw [IntKind.wrap_i64]; omega
  go_enter Try.func85, Try.ntmps85
  go_wp2_with fail
  obtain ⟨W0, hW1⟩ : ∃ W0, ((w.alloc (.cells #[.slice a zs.length cap] 26)).alloc (.cells #[.slice none 0 0] 26)) = W0 := ⟨_, rfl⟩
  have hB1 : Below w.heap.size w W0 := by rw [← hW1]; exact (((Below.refl _ w).alloc (Nat.le_refl _) _).alloc (by simp; try omega) _)
  have hs1 : w.heap.size + 2 ≤ W0.heap.size := by rw [← hW1]; simp
  have bT : Boxed W0 (w.heap.size) 26 (.slice a zs.length cap) := by rw [← hW1]; repeat first | (refine boxed_at ?_; (simp; done)) | refine Boxed.alloc ?_ _
  have bQ : Boxed W0 (w.heap.size + 1) 26 (.slice none 0 0) := by rw [← hW1]; repeat first | (refine boxed_at ?_; (simp; done)) | refine Boxed.alloc ?_ _
  rw [hW1]
  clear hW1
  refine (l01Is_c _ zs _ (hI.later hB1) (by omega)).mono ?_
  rintro e w1 ⟨rfl, hb⟩
  have hB2 := hB1.trans (hb.mono (by omega))
  have hs2 := hb.size
  replace bT := boxed_later bT hb
  replace bQ := boxed_later bQ hb
  have cT := bT.cell
  have cQ := bQ.cell
  have fQ := bQ.frozen
  clear hb hB1
  cases ht : tasksOk zs
  · have Hc := Lib.hid (show foldC zs i j = 1 by unfold foldC; rw [ht]; rfl)
    have Hr := Lib.hid (show foldR zs i j = [] by unfold foldR; rw [Hc.out]; rfl)
    clear ht
    go_wp2_with fail
    have k1 := (bQ.set (.slice none 0 0)).cell
    exact bodyPost_ret (v := .tuple #[.agg #[.slice none 0 0], .int .i64 1]) (by simp [results, Try.f85, go_sem, k1]) rfl ⟨_, ret_t2 Hc.out.symm, by rw [Hr.out]; exact ownI_nil _ _, hB2.setCell (p := ⟨w.heap.size + 1, 0, none⟩) (by show w.heap.size ≤ w.heap.size + 1; omega) _⟩
  · have hl := tasksOk_len ht
    have Ht := Lib.hid ht
    clear ht
    go_wp2_with fail
    refine (l01K_c _ _ _ _).mono ?_
    rintro e w2 ⟨rfl, rfl⟩
    obtain ⟨w2, hW3⟩ : ∃ w2, (w1.alloc (.cells #[.slice a zs.length cap] 26)) = w2 := ⟨_, rfl⟩
    have hB3 : Below w1.heap.size w1 w2 := by rw [← hW3]; exact ((Below.refl _ w1).alloc (Nat.le_refl _) _)
    have hs3 : w1.heap.size + 1 ≤ w2.heap.size := by rw [← hW3]; simp
    rw [hW3]
    clear hW3
    have hB4 := hB2.trans (hB3.mono hB2.size)
    replace bT := boxed_later bT hB3
    replace bQ := boxed_later bQ hB3
    clear hB3 hB2
    have cT := bT.cell
    have cQ := bQ.cell
    have fQ := bQ.frozen
    by_cases hin : 0 ≤ i ∧ i ≤ (zs.length : Int) - 1
    · have Hi1 := Lib.hid (show inB i 0 ((zs.length : Int) - 1) = true from inB_true.2 hin)
      go_wp2_with fail
      refine (l01In_d true _ _ _ _ Hi1.out).mono ?_
      rintro e w3 ⟨rfl, rfl⟩
      have hw1 : IntKind.i64.wrap (i + 1) = i + 1 := by rw [IntKind.wrap_i64]; omega
      go_wp2_with fail
      refine (l01K_c _ _ _ _).mono ?_
      rintro e w5 ⟨rfl, rfl⟩
      obtain ⟨w5, hW5⟩ : ∃ w5, (w2.alloc (.cells #[.slice a zs.length cap] 26)) = w5 := ⟨_, rfl⟩
      have hB5 : Below w2.heap.size w2 w5 := by rw [← hW5]; exact ((Below.refl _ w2).alloc (Nat.le_refl _) _)
      have hs5 : w2.heap.size + 1 ≤ w5.heap.size := by rw [← hW5]; simp
      rw [hW5]
      clear hW5
      have hB6 := hB4.trans (hB5.mono hB4.size)
      replace bT := boxed_later bT hB5
      replace bQ := boxed_later bQ hB5
      clear hB5 hB4 cT cQ fQ
      have cT := bT.cell
      have cQ := bQ.cell
      have fQ := bQ.frozen
      by_cases hjn : i + 1 ≤ j ∧ j ≤ (zs.length : Int) - 1
      · have Hi2 := Lib.hid (show inB j (i + 1) ((zs.length : Int) - 1) = true from inB_true.2 hjn)
        go_wp2_with fail
        refine (l01In_d true _ _ _ _ Hi2.out).mono ?_
        rintro e w6 ⟨rfl, rfl⟩
        obtain ⟨p, rfl⟩ : ∃ p : Nat, i = p := ⟨i.toNat, by omega⟩
        obtain ⟨q, rfl⟩ : ∃ q : Nat, j = q := ⟨j.toNat, by omega⟩
        obtain ⟨b, off, rfl, hb, hc⟩ := (hI.below hB6).at_ (show 0 < zs.length by omega)
        have hcp := hc p (by omega)
        have hcq := hc q (by omega)
        have hcw : ∀ j, j < zs.length → w.cell? ⟨b, off + j, none⟩ = some (.int .i64 (nth zs j)) := by
          obtain ⟨b2, off2, e2, _, h⟩ := hI.at_ (show 0 < zs.length by omega)
          cases e2
          exact h
        have hcp0 := hcw p (by omega)
        have hcq0 := hcw q (by omega)
        clear hcw
        have hgp := tasksOk_nth Ht.out (show p < zs.length by omega)
        have hgq := tasksOk_nth Ht.out (show q < zs.length by omega)
        have hok : foldOk zs p q = true := by unfold foldOk; simp; omega
        have hM : foldM zs p q = min (nth zs p) (nth zs q) := by unfold foldM; simp
        obtain ⟨x, hx⟩ : ∃ x : Int, nth zs p = x := ⟨_, rfl⟩
        obtain ⟨y, hy⟩ : ∃ y : Int, nth zs q = y := ⟨_, rfl⟩
        rw [hx] at hcp hcp0 hgp hM
        rw [hy] at hcq hcq0 hgq hM
        have Hok := Lib.hid hok
        have HM := Lib.hid hM
        clear hc hok hM hx hy
        by_cases hx1 : x = 1
        · have hb1 : (x == 1) = true := by simpa using hx1
          have Hc := Lib.hid (show foldC zs p q = 5 by unfold foldC; rw [Ht.out, if_pos rfl, if_pos Hok.out, if_pos (by rw [HM.out]; omega)])
          have Hr := Lib.hid (show foldR zs p q = [] by unfold foldR; rw [Hc.out]; rfl)
          go_wp2_with fail
          have k1 := (bQ.set (.slice none 0 0)).cell
          exact bodyPost_ret (v := .tuple #[.agg #[.slice none 0 0], .int .i64 5]) (by simp [results, Try.f85, go_sem, k1]) rfl ⟨_, ret_t2 Hc.out.symm, by rw [Hr.out]; exact ownI_nil _ _, hB6.setCell (p := ⟨w.heap.size + 1, 0, none⟩) (by show w.heap.size ≤ w.heap.size + 1; omega) _⟩
        by_cases hy1 : y = 1
        · have hb1 : (x == 1) = false := by simpa using hx1
          have hb2 : (y == 1) = true := by simpa using hy1
          have Hc := Lib.hid (show foldC zs p q = 5 by unfold foldC; rw [Ht.out, if_pos rfl, if_pos Hok.out, if_pos (by rw [HM.out]; omega)])
          have Hr := Lib.hid (show foldR zs p q = [] by unfold foldR; rw [Hc.out]; rfl)
          go_wp2_with fail
          have k1 := (bQ.set (.slice none 0 0)).cell
          exact bodyPost_ret (v := .tuple #[.agg #[.slice none 0 0], .int .i64 5]) (by simp [results, Try.f85, go_sem, k1]) rfl ⟨_, ret_t2 Hc.out.symm, by rw [Hr.out]; exact ownI_nil _ _, hB6.setCell (p := ⟨w.heap.size + 1, 0, none⟩) (by show w.heap.size ≤ w.heap.size + 1; omega) _⟩
        have hb1 : (x == 1) = false := by simpa using hx1
        have hb2 : (y == 1) = false := by simpa using hy1
        have hc0 : foldC zs p q = 0 := by unfold foldC; rw [Ht.out, if_pos rfl, if_pos Hok.out, if_neg (by rw [HM.out]; omega)]
        have Hc := Lib.hid hc0
        have Hr := Lib.hid (show foldR zs p q = foldG zs p q by unfold foldR; rw [if_pos hc0])
        clear hc0
        go_wp2_with fail
        have hfw : Try.prog.follows Departure.mixedOrders = true := by kernel_rfl
        obtain ⟨_, c', e', hlc, hcm⟩ := hC
        cases e'
        have hqc : q ≤ cap := by omega
        have hqc1 : q + 1 ≤ zs.length := by omega
        have hb2q : (q : Int) + 1 ≤ (zs.length : Int) := by omega
        have hb1q : (0 : Int) ≤ (q : Int) + 1 := by omega
        have hqw : IntKind.i64.wrap ((q : Int) + 1) = (q : Int) + 1 := by rw [IntKind.wrap_i64]; omega
        have hI2 := hI.below hB6
        obtain ⟨o2, ho2, hY⟩ : ∃ o2, (if cap = q + 1 then (some ⟨b, off, none⟩ : Option Addr) else some ⟨b, off + (q + 1), none⟩) = some ⟨b, o2, none⟩ ∧ Ints w.heap.size w5 (.slice (some ⟨b, o2, none⟩) (zs.drop (q + 1)).length (cap - (q + 1))) (zs.drop (q + 1)) := by
          by_cases e : cap = q + 1
          · exact ⟨off, if_pos e, _, _, rfl, .inl (List.drop_eq_nil_iff.2 (by omega))⟩
          · exact ⟨off + (q + 1), if_neg e, ints_drop hI2 (by omega)⟩
        have hX : Ints w.heap.size w5 (.slice (some ⟨b, off, none⟩) q cap) (zs.take q) := ints_take hI2 (by omega)
        have hxl : (zs.take q).length = q := by simp; omega
        have hyl : (zs.drop (q + 1)).length = zs.length - (q + 1) := by simp
        obtain ⟨xs, hxs⟩ : ∃ xs, zs.take q = xs := ⟨_, rfl⟩
        obtain ⟨ys, hys⟩ : ∃ ys, zs.drop (q + 1) = ys := ⟨_, rfl⟩
        have hG : foldG zs p q = (xs ++ ys).set p (min x y / 2) := by unfold foldG; rw [HM.out, ← hxs, ← hys]; simp
        rw [hxs] at hX hxl
        rw [hys] at hY hyl
        obtain ⟨fs, hfs⟩ : ∃ fs, xs ++ ys = fs := ⟨_, rfl⟩
        rw [hfs] at hG
        have HG := Lib.hid hG
        have Hfs := Lib.hid hfs
        have hfl : 0 < fs.length ∧ p < fs.length ∧ fs.length ≤ 8 := by rw [← hfs, List.length_append]; omega
        clear hfs
        have h5 : Below w5.heap.size w5 w5.drew := (Below.refl _ w5).drew
        have hcall : ∀ W, Below w5.heap.size w5 W → Calls Try.prog 112 #[.slice (some ⟨b, off, none⟩) q cap] W (GivesI W xs id) := fun W hW => by
          have hX2 : Ints W.heap.size W (.slice (some ⟨b, off, none⟩) q cap) xs := (hX.below (hW.mono hB6.size)).mono (Nat.le_trans hB6.size hW.size)
          rw [← hxl] at hX2 ⊢
          exact l01OwnS_c b off cap xs W hX2 (by omega)
        have hsrc : ∀ W, Below w5.heap.size w5 W → ∀ j u, (ys.map (Value.int .i64))[j]? = some u → W.cell? ((⟨b, o2, none⟩ : Addr).add j) = some u := fun W hW => cells_src (hY.below (hW.mono hB6.size))
        have Hcall := Lib.hid hcall
        have Hsrc := Lib.hid hsrc
        have Hxl := Lib.hid hxl
        have Hyl := Lib.hid hyl
        have hxyl : xs.length ≤ 8 ∧ ys.length ≤ 8 ∧ 0 < xs.length ∧ p < xs.length := by omega
        clear hcall hsrc hG hxs hys hxl
        refine wp_region_held_drew (S := fun w' => Boxed w' w.heap.size 26 (.slice (some ⟨b, off, none⟩) zs.length cap) ∧ Boxed w' (w.heap.size + 1) 26 (.slice none 0 0) ∧ Below w.heap.size w w' ∧ w5.heap.size ≤ w'.heap.size) hfw ⟨bT, bQ, hB6.drew, Nat.le_refl _⟩ ?_
        intro hS0
        refine wpAnyH_take (i := 0) (v := ?v0) rfl (by kernel_rfl) (by kernel_rfl) (by kernel_rfl) (fun _ _ _ h => h) (.inl ⟨by rfl, ?y0⟩) hS0 ?_
        case y0 =>
          intro w' hS
          (have k1 := hS.1.cell; clear hS)
          go_simp
          try with_reducible rfl
        refine wpAnyH_take (i := 1) (v := ?v1) rfl (by kernel_rfl) (by kernel_rfl) (by kernel_rfl) (fun _ _ _ h => h) (.inl ⟨by rfl, ?y1⟩) hS0 ?_
        case y1 =>
          intro w' hS
          (have k1 := hS.1.cell; clear hS)
          go_simp
          try with_reducible rfl
        refine wpAnyH_take (i := 2) (v := ?v2) rfl (by kernel_rfl) (by kernel_rfl) (by kernel_rfl) (fun _ _ _ h => h) (.inl ⟨by rfl, ?y2⟩) hS0 ?_
        case y2 =>
          intro w' hS
          (have k1 := hS.1.cell; clear hS)
          go_simp
          try with_reducible rfl
        refine wpAnyH_take (i := 3) (v := ?v3) rfl (by kernel_rfl) (by kernel_rfl) (by kernel_rfl) (fun _ _ _ h => h) (.inl ⟨by rfl, ?y3⟩) hS0 ?_
        case y3 =>
          intro w' hS
          (have k1 := hS.1.cell; clear hS)
          go_simp
          try with_reducible rfl
        refine wpAnyH_take (i := 5) (v := ?v5) rfl (by kernel_rfl) (by kernel_rfl) (by kernel_rfl) (fun _ _ _ h => h) (.inl ⟨by rfl, ?y5⟩) hS0 ?_
        case y5 =>
          intro w' hS
          (have k1 := hS.1.cell; clear hS)
          go_simp
          try with_reducible rfl
        refine wpAnyH_take (i := 6) (v := ?v6) rfl (by kernel_rfl) (by kernel_rfl) (by kernel_rfl) (fun _ _ _ h => h) (.inl ⟨by rfl, ?y6⟩) hS0 ?_
        case y6 =>
          intro w' hS
          (have k1 := hS.1.cell; clear hS)
          go_simp
          try with_reducible rfl
        refine wpAnyH_take (i := 7) (v := ?v7) rfl (by kernel_rfl) (by kernel_rfl) (by kernel_rfl) (fun _ _ _ h => h) (.inl ⟨by rfl, ?y7⟩) hS0 ?_
        case y7 =>
          intro w' hS
          (have k1 := hS.1.cell; clear hS)
          go_simp
          try with_reducible rfl
        refine wpAnyH_take (i := 8) (v := ?v8) rfl (by kernel_rfl) (by kernel_rfl) (by kernel_rfl) (fun _ _ _ h => h) (.inl ⟨by rfl, ?y8⟩) hS0 ?_
        case y8 =>
          intro w' hS
          (have k1 := hS.1.cell; clear hS)
          go_simp
          try with_reducible rfl
        refine wpAnyH_take (i := 9) (v := ?v9) rfl (by kernel_rfl) (by kernel_rfl) (by kernel_rfl) (fun _ _ _ h => h) (.inl ⟨by rfl, ?y9⟩) hS0 ?_
        case y9 =>
          intro w' hS
          (have k1 := hS.1.cell; clear hS)
          go_simp
          try with_reducible rfl
        refine wpAnyH_ready (rs := [4, 12]) (by kernel_rfl) (by simp) ?_
        refine AllReadyH.cons rfl (fun K' hK' => ?_) (AllReadyH.cons rfl (fun K' hK' => ?_) AllReadyH.nil)
        · rw [if_pos (by rfl)]
          go_simp
          refine (Hcall.out _ (h5)).mono ?_
          rintro e w7 ⟨v7, rfl, ho7, hb7⟩
          simp only [id]
          obtain ⟨g7, c7, rfl, hg7, hg7'⟩ := ho7.shape hxyl.2.2.1
          have hg7x : w5.heap.size ≤ g7 := hg7
          have t1 := boxed_later hS0.1 hb7
          have t2 := boxed_later hS0.2.1 hb7
          have t3 := hS0.2.2.1.trans (hb7.mono hS0.2.2.1.size)
          have t4 : w5.heap.size ≤ w7.heap.size := Nat.le_trans hS0.2.2.2 hb7.size
          have t5 : Below w5.heap.size w5 w7 := (h5).trans (hb7.mono (h5).size)
          refine hK'.out _ _ ⟨t1, t2, t3, t4⟩ fun hS1 => ?_
          refine wpAnyH_ready (rs := [10, 12]) (by kernel_rfl) (by simp) ?_
          refine AllReadyH.cons rfl (fun K' hK' => ?_) (AllReadyH.cons rfl (fun K' hK' => ?_) AllReadyH.nil)
          · rw [if_pos (by rfl)]
            refine wp_append_own _ (.tmp 52) (.tmp 57) 24 rfl (w5.drew.heap.size) 2 i0 (.int .i64 0) 1 8 Try.underlying24 hi hz0 hz1 hz2 rfl (by decide) _ _ _ rfl (ho7) ⟨b, o2, none⟩ (zs.length - (q + 1)) (cap - (q + 1)) (ys.map (.int .i64)) rfl (by simp; exact Hyl.out) (Hsrc.out _ (t5)) (cells_one ys) (by unfold maxLen; omega) (by omega) (by simp; try omega) ?_
            intro v8 w8 hown' hgrow hfar
            have ho8 : OwnI (w5.drew.heap.size) w8 v8 fs := by rw [← Hfs.out]; exact ownI_app (by rw [Hyl.out]; exact hown')
            obtain ⟨g8, c8, rfl, hg8, hg8'⟩ := ho8.shape hfl.1
            replace hgrow : (w7).grownBy w8 (some g7) := hgrow
            have u1 : Boxed w8 w.heap.size 26 (.slice (some ⟨b, off, none⟩) zs.length cap) := hS1.1.kept hgrow (fun e => by have : w.heap.size = g7 := (by simpa using e); omega)
            have u2 : Boxed w8 (w.heap.size + 1) 26 (.slice none 0 0) := hS1.2.1.kept hgrow (fun e => by have : w.heap.size + 1 = g7 := (by simpa using e); omega)
            have u3 : Below w.heap.size w w8 := hS1.2.2.1.grown hgrow hS1.2.2.1.size (fun j e => by have : g7 = j := (by simpa using e); omega)
            have u4 : w5.heap.size ≤ w8.heap.size := Nat.le_trans hS1.2.2.2 hgrow.size
            have HB := Lib.hid ho8.blk
            clear hown' hfar
            refine hK'.out _ _ ⟨u1, u2, u3, u4⟩ fun hS3 => ?_
            clear hS3
            refine wpAnyH_take (i := 11) (v := ?va11) rfl (by kernel_rfl) (by kernel_rfl) (by kernel_rfl) (fun _ _ _ h => h) (.inl ⟨by rfl, ?ya11⟩) (show _ from ⟨u1, u2, u3, u4⟩) ?_
            case ya11 =>
              intro w' hS
              (clear hS)
              go_simp
              try with_reducible rfl
            refine wpAnyH_ready (rs := [12]) (by kernel_rfl) (by simp) ?_
            refine AllReadyH.cons rfl (fun K' hK' => ?_) AllReadyH.nil
            rw [if_pos (by rfl)]
            go_simp
            refine hK'.out _ _ ⟨u1.alloc _, u2.alloc _, u3.alloc u3.size _, by simp; omega⟩ fun hS4 => ?_
            refine wpAnyH_ready (rs := [13]) (by kernel_rfl) (by simp) ?_
            refine AllReadyH.cons rfl (fun K' hK' => ?_) AllReadyH.nil
            rw [if_pos (by rfl)]
            go_simp
            refine hK'.out _ _ ⟨u1.alloc _, u2.alloc _, u3.alloc u3.size _, by simp; omega⟩ fun hS5 => ?_
            refine wpAnyH_done (by kernel_rfl) ?_ _
            have z1 : Boxed (w8.alloc (.cells #[(.slice (some ⟨g8, 0, none⟩) fs.length c8)] 26)) w.heap.size 26 (.slice (some ⟨b, off, none⟩) zs.length cap) := hS5.1
            have z2 : Boxed (w8.alloc (.cells #[(.slice (some ⟨g8, 0, none⟩) fs.length c8)] 26)) (w.heap.size + 1) 26 (.slice none 0 0) := hS5.2.1
            have z3 : Below w.heap.size w (w8.alloc (.cells #[(.slice (some ⟨g8, 0, none⟩) fs.length c8)] 26)) := hS5.2.2.1
            have zo : OwnI w5.heap.size (w8.alloc (.cells #[(.slice (some ⟨g8, 0, none⟩) fs.length c8)] 26)) (.slice (some ⟨g8, 0, none⟩) fs.length c8) fs := ho8.alloc _
            have zb : Boxed (w8.alloc (.cells #[(.slice (some ⟨g8, 0, none⟩) fs.length c8)] 26)) (w8.heap.size) 26 (.slice (some ⟨g8, 0, none⟩) fs.length c8) := Boxed.new w8 _ _
            have zn : (w8.heap.size) ≠ g8 := fun e => ownI_ne_box2 zo zb (by rw [e]; rfl)
            have zs8 : w.heap.size + 2 ≤ (w8.heap.size) := by omega
            have zg8 : w5.heap.size ≤ g8 := (zo.shape hfl.1).elim fun _ h => by obtain ⟨_, e, h1, _⟩ := h; simp at e; omega
            clear hS5 hgrow
            obtain ⟨Wf, hWf⟩ : ∃ Wf, w8.alloc (.cells #[(.slice (some ⟨g8, 0, none⟩) fs.length c8)] 26) = Wf := ⟨_, rfl⟩
            rw [hWf] at z1 z2 z3 zo zb ⊢
            clear hWf
            obtain ⟨bo, hbo⟩ : ∃ bo, (w8.heap.size) = bo := ⟨_, rfl⟩
            rw [hbo] at zb zn zs8 ⊢
            clear hbo
            have q1 := z1.cell
            have q2 := z2.cell
            have q2f := z2.frozen
            have q3 := zb.cell
            have q3f := zb.frozen
            have q4 : Wf.cell? ⟨b, off + p, none⟩ = some (.int .i64 x) := (z3.cell (p := ⟨b, off + p, none⟩) hb).trans hcp0
            have q5 : Wf.cell? ⟨b, off + q, none⟩ = some (.int .i64 y) := (z3.cell (p := ⟨b, off + q, none⟩) hb).trans hcq0
            have Q4 := Lib.hid q4
            have Q5 := Lib.hid q5
            have q6 := zo.cellAt hfl.2.1
            have q6f := zo.frozen p
            have hzb : b < w.heap.size := hb
            have hpn : p < zs.length := by omega
            have hqn : q < zs.length := by omega
            have hpf : p < fs.length := hfl.2.1
            clear q4 q5
            have hvv : (IntKind.i64.wrap ((if y < x then y else x).tdiv 2)) = min x y / 2 := by
              rw [show (if y < x then y else x) = min x y by omega, Int.tdiv_eq_ediv_of_nonneg (by omega), IntKind.wrap_i64]; omega
            have Hvv := Lib.hid hvv
            clear hvv
            go_wp2_with fail
            refine wp_region_held_drew (S := fun w' => Boxed w' w.heap.size 26 (.slice (some ⟨b, off, none⟩) zs.length cap) ∧ Boxed w' (w.heap.size + 1) 26 (.slice none 0 0) ∧ Boxed w' bo 26 (.slice (some ⟨g8, 0, none⟩) fs.length c8) ∧ Below w.heap.size w w') hfw ⟨z1, z2, zb, z3.drew⟩ ?_
            intro hR0
            refine wpAnyH_take (i := 0) (v := ?vay0) rfl (by kernel_rfl) (by kernel_rfl) (by kernel_rfl) (fun _ _ _ h => h) (.inl ⟨by rfl, ?yay0⟩) hR0 ?_
            case yay0 =>
              intro w' hS
              (have k1 := hS.1.cell; have k2 := hS.2.2.1.cell; have k3 := (hS.2.2.2.cell (p := ⟨b, off + p, none⟩) hzb).trans hcp0; have k4 := (hS.2.2.2.cell (p := ⟨b, off + q, none⟩) hzb).trans hcq0; clear hS)
              go_simp
              try with_reducible rfl
            refine wpAnyH_take (i := 1) (v := ?vay1) rfl (by kernel_rfl) (by kernel_rfl) (by kernel_rfl) (fun _ _ _ h => h) (.inl ⟨by rfl, ?yay1⟩) hR0 ?_
            case yay1 =>
              intro w' hS
              (have k1 := hS.1.cell; have k2 := hS.2.2.1.cell; have k3 := (hS.2.2.2.cell (p := ⟨b, off + p, none⟩) hzb).trans hcp0; have k4 := (hS.2.2.2.cell (p := ⟨b, off + q, none⟩) hzb).trans hcq0; clear hS)
              go_simp
              try with_reducible rfl
            refine wpAnyH_take (i := 2) (v := ?vay2) rfl (by kernel_rfl) (by kernel_rfl) (by kernel_rfl) (fun _ _ _ h => h) (.inl ⟨by rfl, ?yay2⟩) hR0 ?_
            case yay2 =>
              intro w' hS
              (have k1 := hS.1.cell; have k2 := hS.2.2.1.cell; have k3 := (hS.2.2.2.cell (p := ⟨b, off + p, none⟩) hzb).trans hcp0; have k4 := (hS.2.2.2.cell (p := ⟨b, off + q, none⟩) hzb).trans hcq0; clear hS)
              go_simp
              try with_reducible rfl
            refine wpAnyH_take (i := 3) (v := ?vay3) rfl (by kernel_rfl) (by kernel_rfl) (by kernel_rfl) (fun _ _ _ h => h) (.inl ⟨by rfl, ?yay3⟩) hR0 ?_
            case yay3 =>
              intro w' hS
              (have k1 := hS.1.cell; have k2 := hS.2.2.1.cell; have k3 := (hS.2.2.2.cell (p := ⟨b, off + p, none⟩) hzb).trans hcp0; have k4 := (hS.2.2.2.cell (p := ⟨b, off + q, none⟩) hzb).trans hcq0; clear hS)
              go_simp
              try with_reducible rfl
            refine wpAnyH_take (i := 4) (v := ?vay4) rfl (by kernel_rfl) (by kernel_rfl) (by kernel_rfl) (fun _ _ _ h => h) (.inl ⟨by rfl, ?yay4⟩) hR0 ?_
            case yay4 =>
              intro w' hS
              (have k1 := hS.1.cell; have k2 := hS.2.2.1.cell; have k3 := (hS.2.2.2.cell (p := ⟨b, off + p, none⟩) hzb).trans hcp0; have k4 := (hS.2.2.2.cell (p := ⟨b, off + q, none⟩) hzb).trans hcq0; clear hS)
              go_simp
              try with_reducible rfl
            refine wpAnyH_take (i := 5) (v := ?vay5) rfl (by kernel_rfl) (by kernel_rfl) (by kernel_rfl) (fun _ _ _ h => h) (.inl ⟨by rfl, ?yay5⟩) hR0 ?_
            case yay5 =>
              intro w' hS
              (have k1 := hS.1.cell; have k2 := hS.2.2.1.cell; have k3 := (hS.2.2.2.cell (p := ⟨b, off + p, none⟩) hzb).trans hcp0; have k4 := (hS.2.2.2.cell (p := ⟨b, off + q, none⟩) hzb).trans hcq0; clear hS)
              go_simp
              try with_reducible rfl
            refine wpAnyH_take (i := 6) (v := ?vay6) rfl (by kernel_rfl) (by kernel_rfl) (by kernel_rfl) (fun _ _ _ h => h) (.inl ⟨by rfl, ?yay6⟩) hR0 ?_
            case yay6 =>
              intro w' hS
              (have k1 := hS.1.cell; have k2 := hS.2.2.1.cell; have k3 := (hS.2.2.2.cell (p := ⟨b, off + p, none⟩) hzb).trans hcp0; have k4 := (hS.2.2.2.cell (p := ⟨b, off + q, none⟩) hzb).trans hcq0; clear hS)
              go_simp
              try with_reducible rfl
            refine wpAnyH_take (i := 7) (v := ?vay7) rfl (by kernel_rfl) (by kernel_rfl) (by kernel_rfl) (fun _ _ _ h => h) (.inl ⟨by rfl, ?yay7⟩) hR0 ?_
            case yay7 =>
              intro w' hS
              (have k1 := hS.1.cell; have k2 := hS.2.2.1.cell; have k3 := (hS.2.2.2.cell (p := ⟨b, off + p, none⟩) hzb).trans hcp0; have k4 := (hS.2.2.2.cell (p := ⟨b, off + q, none⟩) hzb).trans hcq0; clear hS)
              go_simp
              try with_reducible rfl
            refine wpAnyH_take (i := 8) (v := ?vay8) rfl (by kernel_rfl) (by kernel_rfl) (by kernel_rfl) (fun _ _ _ h => h) (.inl ⟨by rfl, ?yay8⟩) hR0 ?_
            case yay8 =>
              intro w' hS
              (have k1 := hS.1.cell; have k2 := hS.2.2.1.cell; have k3 := (hS.2.2.2.cell (p := ⟨b, off + p, none⟩) hzb).trans hcp0; have k4 := (hS.2.2.2.cell (p := ⟨b, off + q, none⟩) hzb).trans hcq0; clear hS)
              go_simp
              try with_reducible rfl
            refine wpAnyH_take (i := 9) (v := ?vay9) rfl (by kernel_rfl) (by kernel_rfl) (by kernel_rfl) (fun _ _ _ h => h) (.inl ⟨by rfl, ?yay9⟩) hR0 ?_
            case yay9 =>
              intro w' hS
              (have k1 := hS.1.cell; have k2 := hS.2.2.1.cell; have k3 := (hS.2.2.2.cell (p := ⟨b, off + p, none⟩) hzb).trans hcp0; have k4 := (hS.2.2.2.cell (p := ⟨b, off + q, none⟩) hzb).trans hcq0; clear hS)
              go_simp
              try with_reducible rfl
            refine wpAnyH_take (i := 10) (v := ?vay10) rfl (by kernel_rfl) (by kernel_rfl) (by kernel_rfl) (fun _ _ _ h => h) (.inl ⟨by rfl, ?yay10⟩) hR0 ?_
            case yay10 =>
              intro w' hS
              (have k1 := hS.1.cell; have k2 := hS.2.2.1.cell; have k3 := (hS.2.2.2.cell (p := ⟨b, off + p, none⟩) hzb).trans hcp0; have k4 := (hS.2.2.2.cell (p := ⟨b, off + q, none⟩) hzb).trans hcq0; clear hS)
              go_simp
              try with_reducible rfl
            refine wpAnyH_take (i := 11) (v := ?vay11) rfl (by kernel_rfl) (by kernel_rfl) (by kernel_rfl) (fun _ _ _ h => h) (.inl ⟨by rfl, ?yay11⟩) hR0 ?_
            case yay11 =>
              intro w' hS
              (have k1 := hS.1.cell; have k2 := hS.2.2.1.cell; have k3 := (hS.2.2.2.cell (p := ⟨b, off + p, none⟩) hzb).trans hcp0; have k4 := (hS.2.2.2.cell (p := ⟨b, off + q, none⟩) hzb).trans hcq0; clear hS)
              go_simp
              try with_reducible rfl
            refine wpAnyH_take (i := 12) (v := ?vay12) rfl (by kernel_rfl) (by kernel_rfl) (by kernel_rfl) (fun _ _ _ h => h) (.inl ⟨by rfl, ?yay12⟩) hR0 ?_
            case yay12 =>
              intro w' hS
              (have k1 := hS.1.cell; have k2 := hS.2.2.1.cell; have k3 := (hS.2.2.2.cell (p := ⟨b, off + p, none⟩) hzb).trans hcp0; have k4 := (hS.2.2.2.cell (p := ⟨b, off + q, none⟩) hzb).trans hcq0; clear hS)
              go_simp
              try with_reducible rfl
            refine wpAnyH_take (i := 13) (v := ?vay13) rfl (by kernel_rfl) (by kernel_rfl) (by kernel_rfl) (fun _ _ _ h => h) (.inl ⟨by rfl, ?yay13⟩) hR0 ?_
            case yay13 =>
              intro w' hS
              (have k1 := hS.1.cell; have k2 := hS.2.2.1.cell; have k3 := (hS.2.2.2.cell (p := ⟨b, off + p, none⟩) hzb).trans hcp0; have k4 := (hS.2.2.2.cell (p := ⟨b, off + q, none⟩) hzb).trans hcq0; clear hS)
              go_simp
              try with_reducible rfl
            refine wpAnyH_take (i := 14) (v := ?vay14) rfl (by kernel_rfl) (by kernel_rfl) (by kernel_rfl) (fun _ _ _ h => h) (.inl ⟨by rfl, ?yay14⟩) hR0 ?_
            case yay14 =>
              intro w' hS
              (have k1 := hS.1.cell; have k2 := hS.2.2.1.cell; have k3 := (hS.2.2.2.cell (p := ⟨b, off + p, none⟩) hzb).trans hcp0; have k4 := (hS.2.2.2.cell (p := ⟨b, off + q, none⟩) hzb).trans hcq0; clear hS)
              go_simp
              try with_reducible rfl
            refine wpAnyH_take (i := 15) (v := ?vay15) rfl (by kernel_rfl) (by kernel_rfl) (by kernel_rfl) (fun _ _ _ h => h) (.inl ⟨by rfl, ?yay15⟩) hR0 ?_
            case yay15 =>
              intro w' hS
              (have k1 := hS.1.cell; have k2 := hS.2.2.1.cell; have k3 := (hS.2.2.2.cell (p := ⟨b, off + p, none⟩) hzb).trans hcp0; have k4 := (hS.2.2.2.cell (p := ⟨b, off + q, none⟩) hzb).trans hcq0; clear hS)
              go_simp
              try with_reducible rfl
            refine wpAnyH_ready (rs := [16]) (by kernel_rfl) (by simp) ?_
            refine AllReadyH.cons rfl (fun K' hK' => ?_) AllReadyH.nil
            rw [if_pos (by rfl)]
            go_simp
            obtain ⟨r1, r2⟩ := OwnI.stored zo p (IntKind.i64.wrap ((if y < x then y else x).tdiv 2))
            have rB : Below w.heap.size w ((Wf.setCell ⟨g8, p, none⟩ (.int .i64 (IntKind.i64.wrap ((if y < x then y else x).tdiv 2)))).drew) := (z3.setCell (p := ⟨g8, p, none⟩) (by show w.heap.size ≤ g8; omega) _).drew
            have rQ : Boxed ((Wf.setCell ⟨g8, p, none⟩ (.int .i64 (IntKind.i64.wrap ((if y < x then y else x).tdiv 2)))).drew) (w.heap.size + 1) 26 (.slice none 0 0) := boxed_setFar z2 (by omega)
            have rO : Boxed ((Wf.setCell ⟨g8, p, none⟩ (.int .i64 (IntKind.i64.wrap ((if y < x then y else x).tdiv 2)))).drew) bo 26 (.slice (some ⟨g8, 0, none⟩) fs.length c8) := boxed_setFar zb zn
            refine hK'.out _ _ ⟨(show Boxed ((Wf.setCell ⟨g8, p, none⟩ (.int .i64 (IntKind.i64.wrap ((if y < x then y else x).tdiv 2)))).drew) w.heap.size 26 (.slice (some ⟨b, off, none⟩) zs.length cap) from boxed_setFar z1 (by omega)), rQ, rO, rB⟩ fun hR1 => wpAnyH_done (by kernel_rfl) ?_ _
            replace r1 : OwnI w5.heap.size ((Wf.setCell ⟨g8, p, none⟩ (.int .i64 (IntKind.i64.wrap ((if y < x then y else x).tdiv 2)))).drew) (.slice (some ⟨g8, 0, none⟩) fs.length c8) (fs.set p (IntKind.i64.wrap ((if y < x then y else x).tdiv 2))) := World.ownsRow.drew r1
            clear hR1 hR0 hK' q1 q2 q2f q3 q3f q6 q6f
            obtain ⟨Wr, hWr⟩ : ∃ Wr, (Wf.setCell ⟨g8, p, none⟩ (.int .i64 (IntKind.i64.wrap ((if y < x then y else x).tdiv 2)))).drew = Wr := ⟨_, rfl⟩
            rw [hWr] at r1 rB rQ rO ⊢
            clear hWr r2
            have q2 := rQ.cell
            have q2f := rQ.frozen
            have q3 := rO.cell
            go_wp2_with fail
            all_goals
              have k1 := (rQ.set (.slice (some ⟨g8, 0, none⟩) fs.length c8)).cell
              have rr : OwnI w.heap.size (Wr.setCell ⟨w.heap.size + 1, 0, none⟩ (.slice (some ⟨g8, 0, none⟩) fs.length c8)) (.slice (some ⟨g8, 0, none⟩) fs.length c8) (foldR zs p q) := by
                rw [Hr.out, HG.out, ← Hvv.out]
                exact (r1.kept (grownBy_setCell2 _ _ _ _) (.inr (by simp [Value.ownBlock]; omega))).base (by omega)
              exact bodyPost_ret (v := .tuple #[.agg #[(.slice (some ⟨g8, 0, none⟩) fs.length c8)], .int .i64 0]) (by simp [results, Try.f85, go_sem, k1]) rfl ⟨_, ret_t2 Hc.out.symm, rr, rB.setCell (p := ⟨w.heap.size + 1, 0, none⟩) (by show w.heap.size ≤ w.heap.size + 1; omega) _⟩
          · rw [if_pos (by rfl)]
            go_simp
            refine hK'.out _ _ ⟨t1.alloc _, t2.alloc _, t3.alloc t3.size _, by simp; omega⟩ fun hS2 => ?_
            have hb0 := Boxed.new w7 26 (.slice none 0 0)
            refine wpAnyH_ready (rs := [10]) (by kernel_rfl) (by simp) ?_
            refine AllReadyH.cons rfl (fun K' hK' => ?_) AllReadyH.nil
            rw [if_pos (by rfl)]
            refine wp_append_own _ (.tmp 52) (.tmp 57) 24 rfl (w5.drew.heap.size) 2 i0 (.int .i64 0) 1 8 Try.underlying24 hi hz0 hz1 hz2 rfl (by decide) _ _ _ rfl (World.ownsRow.alloc ho7 _) ⟨b, o2, none⟩ (zs.length - (q + 1)) (cap - (q + 1)) (ys.map (.int .i64)) rfl (by simp; exact Hyl.out) (Hsrc.out _ (t5.alloc t5.size _)) (cells_one ys) (by unfold maxLen; omega) (by omega) (by simp; try omega) ?_
            intro v8 w8 hown' hgrow hfar
            have ho8 : OwnI (w5.drew.heap.size) w8 v8 fs := by rw [← Hfs.out]; exact ownI_app (by rw [Hyl.out]; exact hown')
            obtain ⟨g8, c8, rfl, hg8, hg8'⟩ := ho8.shape hfl.1
            replace hgrow : ((w7.alloc (.cells #[.slice none 0 0] 26))).grownBy w8 (some g7) := hgrow
            have u1 : Boxed w8 w.heap.size 26 (.slice (some ⟨b, off, none⟩) zs.length cap) := hS2.1.kept hgrow (fun e => by have : w.heap.size = g7 := (by simpa using e); omega)
            have u2 : Boxed w8 (w.heap.size + 1) 26 (.slice none 0 0) := hS2.2.1.kept hgrow (fun e => by have : w.heap.size + 1 = g7 := (by simpa using e); omega)
            have u3 : Below w.heap.size w w8 := hS2.2.2.1.grown hgrow hS2.2.2.1.size (fun j e => by have : g7 = j := (by simpa using e); omega)
            have u4 : w5.heap.size ≤ w8.heap.size := Nat.le_trans hS2.2.2.2 hgrow.size
            have HB := Lib.hid ho8.blk
            clear hown' hfar
            refine hK'.out _ _ ⟨u1, u2, u3, u4⟩ fun hS3 => ?_
            clear hS3
            have hb8 : Boxed w8 w7.heap.size 26 (.slice none 0 0) := hb0.kept hgrow (fun e => by have : w7.heap.size = g7 := (by simpa using e); omega)
            have fb8 := hb8.frozen
            have cb8 := hb8.cell
            have hw78 : w5.heap.size ≤ w7.heap.size := t4
            refine wpAnyH_take (i := 11) (v := ?vb11) rfl (by kernel_rfl) (by kernel_rfl) (by kernel_rfl) (fun _ _ _ h => h) (.inl ⟨by rfl, ?yb11⟩) (show _ from ⟨u1, u2, u3, u4⟩) ?_
            case yb11 =>
              intro w' hS
              (clear hS)
              go_simp
              try with_reducible rfl
            refine wpAnyH_ready (rs := [13]) (by kernel_rfl) (by simp) ?_
            refine AllReadyH.cons rfl (fun K' hK' => ?_) AllReadyH.nil
            rw [if_pos (by rfl)]
            go_simp
            refine hK'.out _ _ ⟨u1.other (by omega) _, u2.other (by omega) _, u3.setCell (p := ⟨w7.heap.size, 0, none⟩) (by show w.heap.size ≤ w7.heap.size; omega) _, Nat.le_trans u4 (by simp [World.setCell])⟩ fun hS5 => ?_
            refine wpAnyH_done (by kernel_rfl) ?_ _
            have z1 : Boxed (w8.setCell ⟨w7.heap.size, 0, none⟩ (.slice (some ⟨g8, 0, none⟩) fs.length c8)) w.heap.size 26 (.slice (some ⟨b, off, none⟩) zs.length cap) := hS5.1
            have z2 : Boxed (w8.setCell ⟨w7.heap.size, 0, none⟩ (.slice (some ⟨g8, 0, none⟩) fs.length c8)) (w.heap.size + 1) 26 (.slice none 0 0) := hS5.2.1
            have z3 : Below w.heap.size w (w8.setCell ⟨w7.heap.size, 0, none⟩ (.slice (some ⟨g8, 0, none⟩) fs.length c8)) := hS5.2.2.1
            have zo : OwnI w5.heap.size (w8.setCell ⟨w7.heap.size, 0, none⟩ (.slice (some ⟨g8, 0, none⟩) fs.length c8)) (.slice (some ⟨g8, 0, none⟩) fs.length c8) fs := ho8.kept (grownBy_setCell2 _ _ _ _) (.inr (ownI_ne_box2 ho8 hb8))
            have zb : Boxed (w8.setCell ⟨w7.heap.size, 0, none⟩ (.slice (some ⟨g8, 0, none⟩) fs.length c8)) (w7.heap.size) 26 (.slice (some ⟨g8, 0, none⟩) fs.length c8) := hb8.set _
            have zn : (w7.heap.size) ≠ g8 := fun e => ownI_ne_box2 zo zb (by rw [e]; rfl)
            have zs8 : w.heap.size + 2 ≤ (w7.heap.size) := by omega
            have zg8 : w5.heap.size ≤ g8 := (zo.shape hfl.1).elim fun _ h => by obtain ⟨_, e, h1, _⟩ := h; simp at e; omega
            clear hS5 hgrow
            obtain ⟨Wf, hWf⟩ : ∃ Wf, w8.setCell ⟨w7.heap.size, 0, none⟩ (.slice (some ⟨g8, 0, none⟩) fs.length c8) = Wf := ⟨_, rfl⟩
            rw [hWf] at z1 z2 z3 zo zb ⊢
            clear hWf
            obtain ⟨bo, hbo⟩ : ∃ bo, (w7.heap.size) = bo := ⟨_, rfl⟩
            rw [hbo] at zb zn zs8 ⊢
            clear hbo
            have q1 := z1.cell
            have q2 := z2.cell
            have q2f := z2.frozen
            have q3 := zb.cell
            have q3f := zb.frozen
            have q4 : Wf.cell? ⟨b, off + p, none⟩ = some (.int .i64 x) := (z3.cell (p := ⟨b, off + p, none⟩) hb).trans hcp0
            have q5 : Wf.cell? ⟨b, off + q, none⟩ = some (.int .i64 y) := (z3.cell (p := ⟨b, off + q, none⟩) hb).trans hcq0
            have Q4 := Lib.hid q4
            have Q5 := Lib.hid q5
            have q6 := zo.cellAt hfl.2.1
            have q6f := zo.frozen p
            have hzb : b < w.heap.size := hb
            have hpn : p < zs.length := by omega
            have hqn : q < zs.length := by omega
            have hpf : p < fs.length := hfl.2.1
            clear q4 q5
            have hvv : (IntKind.i64.wrap ((if y < x then y else x).tdiv 2)) = min x y / 2 := by
              rw [show (if y < x then y else x) = min x y by omega, Int.tdiv_eq_ediv_of_nonneg (by omega), IntKind.wrap_i64]; omega
            have Hvv := Lib.hid hvv
            clear hvv
            go_wp2_with fail
            refine wp_region_held_drew (S := fun w' => Boxed w' w.heap.size 26 (.slice (some ⟨b, off, none⟩) zs.length cap) ∧ Boxed w' (w.heap.size + 1) 26 (.slice none 0 0) ∧ Boxed w' bo 26 (.slice (some ⟨g8, 0, none⟩) fs.length c8) ∧ Below w.heap.size w w') hfw ⟨z1, z2, zb, z3.drew⟩ ?_
            intro hR0
            refine wpAnyH_take (i := 0) (v := ?vby0) rfl (by kernel_rfl) (by kernel_rfl) (by kernel_rfl) (fun _ _ _ h => h) (.inl ⟨by rfl, ?yby0⟩) hR0 ?_
            case yby0 =>
              intro w' hS
              (have k1 := hS.1.cell; have k2 := hS.2.2.1.cell; have k3 := (hS.2.2.2.cell (p := ⟨b, off + p, none⟩) hzb).trans hcp0; have k4 := (hS.2.2.2.cell (p := ⟨b, off + q, none⟩) hzb).trans hcq0; clear hS)
              go_simp
              try with_reducible rfl
            refine wpAnyH_take (i := 1) (v := ?vby1) rfl (by kernel_rfl) (by kernel_rfl) (by kernel_rfl) (fun _ _ _ h => h) (.inl ⟨by rfl, ?yby1⟩) hR0 ?_
            case yby1 =>
              intro w' hS
              (have k1 := hS.1.cell; have k2 := hS.2.2.1.cell; have k3 := (hS.2.2.2.cell (p := ⟨b, off + p, none⟩) hzb).trans hcp0; have k4 := (hS.2.2.2.cell (p := ⟨b, off + q, none⟩) hzb).trans hcq0; clear hS)
              go_simp
              try with_reducible rfl
            refine wpAnyH_take (i := 2) (v := ?vby2) rfl (by kernel_rfl) (by kernel_rfl) (by kernel_rfl) (fun _ _ _ h => h) (.inl ⟨by rfl, ?yby2⟩) hR0 ?_
            case yby2 =>
              intro w' hS
              (have k1 := hS.1.cell; have k2 := hS.2.2.1.cell; have k3 := (hS.2.2.2.cell (p := ⟨b, off + p, none⟩) hzb).trans hcp0; have k4 := (hS.2.2.2.cell (p := ⟨b, off + q, none⟩) hzb).trans hcq0; clear hS)
              go_simp
              try with_reducible rfl
            refine wpAnyH_take (i := 3) (v := ?vby3) rfl (by kernel_rfl) (by kernel_rfl) (by kernel_rfl) (fun _ _ _ h => h) (.inl ⟨by rfl, ?yby3⟩) hR0 ?_
            case yby3 =>
              intro w' hS
              (have k1 := hS.1.cell; have k2 := hS.2.2.1.cell; have k3 := (hS.2.2.2.cell (p := ⟨b, off + p, none⟩) hzb).trans hcp0; have k4 := (hS.2.2.2.cell (p := ⟨b, off + q, none⟩) hzb).trans hcq0; clear hS)
              go_simp
              try with_reducible rfl
            refine wpAnyH_take (i := 4) (v := ?vby4) rfl (by kernel_rfl) (by kernel_rfl) (by kernel_rfl) (fun _ _ _ h => h) (.inl ⟨by rfl, ?yby4⟩) hR0 ?_
            case yby4 =>
              intro w' hS
              (have k1 := hS.1.cell; have k2 := hS.2.2.1.cell; have k3 := (hS.2.2.2.cell (p := ⟨b, off + p, none⟩) hzb).trans hcp0; have k4 := (hS.2.2.2.cell (p := ⟨b, off + q, none⟩) hzb).trans hcq0; clear hS)
              go_simp
              try with_reducible rfl
            refine wpAnyH_take (i := 5) (v := ?vby5) rfl (by kernel_rfl) (by kernel_rfl) (by kernel_rfl) (fun _ _ _ h => h) (.inl ⟨by rfl, ?yby5⟩) hR0 ?_
            case yby5 =>
              intro w' hS
              (have k1 := hS.1.cell; have k2 := hS.2.2.1.cell; have k3 := (hS.2.2.2.cell (p := ⟨b, off + p, none⟩) hzb).trans hcp0; have k4 := (hS.2.2.2.cell (p := ⟨b, off + q, none⟩) hzb).trans hcq0; clear hS)
              go_simp
              try with_reducible rfl
            refine wpAnyH_take (i := 6) (v := ?vby6) rfl (by kernel_rfl) (by kernel_rfl) (by kernel_rfl) (fun _ _ _ h => h) (.inl ⟨by rfl, ?yby6⟩) hR0 ?_
            case yby6 =>
              intro w' hS
              (have k1 := hS.1.cell; have k2 := hS.2.2.1.cell; have k3 := (hS.2.2.2.cell (p := ⟨b, off + p, none⟩) hzb).trans hcp0; have k4 := (hS.2.2.2.cell (p := ⟨b, off + q, none⟩) hzb).trans hcq0; clear hS)
              go_simp
              try with_reducible rfl
            refine wpAnyH_take (i := 7) (v := ?vby7) rfl (by kernel_rfl) (by kernel_rfl) (by kernel_rfl) (fun _ _ _ h => h) (.inl ⟨by rfl, ?yby7⟩) hR0 ?_
            case yby7 =>
              intro w' hS
              (have k1 := hS.1.cell; have k2 := hS.2.2.1.cell; have k3 := (hS.2.2.2.cell (p := ⟨b, off + p, none⟩) hzb).trans hcp0; have k4 := (hS.2.2.2.cell (p := ⟨b, off + q, none⟩) hzb).trans hcq0; clear hS)
              go_simp
              try with_reducible rfl
            refine wpAnyH_take (i := 8) (v := ?vby8) rfl (by kernel_rfl) (by kernel_rfl) (by kernel_rfl) (fun _ _ _ h => h) (.inl ⟨by rfl, ?yby8⟩) hR0 ?_
            case yby8 =>
              intro w' hS
              (have k1 := hS.1.cell; have k2 := hS.2.2.1.cell; have k3 := (hS.2.2.2.cell (p := ⟨b, off + p, none⟩) hzb).trans hcp0; have k4 := (hS.2.2.2.cell (p := ⟨b, off + q, none⟩) hzb).trans hcq0; clear hS)
              go_simp
              try with_reducible rfl
            refine wpAnyH_take (i := 9) (v := ?vby9) rfl (by kernel_rfl) (by kernel_rfl) (by kernel_rfl) (fun _ _ _ h => h) (.inl ⟨by rfl, ?yby9⟩) hR0 ?_
            case yby9 =>
              intro w' hS
              (have k1 := hS.1.cell; have k2 := hS.2.2.1.cell; have k3 := (hS.2.2.2.cell (p := ⟨b, off + p, none⟩) hzb).trans hcp0; have k4 := (hS.2.2.2.cell (p := ⟨b, off + q, none⟩) hzb).trans hcq0; clear hS)
              go_simp
              try with_reducible rfl
            refine wpAnyH_take (i := 10) (v := ?vby10) rfl (by kernel_rfl) (by kernel_rfl) (by kernel_rfl) (fun _ _ _ h => h) (.inl ⟨by rfl, ?yby10⟩) hR0 ?_
            case yby10 =>
              intro w' hS
              (have k1 := hS.1.cell; have k2 := hS.2.2.1.cell; have k3 := (hS.2.2.2.cell (p := ⟨b, off + p, none⟩) hzb).trans hcp0; have k4 := (hS.2.2.2.cell (p := ⟨b, off + q, none⟩) hzb).trans hcq0; clear hS)
              go_simp
              try with_reducible rfl
            refine wpAnyH_take (i := 11) (v := ?vby11) rfl (by kernel_rfl) (by kernel_rfl) (by kernel_rfl) (fun _ _ _ h => h) (.inl ⟨by rfl, ?yby11⟩) hR0 ?_
            case yby11 =>
              intro w' hS
              (have k1 := hS.1.cell; have k2 := hS.2.2.1.cell; have k3 := (hS.2.2.2.cell (p := ⟨b, off + p, none⟩) hzb).trans hcp0; have k4 := (hS.2.2.2.cell (p := ⟨b, off + q, none⟩) hzb).trans hcq0; clear hS)
              go_simp
              try with_reducible rfl
            refine wpAnyH_take (i := 12) (v := ?vby12) rfl (by kernel_rfl) (by kernel_rfl) (by kernel_rfl) (fun _ _ _ h => h) (.inl ⟨by rfl, ?yby12⟩) hR0 ?_
            case yby12 =>
              intro w' hS
              (have k1 := hS.1.cell; have k2 := hS.2.2.1.cell; have k3 := (hS.2.2.2.cell (p := ⟨b, off + p, none⟩) hzb).trans hcp0; have k4 := (hS.2.2.2.cell (p := ⟨b, off + q, none⟩) hzb).trans hcq0; clear hS)
              go_simp
              try with_reducible rfl
            refine wpAnyH_take (i := 13) (v := ?vby13) rfl (by kernel_rfl) (by kernel_rfl) (by kernel_rfl) (fun _ _ _ h => h) (.inl ⟨by rfl, ?yby13⟩) hR0 ?_
            case yby13 =>
              intro w' hS
              (have k1 := hS.1.cell; have k2 := hS.2.2.1.cell; have k3 := (hS.2.2.2.cell (p := ⟨b, off + p, none⟩) hzb).trans hcp0; have k4 := (hS.2.2.2.cell (p := ⟨b, off + q, none⟩) hzb).trans hcq0; clear hS)
              go_simp
              try with_reducible rfl
            refine wpAnyH_take (i := 14) (v := ?vby14) rfl (by kernel_rfl) (by kernel_rfl) (by kernel_rfl) (fun _ _ _ h => h) (.inl ⟨by rfl, ?yby14⟩) hR0 ?_
            case yby14 =>
              intro w' hS
              (have k1 := hS.1.cell; have k2 := hS.2.2.1.cell; have k3 := (hS.2.2.2.cell (p := ⟨b, off + p, none⟩) hzb).trans hcp0; have k4 := (hS.2.2.2.cell (p := ⟨b, off + q, none⟩) hzb).trans hcq0; clear hS)
              go_simp
              try with_reducible rfl
            refine wpAnyH_take (i := 15) (v := ?vby15) rfl (by kernel_rfl) (by kernel_rfl) (by kernel_rfl) (fun _ _ _ h => h) (.inl ⟨by rfl, ?yby15⟩) hR0 ?_
            case yby15 =>
              intro w' hS
              (have k1 := hS.1.cell; have k2 := hS.2.2.1.cell; have k3 := (hS.2.2.2.cell (p := ⟨b, off + p, none⟩) hzb).trans hcp0; have k4 := (hS.2.2.2.cell (p := ⟨b, off + q, none⟩) hzb).trans hcq0; clear hS)
              go_simp
              try with_reducible rfl
            refine wpAnyH_ready (rs := [16]) (by kernel_rfl) (by simp) ?_
            refine AllReadyH.cons rfl (fun K' hK' => ?_) AllReadyH.nil
            rw [if_pos (by rfl)]
            go_simp
            obtain ⟨r1, r2⟩ := OwnI.stored zo p (IntKind.i64.wrap ((if y < x then y else x).tdiv 2))
            have rB : Below w.heap.size w ((Wf.setCell ⟨g8, p, none⟩ (.int .i64 (IntKind.i64.wrap ((if y < x then y else x).tdiv 2)))).drew) := (z3.setCell (p := ⟨g8, p, none⟩) (by show w.heap.size ≤ g8; omega) _).drew
            have rQ : Boxed ((Wf.setCell ⟨g8, p, none⟩ (.int .i64 (IntKind.i64.wrap ((if y < x then y else x).tdiv 2)))).drew) (w.heap.size + 1) 26 (.slice none 0 0) := boxed_setFar z2 (by omega)
            have rO : Boxed ((Wf.setCell ⟨g8, p, none⟩ (.int .i64 (IntKind.i64.wrap ((if y < x then y else x).tdiv 2)))).drew) bo 26 (.slice (some ⟨g8, 0, none⟩) fs.length c8) := boxed_setFar zb zn
            refine hK'.out _ _ ⟨(show Boxed ((Wf.setCell ⟨g8, p, none⟩ (.int .i64 (IntKind.i64.wrap ((if y < x then y else x).tdiv 2)))).drew) w.heap.size 26 (.slice (some ⟨b, off, none⟩) zs.length cap) from boxed_setFar z1 (by omega)), rQ, rO, rB⟩ fun hR1 => wpAnyH_done (by kernel_rfl) ?_ _
            replace r1 : OwnI w5.heap.size ((Wf.setCell ⟨g8, p, none⟩ (.int .i64 (IntKind.i64.wrap ((if y < x then y else x).tdiv 2)))).drew) (.slice (some ⟨g8, 0, none⟩) fs.length c8) (fs.set p (IntKind.i64.wrap ((if y < x then y else x).tdiv 2))) := World.ownsRow.drew r1
            clear hR1 hR0 hK' q1 q2 q2f q3 q3f q6 q6f
            obtain ⟨Wr, hWr⟩ : ∃ Wr, (Wf.setCell ⟨g8, p, none⟩ (.int .i64 (IntKind.i64.wrap ((if y < x then y else x).tdiv 2)))).drew = Wr := ⟨_, rfl⟩
            rw [hWr] at r1 rB rQ rO ⊢
            clear hWr r2
            have q2 := rQ.cell
            have q2f := rQ.frozen
            have q3 := rO.cell
            go_wp2_with fail
            all_goals
              have k1 := (rQ.set (.slice (some ⟨g8, 0, none⟩) fs.length c8)).cell
              have rr : OwnI w.heap.size (Wr.setCell ⟨w.heap.size + 1, 0, none⟩ (.slice (some ⟨g8, 0, none⟩) fs.length c8)) (.slice (some ⟨g8, 0, none⟩) fs.length c8) (foldR zs p q) := by
                rw [Hr.out, HG.out, ← Hvv.out]
                exact (r1.kept (grownBy_setCell2 _ _ _ _) (.inr (by simp [Value.ownBlock]; omega))).base (by omega)
              exact bodyPost_ret (v := .tuple #[.agg #[(.slice (some ⟨g8, 0, none⟩) fs.length c8)], .int .i64 0]) (by simp [results, Try.f85, go_sem, k1]) rfl ⟨_, ret_t2 Hc.out.symm, rr, rB.setCell (p := ⟨w.heap.size + 1, 0, none⟩) (by show w.heap.size ≤ w.heap.size + 1; omega) _⟩
        · rw [if_pos (by rfl)]
          go_simp
          refine hK'.out _ _ ⟨hS0.1.alloc _, hS0.2.1.alloc _, hS0.2.2.1.alloc hS0.2.2.1.size _, by simp⟩ fun hS1 => ?_
          have h6 : Below w5.heap.size w5 (w5.drew.alloc (.cells #[.slice none 0 0] 26)) := h5.alloc h5.size _
          have hb0 : Boxed (w5.drew.alloc (.cells #[.slice none 0 0] 26)) w5.heap.size 26 (.slice none 0 0) := Boxed.new w5.drew 26 (.slice none 0 0)
          refine wpAnyH_ready (rs := [4]) (by kernel_rfl) (by simp) ?_
          refine AllReadyH.cons rfl (fun K' hK' => ?_) AllReadyH.nil
          rw [if_pos (by rfl)]
          go_simp
          refine (Hcall.out _ (h6)).mono ?_
          rintro e w7 ⟨v7, rfl, ho7, hb7⟩
          simp only [id]
          obtain ⟨g7, c7, rfl, hg7, hg7'⟩ := ho7.shape hxyl.2.2.1
          have hg7x : w5.heap.size + 1 ≤ g7 := by simpa using hg7
          have t1 := boxed_later hS1.1 hb7
          have t2 := boxed_later hS1.2.1 hb7
          have t3 := hS1.2.2.1.trans (hb7.mono hS1.2.2.1.size)
          have t4 : w5.heap.size ≤ w7.heap.size := Nat.le_trans hS1.2.2.2 hb7.size
          have t5 : Below w5.heap.size w5 w7 := (h6).trans (hb7.mono (h6).size)
          have hb9 := boxed_later hb0 hb7
          refine hK'.out _ _ ⟨t1, t2, t3, t4⟩ fun hS2 => ?_
          refine wpAnyH_ready (rs := [10]) (by kernel_rfl) (by simp) ?_
          refine AllReadyH.cons rfl (fun K' hK' => ?_) AllReadyH.nil
          rw [if_pos (by rfl)]
          refine wp_append_own _ (.tmp 52) (.tmp 57) 24 rfl ((w5.drew.alloc (.cells #[.slice none 0 0] 26)).heap.size) 2 i0 (.int .i64 0) 1 8 Try.underlying24 hi hz0 hz1 hz2 rfl (by decide) _ _ _ rfl (ho7) ⟨b, o2, none⟩ (zs.length - (q + 1)) (cap - (q + 1)) (ys.map (.int .i64)) rfl (by simp; exact Hyl.out) (Hsrc.out _ (t5)) (cells_one ys) (by unfold maxLen; omega) (by omega) (by simp; try omega) ?_
          intro v8 w8 hown' hgrow hfar
          have ho8 : OwnI ((w5.drew.alloc (.cells #[.slice none 0 0] 26)).heap.size) w8 v8 fs := by rw [← Hfs.out]; exact ownI_app (by rw [Hyl.out]; exact hown')
          obtain ⟨g8, c8, rfl, hg8, hg8'⟩ := ho8.shape hfl.1
          replace hgrow : (w7).grownBy w8 (some g7) := hgrow
          have u1 : Boxed w8 w.heap.size 26 (.slice (some ⟨b, off, none⟩) zs.length cap) := hS2.1.kept hgrow (fun e => by have : w.heap.size = g7 := (by simpa using e); omega)
          have u2 : Boxed w8 (w.heap.size + 1) 26 (.slice none 0 0) := hS2.2.1.kept hgrow (fun e => by have : w.heap.size + 1 = g7 := (by simpa using e); omega)
          have u3 : Below w.heap.size w w8 := hS2.2.2.1.grown hgrow hS2.2.2.1.size (fun j e => by have : g7 = j := (by simpa using e); omega)
          have u4 : w5.heap.size ≤ w8.heap.size := Nat.le_trans hS2.2.2.2 hgrow.size
          have HB := Lib.hid ho8.blk
          clear hown' hfar
          refine hK'.out _ _ ⟨u1, u2, u3, u4⟩ fun hS3 => ?_
          clear hS3
          have hb8 : Boxed w8 w5.heap.size 26 (.slice none 0 0) := hb9.kept hgrow (fun e => by have : w5.heap.size = g7 := (by simpa using e); omega)
          have fb8 := hb8.frozen
          have cb8 := hb8.cell
          refine wpAnyH_take (i := 11) (v := ?vc11) rfl (by kernel_rfl) (by kernel_rfl) (by kernel_rfl) (fun _ _ _ h => h) (.inl ⟨by rfl, ?yc11⟩) (show _ from ⟨u1, u2, u3, u4⟩) ?_
          case yc11 =>
            intro w' hS
            (clear hS)
            go_simp
            try with_reducible rfl
          refine wpAnyH_ready (rs := [13]) (by kernel_rfl) (by simp) ?_
          refine AllReadyH.cons rfl (fun K' hK' => ?_) AllReadyH.nil
          rw [if_pos (by rfl)]
          go_simp
          refine hK'.out _ _ ⟨u1.other (by omega) _, u2.other (by omega) _, u3.setCell (p := ⟨w5.heap.size, 0, none⟩) (by show w.heap.size ≤ w5.heap.size; omega) _, Nat.le_trans u4 (by simp [World.setCell])⟩ fun hS5 => ?_
          refine wpAnyH_done (by kernel_rfl) ?_ _
          have z1 : Boxed (w8.setCell ⟨w5.heap.size, 0, none⟩ (.slice (some ⟨g8, 0, none⟩) fs.length c8)) w.heap.size 26 (.slice (some ⟨b, off, none⟩) zs.length cap) := hS5.1
          have z2 : Boxed (w8.setCell ⟨w5.heap.size, 0, none⟩ (.slice (some ⟨g8, 0, none⟩) fs.length c8)) (w.heap.size + 1) 26 (.slice none 0 0) := hS5.2.1
          have z3 : Below w.heap.size w (w8.setCell ⟨w5.heap.size, 0, none⟩ (.slice (some ⟨g8, 0, none⟩) fs.length c8)) := hS5.2.2.1
          have zo : OwnI w5.heap.size (w8.setCell ⟨w5.heap.size, 0, none⟩ (.slice (some ⟨g8, 0, none⟩) fs.length c8)) (.slice (some ⟨g8, 0, none⟩) fs.length c8) fs := (ho8.kept (grownBy_setCell2 _ _ _ _) (.inr (ownI_ne_box2 ho8 hb8))).base (by simp)
          have zb : Boxed (w8.setCell ⟨w5.heap.size, 0, none⟩ (.slice (some ⟨g8, 0, none⟩) fs.length c8)) (w5.heap.size) 26 (.slice (some ⟨g8, 0, none⟩) fs.length c8) := hb8.set _
          have zn : (w5.heap.size) ≠ g8 := fun e => ownI_ne_box2 zo zb (by rw [e]; rfl)
          have zs8 : w.heap.size + 2 ≤ (w5.heap.size) := by omega
          have zg8 : w5.heap.size ≤ g8 := (zo.shape hfl.1).elim fun _ h => by obtain ⟨_, e, h1, _⟩ := h; simp at e; omega
          clear hS5 hgrow
          obtain ⟨Wf, hWf⟩ : ∃ Wf, w8.setCell ⟨w5.heap.size, 0, none⟩ (.slice (some ⟨g8, 0, none⟩) fs.length c8) = Wf := ⟨_, rfl⟩
          rw [hWf] at z1 z2 z3 zo zb ⊢
          clear hWf
          obtain ⟨bo, hbo⟩ : ∃ bo, (w5.heap.size) = bo := ⟨_, rfl⟩
          rw [hbo] at zb zn zs8 ⊢
          clear hbo
          have q1 := z1.cell
          have q2 := z2.cell
          have q2f := z2.frozen
          have q3 := zb.cell
          have q3f := zb.frozen
          have q4 : Wf.cell? ⟨b, off + p, none⟩ = some (.int .i64 x) := (z3.cell (p := ⟨b, off + p, none⟩) hb).trans hcp0
          have q5 : Wf.cell? ⟨b, off + q, none⟩ = some (.int .i64 y) := (z3.cell (p := ⟨b, off + q, none⟩) hb).trans hcq0
          have Q4 := Lib.hid q4
          have Q5 := Lib.hid q5
          have q6 := zo.cellAt hfl.2.1
          have q6f := zo.frozen p
          have hzb : b < w.heap.size := hb
          have hpn : p < zs.length := by omega
          have hqn : q < zs.length := by omega
          have hpf : p < fs.length := hfl.2.1
          clear q4 q5
          have hvv : (IntKind.i64.wrap ((if y < x then y else x).tdiv 2)) = min x y / 2 := by
            rw [show (if y < x then y else x) = min x y by omega, Int.tdiv_eq_ediv_of_nonneg (by omega), IntKind.wrap_i64]; omega
          have Hvv := Lib.hid hvv
          clear hvv
          go_wp2_with fail
          refine wp_region_held_drew (S := fun w' => Boxed w' w.heap.size 26 (.slice (some ⟨b, off, none⟩) zs.length cap) ∧ Boxed w' (w.heap.size + 1) 26 (.slice none 0 0) ∧ Boxed w' bo 26 (.slice (some ⟨g8, 0, none⟩) fs.length c8) ∧ Below w.heap.size w w') hfw ⟨z1, z2, zb, z3.drew⟩ ?_
          intro hR0
          refine wpAnyH_take (i := 0) (v := ?vcy0) rfl (by kernel_rfl) (by kernel_rfl) (by kernel_rfl) (fun _ _ _ h => h) (.inl ⟨by rfl, ?ycy0⟩) hR0 ?_
          case ycy0 =>
            intro w' hS
            (have k1 := hS.1.cell; have k2 := hS.2.2.1.cell; have k3 := (hS.2.2.2.cell (p := ⟨b, off + p, none⟩) hzb).trans hcp0; have k4 := (hS.2.2.2.cell (p := ⟨b, off + q, none⟩) hzb).trans hcq0; clear hS)
            go_simp
            try with_reducible rfl
          refine wpAnyH_take (i := 1) (v := ?vcy1) rfl (by kernel_rfl) (by kernel_rfl) (by kernel_rfl) (fun _ _ _ h => h) (.inl ⟨by rfl, ?ycy1⟩) hR0 ?_
          case ycy1 =>
            intro w' hS
            (have k1 := hS.1.cell; have k2 := hS.2.2.1.cell; have k3 := (hS.2.2.2.cell (p := ⟨b, off + p, none⟩) hzb).trans hcp0; have k4 := (hS.2.2.2.cell (p := ⟨b, off + q, none⟩) hzb).trans hcq0; clear hS)
            go_simp
            try with_reducible rfl
          refine wpAnyH_take (i := 2) (v := ?vcy2) rfl (by kernel_rfl) (by kernel_rfl) (by kernel_rfl) (fun _ _ _ h => h) (.inl ⟨by rfl, ?ycy2⟩) hR0 ?_
          case ycy2 =>
            intro w' hS
            (have k1 := hS.1.cell; have k2 := hS.2.2.1.cell; have k3 := (hS.2.2.2.cell (p := ⟨b, off + p, none⟩) hzb).trans hcp0; have k4 := (hS.2.2.2.cell (p := ⟨b, off + q, none⟩) hzb).trans hcq0; clear hS)
            go_simp
            try with_reducible rfl
          refine wpAnyH_take (i := 3) (v := ?vcy3) rfl (by kernel_rfl) (by kernel_rfl) (by kernel_rfl) (fun _ _ _ h => h) (.inl ⟨by rfl, ?ycy3⟩) hR0 ?_
          case ycy3 =>
            intro w' hS
            (have k1 := hS.1.cell; have k2 := hS.2.2.1.cell; have k3 := (hS.2.2.2.cell (p := ⟨b, off + p, none⟩) hzb).trans hcp0; have k4 := (hS.2.2.2.cell (p := ⟨b, off + q, none⟩) hzb).trans hcq0; clear hS)
            go_simp
            try with_reducible rfl
          refine wpAnyH_take (i := 4) (v := ?vcy4) rfl (by kernel_rfl) (by kernel_rfl) (by kernel_rfl) (fun _ _ _ h => h) (.inl ⟨by rfl, ?ycy4⟩) hR0 ?_
          case ycy4 =>
            intro w' hS
            (have k1 := hS.1.cell; have k2 := hS.2.2.1.cell; have k3 := (hS.2.2.2.cell (p := ⟨b, off + p, none⟩) hzb).trans hcp0; have k4 := (hS.2.2.2.cell (p := ⟨b, off + q, none⟩) hzb).trans hcq0; clear hS)
            go_simp
            try with_reducible rfl
          refine wpAnyH_take (i := 5) (v := ?vcy5) rfl (by kernel_rfl) (by kernel_rfl) (by kernel_rfl) (fun _ _ _ h => h) (.inl ⟨by rfl, ?ycy5⟩) hR0 ?_
          case ycy5 =>
            intro w' hS
            (have k1 := hS.1.cell; have k2 := hS.2.2.1.cell; have k3 := (hS.2.2.2.cell (p := ⟨b, off + p, none⟩) hzb).trans hcp0; have k4 := (hS.2.2.2.cell (p := ⟨b, off + q, none⟩) hzb).trans hcq0; clear hS)
            go_simp
            try with_reducible rfl
          refine wpAnyH_take (i := 6) (v := ?vcy6) rfl (by kernel_rfl) (by kernel_rfl) (by kernel_rfl) (fun _ _ _ h => h) (.inl ⟨by rfl, ?ycy6⟩) hR0 ?_
          case ycy6 =>
            intro w' hS
            (have k1 := hS.1.cell; have k2 := hS.2.2.1.cell; have k3 := (hS.2.2.2.cell (p := ⟨b, off + p, none⟩) hzb).trans hcp0; have k4 := (hS.2.2.2.cell (p := ⟨b, off + q, none⟩) hzb).trans hcq0; clear hS)
            go_simp
            try with_reducible rfl
          refine wpAnyH_take (i := 7) (v := ?vcy7) rfl (by kernel_rfl) (by kernel_rfl) (by kernel_rfl) (fun _ _ _ h => h) (.inl ⟨by rfl, ?ycy7⟩) hR0 ?_
          case ycy7 =>
            intro w' hS
            (have k1 := hS.1.cell; have k2 := hS.2.2.1.cell; have k3 := (hS.2.2.2.cell (p := ⟨b, off + p, none⟩) hzb).trans hcp0; have k4 := (hS.2.2.2.cell (p := ⟨b, off + q, none⟩) hzb).trans hcq0; clear hS)
            go_simp
            try with_reducible rfl
          refine wpAnyH_take (i := 8) (v := ?vcy8) rfl (by kernel_rfl) (by kernel_rfl) (by kernel_rfl) (fun _ _ _ h => h) (.inl ⟨by rfl, ?ycy8⟩) hR0 ?_
          case ycy8 =>
            intro w' hS
            (have k1 := hS.1.cell; have k2 := hS.2.2.1.cell; have k3 := (hS.2.2.2.cell (p := ⟨b, off + p, none⟩) hzb).trans hcp0; have k4 := (hS.2.2.2.cell (p := ⟨b, off + q, none⟩) hzb).trans hcq0; clear hS)
            go_simp
            try with_reducible rfl
          refine wpAnyH_take (i := 9) (v := ?vcy9) rfl (by kernel_rfl) (by kernel_rfl) (by kernel_rfl) (fun _ _ _ h => h) (.inl ⟨by rfl, ?ycy9⟩) hR0 ?_
          case ycy9 =>
            intro w' hS
            (have k1 := hS.1.cell; have k2 := hS.2.2.1.cell; have k3 := (hS.2.2.2.cell (p := ⟨b, off + p, none⟩) hzb).trans hcp0; have k4 := (hS.2.2.2.cell (p := ⟨b, off + q, none⟩) hzb).trans hcq0; clear hS)
            go_simp
            try with_reducible rfl
          refine wpAnyH_take (i := 10) (v := ?vcy10) rfl (by kernel_rfl) (by kernel_rfl) (by kernel_rfl) (fun _ _ _ h => h) (.inl ⟨by rfl, ?ycy10⟩) hR0 ?_
          case ycy10 =>
            intro w' hS
            (have k1 := hS.1.cell; have k2 := hS.2.2.1.cell; have k3 := (hS.2.2.2.cell (p := ⟨b, off + p, none⟩) hzb).trans hcp0; have k4 := (hS.2.2.2.cell (p := ⟨b, off + q, none⟩) hzb).trans hcq0; clear hS)
            go_simp
            try with_reducible rfl
          refine wpAnyH_take (i := 11) (v := ?vcy11) rfl (by kernel_rfl) (by kernel_rfl) (by kernel_rfl) (fun _ _ _ h => h) (.inl ⟨by rfl, ?ycy11⟩) hR0 ?_
          case ycy11 =>
            intro w' hS
            (have k1 := hS.1.cell; have k2 := hS.2.2.1.cell; have k3 := (hS.2.2.2.cell (p := ⟨b, off + p, none⟩) hzb).trans hcp0; have k4 := (hS.2.2.2.cell (p := ⟨b, off + q, none⟩) hzb).trans hcq0; clear hS)
            go_simp
            try with_reducible rfl
          refine wpAnyH_take (i := 12) (v := ?vcy12) rfl (by kernel_rfl) (by kernel_rfl) (by kernel_rfl) (fun _ _ _ h => h) (.inl ⟨by rfl, ?ycy12⟩) hR0 ?_
          case ycy12 =>
            intro w' hS
            (have k1 := hS.1.cell; have k2 := hS.2.2.1.cell; have k3 := (hS.2.2.2.cell (p := ⟨b, off + p, none⟩) hzb).trans hcp0; have k4 := (hS.2.2.2.cell (p := ⟨b, off + q, none⟩) hzb).trans hcq0; clear hS)
            go_simp
            try with_reducible rfl
          refine wpAnyH_take (i := 13) (v := ?vcy13) rfl (by kernel_rfl) (by kernel_rfl) (by kernel_rfl) (fun _ _ _ h => h) (.inl ⟨by rfl, ?ycy13⟩) hR0 ?_
          case ycy13 =>
            intro w' hS
            (have k1 := hS.1.cell; have k2 := hS.2.2.1.cell; have k3 := (hS.2.2.2.cell (p := ⟨b, off + p, none⟩) hzb).trans hcp0; have k4 := (hS.2.2.2.cell (p := ⟨b, off + q, none⟩) hzb).trans hcq0; clear hS)
            go_simp
            try with_reducible rfl
          refine wpAnyH_take (i := 14) (v := ?vcy14) rfl (by kernel_rfl) (by kernel_rfl) (by kernel_rfl) (fun _ _ _ h => h) (.inl ⟨by rfl, ?ycy14⟩) hR0 ?_
          case ycy14 =>
            intro w' hS
            (have k1 := hS.1.cell; have k2 := hS.2.2.1.cell; have k3 := (hS.2.2.2.cell (p := ⟨b, off + p, none⟩) hzb).trans hcp0; have k4 := (hS.2.2.2.cell (p := ⟨b, off + q, none⟩) hzb).trans hcq0; clear hS)
            go_simp
            try with_reducible rfl
          refine wpAnyH_take (i := 15) (v := ?vcy15) rfl (by kernel_rfl) (by kernel_rfl) (by kernel_rfl) (fun _ _ _ h => h) (.inl ⟨by rfl, ?ycy15⟩) hR0 ?_
          case ycy15 =>
            intro w' hS
            (have k1 := hS.1.cell; have k2 := hS.2.2.1.cell; have k3 := (hS.2.2.2.cell (p := ⟨b, off + p, none⟩) hzb).trans hcp0; have k4 := (hS.2.2.2.cell (p := ⟨b, off + q, none⟩) hzb).trans hcq0; clear hS)
            go_simp
            try with_reducible rfl
          refine wpAnyH_ready (rs := [16]) (by kernel_rfl) (by simp) ?_
          refine AllReadyH.cons rfl (fun K' hK' => ?_) AllReadyH.nil
          rw [if_pos (by rfl)]
          go_simp
          obtain ⟨r1, r2⟩ := OwnI.stored zo p (IntKind.i64.wrap ((if y < x then y else x).tdiv 2))
          have rB : Below w.heap.size w ((Wf.setCell ⟨g8, p, none⟩ (.int .i64 (IntKind.i64.wrap ((if y < x then y else x).tdiv 2)))).drew) := (z3.setCell (p := ⟨g8, p, none⟩) (by show w.heap.size ≤ g8; omega) _).drew
          have rQ : Boxed ((Wf.setCell ⟨g8, p, none⟩ (.int .i64 (IntKind.i64.wrap ((if y < x then y else x).tdiv 2)))).drew) (w.heap.size + 1) 26 (.slice none 0 0) := boxed_setFar z2 (by omega)
          have rO : Boxed ((Wf.setCell ⟨g8, p, none⟩ (.int .i64 (IntKind.i64.wrap ((if y < x then y else x).tdiv 2)))).drew) bo 26 (.slice (some ⟨g8, 0, none⟩) fs.length c8) := boxed_setFar zb zn
          refine hK'.out _ _ ⟨(show Boxed ((Wf.setCell ⟨g8, p, none⟩ (.int .i64 (IntKind.i64.wrap ((if y < x then y else x).tdiv 2)))).drew) w.heap.size 26 (.slice (some ⟨b, off, none⟩) zs.length cap) from boxed_setFar z1 (by omega)), rQ, rO, rB⟩ fun hR1 => wpAnyH_done (by kernel_rfl) ?_ _
          replace r1 : OwnI w5.heap.size ((Wf.setCell ⟨g8, p, none⟩ (.int .i64 (IntKind.i64.wrap ((if y < x then y else x).tdiv 2)))).drew) (.slice (some ⟨g8, 0, none⟩) fs.length c8) (fs.set p (IntKind.i64.wrap ((if y < x then y else x).tdiv 2))) := World.ownsRow.drew r1
          clear hR1 hR0 hK' q1 q2 q2f q3 q3f q6 q6f
          obtain ⟨Wr, hWr⟩ : ∃ Wr, (Wf.setCell ⟨g8, p, none⟩ (.int .i64 (IntKind.i64.wrap ((if y < x then y else x).tdiv 2)))).drew = Wr := ⟨_, rfl⟩
          rw [hWr] at r1 rB rQ rO ⊢
          clear hWr r2
          have q2 := rQ.cell
          have q2f := rQ.frozen
          have q3 := rO.cell
          go_wp2_with fail
          all_goals
            have k1 := (rQ.set (.slice (some ⟨g8, 0, none⟩) fs.length c8)).cell
            have rr : OwnI w.heap.size (Wr.setCell ⟨w.heap.size + 1, 0, none⟩ (.slice (some ⟨g8, 0, none⟩) fs.length c8)) (.slice (some ⟨g8, 0, none⟩) fs.length c8) (foldR zs p q) := by
              rw [Hr.out, HG.out, ← Hvv.out]
              exact (r1.kept (grownBy_setCell2 _ _ _ _) (.inr (by simp [Value.ownBlock]; omega))).base (by omega)
            exact bodyPost_ret (v := .tuple #[.agg #[(.slice (some ⟨g8, 0, none⟩) fs.length c8)], .int .i64 0]) (by simp [results, Try.f85, go_sem, k1]) rfl ⟨_, ret_t2 Hc.out.symm, rr, rB.setCell (p := ⟨w.heap.size + 1, 0, none⟩) (by show w.heap.size ≤ w.heap.size + 1; omega) _⟩
      · have Hi2 := Lib.hid (show inB j (i + 1) ((zs.length : Int) - 1) = false by rw [inB_false]; omega)
        have Hc := Lib.hid (show foldC zs i j = 2 by unfold foldC; rw [Ht.out, if_pos rfl, if_neg (by unfold foldOk; simp; omega)])
        have Hr := Lib.hid (show foldR zs i j = [] by unfold foldR; rw [Hc.out]; rfl)
        go_wp2_with fail
        refine (l01In_d false _ _ _ _ Hi2.out).mono ?_
        rintro e w6 ⟨rfl, rfl⟩
        go_wp2_with fail
        have k1 := (bQ.set (.slice none 0 0)).cell
        exact bodyPost_ret (v := .tuple #[.agg #[.slice none 0 0], .int .i64 2]) (by simp [results, Try.f85, go_sem, k1]) rfl ⟨_, ret_t2 Hc.out.symm, by rw [Hr.out]; exact ownI_nil _ _, hB6.setCell (p := ⟨w.heap.size + 1, 0, none⟩) (by show w.heap.size ≤ w.heap.size + 1; omega) _⟩
    · have Hi1 := Lib.hid (show inB i 0 ((zs.length : Int) - 1) = false by rw [inB_false]; omega)
      have Hc := Lib.hid (show foldC zs i j = 2 by unfold foldC; rw [Ht.out, if_pos rfl, if_neg (by unfold foldOk; simp; omega)])
      have Hr := Lib.hid (show foldR zs i j = [] by unfold foldR; rw [Hc.out]; rfl)
      go_wp2_with fail
      refine (l01In_d false _ _ _ _ Hi1.out).mono ?_
      rintro e w3 ⟨rfl, rfl⟩
      go_wp2_with fail
      have k1 := (bQ.set (.slice none 0 0)).cell
      exact bodyPost_ret (v := .tuple #[.agg #[.slice none 0 0], .int .i64 2]) (by simp [results, Try.f85, go_sem, k1]) rfl ⟨_, ret_t2 Hc.out.symm, by rw [Hr.out]; exact ownI_nil _ _, hB4.setCell (p := ⟨w.heap.size + 1, 0, none⟩) (by show w.heap.size ≤ w.heap.size + 1; omega) _⟩

end Go.Proofs.Ytoflgfenlbibpaa
