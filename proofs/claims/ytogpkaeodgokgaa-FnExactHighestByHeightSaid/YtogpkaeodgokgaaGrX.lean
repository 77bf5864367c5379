/-
  HighestByHeight of both.
  Conditions: lists of at most 1048576 elements.
-/
import Derived.Test.YtogpkaeodgokgaaGrW
import Derived.Test.YtogpkaeodgokgaaGrG
namespace Go.Proofs.Ytogpkaeodgokgaa
open Go.RowKit Go.Shelf
attribute [local go_sem] Oper.semAt_some

def hhC (rs : List Int) (d : Int) : Int := if gardenOk rs = true then if inB d 1 200 = true then 0 else 2 else 1
def hhR (rs : List Int) (d : Int) : Int := if hhC rs d = 0 then hiG rs d.toNat else 0
theorem hh_one {rs : List Int} {d : Int} (h : gardenOk rs = false) : hhC rs d = 1 ∧ hhR rs d = 0 := by
  have : hhC rs d = 1 := by unfold hhC; rw [if_neg (by rw [h]; simp)]
  exact ⟨this, by unfold hhR; rw [if_neg (by omega)]⟩
theorem hh_two {rs : List Int} {d : Int} (h : gardenOk rs = true) (h2 : inB d 1 200 = false) : hhC rs d = 2 ∧ hhR rs d = 0 := by
  have : hhC rs d = 2 := by unfold hhC; rw [if_pos h, if_neg (by rw [h2]; simp)]
  exact ⟨this, by unfold hhR; rw [if_neg (by omega)]⟩
theorem hh_none {rs : List Int} {d : Nat} (h : gardenOk rs = true) (h2 : inB d 1 200 = true) : hhC rs d = 0 ∧ hhR rs d = hiG rs d := by
  have : hhC rs d = 0 := by unfold hhC; rw [if_pos h, if_pos h2]
  exact ⟨this, by unfold hhR; rw [if_pos this]; rfl⟩
/-- the eight numbers of an array -/
def arr8 (up : List Int) : List Int := (List.range 8).map fun (i : Nat) => nth up i
theorem arr8_length (up : List Int) : (arr8 up).length = 8 := by simp [arr8]
theorem nth_arr8 (up : List Int) {i : Nat} (h : i < 8) : nth (arr8 up) i = nth up i := by simp [arr8, nth, h]
/-- the highest plant of an array -/
theorem most_arr {rs up : List Int} (hg : gardenOk rs = true) (h0 : ∀ k, 0 ≤ nth up k) (hl : up.length = rs.length) : most (arr8 up) = (cutTo (rkG rs 0 up) rs.length).2 := by
  have h8 := gardenOk_len hg
  have ha := arr8_length up
  obtain ⟨j, hj, _, e⟩ := cutTo_some (rk := rkG rs 0 up) (k := rs.length) (by omega) (by rw [rkG_zero]; exact h0 0)
  rw [rkG_zero] at e
  obtain ⟨i, hi, ei⟩ := mostTo_in (ts := arr8 up) (Nat.le_refl _) (by omega) (fun q hq => by rw [nth_arr8 _ (by omega)]; have := h0 q; omega)
  have hup := mostTo_up (ts := arr8 up) (j := j) (Nat.le_refl _) (by omega)
  rw [nth_arr8 _ (by omega)] at hup
  rw [nth_arr8 _ (by omega)] at ei
  have hle : nth up i ≤ (cutTo (rkG rs 0 up) rs.length).2 := by
    by_cases hir : i < rs.length
    · have := cutTo_ge (rk := rkG rs 0 up) hir
      rwa [rkG_zero] at this
    · rw [nth_end (zs := up) (by omega), e]; exact h0 j
  unfold most
  omega

set_option maxRecDepth 100000 in
set_option maxHeartbeats 8000000 in
theorem s_HighestByHeight (c0 : Value) (rs : List Int) (x : Int) (w : World) (hI : Ints w.heap.size w c0 rs) (_hN : I64s rs) (hm : rs.length ≤ 1048576) (_hx : I64 x) :
    Calls Try.prog 57 #[.agg #[c0], .int .i64 x] w fun e w' => e = .returned (.tuple #[.int .i64 (hhR rs x), .int .i64 (hhC rs x)]) ∧ Below w.heap.size w w' := by
  obtain ⟨i0, hi, hz0, hz1, hz2⟩ := info_parts Try.infoI
  obtain ⟨a, cap, rfl⟩ := hI.shape
  have hB0 : Below w.heap.size w (w.alloc (.cells #[.slice a rs.length cap] 48)) := (Below.refl _ w).alloc (Nat.le_refl _) _
  cases hg : gardenOk rs
  · have H := Lib.hid (hh_one (d := x) hg)
    go_enter Try.func57, Try.ntmps57
    go_wp2_with fail
    refine (l06Is_d false _ rs _ (hI.later hB0) (by omega) hg).mono ?_
    rintro e w1 ⟨rfl, hb⟩
    go_wp2
    go_ret2
    exact ⟨ret_ii H.out.2.symm H.out.1.symm, hB0.trans (hb.mono (by simp))⟩
  · cases hx : inB x 1 200
    · have H := Lib.hid (hh_two hg hx)
      have Hx := Lib.hid hx
      clear hx
      go_enter Try.func57, Try.ntmps57
      go_wp2_with fail
      refine (l06Is_d true _ rs _ (hI.later hB0) (by omega) hg).mono ?_
      rintro e w1 ⟨rfl, hb⟩
      go_wp2_with (go_at_call 86; refine (l01In_d false _ _ _ _ Hx.out).mono ?_; rintro e w' ⟨rfl, rfl⟩)
      go_ret2
      exact ⟨ret_ii H.out.2.symm H.out.1.symm, hB0.trans (hb.mono (by simp))⟩
    · have hx2 := inB_true.1 hx
      obtain ⟨N, rfl⟩ : ∃ N : Nat, x = (N : Int) := ⟨x.toNat, by omega⟩
      have H := Lib.hid (hh_none hg hx)
      have Hx := Lib.hid hx
      have hl8 := gardenOk_len hg
      have hN : N ≤ 200 := by omega
      clear hx
      go_enter Try.func57, Try.ntmps57
      go_wp2_with fail
      refine (l06Is_d true _ rs _ (hI.later hB0) (by omega) hg).mono ?_
      rintro e w1 ⟨rfl, hb⟩
      have hB1 := hB0.trans (hb.mono (by simp))
      have bG : Boxed w1 w.heap.size 48 (.slice a rs.length cap) := boxed_later (Boxed.new _ _ _) hb
      have kG := bG.cell
      clear hb hB0
      go_wp2_with (first | (go_at_call 86; refine (l01In_d true _ _ _ _ Hx.out).mono ?_; rintro e w' ⟨rfl, rfl⟩) | (at_make; refine wpList_make_full _ rfl (.tmp 19) (.tmp 19) 22 rfl (w.heap.size + 1) 2 i0 (.int .i64 0) 1 Try.underlying22 hi hz0 hz1 .i64 .i64 _ _ rs.length rfl rfl rfl rfl ?c1 ?c2 ?c3 ?_))
      case c1 => rw [hz2]; omega
      case c2 => unfold maxLen; omega
      case c3 => have := bG.lt; omega
      intro w2 hown hgrow
      have ho0 := ownI_made hown
      have hB2 : Below w.heap.size w w2 := hB1.grown hgrow hB1.size (by simp)
      have bG2 := bG.kept hgrow (by simp)
      clear hown hgrow kG
      go_wp2
      go_loopw [1, 6, 7] (fun i v m wr => ∃ n : Nat, n ≤ N ∧ i = .int .i64 ((N : Int) - n) ∧ m = .int .i64 (hiG rs n) ∧ OwnI (w.heap.size + 1) wr v (stG rs 0 n) ∧ Boxed wr w.heap.size 48 (.slice a rs.length cap) ∧ Below w.heap.size w wr) (fun i _ _ _ => (intOf i).toNat)
      case atStart => exact ⟨0, Nat.zero_le _, by simp, rfl, ho0, bG2, hB2⟩
      case round =>
        obtain ⟨n, hn, rfl, rfl, ho, hbx, hB⟩ := hrel
        clear ho0 bG2 hB2 hB1 bG
        have kb := hbx.cell
        by_cases hlt : n < N
        · have hltI : 0 < (N : Int) - n := by omega
          obtain ⟨hs, hhs⟩ : ∃ hs, stG rs 0 n = hs := ⟨_, rfl⟩
          have hln : hs.length = rs.length := by rw [← hhs]; exact stG_length _ _ _
          have hbd : ∀ k, 0 ≤ nth hs k ∧ nth hs k ≤ 100000 := fun k => by rw [← hhs]; have := stG_bd hg 0 n k; omega
          have hup0 : upG rs 0 n = growL rs hs 1 := by unfold upG; rw [hhs]
          have hubd : ∀ k, 0 ≤ nth (upG rs 0 n) k ∧ nth (upG rs 0 n) k ≤ 1000000 := fun k => by have := upG_bd hg 0 n k; omega
          have hul := upG_length rs 0 n
          have hst := stG_succ rs 0 n
          have hhi := hiG_bd hg n
          have hsu : hiG rs (n + 1) = max (hiG rs n) (cutTo (rkG rs 0 (upG rs 0 n)) rs.length).2 := rfl
          obtain ⟨j, hj, ej, e2⟩ := cutTo_some (rk := rkG rs 0 (upG rs 0 n)) (k := rs.length) (by omega) (by rw [rkG_zero]; exact (hubd 0).1)
          have hdy : dayG rs 0 n = (j : Int) := ej
          rw [rkG_zero] at e2
          rw [e2] at hsu
          have hbj := hubd j
          rw [hdy, show ∀ q : Nat, cutAt (upG rs 0 n) (q : Int) = (upG rs 0 n).set q 0 from fun q => by unfold cutAt; rw [if_neg (by omega)]; rfl] at hst
          obtain ⟨up, hup⟩ : ∃ up, upG rs 0 n = up := ⟨_, rfl⟩
          have hcg : cutG rs 0 up = (j : Int) := by rw [← hup]; exact ej
          rw [hup] at hubd hul hst hsu hbj hup0
          rw [hhs] at ho
          have Hbd := Lib.hid hbd
          have Hubd := Lib.hid hubd
          have Hln := Lib.hid hln
          have Hul := Lib.hid hul
          have Hst := Lib.hid hst
          have Hcg := Lib.hid hcg
          have Hup0 := Lib.hid hup0
          have hsw : w.heap.size + 1 ≤ wr.heap.size := hbx.lt
          clear hhs hln hbd hubd hul hst hcg hup0 ej e2 hdy hup
          go_wp2_with fail
          refine (l06Grow_c _ rs _ hs 1 _ (hI.later hB) ho.ints hg Hln.out Hbd.out (by omega) (by omega)).mono ?_
          rintro e w3 ⟨v, rfl, ho3, hb4⟩
          rw [← Hup0.out] at ho3
          simp only [id]
          have hB3 := hB.trans (hb4.mono hB.size)
          have hbx3 := boxed_later hbx hb4
          have ho4 := ho3.base hsw
          clear hb4 ho kb hbx hB
          go_wp2_with fail
          refine (l06Highest_c rs _ up _ ho3.ints (by rw [Hul.out]; omega) (by rw [Hul.out]; omega) Hul.out Hubd.out).mono ?_
          rintro e w4 ⟨rfl, hb5⟩
          rw [Hcg.out]
          have hB4 := hB3.trans (hb5.mono hB3.size)
          have hbx4 := boxed_later hbx3 hb5
          have ho5 := ho4.below hb5
          obtain ⟨g2, cap3, rfl, hg2, hg3⟩ := ho5.shape (by rw [Hul.out]; omega)
          have cj := ho5.cellAt (j := j) (by rw [Hul.out]; exact hj)
          have fj := ho5.frozen j
          obtain ⟨q, hq⟩ : ∃ q, up.length = q := ⟨_, rfl⟩
          have hjq : (j : Int) < (q : Int) := by have := Hul.out; omega
          rw [hq] at ho5 ⊢
          have Hq := Lib.hid hq
          clear hb5 ho3 ho4 hbx3 hB3 hq
          by_cases hle : nth up j ≤ hiG rs n
          · have Hs := Lib.hid (show hiG rs (n + 1) = hiG rs n by omega)
            clear hsu
            go_wp2
            go_roundw
            case rel => exact ⟨n + 1, by omega, by simp; omega, by rw [Hs.out]; try (congr 1; omega), by rw [Hst.out]; exact (ho5.stored j 0).1, hbx4.kept (grownBy_setCell2 _ _ _ _) (by simp; omega), hB4.setCell (p := ⟨g2, j, none⟩) (by show w.heap.size ≤ g2; omega) _⟩
            case measure => simp [intOf]; omega
          · have Hs := Lib.hid (show hiG rs (n + 1) = nth up j by omega)
            clear hsu
            go_wp2
            go_roundw
            case rel => exact ⟨n + 1, by omega, by simp; omega, by rw [Hs.out]; try (congr 1; omega), by rw [Hst.out]; exact (ho5.stored j 0).1, hbx4.kept (grownBy_setCell2 _ _ _ _) (by simp; omega), hB4.setCell (p := ⟨g2, j, none⟩) (by show w.heap.size ≤ g2; omega) _⟩
            case measure => simp [intOf]; omega
        · obtain rfl : n = N := by omega
          have hnl : ¬ 0 < (n : Int) - n := by omega
          go_wp2
          go_ret2
          exact ⟨ret_ii H.out.2.symm H.out.1.symm, hB⟩


set_option maxRecDepth 100000 in
set_option maxHeartbeats 16000000 in
theorem i_HighestByHeight (c0 : Value) (rs : List Int) (x : Int) (w : World) (hI : Ints w.heap.size w c0 rs) (_hN : I64s rs) (hm : rs.length ≤ 1048576) (_hx : I64 x) :
    Calls Try.prog 58 #[.agg #[c0], .int .i64 x] w fun e w' => e = .returned (.tuple #[.int .i64 (hhR rs x), .int .i64 (hhC rs x)]) ∧ Below w.heap.size w w' := by
  obtain ⟨a, cap, rfl⟩ := hI.shape
  have hB0 : Below w.heap.size w (w.alloc (.cells #[.slice a rs.length cap] 48)) := (Below.refl _ w).alloc (Nat.le_refl _) _
  have hfw : Try.prog.follows Departure.mixedOrders = true := by kernel_rfl
  refine (callsIn_wide (n := 11)).1 ?_
  cases hg : gardenOk rs
  · have H := Lib.hid (hh_one (d := x) hg)
    refine callsIn_of_wp_marks Try.func58 rfl trivial ?_ rfl
    simp only [Try.ntmps58, List.size_toArray, List.length_cons, List.length_nil, Nat.reduceAdd, Nat.reduceSub, Array.replicate_succ, Array.replicate_zero, List.push_toArray, List.append_toArray, List.nil_append, List.cons_append]
    gi_wp2_with fail
    refine ⟨trivial, (callsIn_wide.2 (isGarden_d false _ rs _ (hI.later hB0) (by omega) hg)).mono ?_⟩
    rintro e w1 ⟨rfl, hb⟩
    have hB1 := hB0.trans (hb.mono (by simp))
    gi_wp2
    exact retM0 ⟨.tuple #[.int .i64 0, .int .i64 1], by simp [results, Try.results58, go_sem], ret_ii H.out.2.symm H.out.1.symm, hB1⟩
  · by_cases hlow : x < 1
    · have H := Lib.hid (hh_two hg (inB_false.2 (.inl hlow)))
      refine callsIn_of_wp_marks Try.func58 rfl trivial ?_ rfl
      simp only [Try.ntmps58, List.size_toArray, List.length_cons, List.length_nil, Nat.reduceAdd, Nat.reduceSub, Array.replicate_succ, Array.replicate_zero, List.push_toArray, List.append_toArray, List.nil_append, List.cons_append]
      gi_wp2_with fail
      refine ⟨trivial, (callsIn_wide.2 (isGarden_d true _ rs _ (hI.later hB0) (by omega) hg)).mono ?_⟩
      rintro e w1 ⟨rfl, hb⟩
      have hB1 := hB0.trans (hb.mono (by simp))
      gi_wp2
      exact retM0 ⟨.tuple #[.int .i64 0, .int .i64 2], by simp [results, Try.results58, go_sem], ret_ii H.out.2.symm H.out.1.symm, hB1⟩
    by_cases hhi : 200 < x
    · have H := Lib.hid (hh_two (rs := rs) hg (inB_false.2 (.inr hhi)))
      refine callsIn_of_wp_marks Try.func58 rfl trivial ?_ rfl
      simp only [Try.ntmps58, List.size_toArray, List.length_cons, List.length_nil, Nat.reduceAdd, Nat.reduceSub, Array.replicate_succ, Array.replicate_zero, List.push_toArray, List.append_toArray, List.nil_append, List.cons_append]
      gi_wp2_with fail
      refine ⟨trivial, (callsIn_wide.2 (isGarden_d true _ rs _ (hI.later hB0) (by omega) hg)).mono ?_⟩
      rintro e w1 ⟨rfl, hb⟩
      have hB1 := hB0.trans (hb.mono (by simp))
      gi_wp2
      exact retM0 ⟨.tuple #[.int .i64 0, .int .i64 2], by simp [results, Try.results58, go_sem], ret_ii H.out.2.symm H.out.1.symm, hB1⟩
    obtain ⟨N, rfl⟩ : ∃ N : Nat, x = (N : Int) := ⟨x.toNat, by omega⟩
    have H := Lib.hid (hh_none (d := N) hg (inB_true.2 (by omega)))
    have hl8 := gardenOk_len hg
    have hN : N ≤ 200 := by omega
    refine callsIn_of_wp_marks Try.func58 rfl trivial ?_ rfl
    simp only [Try.ntmps58, List.size_toArray, List.length_cons, List.length_nil, Nat.reduceAdd, Nat.reduceSub, Array.replicate_succ, Array.replicate_zero, List.push_toArray, List.append_toArray, List.nil_append, List.cons_append]
    gi_wp2_with fail
    refine ⟨trivial, (callsIn_wide.2 (isGarden_d true _ rs _ (hI.later hB0) (by omega) hg)).mono ?_⟩
    rintro e w1 ⟨rfl, hb⟩
    have hB1 := hB0.trans (hb.mono (by simp))
    have bG : Boxed w1 w.heap.size 48 (.slice a rs.length cap) := boxed_later (Boxed.new _ _ _) hb
    have hlG := bG.lt
    have kG := bG.cell
    clear hb hB0
    gi_wp2_with fail
    obtain ⟨w2, hw2⟩ : ∃ w2, w1.alloc (.cells #[.int .i64 0] 2) = w2 := ⟨_, rfl⟩
    have hb2 : Below w1.heap.size w1 w2 := by rw [← hw2]; exact (Below.refl _ _).alloc (Nat.le_refl _) _
    have bX : Boxed w2 w1.heap.size 2 (.int .i64 0) := by rw [← hw2]; exact Boxed.new _ _ _
    have hB2 := hB1.trans (hb2.mono hB1.size)
    try rw [hw2]
    clear hw2 hb2 bG kG
    refine ⟨trivial, (callsIn_wide.2 (cutterByHeight_c _ _ _ _)).mono ?_⟩
    rintro e w3 ⟨rfl, hb3⟩
    have hB3 := hB2.trans (hb3.mono hB2.size)
    replace bX := boxed_later bX hb3
    gi_wp2_with fail
    refine ⟨trivial, (callsIn_wide.2 (work_c _ _ _ _ _)).mono ?_⟩
    rintro e w4 ⟨rfl, hw4⟩
    have hb4 : Below w3.heap.size w3 w4 := by rw [hw4]; exact ((Below.refl _ _).alloc (Nat.le_refl _) _).alloc (by simp) _
    have bC : Cut3 w4 w3.heap.size (.slice a rs.length cap) (.func (.func 144) #[] #[]) 0 := by rw [hw4]; exact (Cut3.new _ _ _ _).alloc _
    have bD : Boxed w4 (w3.heap.size + 1) 2 (.int .i64 N) := by rw [hw4]; repeat first | (refine boxed_at ?_; (simp; done)) | refine Boxed.alloc ?_ _
    have hs4 : w3.heap.size + 2 ≤ w4.heap.size := by rw [hw4]; simp
    have hB4 := hB3.trans (hb4.mono hB3.size)
    have hlX := bX.lt
    replace bX := boxed_later bX hb4
    clear hw4 hb4 hb3 hB1 hB2 hB3
    gi_wp2_with fail
    refine range_enter rfl (by omega) rfl trivial (enters_of Try.func133 (by kernel_rfl) rfl) ?_
    intro fn hfn
    obtain ⟨V0, hV0⟩ : ∃ V0 : Loop → World, ∀ rec, (w4.alloc (.deferred (some []))).alloc (.loop rec) = V0 rec := ⟨_, fun _ => rfl⟩
    have hDL : (w4.alloc (.deferred (some []))).heap.size = w4.heap.size + 1 := World.size_alloc _ _
    have hsz0 : ∀ rec, (V0 rec).heap.size = w4.heap.size + 2 := fun rec => by rw [← hV0]; simp
    have hbn : ∀ rec, Below w4.heap.size w4 (V0 rec) := fun rec => by rw [← hV0]; exact ((Below.refl _ _).alloc (Nat.le_refl _) _).alloc (by simp) _
    have hdf : ∀ rec, (V0 rec).heap[w4.heap.size]? = some (.deferred (some [])) := fun rec => by rw [← hV0]; exact (Below.heap_alloc _ _ _ (by simp)).trans (World.alloc_heap_new _ _)
    have hrc : ∀ rec, (V0 rec).heap[w4.heap.size + 1]? = some (.loop rec) := fun rec => by rw [← hV0]; have := World.alloc_heap_new (w4.alloc (.deferred (some []))) (.loop rec); rw [hDL] at this; exact this
    rw [hV0]
    clear hV0 hDL
    have Hs0 := Lib.hid hsz0
    have Hbn := Lib.hid hbn
    refine (work_loop (N := N) hg (chooseAt0 hg) hN w.heap.size (fun W hW => (hI.below hB4).below ((hbn _).mono hB4.size) |>.below hW |>.mono (hB4.trans (((hbn _).mono hB4.size).trans hW)).size)
      (fun k W => Boxed W w1.heap.size 2 (.int .i64 (hiG rs k)) ∧ Below w.heap.size (V0 _) W)
      (fun _ => False) ?hmove ?hstore ?hsame ?hround (bC.later (hbn _)) (boxed_later bD (hbn _)) (hdf _) (hrc _) ⟨boxed_later bX (hbn _), Below.refl _ _⟩).mono ?post
    case hmove =>
      rintro k W W' ⟨b1, hB⟩ hb
      exact ⟨boxed_later b1 hb, hB.trans (hb.mono (by have := hB.size; rw [Hs0.out] at this; have := hB4.size; omega))⟩
    case hstore =>
      rintro k W b ys ⟨b1, hB⟩ hb hA zs
      rw [Hs0.out] at hb
      have h4 := hB4.size
      exact ⟨b1.kept (grownBy_stoI _ _ _) (by simp; omega), below_stoI zs hB (by omega) (by rw [Hs0.out]; omega)⟩
    case hsame =>
      rintro k W ⟨_, hB⟩
      exact hB
    case hround =>
      rintro k b4 b5 W hk hb4 hb5 E ⟨b1, hB⟩
      rw [Hs0.out] at hb4 hb5
      have hwb : w.heap.size + 1 ≤ w4.heap.size := by omega
      have hsW : w4.heap.size + 2 ≤ W.heap.size := by have := hB.size; rw [Hs0.out] at this; omega
      have hub : ∀ j, 0 ≤ nth (upG rs 0 k) j ∧ nth (upG rs 0 k) j ≤ 1000000 := fun j => by have := upG_bd hg 0 k j; omega
      have hul := upG_length rs 0 k
      have hmo := most_arr hg (fun j => (hub j).1) hul
      have hsu : hiG rs (k + 1) = max (hiG rs k) (cutTo (rkG rs 0 (upG rs 0 k)) rs.length).2 := rfl
      have hhi := hiG_bd hg k
      rw [← hmo] at hsu
      obtain ⟨up, hup⟩ : ∃ up, upG rs 0 k = up := ⟨_, rfl⟩
      rw [hup] at E hub hsu ⊢
      obtain ⟨q, hq⟩ : ∃ q : Int, most (arr8 up) = q := ⟨_, rfl⟩
      rw [hq] at hsu
      have Hq := Lib.hid hq
      have Hub := Lib.hid hub
      clear hmo hup hub hul hq
      have HH := Lib.hid (And.intro b1 (And.intro hB E))
      have hRW := Lib.hid E.rec_
      obtain ⟨A2, hA2⟩ : ∃ A2, W.alloc (.cells #[.int .i64 0, .int .i64 0, .int .i64 0, .int .i64 0, .int .i64 0, .int .i64 0, .int .i64 0, .int .i64 0] 90) = A2 := ⟨_, rfl⟩
      have bS : ArI A2 W.heap.size [] := by rw [← hA2]; exact ArI.new W []
      have hbW : Below W.heap.size W (stoI A2 W.heap.size up) := by rw [← hA2]; exact below_stoI up ((Below.refl _ _).alloc (Nat.le_refl _) _) (Nat.le_refl _) (Nat.le_refl _)
      have HbW := Lib.hid hbW
      have hL1 := Lib.hid ((hbW.block _ (by omega)).trans hRW.out)
      have HbS := Lib.hid (ArI.storedI up bS)
      have cA0 := bS.cell (i := 0) (by omega)
      have cA1 := bS.cell (i := 1) (by omega)
      have cA2 := bS.cell (i := 2) (by omega)
      have cA3 := bS.cell (i := 3) (by omega)
      have cA4 := bS.cell (i := 4) (by omega)
      have cA5 := bS.cell (i := 5) (by omega)
      have cA6 := bS.cell (i := 6) (by omega)
      have cA7 := bS.cell (i := 7) (by omega)
      have fA0 := bS.frozen 0
      have fA1 := bS.frozen 1
      have fA2 := bS.frozen 2
      have fA3 := bS.frozen 3
      have fA4 := bS.frozen 4
      have fA5 := bS.frozen 5
      have fA6 := bS.frozen 6
      have fA7 := bS.frozen 7
      clear hbW E b1 hB
      refine yield_roundG (W1 := stoI A2 W.heap.size up) trivial hRW.out hL1.out rfl ?a1 ?assign ?body
      case assign =>
        intro K0 hK0
        unfold arI ceI
        go_simp
        gi_wp2
        exact hK0
      case body =>
        obtain ⟨b1, hB, E⟩ := HH.out
        have hbW := HbW.out
        have bS1 := HbS.out
        obtain ⟨W1, hW1⟩ : ∃ W1, stoI A2 W.heap.size up = W1 := ⟨_, rfl⟩
        rw [hW1] at hbW bS1
        rw [hW1]
        have b2 := boxed_later b1 hbW
        have B2 := hB.trans (hbW.mono (by omega))
        have E2 := E.later hbW
        clear hW1 HbW HbS hL1 hRW HH bS hA2 cA0 fA0 cA1 fA1 cA2 fA2 cA3 fA3 cA4 fA4 cA5 fA5 cA6 fA6 cA7 fA7
        intro Wb hgb hbusy
        have b3 := b2.kept hgb (by simp; omega)
        have B3 := B2.grown hgb (by have := B2.size; rw [Hs0.out] at this; omega) (fun j e => by cases e; omega)
        have S3 := bS1.kept hgb (by simp; omega)
        have hv2 := hgb.size
        have hD3 := (hgb.block _ (Array.getElem?_eq_some_iff.1 E2.def_).1 (by simp)).trans E2.def_
        have C3 := E2.c.kept hgb (by simp; omega)
        have D3 := E2.d.kept hgb (by simp; omega)
        have R3 := E2.r.kept hgb (by simp; omega)
        have H3 := E2.h.kept hgb (by simp; omega)
        have hd := (Below.refl Wb.heap.size Wb).drew
        have hInt : ∀ W', ArI W' W.heap.size up → Ints W'.heap.size W' (.slice (some ⟨W.heap.size, 0, none⟩) 8 8) (arr8 up) := fun W' h => ⟨_, 8, by rw [arr8_length], .inr ⟨W.heap.size, 0, rfl, h.lt, fun j hj => by rw [arr8_length] at hj; rw [Nat.zero_add, nth_arr8 _ hj]; exact h.cell hj⟩⟩
        have b3d := boxed_later b3 hd
        have k3 := b3d.cell
        have f3 := b3d.frozen
        have hgd : Wb.grownBy Wb.drew none := ⟨rfl, rfl, rfl, Nat.le_refl _, fun _ _ _ => rfl⟩
        obtain ⟨nv, hnv⟩ : ∃ nv, hiG rs (k + 1) = nv := ⟨_, rfl⟩
        have hfin : ∀ Wf, Wb.drew.grownBy Wf (some w1.heap.size) → Boxed Wf w1.heap.size 2 (.int .i64 nv) → Wf.heap[w4.heap.size + 1]? = Wb.heap[w4.heap.size + 1]? ∧
            ∀ r2 : Loop, EnvW w3.heap.size (w3.heap.size + 1) b4 b5 w4.heap.size (w4.heap.size + 1) (.slice a rs.length cap) (.func (.func 144) #[] #[]) 0 N rs up r2 (Wf.putObj (w4.heap.size + 1) (.loop r2)) ∧
              Boxed (Wf.putObj (w4.heap.size + 1) (.loop r2)) w1.heap.size 2 (.int .i64 nv) ∧ Below w.heap.size (V0 _) (Wf.putObj (w4.heap.size + 1) (.loop r2)) := fun Wf hg1 bX1 => by
          have hlL : w4.heap.size + 1 < Wb.heap.size := (Array.getElem?_eq_some_iff.1 hbusy).1
          have e1 : Wf.heap[w4.heap.size + 1]? = Wb.heap[w4.heap.size + 1]? := (hg1.block _ hlL (by simp; omega)).trans rfl
          refine ⟨e1, fun r2 => ?_⟩
          have hp := grownBy_putObj' Wf (w4.heap.size + 1) (.loop r2)
          refine ⟨⟨?_, ?_, ?_, ?_, ?_, ?_⟩, bX1.kept hp (by simp; omega), (B3.drew.grown hg1 (by show w.heap.size ≤ Wb.heap.size; omega) (fun j e => by cases e; omega)).grown hp (by have := hg1.size; have e : Wb.drew.heap.size = Wb.heap.size := rfl; omega) (fun j e => by cases e; omega)⟩
          · exact ((C3.kept hgd (by simp)).kept hg1 (by simp; omega)).kept hp (by simp; omega)
          · exact ((D3.kept hgd (by simp)).kept hg1 (by simp; omega)).kept hp (by simp; omega)
          · exact ((R3.kept hgd (by simp)).kept hg1 (by simp; omega)).kept hp (by simp; omega)
          · exact ((H3.kept hgd (by simp)).kept hg1 (by simp; omega)).kept hp (by simp; omega)
          · refine (World.putObj_heap_other (by omega)).trans ((hg1.block _ (Array.getElem?_eq_some_iff.1 hD3).1 (by simp; omega)).trans hD3)
          · exact World.putObj_heap_same (by have := hg1.size; have e : Wb.drew.heap.size = Wb.heap.size := rfl; omega)
        have Hfin := Lib.hid hfin
        have Hbusy := Lib.hid hbusy
        have HInt := Lib.hid hInt
        rw [hnv] at hsu
        have S3d := S3.later hd
        have hbd8 : ∀ j, j < (arr8 up).length → 0 ≤ nth (arr8 up) j ∧ nth (arr8 up) j ≤ 1000000 := fun j hj => by rw [arr8_length] at hj; rw [nth_arr8 _ hj]; exact Hub.out j
        have Hbd8 := Lib.hid hbd8
        have hmx : max (hiG rs k) q = nv := hsu.symm
        have Hmx := Lib.hid hmx
        have hlb : w1.heap.size < Wb.heap.size := b3.lt
        clear hfin hbusy hInt b1 hB E b2 B2 E2 hbW bS1 S3 hD3 C3 D3 R3 H3 hbd8 hmx hsu hd hgd hv2 B3 hgb
        gi_wp2_with fail
        refine wpIn_region_held (S := fun w' => ArI w' W.heap.size up) hfw (by kernel_rfl) (fun ⟨_, _, h⟩ => h) S3d ?_
        intro hS0
        refine wpAnyH_take (i := 1) (v := ?vp11) rfl (by kernel_rfl) (by kernel_rfl) (by kernel_rfl) (fun _ _ _ h => h) (.inl ⟨by rfl, ?yp11⟩) hS0 ?_
        case yp11 =>
          intro w' hS
          (clear hS)
          go_simp
          try with_reducible rfl
        refine wpAnyH_ready (rs := [0, 2]) (by kernel_rfl) (by simp) ?_
        refine AllReadyH.cons rfl (fun K' hK' => ?_) (AllReadyH.cons rfl (fun K' hK' => ?_) AllReadyH.nil)
        · rw [if_pos (by rfl)]
          go_simp
          refine hK'.out _ _ hS0 fun hS1 => ?_
          clear hS1
          refine wpAnyH_ready (rs := [2]) (by kernel_rfl) (by simp) ?_
          refine AllReadyH.cons rfl (fun K' hK' => ?_) AllReadyH.nil
          rw [if_pos (by rfl)]
          go_simp
          refine (maxR_c _ (arr8 up) _ (HInt.out _ hS0) (by rw [arr8_length]; omega) (by rw [arr8_length]; omega) Hbd8.out).mono ?_
          rintro e w9 ⟨rfl, hw9⟩
          subst hw9
          rw [Hq.out]
          refine hK'.out _ _ hS0 fun hS2 => ?_
          clear hS2
          refine wpAnyH_take (i := 3) (v := (.int .i64 nv)) rfl (by kernel_rfl) (by kernel_rfl) (by kernel_rfl) (fun _ _ _ h => h) (.inl ⟨by first | kernel_rfl | rfl, ?yp23⟩) hS0 ?_
          case yp23 =>
            intro w' hS
            (clear hS)
            go_simp
            try (have := Hmx.out; split <;> omega)
            first | done | (simp; done) | (simp; omega) | omega | (simp [*]; done)
          refine wpAnyH_ready (rs := [4]) (by kernel_rfl) (by simp) ?_
          refine AllReadyH.cons rfl (fun K' hK' => ?_) AllReadyH.nil
          rw [if_pos (by rfl)]
          go_simp
          refine hK'.out _ _ (ArI.other hS0 (by omega) _) fun hS3 => ?_
          refine wpAnyH_done (by kernel_rfl) ?_ _
          obtain ⟨e1, hr2⟩ := Hfin.out ((Wb.setCell ⟨w1.heap.size, 0, none⟩ (.int .i64 nv)).drew) (grownBy_setCell2 Wb.drew w1.heap.size 0 (.int .i64 nv)) (b3d.set _)
          exact ⟨e1.trans Hbusy.out, .inl ⟨rfl, (hr2 _).1, by rw [hnv]; exact (hr2 _).2.1, (hr2 _).2.2⟩⟩
        · rw [if_pos (by rfl)]
          go_simp
          refine (maxR_c _ (arr8 up) _ (HInt.out _ hS0) (by rw [arr8_length]; omega) (by rw [arr8_length]; omega) Hbd8.out).mono ?_
          rintro e w9 ⟨rfl, hw9⟩
          subst hw9
          rw [Hq.out]
          refine hK'.out _ _ hS0 fun hS1 => ?_
          clear hS1
          refine wpAnyH_ready (rs := [0]) (by kernel_rfl) (by simp) ?_
          refine AllReadyH.cons rfl (fun K' hK' => ?_) AllReadyH.nil
          rw [if_pos (by rfl)]
          go_simp
          refine hK'.out _ _ hS0 fun hS2 => ?_
          clear hS2
          refine wpAnyH_take (i := 3) (v := (.int .i64 nv)) rfl (by kernel_rfl) (by kernel_rfl) (by kernel_rfl) (fun _ _ _ h => h) (.inl ⟨by first | kernel_rfl | rfl, ?yp33⟩) hS0 ?_
          case yp33 =>
            intro w' hS
            (clear hS)
            go_simp
            try (have := Hmx.out; split <;> omega)
            first | done | (simp; done) | (simp; omega) | omega | (simp [*]; done)
          refine wpAnyH_ready (rs := [4]) (by kernel_rfl) (by simp) ?_
          refine AllReadyH.cons rfl (fun K' hK' => ?_) AllReadyH.nil
          rw [if_pos (by rfl)]
          go_simp
          refine hK'.out _ _ (ArI.other hS0 (by omega) _) fun hS3 => ?_
          refine wpAnyH_done (by kernel_rfl) ?_ _
          obtain ⟨e1, hr2⟩ := Hfin.out ((Wb.setCell ⟨w1.heap.size, 0, none⟩ (.int .i64 nv)).drew) (grownBy_setCell2 Wb.drew w1.heap.size 0 (.int .i64 nv)) (b3d.set _)
          exact ⟨e1.trans Hbusy.out, .inl ⟨rfl, (hr2 _).1, by rw [hnv]; exact (hr2 _).2.1, (hr2 _).2.2⟩⟩
    case post =>
      rintro e W2 ⟨⟨v, rfl⟩, ⟨hdef2, hrec2, b1, hB⟩ | hx⟩
      · refine range_doneG hrec2 fun Wx hgx => ?_
        have b2 := b1.kept hgx (by simp; omega)
        have hB5 : Below w.heap.size w W2 := hB4.trans (((Hbn.out _).mono hB4.size).trans hB)
        have hB6 := hB5.grown hgx hB5.size (fun j e => by cases e; have := hB4.size; omega)
        have hdef3 := (hgx.block _ (Array.getElem?_eq_some_iff.1 hdef2).1 (by simp)).trans hdef2
        have kX := b2.cell
        gi_wp2
        exact retM1 hdef3 ⟨.tuple #[.int .i64 (hiG rs N), .int .i64 0], by simp [results, Try.results58, go_sem], ret_ii H.out.2.symm H.out.1.symm, below_shut hB6 hB4.size⟩
      · exact hx.elim

end Go.Proofs.Ytogpkaeodgokgaa
