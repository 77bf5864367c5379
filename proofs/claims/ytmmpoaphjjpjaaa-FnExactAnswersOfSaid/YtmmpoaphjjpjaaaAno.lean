/-
  AnswersOf of the program.
  Conditions: lists of at most 1048576 elements.
-/
import Derived.Test.YtmmpoaphjjpjaaaAns
import Derived.Test.YtmmpoaphjjpjaaaShift
namespace Go.Proofs.Ytmmpoaphjjpjaaa
open Go.RowKit Go.Shelf
attribute [local go_sem] Oper.semAt_some

theorem ans_no {ls ps ds p : List Int} (h : jobsOk ls ps ds = false) : ansR ls ps ds p = [] ∧ ansC ls ps ds p = 1 := by
  have : ansC ls ps ds p = 1 := by unfold ansC; rw [h]; rfl
  exact ⟨by unfold ansR; rw [this]; rfl, this⟩
theorem ans_range {ls ps ds p : List Int} (h : jobsOk ls ps ds = true) (ho : ordOk ls.length p = false) : ansR ls ps ds p = [] ∧ ansC ls ps ds p = 2 := by
  have : ansC ls ps ds p = 2 := by unfold ansC; rw [h, ho]; rfl
  exact ⟨by unfold ansR; rw [this]; rfl, this⟩
theorem ans_ok {ls ps ds p : List Int} (h : jobsOk ls ps ds = true) (ho : ordOk ls.length p = true) : ansR ls ps ds p = ansTo ls ps ds p ls.length ∧ ansC ls ps ds p = 0 := by
  have : ansC ls ps ds p = 0 := by unfold ansC; rw [h, ho]; rfl
  exact ⟨by unfold ansR; rw [if_pos this], this⟩
theorem ansR_len (ls ps ds p : List Int) : (ansR ls ps ds p).length * 8 ≤ 140737488351232 := by
  cases h : jobsOk ls ps ds
  · rw [(ans_no h).1]; simp
  · cases ho : ordOk ls.length p
    · rw [(ans_range h ho).1]; simp
    · rw [(ans_ok h ho).1, ansTo_length]; have := (jobsP h).len8; omega
theorem fine_nodup {n : Nat} {p : List Int} {k : Nat} (h : fineTo n p k = true) (hk : k ≤ p.length) : (p.take k).Nodup ∧ ∀ x ∈ p.take k, 0 ≤ x ∧ x < n := by
  induction k with
  | zero => simp
  | succ k ih =>
    rw [fineTo_succ, Bool.and_eq_true, Bool.and_eq_true] at h
    obtain ⟨h1, h2, h3⟩ := h
    obtain ⟨i1, i2⟩ := ih h1 (by omega)
    rw [take_snoc (by omega)]
    have h4 : nth p k ∉ p.take k := by
      intro hm
      have : (p.take k).contains (nth p k) = true := List.contains_iff_mem.2 hm
      unfold metIn at h3
      rw [this] at h3
      simp at h3
    refine ⟨List.nodup_append.2 ⟨i1, by simp, fun a ha b hb => by simp at hb; subst hb; exact fun e => h4 (e ▸ ha)⟩, fun x hx => ?_⟩
    rcases List.mem_append.1 hx with hx | hx
    · exact i2 x hx
    · simp at hx; subst hx; simpa using h2
theorem fineTo_mono {n : Nat} {p : List Int} {j k : Nat} (h : fineTo n p k = true) (hj : j ≤ k) : fineTo n p j = true := by
  unfold fineTo at h ⊢
  rw [List.all_eq_true] at h ⊢
  intro i hi
  exact h i (by simp at hi ⊢; omega)
theorem Ints.take {n₀ : Nat} {W : World} {a : Option Addr} {len cap : Nat} {zs : List Int} (h : Ints n₀ W (.slice a len cap) zs) {k : Nat} (hk : k ≤ zs.length) : Ints n₀ W (.slice a k cap) (zs.take k) := by
  obtain ⟨a', c, e, hz⟩ := h
  cases e
  refine ⟨a, cap, by simp [Nat.min_eq_left hk], ?_⟩
  rcases hz with rfl | ⟨b, off, ha, hb, hc⟩
  · exact .inl (by simp)
  · refine .inr ⟨b, off, ha, hb, fun j hj => ?_⟩
    have hj2 : j < k := by simp at hj; omega
    rw [hc j (by omega)]
    simp [nth, List.getElem?_take_of_lt hj2]

set_option maxRecDepth 100000 in
set_option maxHeartbeats 16000000 in
theorem i_AnswersOf (cl cp cd : Value) (ls ps ds : List Int) (c1 : Value) (p : List Int) (w : World) (hI : Jobs3 w.heap.size w cl cp cd ls ps ds) (hN : J64 ls ps ds) (hm : JLen ls ps ds) (hT : Ints w.heap.size w c1 p) (_hN1 : I64s p) (hm1 : p.length ≤ 1048576) (hcap : CapOk c1 p.length) :
    Calls Try.prog 51 #[.agg #[cl, cp, cd], c1] w (GivesI w (ansR ls ps ds p) fun v => .tuple #[v, .int .i64 (ansC ls ps ds p)]) := by
  obtain ⟨i0, hi, hz0, hz1, hz2⟩ := info_parts Try.infoI2
  obtain ⟨al, capl, rfl⟩ := hI.l.shape
  obtain ⟨ap, capp, rfl⟩ := hI.p.shape
  obtain ⟨ad, capd, rfl⟩ := hI.d.shape
  obtain ⟨a2, cap2, rfl⟩ := hT.shape
  refine (callsIn_wide (n := 9)).1 ?_
  cases ht : jobsOk ls ps ds
  · have H := Lib.hid (ans_no (p := p) ht)
    have Ht := Lib.hid ht
    clear ht
    refine callsIn_of_wp_marks Try.func51 rfl trivial ?_ rfl
    simp only [Try.ntmps51, List.size_toArray, List.length_cons, List.length_nil, Nat.reduceAdd, Nat.reduceSub, Array.replicate_succ, Array.replicate_zero, List.push_toArray, List.append_toArray, List.nil_append, List.cons_append]
    gi_wp2_with fail
    obtain ⟨W0, hW1⟩ : ∃ W0, ((w.alloc (.cells #[.slice al ls.length capl, .slice ap ps.length capp, .slice ad ds.length capd] 41)).alloc (.cells #[.slice a2 p.length cap2] 22)) = W0 := ⟨_, rfl⟩
    have hB1 : Below w.heap.size w W0 := by rw [← hW1]; exact (((Below.refl _ w).alloc (Nat.le_refl _) _).alloc (by simp; try omega) _)
    have hs1 : w.heap.size + 2 ≤ W0.heap.size := by rw [← hW1]; simp
    have bJ : Box3 W0 (w.heap.size) 41 (.slice al ls.length capl) (.slice ap ps.length capp) (.slice ad ds.length capd) := by rw [← hW1]; repeat first | (refine box3_at ?_; (simp; done)) | refine Box3.alloc ?_ _
    have bP : Boxed W0 (w.heap.size + 1) 22 (.slice a2 p.length cap2) := by rw [← hW1]; repeat first | (refine boxed_at ?_; (simp; done)) | refine Boxed.alloc ?_ _
    rw [hW1]
    clear hW1
    refine ⟨trivial, (callsIn_wide.2 (i_AreJobs _ _ _ ls ps ds _ (hI.later hB1) hN hm)).mono ?_⟩
    rintro e w1 ⟨he, hb⟩
    rw [Ht.out] at he
    subst he
    gi_wp2
    refine retM0 ⟨_, results_tmp2 rfl _ _ _, ?_⟩
    exact ⟨.slice none 0 0, by rw [H.out.2]; rfl, by rw [H.out.1]; exact ownI_nil _ _, hB1.trans (hb.mono (by omega))⟩
  · have hP := jobsP ht
    have HP := Lib.hid hP
    have h8 := hP.len8
    have Ht := Lib.hid ht
    clear hP
    cases ho : ordOk ls.length p
    · have H := Lib.hid (ans_range ht ho)
      have Ho := Lib.hid ho
      clear ht ho
      refine callsIn_of_wp_marks Try.func51 rfl trivial ?_ rfl
      simp only [Try.ntmps51, List.size_toArray, List.length_cons, List.length_nil, Nat.reduceAdd, Nat.reduceSub, Array.replicate_succ, Array.replicate_zero, List.push_toArray, List.append_toArray, List.nil_append, List.cons_append]
      gi_wp2_with fail
      obtain ⟨W0, hW1⟩ : ∃ W0, ((w.alloc (.cells #[.slice al ls.length capl, .slice ap ps.length capp, .slice ad ds.length capd] 41)).alloc (.cells #[.slice a2 p.length cap2] 22)) = W0 := ⟨_, rfl⟩
      have hB1 : Below w.heap.size w W0 := by rw [← hW1]; exact (((Below.refl _ w).alloc (Nat.le_refl _) _).alloc (by simp; try omega) _)
      have hs1 : w.heap.size + 2 ≤ W0.heap.size := by rw [← hW1]; simp
      have bJ : Box3 W0 (w.heap.size) 41 (.slice al ls.length capl) (.slice ap ps.length capp) (.slice ad ds.length capd) := by rw [← hW1]; repeat first | (refine box3_at ?_; (simp; done)) | refine Box3.alloc ?_ _
      have bP : Boxed W0 (w.heap.size + 1) 22 (.slice a2 p.length cap2) := by rw [← hW1]; repeat first | (refine boxed_at ?_; (simp; done)) | refine Boxed.alloc ?_ _
      rw [hW1]
      clear hW1
      refine ⟨trivial, (callsIn_wide.2 (i_AreJobs _ _ _ ls ps ds _ (hI.later hB1) hN hm)).mono ?_⟩
      rintro e w1 ⟨he, hb⟩
      rw [Ht.out] at he
      subst he
      have hB2 := hB1.trans (hb.mono (by omega))
      replace bJ := bJ.later hb
      replace bP := boxed_later bP hb
      clear hb
      have k0 := bJ.c0
      have cP := bP.cell
      gi_wp2_with fail
      refine ⟨trivial, (callsIn_wide.2 (isOrderOf_c _ p ls.length _ (hT.later hB2) hm1 (by omega))).mono ?_⟩
      rintro e w2 ⟨he, hb⟩
      rw [Ho.out] at he
      subst he
      gi_wp2
      refine retM0 ⟨_, results_tmp2 rfl _ _ _, ?_⟩
      exact ⟨.slice none 0 0, by rw [H.out.2]; rfl, by rw [H.out.1]; exact ownI_nil _ _, hB2.trans (hb.mono hB2.size)⟩
    · have H := Lib.hid (ans_ok ht ho)
      have Ho := Lib.hid ho
      obtain ⟨hpl, hpf⟩ := ordOk_len ho
      have Hpl := Lib.hid hpl
      have Hpf := Lib.hid hpf
      have hp8 : p.length ≤ 8 := by omega
      clear ht ho hpl hpf
      refine callsIn_of_wp_marks Try.func51 rfl trivial ?_ rfl
      simp only [Try.ntmps51, List.size_toArray, List.length_cons, List.length_nil, Nat.reduceAdd, Nat.reduceSub, Array.replicate_succ, Array.replicate_zero, List.push_toArray, List.append_toArray, List.nil_append, List.cons_append]
      gi_wp2_with fail
      obtain ⟨W0, hW1⟩ : ∃ W0, ((w.alloc (.cells #[.slice al ls.length capl, .slice ap ps.length capp, .slice ad ds.length capd] 41)).alloc (.cells #[.slice a2 p.length cap2] 22)) = W0 := ⟨_, rfl⟩
      have hB1 : Below w.heap.size w W0 := by rw [← hW1]; exact (((Below.refl _ w).alloc (Nat.le_refl _) _).alloc (by simp; try omega) _)
      have hs1 : w.heap.size + 2 ≤ W0.heap.size := by rw [← hW1]; simp
      have bJ : Box3 W0 (w.heap.size) 41 (.slice al ls.length capl) (.slice ap ps.length capp) (.slice ad ds.length capd) := by rw [← hW1]; repeat first | (refine box3_at ?_; (simp; done)) | refine Box3.alloc ?_ _
      have bP : Boxed W0 (w.heap.size + 1) 22 (.slice a2 p.length cap2) := by rw [← hW1]; repeat first | (refine boxed_at ?_; (simp; done)) | refine Boxed.alloc ?_ _
      rw [hW1]
      clear hW1
      refine ⟨trivial, (callsIn_wide.2 (i_AreJobs _ _ _ ls ps ds _ (hI.later hB1) hN hm)).mono ?_⟩
      rintro e w1 ⟨he, hb⟩
      rw [Ht.out] at he
      subst he
      have hB2 := hB1.trans (hb.mono (by omega))
      have hs2 := hb.size
      replace bJ := bJ.later hb
      replace bP := boxed_later bP hb
      clear hb
      have k0 := bJ.c0
      have cP := bP.cell
      gi_wp2_with fail
      refine ⟨trivial, (callsIn_wide.2 (isOrderOf_c _ p ls.length _ (hT.later hB2) hm1 (by omega))).mono ?_⟩
      rintro e w2 ⟨he, hb⟩
      rw [Ho.out] at he
      subst he
      have hB3 := hB2.trans (hb.mono hB2.size)
      have hs3 := hb.size
      replace bJ := bJ.later hb
      replace bP := boxed_later bP hb
      clear hb hB2 k0 cP
      have cP := bP.cell
      gi_wp2_with (gi_at_make; refine makeIn_full _ rfl _ _ 22 rfl w.heap.size 2 i0 (.int .i64 0) 1 Try.underlying22 hi hz0 hz1 .i64 .i64 _ _ p.length rfl rfl rfl rfl ?c1 ?c2 ?c3 ?_)
      case c1 => rw [hz2]; omega
      case c2 => unfold maxLen; omega
      case c3 => exact hB3.size
      intro w3 hown hgrow
      have ho3 := ownI_made hown
      rw [show List.replicate p.length 0 = ansTo ls ps ds p 0 by rw [Hpl.out]; rfl] at ho3
      have hB4 : Below w.heap.size w w3 := hB3.grown hgrow hB3.size (by simp)
      replace bJ := bJ.kept hgrow (by simp)
      replace bP := bP.kept hgrow (by simp)
      have hg3 := (ho3.blk _ rfl).2
      have cP := (bP.alloc (.cells #[.slice (some ⟨w2.heap.size, 0, none⟩) p.length p.length] 22)).cell
      clear hown hgrow hB3
      gi_wp2_with (first | (gi_at_call 84; refine (callsIn_wide.2 (numbered_c _ _ _ _)).mono ?_; rintro e w' ⟨rfl, rfl⟩) | (refine ⟨trivial, ?_⟩; gi_at_call 84; refine (callsIn_wide.2 (numbered_c _ _ _ _)).mono ?_; rintro e w' ⟨rfl, rfl⟩))
      obtain ⟨W4, hW4q⟩ : ∃ W4, ((w3.alloc (.cells #[.slice (some ⟨w2.heap.size, 0, none⟩) p.length p.length] 22)).alloc (.cells #[.slice a2 p.length cap2] 22)) = W4 := ⟨_, rfl⟩
      have hB4q : Below w3.heap.size w3 W4 := by rw [← hW4q]; exact (((Below.refl _ w3).alloc (Nat.le_refl _) _).alloc (by simp; try omega) _)
      have hs4q : w3.heap.size + 2 ≤ W4.heap.size := by rw [← hW4q]; simp
      have bG : Boxed W4 (w3.heap.size) 22 (.slice (some ⟨w2.heap.size, 0, none⟩) p.length p.length) := by rw [← hW4q]; repeat first | (refine boxed_at ?_; (simp; done)) | refine Boxed.alloc ?_ _
      have bN : Boxed W4 (w3.heap.size + 1) 22 (.slice a2 p.length cap2) := by rw [← hW4q]; repeat first | (refine boxed_at ?_; (simp; done)) | refine Boxed.alloc ?_ _
      rw [hW4q]
      clear hW4q
      have hB5 := hB4.trans (hB4q.mono hB4.size)
      replace bJ := bJ.later hB4q
      replace bP := boxed_later bP hB4q
      have ho4 := ho3.below hB4q
      have hs23 : w.heap.size + 2 ≤ w2.heap.size := by omega
      refine range_outA rfl (by omega) rfl trivial (enters_of Try.func116 (by kernel_rfl) rfl) (numbered_at Fence.wide 8 trivial rfl (by omega) _ w.heap.size _ p (by omega) W4 bN (by omega) (hT.below hB5)) (fun b hb => by omega) (fun _ => rfl)
        (fun k W => OwnI w.heap.size W (.slice (some ⟨w2.heap.size, 0, none⟩) p.length p.length) (ansTo ls ps ds p k) ∧ (Boxed W w3.heap.size 22 (.slice (some ⟨w2.heap.size, 0, none⟩) p.length p.length) ∧ Boxed W (w.heap.size + 1) 22 (.slice a2 p.length cap2) ∧ Box3 W w.heap.size 41 (.slice al ls.length capl) (.slice ap ps.length capp) (.slice ad ds.length capd)) ∧ Below w.heap.size w W)
        (fun _ _ _ => False)
        (OwnFrom.and (Own.from (ownI_Own _ _ _) _) (OwnFrom.and (OwnFrom.and (Own.from (boxed_own _ _ _) _) (OwnFrom.and (Own.from (boxed_own _ _ _) _) (Own.from (box3_own _ _ _ _ _) _))) (ownFrom_below (Nat.le_refl _) (by omega))))
        (fun _ _ _ _ _ hs _ _ => hs)
        ⟨ho4, ⟨bG, bP, bJ⟩, hB5⟩ ?a1 ?assign ?body ?done ?stop
      case assign =>
        intro l k W K hk hK
        simp only [numAt]
        gi_wp2
        exact hK
      case body =>
        rintro l k W hl2 hr ⟨hok, ⟨bG1, bP1, bJ1⟩, hB⟩ hlt hsW
        have hrr := fineTo_at Hpf.out hlt
        obtain ⟨m, hm2⟩ : ∃ m : Nat, nth p k = m := ⟨(nth p k).toNat, by omega⟩
        have hmn : m < ls.length := by omega
        rw [hm2]
        have hst : ansTo ls ps ds p (k + 1) = (ansTo ls ps ds p k).set m (ansOf ls ps ds (p.take k) m) := by rw [ansTo, hm2]; rfl
        have HST := Lib.hid hst
        obtain ⟨hnd, hbd⟩ := fine_nodup (fineTo_mono Hpf.out (Nat.le_of_lt hlt)) (Nat.le_of_lt hlt)
        have hcp : p.length ≤ cap2 := by obtain ⟨_, _, e, h, _⟩ := hcap; cases e; exact h
        have hkc : k ≤ cap2 := by omega
        have hkl : k ≤ p.length := by omega
        have hTk : Ints w.heap.size w (.slice a2 k cap2) (p.take k) := hT.take hkl
        have hlk : (p.take k).length ≤ 8 := by rw [List.length_take]; omega
        obtain ⟨z, hz⟩ : ∃ z, ansOf ls ps ds (p.take k) m = z := ⟨_, rfl⟩
        have hcm := hok.cellAt (j := m) (by rw [ansTo_length]; exact hmn)
        have hmp : (m : Int) < (p.length : Int) := by rw [Hpl.out]; omega
        have hpB := hB.size
        have HC := Lib.hid (answerBehind_c _ _ _ _ ls ps ds (p.take k) m W.drew (hI.later hB.drew) (hTk.later hB.drew) hlk Ht.out hmn hnd hbd)
        rw [hz] at HC
        have Hz := Lib.hid hz
        have HOK := Lib.hid hok
        have BG := Lib.hid bG1
        have BP := Lib.hid bP1
        have BJ := Lib.hid bJ1
        have HB := Lib.hid hB
        have hfw : Try.prog.follows Departure.mixedOrders = true := by kernel_rfl
        clear hst hnd hbd hTk hlk hz hok bG1 bP1 bJ1 hB hcp hr hm2 hrr hcm
        gi_wp2_with fail
        refine wpIn_region_heldI (fun w' => Kps (Band (fun b => b < w.heap.size) W4.heap.size (W4.heap.size + 2 + 0)) W w' ∧ Below w.heap.size w w' ∧ Boxed w' w3.heap.size 22 (.slice (some ⟨w2.heap.size, 0, none⟩) p.length p.length) ∧ Boxed w' (w.heap.size + 1) 22 (.slice a2 p.length cap2) ∧ Box3 w' w.heap.size 41 (.slice al ls.length capl) (.slice ap ps.length capp) (.slice ad ds.length capd)) hfw ⟨⟨Nat.le_refl _, fun _ _ _ => rfl⟩, HB.out.drew, BG.out, BP.out, BJ.out⟩ ?_
        intro hS0
        refine anyIH_take (i := 0) (v := ?v0) (by kernel_rfl) rfl (by kernel_rfl) (by kernel_rfl) (by kernel_rfl) (fun _ _ _ h => h) (.inl ⟨by rfl, ?y0⟩) hS0 ?_
        case y0 =>
          intro w' hS
          (have q0 := hS.2.2.1.cell; have q1 := hS.2.2.2.1.cell; have q2 := hS.2.2.2.2.c0; have q3 := hS.2.2.2.2.c1; have q4 := hS.2.2.2.2.c2; clear hS)
          go_simp
          try with_reducible rfl
        refine anyIH_take (i := 1) (v := ?v1) (by kernel_rfl) rfl (by kernel_rfl) (by kernel_rfl) (by kernel_rfl) (fun _ _ _ h => h) (.inl ⟨by rfl, ?y1⟩) hS0 ?_
        case y1 =>
          intro w' hS
          (have q0 := hS.2.2.1.cell; have q1 := hS.2.2.2.1.cell; have q2 := hS.2.2.2.2.c0; have q3 := hS.2.2.2.2.c1; have q4 := hS.2.2.2.2.c2; clear hS)
          go_simp
          try with_reducible rfl
        refine anyIH_take (i := 2) (v := ?v2) (by kernel_rfl) rfl (by kernel_rfl) (by kernel_rfl) (by kernel_rfl) (fun _ _ _ h => h) (.inl ⟨by rfl, ?y2⟩) hS0 ?_
        case y2 =>
          intro w' hS
          (have q0 := hS.2.2.1.cell; have q1 := hS.2.2.2.1.cell; have q2 := hS.2.2.2.2.c0; have q3 := hS.2.2.2.2.c1; have q4 := hS.2.2.2.2.c2; clear hS)
          go_simp
          try with_reducible rfl
        refine anyIH_take (i := 3) (v := ?v3) (by kernel_rfl) rfl (by kernel_rfl) (by kernel_rfl) (by kernel_rfl) (fun _ _ _ h => h) (.inl ⟨by rfl, ?y3⟩) hS0 ?_
        case y3 =>
          intro w' hS
          (have q0 := hS.2.2.1.cell; have q1 := hS.2.2.2.1.cell; have q2 := hS.2.2.2.2.c0; have q3 := hS.2.2.2.2.c1; have q4 := hS.2.2.2.2.c2; clear hS)
          go_simp
          try with_reducible rfl
        refine anyIH_take (i := 4) (v := ?v4) (by kernel_rfl) rfl (by kernel_rfl) (by kernel_rfl) (by kernel_rfl) (fun _ _ _ h => h) (.inl ⟨by rfl, ?y4⟩) hS0 ?_
        case y4 =>
          intro w' hS
          (have q0 := hS.2.2.1.cell; have q1 := hS.2.2.2.1.cell; have q2 := hS.2.2.2.2.c0; have q3 := hS.2.2.2.2.c1; have q4 := hS.2.2.2.2.c2; clear hS)
          go_simp
          try with_reducible rfl
        refine anyIH_take (i := 5) (v := ?v5) (by kernel_rfl) rfl (by kernel_rfl) (by kernel_rfl) (by kernel_rfl) (fun _ _ _ h => h) (.inl ⟨by rfl, ?y5⟩) hS0 ?_
        case y5 =>
          intro w' hS
          (have q0 := hS.2.2.1.cell; have q1 := hS.2.2.2.1.cell; have q2 := hS.2.2.2.2.c0; have q3 := hS.2.2.2.2.c1; have q4 := hS.2.2.2.2.c2; clear hS)
          go_simp
          try with_reducible rfl
        refine anyIH_take (i := 6) (v := ?v6) (by kernel_rfl) rfl (by kernel_rfl) (by kernel_rfl) (by kernel_rfl) (fun _ _ _ h => h) (.inl ⟨by rfl, ?y6⟩) hS0 ?_
        case y6 =>
          intro w' hS
          (have q0 := hS.2.2.1.cell; have q1 := hS.2.2.2.1.cell; have q2 := hS.2.2.2.2.c0; have q3 := hS.2.2.2.2.c1; have q4 := hS.2.2.2.2.c2; clear hS)
          go_simp
          try with_reducible rfl
        refine anyIH_one (i := 7) (by kernel_rfl) rfl (fun K' hK' => ?_)
        rw [if_pos (by rfl)]
        go_simp
        refine ⟨trivial, ?_⟩
        refine (callsIn_wide.2 HC.out).mono ?_
        rintro e w5 ⟨rfl, hb3⟩
        have hb4 : Below W.heap.size W w5 := (Below.refl _ _).drew.trans hb3
        have hS3 : Kps (Band (fun b => b < w.heap.size) W4.heap.size (W4.heap.size + 2 + 0)) W w5 ∧ Below w.heap.size w w5 ∧ Boxed w5 w3.heap.size 22 (.slice (some ⟨w2.heap.size, 0, none⟩) p.length p.length) ∧ Boxed w5 (w.heap.size + 1) 22 (.slice a2 p.length cap2) ∧ Box3 w5 w.heap.size 41 (.slice al ls.length capl) (.slice ap ps.length capp) (.slice ad ds.length capd) := ⟨Kps.below hb4, HB.out.trans (hb4.mono hpB), boxed_later BG.out hb4, boxed_later BP.out hb4, BJ.out.later hb4⟩
        have hok := HOK.out.below hb4
        have hcm := hok.cellAt (j := m) (by rw [ansTo_length]; exact hmn)
        have hfm := hok.frozen m
        have HK := Lib.hid hok
        clear hb3 hb4 hok
        refine hK'.out _ _ hS3 fun hS4 => ?_
        refine anyIH_take (i := 8) (v := ?vx8) (by kernel_rfl) rfl (by kernel_rfl) (by kernel_rfl) (by kernel_rfl) (fun _ _ _ h => h) (.inl ⟨by rfl, ?yx8⟩) hS3 ?_
        case yx8 =>
          intro w' hS
          (clear hS)
          go_simp
          try with_reducible rfl
        refine anyIH_one (i := 9) (by kernel_rfl) rfl (fun K' hK' => ?_)
        rw [if_pos (by rfl)]
        go_simp
        refine hK'.out _ _ ⟨hS3.1.trans (Kps.setCell _ _ _ _ (not_band (by omega) (by omega))), hS3.2.1.setCell (p := ⟨w2.heap.size, m, none⟩) (by show w.heap.size ≤ w2.heap.size; omega) _, boxed_setFar hS3.2.2.1 (by omega), boxed_setFar hS3.2.2.2.1 (by omega), hS3.2.2.2.2.other (by omega) _⟩ fun hS5 => ?_
        refine anyIH_done (by kernel_rfl) ?_ _
        exact ⟨hS5.1, by rw [HST.out, Hz.out]; exact (HK.out.stored m _).1, ⟨hS5.2.2.1, hS5.2.2.2.1, hS5.2.2.2.2⟩, hS5.2.1⟩
      case done =>
        rintro D W hD ⟨hok, ⟨bG1, bP1, bJ1⟩, hB⟩ hK
        have cG := bG1.cell
        gi_wp2
        refine retM1 hK ⟨_, results_tmp2 rfl _ _ _, ?_⟩
        exact ⟨.slice (some ⟨w2.heap.size, 0, none⟩) p.length p.length, by rw [H.out.2]; rfl, by rw [H.out.1, ← Hpl.out]; exact hok.shut hK, below_shut hB (by omega)⟩
      case stop =>
        rintro D c k W hD hk h
        exact h.elim

end Go.Proofs.Ytmmpoaphjjpjaaa
