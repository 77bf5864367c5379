/-
  OrderByDeadlines of the program.
  Conditions: lists of at most 1048576 elements.
-/
import Derived.Test.YtmmpoaphjjpjaaaSortK
import Derived.Test.YtmmpoaphjjpjaaaOdI
import Derived.Test.YtmmpoaphjjpjaaaOdS
namespace Go.Proofs.Ytmmpoaphjjpjaaa
open Go.RowKit Go.Shelf
attribute [local go_sem] Oper.semAt_some

theorem dlSorted_n (n tb n₀ B g cap2 : Nat) (a : Option Addr) (cap : Nat) (zs : List Int) (hn : zs.length = n) (w : World) (u0 v0 : Value) (hb : Box3 w tb 41 u0 v0 (.slice a zs.length cap)) (hI : Ints n₀ w (.slice a zs.length cap) zs)
    (ho : OwnI B w (.slice (some ⟨g, 0, none⟩) n cap2) (upI n)) (hne : tb ≠ g) (hn0 : n₀ ≤ g) (hnw : n₀ ≤ w.heap.size) (hl : n ≤ 8) (h0 : 1 ≤ n) :
    Calls Try.prog 95 #[.slice (some ⟨g, 0, none⟩) n cap2, .func (.func 96) #[] #[.pointer (some ⟨tb, 0, none⟩)]] w
      fun e w' => (∃ v, e = .returned v) ∧ OwnI B w' (.slice (some ⟨g, 0, none⟩) n cap2) (ordTo zs zs.length) ∧ w.grownBy w' (some g) := by
  subst hn
  exact dlSorted_c tb n₀ B g cap2 a cap zs w u0 v0 hb hI (by rw [stI_zero]; exact ho) hne hn0 hnw hl h0

set_option maxRecDepth 100000 in
set_option maxHeartbeats 8000000 in
theorem i_OrderByDeadlines (cl cp cd : Value) (ls ps ds : List Int) (w : World) (hI : Jobs3 w.heap.size w cl cp cd ls ps ds) (hN : J64 ls ps ds) (hm : JLen ls ps ds) :
    Calls Try.prog 53 #[.agg #[cl, cp, cd]] w (GivesI w (dlR ls ps ds) fun v => .tuple #[v, .int .i64 (dlC ls ps ds)]) := by
  obtain ⟨i0, hi, hz0, hz1, hz2⟩ := info_parts Try.infoI2
  obtain ⟨al, capl, rfl⟩ := hI.l.shape
  obtain ⟨ap, capp, rfl⟩ := hI.p.shape
  obtain ⟨ad, capd, rfl⟩ := hI.d.shape
  have hB0 := below_jobs w (.slice al ls.length capl) (.slice ap ps.length capp) (.slice ad ds.length capd)
  refine (callsIn_wide (n := 9)).1 ?_
  cases ht : jobsOk ls ps ds
  · have H := Lib.hid (dl_no ht)
    have Ht := Lib.hid ht
    clear ht
    refine callsIn_of_wp_marks Try.func53 rfl trivial ?_ rfl
    simp only [Try.ntmps53, List.size_toArray, List.length_cons, List.length_nil, Nat.reduceAdd, Nat.reduceSub, Array.replicate_succ, Array.replicate_zero, List.push_toArray, List.append_toArray, List.nil_append, List.cons_append]
    gi_wp2_with fail
    refine ⟨trivial, (callsIn_wide.2 (i_AreJobs _ _ _ ls ps ds _ (hI.later hB0) hN hm)).mono ?_⟩
    rintro e w1 ⟨he, hb⟩
    rw [Ht.out] at he
    subst he
    gi_wp2
    refine retM0 ⟨_, results_tmp2 rfl _ _ _, ?_⟩
    exact ⟨.slice none 0 0, by rw [H.out.2]; rfl, by rw [H.out.1]; exact ownI_nil _ _, hB0.trans (hb.mono (by simp))⟩
  · have H := Lib.hid (dl_ok ht)
    have Ht := Lib.hid ht
    have hP := jobsP ht
    have h8 := hP.len8
    have h1 := hP.len1
    have HP := Lib.hid hP
    have hld := hP.ld
    have Hld := Lib.hid hld
    have hd1 : ds.length ≤ ls.length := by omega
    have hd2 : ls.length ≤ ds.length := by omega
    clear ht hP hld
    refine callsIn_of_wp_marks Try.func53 rfl trivial ?_ rfl
    simp only [Try.ntmps53, List.size_toArray, List.length_cons, List.length_nil, Nat.reduceAdd, Nat.reduceSub, Array.replicate_succ, Array.replicate_zero, List.push_toArray, List.append_toArray, List.nil_append, List.cons_append]
    gi_wp2_with fail
    refine ⟨trivial, (callsIn_wide.2 (i_AreJobs _ _ _ ls ps ds _ (hI.later hB0) hN hm)).mono ?_⟩
    rintro e w1 ⟨he, hb⟩
    rw [Ht.out] at he
    subst he
    have hB1 : Below w.heap.size w w1 := hB0.trans (hb.mono (by simp))
    have b1 : Box3 w1 w.heap.size 41 (.slice al ls.length capl) (.slice ap ps.length capp) (.slice ad ds.length capd) := (Box3.new _ _ _ _ _).later hb
    have k0 := (b1.alloc (.cells #[.slice none 0 0] 22)).c0
    have k1 := (b1.alloc (.cells #[.slice none 0 0] 22)).c1
    have k2 := (b1.alloc (.cells #[.slice none 0 0] 22)).c2
    have hB1s := hB1.size
    have hb1w := b1.lt
    clear hb hB0
    gi_wp2_with (first | (gi_at_call 78; refine (callsIn_wide.2 (jobsByTask_c _ _ _ _)).mono ?_; rintro e w' ⟨rfl, rfl⟩) | (refine ⟨trivial, ?_⟩; gi_at_call 78; refine (callsIn_wide.2 (jobsByTask_c _ _ _ _)).mono ?_; rintro e w' ⟨rfl, rfl⟩))
    clear k0 k1 k2
    obtain ⟨W0, hW0⟩ : ∃ W0, ((w1.alloc (.cells #[.slice none 0 0] 22)).alloc (.cells #[.slice al ls.length capl, .slice ap ps.length capp, .slice ad ds.length capd] 41)) = W0 := ⟨_, rfl⟩
    have hB0 : Below w1.heap.size w1 W0 := by rw [← hW0]; exact (((Below.refl _ w1).alloc (Nat.le_refl _) _).alloc (by simp; try omega) _)
    have hs0 : w1.heap.size + 2 ≤ W0.heap.size := by rw [← hW0]; simp
    have bO : Boxed W0 (w1.heap.size) 22 (.slice none 0 0) := by rw [← hW0]; repeat first | (refine boxed_at ?_; (simp; done)) | refine Boxed.alloc ?_ _
    have bN : Box3 W0 (w1.heap.size + 1) 41 (.slice al ls.length capl) (.slice ap ps.length capp) (.slice ad ds.length capd) := by rw [← hW0]; repeat first | (refine box3_at ?_; (simp; done)) | refine Box3.alloc ?_ _
    rw [hW0]
    clear hW0
    have hB2 := hB1.trans (hB0.mono hB1s)
    replace b1 := b1.later hB0
    obtain ⟨top, htop⟩ : ∃ top, W0.heap.size + 2 + 4 = top := ⟨_, rfl⟩
    have Htop := Lib.hid htop
    refine range_outA (Keep := fun b => b < w.heap.size ∨ b = w1.heap.size + 1) (c := 4) rfl (by omega) rfl trivial (enters_of Try.func113 (by kernel_rfl) rfl) (jobsByTask_at 8 _ w.heap.size _ _ _ ls ps ds (by omega) HP.out.lp HP.out.ld W0 bN (by omega) (hI.below hB2)) (fun b hb => by omega) (fun _ => rfl)
      (fun k W => (∃ v, Boxed W w1.heap.size 22 v ∧ OwnI top W v (upI k)) ∧ Box3 W w.heap.size 41 (.slice al ls.length capl) (.slice ap ps.length capp) (.slice ad ds.length capd) ∧ Below w.heap.size w W ∧ (k = 0 ∨ top ≤ W.heap.size))
      (fun _ _ _ => False)
      (OwnFrom.and (Own.from (boxRow_Own _ _ _ _) _) (OwnFrom.and (Own.from (box3_own _ _ _ _ _) _) (OwnFrom.and (ownFrom_below (Nat.le_refl _) (by omega)) (ownFrom_size _ _))))
      (fun _ _ _ _ _ hs _ _ => hs)
      ⟨⟨_, bO, ownI_nil _ _⟩, b1, hB2, .inl rfl⟩ ?a1 ?assign ?body ?done ?stop
    case assign =>
      intro l k W K hk hK
      simp only [jobAt]
      gi_wp2_with fail
      exact hK
    case body =>
      rintro l k W hl2 hr ⟨⟨v, bW1, ho1⟩, bT1, hB1', _⟩ hlt hsW
      have hsW2 : top ≤ W.heap.size := by omega
      have hband : ∀ j, Band (fun b => b < w.heap.size ∨ b = w1.heap.size + 1) W0.heap.size (W0.heap.size + 2 + 4) j → ¬ (j = w1.heap.size ∨ top ≤ j) := fun j hj => by
        rcases hj with (hj | hj) | hj <;> omega
      have Hband := Lib.hid hband
      have hlz : k < 8 := by omega
      have hup := upI_length k
      have hdb : (upI k).length ≤ 1048576 := by omega
      have Hup := Lib.hid (upI_succ k)
      have hwt : w.heap.size + 1 ≤ w1.heap.size ∧ w1.heap.size < top := by omega
      clear htop hband hup hsW hr
      have cW := bW1.cell
      have fW := bW1.frozen
      gi_wp2_with (gi_at_builtin; refine wpListIn_append_own _ rfl _ _ 22 rfl top 2 i0 (.int .i64 0) 1 8 Try.underlying22 hi hz0 hz1 hz2 rfl (by decide) _ _ _ rfl (World.ownsRow.alloc ho1 _) ⟨W.heap.size, 0, none⟩ 1 1 [.int .i64 (k : Int)] rfl rfl (Go.cell_one_new _ _ _) (by simp [Value.oneCell']) (by unfold maxLen; omega) (by omega) (by simp; omega) ?_)
      intro v' w4 hown' hgrow _
      have ho2 := ownI_snoc hown'
      rw [← Hup.out] at ho2
      obtain ⟨g', cap', rfl, hg1, hg2⟩ := ho2.shape (by rw [upI_length]; omega)
      obtain ⟨r1, r2, r3, r4⟩ := appended bW1 (by omega) ho1 ho2 hgrow
      have c1 := r1.cell
      have f1 := r1.frozen
      clear hown' hgrow cW fW
      gi_wp2
      exact ⟨r4.kps Hband.out, ⟨_, r2, r3⟩, (r4.same _ (by omega) bT1.lt).trans bT1, r4.below hB1' (fun j hj => by omega) (by omega), .inr (Nat.le_trans hsW2 r4.size)⟩
    case done =>
      rintro D W hD ⟨⟨v, bW1, ho1⟩, bT1, hB1', htp⟩ hK
      have htW : top ≤ W.heap.size := by omega
      obtain ⟨g, cap', rfl, hg1, hg2⟩ := ho1.shape (by rw [upI_length]; omega)
      rw [upI_length] at bW1 ho1
      have cW := bW1.cell
      gi_wp2_with fail
      refine ⟨trivial, (callsIn_wide.2 (dlSorted_n ls.length w.heap.size w.heap.size top g cap' ad capd ds Hld.out W _ _ bT1 (hI.d.below hB1') ho1 (by omega) (by omega) hB1'.size (by omega) (by omega))).mono ?_⟩
      rintro e W5 ⟨⟨v5, rfl⟩, ho5, hg5⟩
      have bW5 := bW1.kept hg5 (by simp; omega)
      have hB5 := hB1'.grown hg5 hB1'.size (fun j e => by simp at e; omega)
      have hK5 : W5.heap[D]? = some (.deferred (some [])) := (hg5.block D (by omega) (by simp; omega)).trans hK
      have cW5 := bW5.cell
      clear cW bW1 hB1' hK hg5 ho1 bT1
      gi_wp2
      refine retM1 hK5 ⟨_, results_tmp2 rfl _ _ _, ?_⟩
      exact ⟨.slice (some ⟨g, 0, none⟩) ls.length cap', by rw [H.out.2]; rfl, by rw [H.out.1]; exact (ho5.shut hK5).base (by omega), below_shut hB5 (by omega)⟩
    case stop =>
      rintro D c k W hD hk h
      exact h.elim

end Go.Proofs.Ytmmpoaphjjpjaaa
