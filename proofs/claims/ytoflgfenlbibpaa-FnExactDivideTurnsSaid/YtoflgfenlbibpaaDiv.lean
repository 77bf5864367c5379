/-
  DivideTurns of the program.
  Conditions: lists of at most 1048576 elements.
-/
import Derived.Test.YtoflgfenlbibpaaDivS
import Derived.Test.YtoflgfenlbibpaaGas
import Derived.Test.YtoflgfenlbibpaaSrt
import Derived.Test.YtoflgfenlbibpaaRep
namespace Go.Proofs.Ytoflgfenlbibpaa
open Go.RowKit Go.Shelf
attribute [local go_sem] Oper.semAt_some


/-- the slots of a task, as numbers -/
def slotV (R : List Int) (i : Int) : List Int := (slotsL R i).map fun (s : Nat) => (s : Int)
theorem slotV_length (R : List Int) (i : Int) : (slotV R i).length = (slotsL R i).length := by simp [slotV]
theorem nth_slotV {R : List Int} {i : Int} {k : Nat} (h : k < (slotsL R i).length) : nth (slotV R i) k = (slotN R i k : Nat) := by simp [nth, slotV, slotN, h]
theorem seqAt_congr {F : Fence} {n : Nat} {P : Program} {g : Nat} {lb : Array Value} {enc enc' : Nat → Array Value} {Keep : Nat → Prop} {c N : Nat} {w : World} (he : ∀ k, k < N → enc k = enc' k) (h : SeqAt F n P g lb enc Keep c N w) : SeqAt F n P g lb enc' Keep c N w :=
  fun l J Jx W hW hJ hJx hY h0 => h l J Jx W hW hJ hJx (fun k W1 hj hk hs => by rw [he k hk]; exact hY k W1 hj hk hs) h0

set_option maxRecDepth 100000 in
set_option maxHeartbeats 8000000 in
theorem dividedTurns_c (sv : Value) (ts : List Int) (i m : Int) (w : World) (hI : Ints w.heap.size w sv ts) (ht : turnsOk ts 8 = true) (hi : 0 ≤ i ∧ i ≤ 7) (hm : 2 ≤ m ∧ m ≤ 8) :
    Calls Try.prog 185 #[sv, .int .i64 i, .int .i64 m] w fun e w' => (divC ts i m = 0 ∧ GivesI w (divR ts i m) id e w') ∨ (divR ts i m = [] ∧ e = .panicked (refused (divC ts i m)) ∧ Below w.heap.size w w') := by
  obtain ⟨a, cap, rfl⟩ := hI.shape
  have hl := turnsOk_len ht
  have hok : divOk ts i m = true := by unfold divOk; rw [ht, inB_true.2 hi, inB_true.2 hm]; rfl
  have Hok := Lib.hid hok
  have Ht := Lib.hid ht
  clear ht hok
  refine (callsIn_wide (n := 9)).1 ?_
  refine callsIn_of_wp_marks Try.func185 rfl trivial ?_ rfl
  simp only [Try.ntmps185, List.size_toArray, List.length_cons, List.length_nil, Nat.reduceAdd, Nat.reduceSub, Array.replicate_succ, Array.replicate_zero, List.push_toArray, List.append_toArray, List.nil_append, List.cons_append]
  gi_wp2_with fail
  obtain ⟨W0, hW0⟩ : ∃ W0, (w.alloc (.cells #[.int .i64 m] 2)) = W0 := ⟨_, rfl⟩
  have hB0 : Below w.heap.size w W0 := by rw [← hW0]; exact ((Below.refl _ w).alloc (Nat.le_refl _) _)
  have hs0 : w.heap.size + 1 ≤ W0.heap.size := by rw [← hW0]; simp
  have bM : Boxed W0 (w.heap.size) 2 (.int .i64 m) := by rw [← hW0]; repeat first | (refine boxed_at ?_; (simp; done)) | refine Boxed.alloc ?_ _
  rw [hW0]
  clear hW0
  refine ⟨trivial, (callsIn_wide.2 (waitsOfTask_c _ ts i _ (hI.later hB0) (by omega))).mono ?_⟩
  rintro e w1 ⟨v, rfl, ho, hb⟩
  simp only [id]
  have hB1 := hB0.trans (hb.mono hB0.size)
  have hs1 := hb.size
  replace bM := boxed_later bM hb
  clear hb hB0
  have cM := bM.cell
  obtain ⟨av, cv, rfl⟩ := ho.ints.shape
  have hwl := waitsL_length ts i
  have hsl := slotsL_length ts i
  rw [hwl]
  clear hwl ho
  obtain ⟨p, rfl⟩ : ∃ p : Nat, i = p := ⟨i.toNat, by omega⟩
  obtain ⟨q, rfl⟩ : ∃ q : Nat, m = q := ⟨m.toNat, by omega⟩
  obtain ⟨c, hce⟩ : ∃ c, (slotsL ts p).length = c := ⟨_, rfl⟩
  have Hce := Lib.hid hce
  rw [hce] at hsl ⊢
  clear hce
  by_cases hc0 : c = 0
  · subst hc0
    have Hc := Lib.hid (show divC ts p q = 4 by unfold divC; rw [Hok.out, if_pos rfl, if_pos Hce.out])
    have Hr := Lib.hid (show divR ts p q = [] by unfold divR; rw [Hc.out]; rfl)
    gi_wp2_with fail
    refine ⟨trivial, (callsIn_wide.2 (demand_no _ _)).mono ?_⟩
    rintro e w2 ⟨rfl, rfl⟩
    gi_wp2
    exact .inr ⟨Hr.out, by rw [Hc.out], hB1⟩
  · have hcp : 0 < c := by omega
    gi_wp2_with fail
    refine ⟨trivial, (callsIn_wide.2 (demand_y _ _ _ (by simp))).mono ?_⟩
    rintro e w2 ⟨rfl, rfl⟩
    gi_wp2_with fail
    refine ⟨trivial, (callsIn_wide.2 (max_c _ ts _ (hI.later hB1) Ht.out)).mono ?_⟩
    rintro e w2 ⟨rfl, rfl⟩
    have hmb2 := most_bd Ht.out
    obtain ⟨M, hM⟩ : ∃ M, most ts = M := ⟨_, rfl⟩
    have HM := Lib.hid hM
    rw [hM] at hmb2 ⊢
    clear hM
    have hwm : IntKind.i64.wrap (M + (q : Int)) = M + q := by rw [IntKind.wrap_i64]; omega
    have cM2 := (bM.alloc (.cells #[.int .i64 M] 2)).cell
    by_cases hbig : 8 < M + q
    · have Hc := Lib.hid (show divC ts p q = 3 by unfold divC; rw [Hok.out, if_pos rfl, if_neg (by rw [Hce.out]; exact hc0), if_neg (by rw [HM.out]; omega)])
      have Hr := Lib.hid (show divR ts p q = [] by unfold divR; rw [Hc.out]; rfl)
      gi_wp2_with fail
      refine ⟨trivial, (callsIn_wide.2 (demand_n _ _ _ (by simp; try omega))).mono ?_⟩
      rintro e w2 ⟨rfl, rfl⟩
      gi_wp2
      exact .inr ⟨Hr.out, by rw [Hc.out], hB1.alloc hB1.size _⟩
    have hgp : 0 < Nat.gcd c q := Nat.gcd_pos_of_pos_right _ (by omega)
    have hgl : Nat.gcd c q ≤ q := gcd_le_right' (by omega)
    have hN1 : 1 ≤ q / Nat.gcd c q := Nat.div_pos hgl hgp
    have hN2 : q / Nat.gcd c q ≤ q := Nat.div_le_self _ _
    have hT : timesN ts p q = q / Nat.gcd c q := by unfold timesN; rw [Hce.out, Int.toNat_natCast]
    have t1 : ((q : Nat) : Int).tdiv ((Nat.gcd c q : Nat) : Int) = ((q / Nat.gcd c q : Nat) : Int) := rfl
    have t2 : ((q : Nat) : Int) / ((Nat.gcd c q : Nat) : Int) = ((q / Nat.gcd c q : Nat) : Int) := by simp
    obtain ⟨g, hg⟩ : ∃ g, Nat.gcd c q = g := ⟨_, rfl⟩
    have Hg := Lib.hid hg
    rw [hg] at hgp hgl hN1 hN2 hT t1 t2
    obtain ⟨N, hN⟩ : ∃ N, q / g = N := ⟨_, rfl⟩
    rw [hN] at hN1 hN2 hT t1 t2
    have HT := Lib.hid hT
    have hwN : IntKind.i64.wrap (N : Int) = (N : Int) := by rw [IntKind.wrap_i64]; omega
    have hNl : (ts.length : Int) * (N : Int) = ((ts.length * N : Nat) : Int) := by simp
    have hNb : ts.length * N ≤ 120 * 8 := Nat.mul_le_mul (by omega) (by omega)
    obtain ⟨P, hP⟩ : ∃ P, ts.length * N = P := ⟨_, rfl⟩
    rw [hP] at hNl hNb
    have hwP : IntKind.i64.wrap (P : Int) = (P : Int) := by rw [IntKind.wrap_i64]; omega
    have HP := Lib.hid hP
    have hg0 : ¬ g = 0 := by omega
    have hsm : M + (q : Int) ≤ 8 := by omega
    clear hT hP hg hN
    gi_wp2_with fail
    obtain ⟨W2, hW2⟩ : ∃ W2, (w1.alloc (.cells #[.int .i64 M] 2)) = W2 := ⟨_, rfl⟩
    have hB2 : Below w1.heap.size w1 W2 := by rw [← hW2]; exact ((Below.refl _ w1).alloc (Nat.le_refl _) _)
    have hs2 : w1.heap.size + 1 ≤ W2.heap.size := by rw [← hW2]; simp
    have bG : Boxed W2 (w1.heap.size) 2 (.int .i64 M) := by rw [← hW2]; repeat first | (refine boxed_at ?_; (simp; done)) | refine Boxed.alloc ?_ _
    rw [hW2]
    clear hW2
    refine ⟨trivial, (callsIn_wide.2 (demand_y _ _ _ (by simp; try omega))).mono ?_⟩
    rintro e w2 ⟨rfl, rfl⟩
    have hB3 := hB1.trans (hB2.mono hB1.size)
    replace bM := boxed_later bM hB2
    clear hB2 hB1 cM cM2
    have cM := bM.cell
    have hfw : Try.prog.follows Departure.mixedOrders = true := by kernel_rfl
    gi_wp2_with fail
    refine wpIn_wide.2 (wp_region_noPanic ?_)
    refine wp_region_held_drew (S := fun w' => Boxed w' w.heap.size 2 (.int .i64 (q : Int)) ∧ Boxed w' w1.heap.size 2 (.int .i64 M) ∧ Below w.heap.size w w' ∧ W2.heap.size ≤ w'.heap.size) hfw ⟨bM, bG, hB3.drew, Nat.le_refl _⟩ ?_
    intro hS0
    refine wpAnyH_take (i := 0) (v := ?v0) rfl (by kernel_rfl) (by kernel_rfl) (by kernel_rfl) (fun _ _ _ h => h) (.inl ⟨by rfl, ?y0⟩) hS0 ?_
    case y0 =>
      intro w' hS
      (have k1 := hS.1.cell; clear hS)
      go_simp
      try with_reducible rfl
    refine wpAnyH_take (i := 1) (v := ?v1) rfl (by kernel_rfl) (by kernel_rfl) (by kernel_rfl) (fun _ _ _ h => h) (.inl ⟨by rfl, ?y1⟩) hS0 ?_
    case y1 =>
      intro w' hS
      (have k1 := hS.1.cell; clear hS)
      go_simp
      try with_reducible rfl
    refine wpAnyH_take (i := 2) (v := ?v2) rfl (by kernel_rfl) (by kernel_rfl) (by kernel_rfl) (fun _ _ _ h => h) (.inl ⟨by rfl, ?y2⟩) hS0 ?_
    case y2 =>
      intro w' hS
      (have k1 := hS.1.cell; clear hS)
      go_simp
      try with_reducible rfl
    refine wpAnyH_ready (rs := [3]) (by kernel_rfl) (by simp) ?_
    refine AllReadyH.cons rfl (fun K' hK' => ?_) AllReadyH.nil
    rw [if_pos (by rfl)]
    go_simp
    refine (greatestDivisor_c c q _ (by omega) (by omega)).mono ?_
    rintro e w3 ⟨rfl, hb⟩
    rw [Hg.out]
    refine hK'.out _ _ ⟨boxed_later hS0.1 hb, boxed_later hS0.2.1 hb, hS0.2.2.1.trans (hb.mono hS0.2.2.1.size), Nat.le_trans hS0.2.2.2 hb.size⟩ fun hS1 => ?_
    refine wpAnyH_take (i := 4) (v := ?vb4) rfl (by kernel_rfl) (by kernel_rfl) (by kernel_rfl) (fun _ _ _ h => h) (.inl ⟨by rfl, ?yb4⟩) hS1 ?_
    case yb4 =>
      intro w' hS
      (clear hS)
      go_simp
      try with_reducible rfl
    refine wpAnyH_take (i := 5) (v := ?vb5) rfl (by kernel_rfl) (by kernel_rfl) (by kernel_rfl) (fun _ _ _ h => h) (.inl ⟨by rfl, ?yb5⟩) hS1 ?_
    case yb5 =>
      intro w' hS
      (clear hS)
      go_simp
      try with_reducible rfl
    refine wpAnyH_done (by kernel_rfl) (NoPanic.normal ?_) _
    replace bM := hS1.1
    replace bG := hS1.2.1
    have hB4 := hS1.2.2.1
    have hs4 := hS1.2.2.2
    clear hb hS0 hS1 hK' hB3 cM
    have cM := bM.cell
    by_cases hbig2 : 120 < P
    · have Hc := Lib.hid (show divC ts p q = 3 by unfold divC; rw [Hok.out, if_pos rfl, if_neg (by rw [Hce.out]; exact hc0), if_neg (by rw [HT.out, HP.out]; omega)])
      have Hr := Lib.hid (show divR ts p q = [] by unfold divR; rw [Hc.out]; rfl)
      gi_wp2_with fail
      refine ⟨trivial, (callsIn_wide.2 (demand_n _ _ _ (by simp; try omega))).mono ?_⟩
      rintro e w2 ⟨rfl, rfl⟩
      gi_wp2
      exact .inr ⟨Hr.out, by rw [Hc.out], hB4⟩
    have hdc : divC ts p q = 0 := by unfold divC; rw [Hok.out, if_pos rfl, if_neg (by rw [Hce.out]; exact hc0), if_pos (by rw [HM.out, HT.out, HP.out]; omega)]
    have Hc := Lib.hid hdc
    have hr : divR ts p q = divL (repL ts N) p q M := by unfold divR; rw [if_pos hdc, HT.out, HM.out, Int.toNat_natCast]
    obtain ⟨R, hR⟩ : ∃ R, repL ts N = R := ⟨_, rfl⟩
    have hRl : R.length = P := by rw [← hR, repL_length, Nat.mul_comm, HP.out]
    rw [hR] at hr
    have Hr := Lib.hid hr
    have HR := Lib.hid hR
    have HRl := Lib.hid hRl
    have hRb : 0 < R.length ∧ R.length ≤ 120 := by
      refine ⟨?_, by omega⟩
      rw [← hR, repL_length]; exact Nat.mul_pos hN1 (by omega)
    have hPs : P ≤ 120 := by omega
    clear hdc hr hR hRl
    gi_wp2_with fail
    refine ⟨trivial, (callsIn_wide.2 (demand_y _ _ _ (by simp; try omega))).mono ?_⟩
    rintro e w2 ⟨rfl, rfl⟩
    gi_wp2_with fail
    refine ⟨trivial, (callsIn_wide.2 (repeat_c _ ts N _ (hI.later hB4) (by omega) (by omega) (by omega) (by omega))).mono ?_⟩
    rintro e w5 ⟨v, rfl, ho, hb⟩
    simp only [id]
    rw [HR.out] at ho
    obtain ⟨g5, c5, rfl, hg5, hg5'⟩ := ho.shape hRb.1
    have hB5 := hB4.trans (hb.mono hB4.size)
    have hs5 := hb.size
    replace bM := boxed_later bM hb
    replace bG := boxed_later bG hb
    clear hb hB4 cM
    have cM := bM.cell
    gi_wp2_with fail
    obtain ⟨w6, hW6⟩ : ∃ w6, (w5.alloc (.cells #[.slice (some ⟨g5, 0, none⟩) R.length c5] 24)) = w6 := ⟨_, rfl⟩
    have hB6 : Below w5.heap.size w5 w6 := by rw [← hW6]; exact ((Below.refl _ w5).alloc (Nat.le_refl _) _)
    have hs6 : w5.heap.size + 1 ≤ w6.heap.size := by rw [← hW6]; simp
    have bD : Boxed w6 (w5.heap.size) 24 (.slice (some ⟨g5, 0, none⟩) R.length c5) := by rw [← hW6]; repeat first | (refine boxed_at ?_; (simp; done)) | refine Boxed.alloc ?_ _
    rw [hW6]
    clear hW6
    have hB7 := hB5.trans (hB6.mono hB5.size)
    have ho6 := ho.below hB6
    replace bM := boxed_later bM hB6
    replace bG := boxed_later bG hB6
    clear hB6 hB5 ho cM
    refine ⟨trivial, (callsIn_wide.2 (slotsOf_c _ _ _ _ _)).mono ?_⟩
    rintro e w7 ⟨rfl, rfl⟩
    have cM2 := ((bM.alloc (.cells #[.slice (some ⟨g5, 0, none⟩) R.length c5] 24)).alloc (.cells #[.int .i64 (p : Int)] 2)).cell
    gi_wp2_with fail
    obtain ⟨w8, hW8⟩ : ∃ w8, ((w6.alloc (.cells #[.slice (some ⟨g5, 0, none⟩) R.length c5] 24)).alloc (.cells #[.int .i64 (p : Int)] 2)) = w8 := ⟨_, rfl⟩
    have hB8 : Below w6.heap.size w6 w8 := by rw [← hW8]; exact (((Below.refl _ w6).alloc (Nat.le_refl _) _).alloc (by simp; try omega) _)
    have hs8 : w6.heap.size + 2 ≤ w8.heap.size := by rw [← hW8]; simp
    have bS : Boxed w8 (w6.heap.size) 24 (.slice (some ⟨g5, 0, none⟩) R.length c5) := by rw [← hW8]; repeat first | (refine boxed_at ?_; (simp; done)) | refine Boxed.alloc ?_ _
    have bI : Boxed w8 (w6.heap.size + 1) 2 (.int .i64 (p : Int)) := by rw [← hW8]; repeat first | (refine boxed_at ?_; (simp; done)) | refine Boxed.alloc ?_ _
    rw [hW8]
    clear hW8
    have hB9 := hB7.trans (hB8.mono hB7.size)
    have ho8 := ho6.below hB8
    have hi6 := ho6.ints
    have hB68 := hB8
    have hs68 := hB8.size
    replace bM := boxed_later bM hB8
    replace bG := boxed_later bG hB8
    replace bD := boxed_later bD hB8
    clear hB8 hB7 ho6 cM2
    have hlL := slotsL_length R p
    refine ⟨trivial, (callsIn_wide.2 (collect_c _ _ (slotV R p) (fun b => b < w6.heap.size ∨ b = w6.heap.size + 1) 4 w8 (enters_of Try.func242 (by kernel_rfl) rfl)
      (fun W hW => by
        rw [slotV_length]
        exact seqAt_congr (fun k hk => by unfold slotAt valAt; rw [nth_slotV hk]) (slotsOf_at 8 w6.heap.size (w6.heap.size + 1) w6.heap.size _ R p (by omega) W (boxed_later bS hW) (boxed_later bI hW) (by have := hW.size; omega) (hi6.below (hB68.trans (hW.mono hs68)))))
      (fun b hb => by omega) (by rw [slotV_length]; omega))).mono ?_⟩
    rintro e w9 ⟨v9, rfl, ho9, hb⟩
    simp only [id]
    have hB10 := hB9.trans (hb.mono hB9.size)
    have ho10 := ho8.below hb
    have hs10 := hb.size
    replace bM := boxed_later bM hb
    replace bG := boxed_later bG hb
    replace bD := boxed_later bD hb
    clear hb hB9 ho8 hi6 hB68
    obtain ⟨a9, c9, rfl⟩ := ho9.ints.shape
    have hb9 := ho9.blk
    gi_wp2_with (first | (gi_at_call 109; refine (callsIn_wide.2 (numbered_c _ _ _ _)).mono ?_; rintro e w' ⟨rfl, rfl⟩) | (refine ⟨trivial, ?_⟩; gi_at_call 109; refine (callsIn_wide.2 (numbered_c _ _ _ _)).mono ?_; rintro e w' ⟨rfl, rfl⟩))
    obtain ⟨W0, hW11⟩ : ∃ W0, (w9.alloc (.cells #[.slice a9 (slotV R p).length c9] 24)) = W0 := ⟨_, rfl⟩
    have hB11 : Below w9.heap.size w9 W0 := by rw [← hW11]; exact ((Below.refl _ w9).alloc (Nat.le_refl _) _)
    have hs11 : w9.heap.size + 1 ≤ W0.heap.size := by rw [← hW11]; simp
    have bN : Boxed W0 (w9.heap.size) 24 (.slice a9 (slotV R p).length c9) := by rw [← hW11]; repeat first | (refine boxed_at ?_; (simp; done)) | refine Boxed.alloc ?_ _
    rw [hW11]
    clear hW11
    have hB12 := hB10.trans (hB11.mono hB10.size)
    have ho12 := ho10.below hB11
    have hoL := ho9.below hB11
    have hs12 := hB11.size
    replace bM := boxed_later bM hB11
    replace bG := boxed_later bG hB11
    replace bD := boxed_later bD hB11
    clear hB11 hB10 ho10 ho9
    refine range_outA rfl (by omega) rfl trivial (enters_of Try.func206 (by kernel_rfl) rfl) (numbered_own Fence.wide 8 trivial rfl (by omega) _ w8.heap.size _ (slotV R p) (by rw [slotV_length]; omega) W0 bN hoL) (fun b hb => by have := hb9 b hb; omega) (fun _ => rfl)
      (fun k W => OwnI w3.heap.size W (.slice (some ⟨g5, 0, none⟩) R.length c5) (setTo R p q M k) ∧ Boxed W w.heap.size 2 (.int .i64 (q : Int)) ∧ Boxed W w1.heap.size 2 (.int .i64 M) ∧ Boxed W w5.heap.size 24 (.slice (some ⟨g5, 0, none⟩) R.length c5) ∧ Below w.heap.size w W)
      (fun _ _ _ => False)
      (by repeat' (first | exact ownFrom_pure _ _ | exact Own.from (boxed_own _ _ _) _ | exact Own.from (ownI_Own _ _ _) _ | exact Own.from (ownB_Own _ _ _) _ | exact ownFrom_below (Nat.le_refl _) (by omega) | exact ownFrom_kps (by omega) | apply OwnFrom.and))
      (fun _ _ _ _ _ hs _ _ => hs)
      ⟨by rw [setTo_zero]; exact ho12, bM, bG, bD, hB12⟩ ?a1 ?assign ?body ?done ?stop
    case assign =>
      intro l k W K hk hK
      simp only [numAt]
      gi_wp2
      exact hK
    case body =>
      rintro l k W hl2 hr ⟨hoW, bM1, bG1, bD1, hBW⟩ hlt hsW
      rw [slotV_length] at hlt
      have cM := bM1.cell
      have cG := bG1.cell
      have cD := bD1.cell
      obtain ⟨e1, e2, e3⟩ := slotN_at hlt
      rw [nth_slotV hlt]
      have hst := setTo_step (R := R) (i := (p : Int)) (m := q) (M := M) hlt
      have ck := hoW.cellAt (j := slotN R p k) (by rw [setTo_length]; exact e3)
      have fk := hoW.frozen (slotN R p k)
      obtain ⟨sl, hsl2⟩ : ∃ sl, slotN R p k = sl := ⟨_, rfl⟩
      rw [hsl2] at e3 hst ck fk ⊢
      have m1 : ((k : Nat) : Int).tmod q = ((k % q : Nat) : Int) := rfl
      have m2 : ((k : Nat) : Int) % q = ((k % q : Nat) : Int) := by simp
      have hrl := Nat.mod_lt k (show 0 < q by omega)
      obtain ⟨r, hr0⟩ : ∃ r, k % q = r := ⟨_, rfl⟩
      rw [hr0] at m1 m2 hrl hst
      have hwr : IntKind.i64.wrap (r : Int) = (r : Int) := by rw [IntKind.wrap_i64]; omega
      have hwMr : IntKind.i64.wrap (M + (r : Int)) = M + (r : Int) := by rw [IntKind.wrap_i64]; omega
      have hkl : k < 120 := by omega
      have hq0 : ¬ q = 0 := by omega
      have hesl : (sl : Int) < (R.length : Int) := by omega
      have hnB : ¬ Band (fun b => (Value.slice a9 (slotV R p).length c9).ownBlock = some b) W0.heap.size (W0.heap.size + 2 + 0) g5 := fun h => by
        rcases h with h | h
        · have := hb9 g5 h; omega
        · omega
      have HnB := Lib.hid hnB
      clear e1 e2 hsl2 hr0 hnB
      by_cases hrp : ¬ 0 < r
      · have hst2 : setTo R p q M (k + 1) = setTo R p q M k := by rw [hst, if_pos (by omega)]
        have Hst := Lib.hid hst2
        clear hst hst2
        gi_wp2
        exact ⟨Kps.refl _ _, by rw [Hst.out]; exact hoW, bM1, bG1, bD1, hBW⟩
      · have hst2 : setTo R p q M (k + 1) = (setTo R p q M k).set sl (M + (r : Int)) := by rw [hst, if_neg (by omega)]
        have Hst := Lib.hid hst2
        replace hrp : 0 < r := by omega
        clear hst hst2
        gi_wp2
        exact ⟨Kps.setCell _ _ _ _ HnB.out, by rw [Hst.out]; exact (hoW.stored sl _).1, boxed_setFar bM1 (by omega), boxed_setFar bG1 (by omega), boxed_setFar bD1 (by omega), hBW.setCell (p := ⟨g5, sl, none⟩) (by show w.heap.size ≤ g5; omega) _⟩
    case done =>
      rintro D W hD ⟨hoW, bM1, bG1, bD1, hBW⟩ hK
      have cD := bD1.cell
      rw [slotV_length, setTo_all] at hoW
      gi_wp2
      refine retM1 hK ⟨_, results_tmp rfl _ _ _, ?_⟩
      exact .inl ⟨Hc.out, _, rfl, by rw [Hr.out]; exact (hoW.base (by omega)).shut hK, below_shut hBW (by omega)⟩
    case stop =>
      rintro D c k W hD hk h
      exact h.elim

set_option maxRecDepth 100000 in
set_option maxHeartbeats 8000000 in
theorem divWork_c (bt bi bm : Nat) (sv : Value) (ts : List Int) (i m : Int) (w : World) (hbT : Boxed w bt 24 sv) (hbI : Boxed w bi 2 (.int .i64 i)) (hbM : Boxed w bm 2 (.int .i64 m)) (hI : Ints w.heap.size w sv ts) (hm : ts.length ≤ 1048576) :
    Calls Try.prog 183 #[.pointer (some ⟨bt, 0, none⟩), .pointer (some ⟨bi, 0, none⟩), .pointer (some ⟨bm, 0, none⟩)] w fun e w' => (divC ts i m = 0 ∧ GivesI w (divR ts i m) id e w') ∨ (divR ts i m = [] ∧ e = .panicked (refused (divC ts i m)) ∧ Below w.heap.size w w') := by
  obtain ⟨a, cap, rfl⟩ := hI.shape
  have cT := hbT.cell
  have cI := hbI.cell
  have cM := hbM.cell
  go_enter Try.func183, Try.ntmps183
  go_wp2_with fail
  refine (areTurns_c _ ts 8 _ hI (by omega)).mono ?_
  rintro e w1 ⟨rfl, hb⟩
  have hI1 := hI.later hb
  clear cT cI cM
  replace hbT := boxed_later hbT hb
  replace hbI := boxed_later hbI hb
  replace hbM := boxed_later hbM hb
  have cT := hbT.cell
  have cI := hbI.cell
  have cM := hbM.cell
  cases ht : turnsOk ts 8
  · have Hc := Lib.hid (show divC ts i m = 2 by unfold divC divOk; rw [ht]; rfl)
    have Hr := Lib.hid (show divR ts i m = [] by unfold divR; rw [Hc.out]; rfl)
    clear ht
    go_wp2_with fail
    refine (demand_no _ _).mono ?_
    rintro e w2 ⟨rfl, rfl⟩
    go_wp2
    exact ⟨rfl, .inr ⟨Hr.out, by rw [Hc.out], hb⟩⟩
  have Ht := Lib.hid ht
  clear ht
  go_wp2_with fail
  refine (demand_yes _ _).mono ?_
  rintro e w2 ⟨rfl, rfl⟩
  by_cases hin : (0 ≤ i ∧ i ≤ 7) ∧ (2 ≤ m ∧ m ≤ 8)
  · have h1 : 0 ≤ i := hin.1.1
    have h2 : i < 8 := by omega
    have h3 : 2 ≤ m := hin.2.1
    have h4 : m ≤ 8 := hin.2.2
    go_wp2_with fail
    refine (demand_yes _ _).mono ?_
    rintro e w2 ⟨rfl, rfl⟩
    go_wp2_with fail
    refine (dividedTurns_c _ ts i m _ hI1 Ht.out hin.1 hin.2).mono ?_
    rintro e w3 (⟨hc, v, rfl, ho, hb3⟩ | ⟨hr, rfl, hb3⟩)
    · simp only [id]
      go_wp2
      go_ret
      exact .inl ⟨hc, _, rfl, ho.base hb.size, hb.trans (hb3.mono hb.size)⟩
    · go_wp2
      exact ⟨rfl, .inr ⟨hr, rfl, hb.trans (hb3.mono hb.size)⟩⟩
  · have hno : divOk ts i m = false := by
      unfold divOk
      rw [Ht.out]
      by_cases h : 0 ≤ i ∧ i ≤ 7
      · rw [show inB m 2 8 = false by rw [inB_false]; omega]; simp
      · rw [show inB i 0 7 = false by rw [inB_false]; omega]; simp
    have Hc := Lib.hid (show divC ts i m = 2 by unfold divC; rw [hno]; rfl)
    have Hr := Lib.hid (show divR ts i m = [] by unfold divR; rw [Hc.out]; rfl)
    clear hno
    go_wp2_with fail
    all_goals
      refine (demand_n _ _ _ (by first | rfl | (simp; omega))).mono ?_
      rintro e w2 ⟨rfl, rfl⟩
      go_wp2
      exact ⟨rfl, .inr ⟨Hr.out, by rw [Hc.out], hb⟩⟩

set_option maxRecDepth 100000 in
set_option maxHeartbeats 8000000 in
theorem i_DivideTurns (c0 : Value) (ts : List Int) (i m : Int) (w : World) (hI : Ints w.heap.size w c0 ts) (_hN : I64s ts) (hm : ts.length ≤ 1048576) (_hvi : I64 i) (_hvm : I64 m) :
    Calls Try.prog 89 #[c0, .int .i64 i, .int .i64 m] w (GivesI w (divR ts i m) fun v => .tuple #[v, .int .i64 (divC ts i m)]) := by
  have hmf : ∀ (fn : Fn) (first cap : Array Value) (w : World), (Instr.makeFunc fn first cap).run Try.prog w = .ok (.func fn first cap) w := fun _ _ _ _ => rfl
  obtain ⟨a, cap, rfl⟩ := hI.shape
  go_enter Try.func89, Try.ntmps89
  go_wp2_with fail
  obtain ⟨W0, hW0⟩ : ∃ W0, (((w.alloc (.cells #[.slice a ts.length cap] 24)).alloc (.cells #[.int .i64 i] 2)).alloc (.cells #[.int .i64 m] 2)) = W0 := ⟨_, rfl⟩
  have hB0 : Below w.heap.size w W0 := by rw [← hW0]; exact ((((Below.refl _ w).alloc (Nat.le_refl _) _).alloc (by simp; try omega) _).alloc (by simp; try omega) _)
  have hs0 : w.heap.size + 3 ≤ W0.heap.size := by rw [← hW0]; simp
  have bT : Boxed W0 (w.heap.size) 24 (.slice a ts.length cap) := by rw [← hW0]; repeat first | (refine boxed_at ?_; (simp; done)) | refine Boxed.alloc ?_ _
  have bI : Boxed W0 (w.heap.size + 1) 2 (.int .i64 i) := by rw [← hW0]; repeat first | (refine boxed_at ?_; (simp; done)) | refine Boxed.alloc ?_ _
  have bM : Boxed W0 (w.heap.size + 1 + 1) 2 (.int .i64 m) := by rw [← hW0]; repeat first | (refine boxed_at ?_; (simp; done)) | refine Boxed.alloc ?_ _
  rw [hW0]
  clear hW0
  refine (doorL_c _ _ (divR ts i m) (divC ts i m) W0 (enters_of Try.func183 (by kernel_rfl) rfl) (fun W hW hs => divWork_c w.heap.size (w.heap.size + 1) (w.heap.size + 1 + 1) _ ts i m W (boxed_later bT hW) (boxed_later bI hW) (boxed_later bM hW) ((hI.later hB0).later hW) hm)).mono ?_
  rintro e w1 ⟨v, rfl, ho, hb⟩
  have hB1 := hB0.trans (hb.mono hB0.size)
  go_wp2_with fail
  go_ret2
  exact ⟨_, rfl, ho.base hB0.size, hB1⟩

end Go.Proofs.Ytoflgfenlbibpaa
