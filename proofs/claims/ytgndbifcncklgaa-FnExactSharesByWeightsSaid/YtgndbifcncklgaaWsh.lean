/-
  Shares of turns: l10Shares of the model, unitsOf and areSharesOfTurns of the program; the mean of even turns: its sums stay within int64.
  Conditions: lists of at most 1048576 elements.
-/
import Derived.Test.YtgndbifcncklgaaWao
namespace Go.Proofs.Ytgndbifcncklgaa
open Go.RowKit Go.Shelf
attribute [local go_sem] Oper.semAt_some

def shOk (ds : List Int) : Bool := (ds.all fun z => inB z 1 120) && (inB ds.length 1 8 && decide (sumN (nth ds) ds.length ≤ 120))
def shR (ds : List Int) : Int := if shOk ds then sumN (nth ds) ds.length else 0
structure Sho (ds : List Int) (N : Nat) : Prop where
  len : 1 ≤ ds.length ∧ ds.length ≤ 8
  el : ∀ i, i < ds.length → 1 ≤ nth ds i ∧ nth ds i ≤ 120
  sum : sumN (nth ds) ds.length = N
  n : 1 ≤ N ∧ N ≤ 120
theorem sho {ds : List Int} (h : shOk ds = true) : ∃ N, Sho ds N := by
  unfold shOk at h
  rw [Bool.and_eq_true, Bool.and_eq_true, List.all_eq_true, inB_true, decide_eq_true_eq] at h
  obtain ⟨h1, h2, h3⟩ := h
  have he : ∀ i, i < ds.length → 1 ≤ nth ds i ∧ nth ds i ≤ 120 := fun i hi => inB_true.1 (h1 _ (nth_mem hi))
  have hb := sumN_bd he
  refine ⟨(sumN (nth ds) ds.length).toNat, by omega, he, by omega, by omega⟩
theorem shR_no {ds : List Int} (h : shOk ds = false) : shR ds = 0 := by unfold shR; rw [h]; rfl
theorem Sho.shR {ds : List Int} {N : Nat} (h : shOk ds = true) (k : Sho ds N) : shR ds = N := by unfold Proofs.Ytgndbifcncklgaa.shR; rw [h, if_pos rfl, k.sum]
theorem Sho.one {ds : List Int} {N : Nat} (k : Sho ds N) : ∀ i, i < ds.length → 1 ≤ nth ds i := fun i hi => (k.el i hi).1
theorem Sho.zero {ds : List Int} {N : Nat} (k : Sho ds N) : ∀ i, i < ds.length → 0 ≤ nth ds i := fun i hi => by have := (k.el i hi).1; omega

set_option maxRecDepth 100000 in
set_option maxHeartbeats 2000000 in
theorem l10Shares_c (sv : Value) (ds : List Int) (w : World) (hI : Ints w.heap.size w sv ds) (hl : ds.length ≤ 1048576) :
    Calls Try.prog 82 #[sv] w fun e w' => e = .returned (.int .i64 (shR ds)) ∧ w = w' := by
  obtain ⟨a, cap, rfl⟩ := hI.shape
  go_enter Try.func82, Try.ntmps82
  go_wp2
  go_loop [3, 4] (fun s i => ∃ (k : Nat) (q : Int), k ≤ ds.length ∧ i = .int .i64 k ∧ s = .int .i64 q ∧ (q = sumN (nth ds) k ∧ 0 ≤ q ∧ q ≤ k * 120) ∧ (∀ j, j < k → inB (nth ds j) 1 120 = true)) (fun _ i => ds.length - (intOf i).toNat)
  case atStart => exact ⟨0, 0, Nat.zero_le _, rfl, rfl, ⟨rfl, by omega, by omega⟩, by simp⟩
  case round =>
    obtain ⟨k, q, hk, rfl, rfl, ⟨hq, hq0, hq1⟩, hall⟩ := hrel
    have Hq := Lib.hid hq
    have Hall := Lib.hid hall
    clear hq hall
    by_cases hlt : k < ds.length
    · obtain ⟨b, off, rfl, hb, hc⟩ := hI.at_ hlt
      have hcx := hc k hlt
      clear hc
      cases he : inB (nth ds k) 1 120
      · have He := Lib.hid he
        clear he
        go_wp2_with (go_at_call 76; refine (l01In_d false _ _ _ _ He.out).mono ?_; rintro e w' ⟨rfl, rfl⟩)
        go_ret
        exact ⟨ret_int (shR_no (by unfold shOk; rw [all_false_of hlt He.out]; rfl)).symm, rfl⟩
      · have He := Lib.hid he
        have hbn := inB_true.1 he
        clear he
        go_wp2_with (go_at_call 76; refine (l01In_d true _ _ _ _ He.out).mono ?_; rintro e w' ⟨rfl, rfl⟩)
        go_round
        case rel => exact ⟨k + 1, q + nth ds k, by omega, by simp, rfl, ⟨by rw [Hq.out]; rfl, by omega, by simp; omega⟩, fun j hj => by by_cases e : j = k; exact e ▸ He.out; exact Hall.out j (by omega)⟩
        case measure => simp [intOf]; omega
    · obtain rfl : k = ds.length := by omega
      have hal : (ds.all fun z => inB z 1 120) = true := all_true_of (p := fun z => inB z 1 120) Hall.out
      by_cases h8 : 8 < ds.length
      · have Hs := Lib.hid (shR_no (show shOk ds = false by unfold shOk; rw [inB_false.2 (show ((ds.length : Int) < 1 ∨ (8 : Int) < ds.length) by omega)]; simp))
        clear hal
        go_wp2
        go_ret
        exact ⟨ret_int Hs.out.symm, rfl⟩
      · by_cases h60 : 120 < q
        · have Hs := Lib.hid (shR_no (show shOk ds = false by unfold shOk; rw [← Hq.out, decide_eq_false (show ¬ q ≤ 120 by omega)]; simp))
          clear hal
          go_wp2
          go_ret
          exact ⟨ret_int Hs.out.symm, rfl⟩
        · have Hs := Lib.hid (show shR ds = q by
            unfold shR
            by_cases h0 : ds.length = 0
            · have : shOk ds = false := by unfold shOk; rw [inB_false.2 (show ((ds.length : Int) < 1 ∨ (8 : Int) < ds.length) by omega)]; simp
              rw [this, if_neg (by simp), Hq.out, h0]; rfl
            · have : shOk ds = true := by unfold shOk; rw [hal, inB_true.2 (by omega), ← Hq.out, decide_eq_true (show q ≤ 120 by omega)]; rfl
              rw [this, if_pos rfl, Hq.out])
          clear hal
          go_wp2
          go_ret
          exact ⟨ret_int Hs.out.symm, rfl⟩


set_option maxRecDepth 100000 in
set_option maxHeartbeats 4000000 in
theorem unitsT_c (sv : Value) (ds : List Int) (w : World) (hI : Ints w.heap.size w sv ds) (hl : ds.length ≤ 8) (hd : ∀ i, i < ds.length → 1 ≤ nth ds i ∧ nth ds i ≤ 120) :
    Calls Try.prog 84 #[sv] w fun e w' => e = .returned (.int .i64 (sumN (nth ds) ds.length)) ∧ Below w.heap.size w w' := by
  obtain ⟨a, cap, rfl⟩ := hI.shape
  refine (callsIn_wide (n := 9)).1 ?_
  refine callsIn_of_wp_marks Try.func84 rfl trivial ?_ rfl
  simp only [Try.ntmps84, List.size_toArray, List.length_cons, List.length_nil, Nat.reduceAdd, Nat.reduceSub, Array.replicate_succ, Array.replicate_zero, List.push_toArray, List.append_toArray, List.nil_append, List.cons_append]
  gi_wp2_with (first | (gi_at_call 87; refine (callsIn_wide.2 (numbered_c _ _ _ _)).mono ?_; rintro e w' ⟨rfl, rfl⟩) | (refine ⟨trivial, ?_⟩; gi_at_call 87; refine (callsIn_wide.2 (numbered_c _ _ _ _)).mono ?_; rintro e w' ⟨rfl, rfl⟩))
  obtain ⟨W0, hW0⟩ : ∃ W0, ((w.alloc (.cells #[.int .i64 0] 2)).alloc (.cells #[.slice a ds.length cap] 24)) = W0 := ⟨_, rfl⟩
  have hB0 : Below w.heap.size w W0 := by rw [← hW0]; exact (((Below.refl _ w).alloc (Nat.le_refl _) _).alloc (by simp; try omega) _)
  have hs0 : w.heap.size + 2 ≤ W0.heap.size := by rw [← hW0]; simp
  have bS : Boxed W0 (w.heap.size) 2 (.int .i64 0) := by rw [← hW0]; repeat first | (refine boxed_at ?_; (simp; done)) | refine Boxed.alloc ?_ _
  have bN : Boxed W0 (w.heap.size + 1) 24 (.slice a ds.length cap) := by rw [← hW0]; repeat first | (refine boxed_at ?_; (simp; done)) | refine Boxed.alloc ?_ _
  rw [hW0]
  clear hW0
  refine range_outA rfl (by omega) rfl trivial (enters_of Try.func124 (by kernel_rfl) rfl) (numbered_at Fence.wide 8 trivial rfl (by omega) _ w.heap.size _ ds (by omega) W0 bN (by omega) (hI.below hB0)) (fun b hb => by omega) (fun _ => rfl)
    (fun k W => Boxed W w.heap.size 2 (.int .i64 (sumN (nth ds) k)) ∧ Below w.heap.size w W)
    (fun _ _ _ => False)
    (OwnFrom.and (Own.from (boxed_own _ _ _) _) (ownFrom_below (Nat.le_refl _) (by omega)))
    (fun _ _ _ _ _ hs _ _ => hs)
    ⟨bS, hB0⟩ ?a1 ?assign ?body ?done ?stop
  case assign =>
    intro l k W K hk hK
    simp only [numAt]
    gi_wp2
    exact hK
  case body =>
    rintro l k W hl hr ⟨bS1, hB⟩ hlt hsz
    have hnb : ¬ Band (fun b => b < w.heap.size) W0.heap.size (W0.heap.size + 2 + 0) w.heap.size := not_band (by omega) (by omega)
    have hb := sumN_bd (f := nth ds) (k := k) (a := 1) (b := 120) (fun i hi => hd i (by omega))
    have he := hd k hlt
    have Hs := Lib.hid (show sumN (nth ds) (k + 1) = sumN (nth ds) k + nth ds k from rfl)
    obtain ⟨q, hq⟩ : ∃ q, sumN (nth ds) k = q := ⟨_, rfl⟩
    have Hq := Lib.hid hq
    rw [hq] at hb bS1
    have cS := bS1.cell
    have fS := bS1.frozen
    clear hq
    gi_wp2
    exact ⟨Kps.setCell _ _ _ _ hnb, by rw [Hs.out, Hq.out]; exact bS1.set _, hB.setCell (p := ⟨w.heap.size, 0, none⟩) (Nat.le_refl _) _⟩
  case done =>
    rintro D W hD ⟨bS1, hB⟩ hK
    have cS := bS1.cell
    gi_wp2
    exact retM1 hK ⟨_, results_tmp rfl _ _ _, rfl, below_shut hB (by omega)⟩
  case stop =>
    rintro D c k W hD hk h
    exact h.elim

set_option maxRecDepth 100000 in
set_option maxHeartbeats 4000000 in
theorem areSharesT_c (sv : Value) (ds : List Int) (w : World) (hI : Ints w.heap.size w sv ds) (hm : ds.length ≤ 1048576) :
    Calls Try.prog 83 #[sv] w fun e w' => e = .returned (.bool (shOk ds)) ∧ Below w.heap.size w w' := by
  obtain ⟨a, cap, rfl⟩ := hI.shape
  by_cases h1 : ds.length < 1
  · have Hf := Lib.hid (show shOk ds = false by unfold shOk; rw [inB_false.2 (show ((ds.length : Int) < 1 ∨ (8 : Int) < ds.length) by omega)]; simp)
    go_enter Try.func83, Try.ntmps83
    go_wp2
    go_ret
    exact ⟨ret_bool Hf.out.symm, Below.refl _ _⟩
  · by_cases h8 : 8 < ds.length
    · have Hf := Lib.hid (show shOk ds = false by unfold shOk; rw [inB_false.2 (show ((ds.length : Int) < 1 ∨ (8 : Int) < ds.length) by omega)]; simp)
      go_enter Try.func83, Try.ntmps83
      go_wp2
      go_ret
      exact ⟨ret_bool Hf.out.symm, Below.refl _ _⟩
    · cases ha : (ds.all fun z => inB z 1 120)
      · have Hf := Lib.hid (show shOk ds = false by unfold shOk; rw [ha]; rfl)
        have Ha := Lib.hid ha
        clear ha
        go_enter Try.func83, Try.ntmps83
        go_wp2_with fail
        refine (areWithin_d false _ ds 1 120 _ hI (by omega) Ha.out).mono ?_
        rintro e w1 ⟨rfl, hb⟩
        go_wp2
        go_ret
        exact ⟨ret_bool Hf.out.symm, hb⟩
      · have hd : ∀ i, i < ds.length → 1 ≤ nth ds i ∧ nth ds i ≤ 120 := fun i hi => by rw [List.all_eq_true] at ha; exact inB_true.1 (ha _ (nth_mem hi))
        have Ha := Lib.hid ha
        have Hd := Lib.hid hd
        have hb := sumN_bd hd
        have Hv := Lib.hid (show shOk ds = decide (sumN (nth ds) ds.length ≤ 120) by unfold shOk; rw [ha, inB_true.2 (by omega)]; rfl)
        obtain ⟨q, hq⟩ : ∃ q, sumN (nth ds) ds.length = q := ⟨_, rfl⟩
        have Hq := Lib.hid hq
        clear ha hd hb hq
        by_cases h60 : q ≤ 120
        · go_enter Try.func83, Try.ntmps83
          go_wp2_with fail
          refine (areWithin_d true _ ds 1 120 _ hI (by omega) Ha.out).mono ?_
          rintro e w1 ⟨rfl, hb⟩
          go_wp2_with fail
          refine (unitsT_c _ ds _ (hI.later hb) (by omega) Hd.out).mono ?_
          rintro e w2 ⟨he, hb2⟩
          rw [Hq.out] at he
          subst he
          go_wp2
          go_ret
          exact ⟨ret_bool (by rw [Hv.out, Hq.out, decide_eq_true h60]), hb.trans (hb2.mono hb.size)⟩
        · go_enter Try.func83, Try.ntmps83
          go_wp2_with fail
          refine (areWithin_d true _ ds 1 120 _ hI (by omega) Ha.out).mono ?_
          rintro e w1 ⟨rfl, hb⟩
          go_wp2_with fail
          refine (unitsT_c _ ds _ (hI.later hb) (by omega) Hd.out).mono ?_
          rintro e w2 ⟨he, hb2⟩
          rw [Hq.out] at he
          subst he
          go_wp2
          go_ret
          exact ⟨ret_bool (by rw [Hv.out, Hq.out]), hb.trans (hb2.mono hb.size)⟩

/-! ### the mean of even turns: bounds -/
def prB (B : Nat → Nat) : Nat → Nat
  | 0 => 1
  | k + 1 => prB B k * B k
theorem fr_den (A B Q : Nat → Nat) (k : Nat) : (fr A B Q k).2 ≤ prB B k := by
  induction k with
  | zero => exact Nat.le_refl _
  | succ k ih => exact Nat.le_trans (lowD_le _ _) (Nat.mul_le_mul_right _ ih)
theorem low_ratio {a b c : Nat} (hb : 0 < b) (h : a ≤ c * b) : lowN a b ≤ c * lowD a b := by
  have h1 := low_mul a b hb
  have h2 : lowN a b * b ≤ c * lowD a b * b := by
    rw [h1, Nat.mul_right_comm]
    exact Nat.mul_le_mul_right _ h
  exact Nat.le_of_mul_le_mul_right h2 hb
theorem fr_num {A B Q : Nat → Nat} {c n : Nat} (hB : ∀ k, k < n → 0 < B k) (hA : ∀ k, k < n → A k * Q k ≤ c * B k) : ∀ {k : Nat}, k ≤ n → (fr A B Q k).1 ≤ c * k * (fr A B Q k).2
  | 0, _ => by simp [fr]
  | k + 1, hk => by
    have ih := fr_num hB hA (k := k) (by omega)
    have hp := fr_pos (A := A) (Q := Q) hB (k := k) (by omega)
    refine low_ratio (Nat.mul_pos hp (hB k (by omega))) ?_
    have h1 : (fr A B Q k).1 * B k ≤ c * k * (fr A B Q k).2 * B k := Nat.mul_le_mul_right _ ih
    have h2 : A k * Q k * (fr A B Q k).2 ≤ c * B k * (fr A B Q k).2 := Nat.mul_le_mul_right _ (hA k (by omega))
    have e1 : c * (k + 1) * ((fr A B Q k).2 * B k) = c * k * (fr A B Q k).2 * B k + c * B k * (fr A B Q k).2 := by
      rw [Nat.mul_add, Nat.add_mul, Nat.mul_one]
      congr 1
      · ac_rfl
      · ac_rfl
    omega
theorem pow8 {s : Nat} (h1 : 1 ≤ s) (h2 : s ≤ 120) : (2 * s) ^ 8 ≤ 2 ^ (28 + s) := by
  have : ∀ s : Fin 121, 1 ≤ s.1 → (2 * s.1) ^ 8 ≤ 2 ^ (28 + s.1) := by decide
  exact this ⟨s, by omega⟩ h1
def suN (f : Nat → Nat) : Nat → Nat
  | 0 => 0
  | k + 1 => suN f k + f k
theorem suN_mono (f : Nat → Nat) {j k : Nat} (h : j ≤ k) : suN f j ≤ suN f k := by
  induction k with
  | zero => obtain rfl : j = 0 := by omega
            exact Nat.le_refl _
  | succ k ih =>
    by_cases e : j = k + 1
    · subst e; exact Nat.le_refl _
    · have := ih (by omega); simp only [suN]; omega
theorem prB_pow {f : Nat → Nat} {n : Nat} (hf : ∀ i, i < n → 1 ≤ f i ∧ f i ≤ 120) : ∀ {k : Nat}, k ≤ n → prB (fun i => 2 * f i) k ^ 8 ≤ 2 ^ (28 * k + suN f k)
  | 0, _ => by simp [prB, suN]
  | k + 1, hk => by
    have ih := prB_pow hf (k := k) (by omega)
    have h1 := pow8 (hf k (by omega)).1 (hf k (by omega)).2
    simp only [prB, suN]
    rw [Nat.mul_pow, show 28 * (k + 1) + (suN f k + f k) = (28 * k + suN f k) + (28 + f k) by omega, Nat.pow_add 2 (28 * k + suN f k)]
    exact Nat.mul_le_mul ih h1
theorem prB_le {f : Nat → Nat} {n k : Nat} (hf : ∀ i, i < n → 1 ≤ f i ∧ f i ≤ 120) (hn : n ≤ 8) (hs : suN f n ≤ 120) (hk : k ≤ n) : prB (fun i => 2 * f i) k ≤ 8796093022208 := by
  have h1 := prB_pow hf hk
  have h2 := suN_mono f hk
  have h3 : ∀ m, 344 ≤ m → 2 ^ (28 * k + suN f k) ≤ 2 ^ m := fun m hm => Nat.pow_le_pow_right (by omega) (by omega)
  refine Nat.le_of_not_lt fun h => ?_
  have h4 : 8796093022208 ^ 8 < prB (fun i => 2 * f i) k ^ 8 := Nat.pow_lt_pow_left h (by omega)
  rw [show (8796093022208 : Nat) = 2 ^ 43 from rfl, ← Nat.pow_mul] at h4
  exact absurd (Nat.lt_of_lt_of_le h4 (Nat.le_trans h1 (h3 (43 * 8) (by omega)))) (Nat.lt_irrefl _)
/-- the shares as natural numbers -/
def shN (ds : List Int) (i : Nat) : Nat := (nth ds i).toNat
def evA (ds : List Int) (N i : Nat) : Nat := N - shN ds i
def evB (ds : List Int) (i : Nat) : Nat := 2 * shN ds i
theorem suN_sum {ds : List Int} {n : Nat} (h : ∀ i, i < n → 0 ≤ nth ds i) : ∀ {k : Nat}, k ≤ n → ((suN (shN ds) k : Nat) : Int) = sumN (nth ds) k
  | 0, _ => rfl
  | k + 1, hk => by
    have ih := suN_sum h (k := k) (by omega)
    have := h k (by omega)
    simp only [suN, sumN, shN]
    omega
theorem Sho.nat {ds : List Int} {N : Nat} (h : Sho ds N) : ∀ i, i < ds.length → 1 ≤ shN ds i ∧ shN ds i ≤ 120 ∧ (shN ds i : Int) = nth ds i := fun i hi => by
  have := h.el i hi
  unfold shN; omega
theorem Sho.sumNat {ds : List Int} {N : Nat} (h : Sho ds N) : suN (shN ds) ds.length = N := by
  have h1 := suN_sum h.zero (Nat.le_refl _)
  have h2 := h.sum
  omega
theorem Sho.le {ds : List Int} {N : Nat} (h : Sho ds N) {i : Nat} (hi : i < ds.length) : shN ds i ≤ N := by
  have h1 := suN_mono (shN ds) (show i + 1 ≤ ds.length from hi)
  rw [h.sumNat] at h1
  simp only [suN] at h1
  omega
theorem Sho.frBd {ds : List Int} {N : Nat} (h : Sho ds N) : FrBd (evA ds N) (evB ds) (fun _ => 1) ds.length ∧ ∀ k, k ≤ ds.length → (fr (evA ds N) (evB ds) (fun _ => 1) k).1 ≤ 4222124650659840 ∧ (fr (evA ds N) (evB ds) (fun _ => 1) k).2 ≤ 8796093022208 := by
  have hB : ∀ k, k < ds.length → 0 < evB ds k := fun k hk => by have := h.nat k hk; unfold evB; omega
  have hA : ∀ k, k < ds.length → evA ds N k * 1 ≤ 60 * evB ds k := fun k hk => by have := h.nat k hk; have := h.n; unfold evA evB; omega
  have hl := h.len
  have hd : ∀ k, k ≤ ds.length → (fr (evA ds N) (evB ds) (fun _ => 1) k).2 ≤ 8796093022208 := fun k hk =>
    Nat.le_trans (fr_den _ _ _ k) (prB_le (f := shN ds) (fun i hi => ⟨(h.nat i hi).1, (h.nat i hi).2.1⟩) hl.2 (by rw [h.sumNat]; exact h.n.2) hk)
  have hn : ∀ k, k ≤ ds.length → (fr (evA ds N) (evB ds) (fun _ => 1) k).1 ≤ 60 * k * (fr (evA ds N) (evB ds) (fun _ => 1) k).2 := fun k hk => fr_num hB hA hk
  have hnn : ∀ k, k ≤ ds.length → (fr (evA ds N) (evB ds) (fun _ => 1) k).1 ≤ 4222124650659840 := fun k hk => by
    have h1 := hn k hk
    have h2 : 60 * k * (fr (evA ds N) (evB ds) (fun _ => 1) k).2 ≤ 480 * 8796093022208 := Nat.mul_le_mul (by omega) (hd k hk)
    omega
  have hpr : ∀ k, k < ds.length → (fr (evA ds N) (evB ds) (fun _ => 1) k).2 * evB ds k ≤ 8796093022208 := fun k hk =>
    Nat.le_trans (Nat.mul_le_mul_right _ (fr_den _ _ _ k)) (prB_le (f := shN ds) (k := k + 1) (fun i hi => ⟨(h.nat i hi).1, (h.nat i hi).2.1⟩) hl.2 (by rw [h.sumNat]; exact h.n.2) hk)
  refine ⟨⟨hB, by have := hnn ds.length (Nat.le_refl _); omega, fun k hk => ?_, fun k hk => ?_, fun k hk => by have := hpr k hk; omega, fun k hk => by rw [wtTo_one]; omega, by rw [wtTo_one]; omega, ?_⟩, fun k hk => ⟨hnn k hk, hd k hk⟩⟩
  · have := h.n; unfold evA; simp only [Nat.mul_one]; omega
  · have h1 : (fr (evA ds N) (evB ds) (fun _ => 1) k).1 * evB ds k ≤ 4222124650659840 * 240 := Nat.mul_le_mul (hnn k (by omega)) (by have := h.nat k hk; unfold evB; omega)
    have h2 : evA ds N k * 1 * (fr (evA ds N) (evB ds) (fun _ => 1) k).2 ≤ 120 * 8796093022208 := Nat.mul_le_mul (by have := h.n; unfold evA; omega) (hd k (by omega))
    omega
  · rw [wtTo_one]
    have := Nat.mul_le_mul (hd ds.length (Nat.le_refl _)) hl.2
    omega

end Go.Proofs.Ytgndbifcncklgaa
