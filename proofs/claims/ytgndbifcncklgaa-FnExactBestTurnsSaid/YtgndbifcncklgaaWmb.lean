/-
  Weights, the program: areWeights, tasksWaitedFor, meanByWeights.
  Conditions: lists of at most 1048576 elements.
-/
import Derived.Test.YtgndbifcncklgaaWaq
namespace Go.Proofs.Ytgndbifcncklgaa
open Go.RowKit Go.Shelf
attribute [local go_sem] Oper.semAt_some

/-- weights from low on, at most so many -/
def wOk (ws : List Int) (low most : Int) : Bool := (ws.all fun z => inB z low 100) && (decide (0 < sumN (nth ws) ws.length) && decide ((ws.length : Int) ≤ most))
structure Wgt (ws : List Int) (low : Int) : Prop where
  len : 1 ≤ ws.length ∧ ws.length ≤ 8
  el : ∀ i, i < ws.length → low ≤ nth ws i ∧ nth ws i ≤ 100
  sum : 0 < sumN (nth ws) ws.length
theorem wgt {ws : List Int} {low most : Int} (hm : most ≤ 8) (h : wOk ws low most = true) : Wgt ws low := by
  unfold wOk at h
  rw [Bool.and_eq_true, Bool.and_eq_true, List.all_eq_true, decide_eq_true_eq, decide_eq_true_eq] at h
  obtain ⟨h1, h2, h3⟩ := h
  refine ⟨⟨?_, by omega⟩, fun i hi => inB_true.1 (h1 _ (nth_mem hi)), h2⟩
  refine Nat.pos_of_ne_zero fun e => ?_
  rw [e] at h2
  simp [sumN] at h2
theorem sumN_nn {f : Nat → Int} {k : Nat} (h : ∀ i, i < k → 0 ≤ f i) : 0 ≤ sumN f k := by
  induction k with
  | zero => exact Int.le_refl _
  | succ k ih => have := ih fun i hi => h i (by omega); have := h k (by omega); simp only [sumN]; omega
theorem sumN_pos {ws : List Int} {n : Nat} (h : ∀ i, i < n → 0 ≤ nth ws i) : 0 < sumN (nth ws) n ↔ ∃ i, i < n ∧ 0 < nth ws i := by
  induction n with
  | zero => simp [sumN]
  | succ n ih =>
    have ih := ih fun i hi => h i (by omega)
    have hs : 0 ≤ sumN (nth ws) n := sumN_nn fun i hi => h i (by omega)
    have hn := h n (by omega)
    simp only [sumN]
    constructor
    · intro hp
      by_cases e : 0 < sumN (nth ws) n
      · obtain ⟨i, hi, h2⟩ := ih.1 e; exact ⟨i, by omega, h2⟩
      · exact ⟨n, by omega, by omega⟩
    · rintro ⟨i, hi, h2⟩
      by_cases e : i = n
      · subst e; omega
      · have := ih.2 ⟨i, by omega, h2⟩; omega
/-- the tasks with weights other than 0 -/
def twTo (ws : List Int) : Nat → List Int
  | 0 => []
  | k + 1 => twTo ws k ++ if nth ws k = 0 then [] else [(k : Int)]
theorem twTo_len (ws : List Int) (k : Nat) : (twTo ws k).length ≤ k := by
  induction k with
  | zero => simp [twTo]
  | succ k ih => simp only [twTo, List.length_append]; split <;> simp <;> omega
theorem twTo_mem {ws : List Int} {k : Nat} {x : Int} : x ∈ twTo ws k ↔ ∃ i : Nat, i < k ∧ x = i ∧ nth ws i ≠ 0 := by
  induction k with
  | zero => simp [twTo]
  | succ k ih =>
    simp only [twTo, List.mem_append, ih]
    constructor
    · rintro (⟨i, h1, h2⟩ | h)
      · exact ⟨i, by omega, h2⟩
      · by_cases e : nth ws k = 0
        · simp [e] at h
        · simp [e] at h; exact ⟨k, by omega, h, e⟩
    · rintro ⟨i, h1, h2, h3⟩
      by_cases e : i = k
      · subst e; right; simp [h3, h2]
      · left; exact ⟨i, by omega, h2, h3⟩
def twL (ws : List Int) : List Int := twTo ws ws.length
theorem has_tw {ts ws : List Int} : hasAll ts (twL ws) = true ↔ ∀ i : Nat, i < ws.length → nth ws i ≠ 0 → ts.contains (i : Int) = true := by
  unfold hasAll twL
  rw [List.all_eq_true]
  constructor
  · intro h i hi hn; exact h _ (twTo_mem.2 ⟨i, hi, rfl, hn⟩)
  · intro h x hx
    obtain ⟨i, hi, rfl, hn⟩ := twTo_mem.1 hx
    exact h i hi hn
theorem comB_tw {ts ws : List Int} (hl : ws.length ≤ 8) : comB ts (twL ws) = turnsOk ts 8 := by
  have : (twL ws).all (fun z => inB z 0 7) = true := by
    rw [List.all_eq_true]
    intro x hx
    obtain ⟨i, hi, rfl, -⟩ := twTo_mem.1 hx
    exact inB_true.2 (by omega)
  unfold comB; rw [this, Bool.true_and]

set_option maxRecDepth 100000 in
set_option maxHeartbeats 8000000 in
theorem maxW_c (sv : Value) (ts : List Int) (w : World) (hI : Ints w.heap.size w sv ts) (hl0 : 0 < ts.length) (hl : ts.length ≤ 1000) (hbd : ∀ k, k < ts.length → 0 ≤ nth ts k ∧ nth ts k ≤ 1000000) :
    Calls Try.prog 115 #[sv] w fun e w' => e = .returned (.int .i64 (most ts)) ∧ w = w' := by
  obtain ⟨a, cap, rfl⟩ := hI.shape
  obtain ⟨b, off, rfl, hbb, hc⟩ := hI.at_ hl0
  have h0 : w.cell? ⟨b, off, none⟩ = some (.int .i64 (nth ts 0)) := by simpa using hc 0 (by omega)
  have e1 : mostTo ts 1 = nth ts 0 := by
    have := hbd 0 hl0
    rw [mostTo_succ (by omega)]; simp [mostTo]; omega
  have hn0 := hbd 0 hl0
  go_enter Try.func115, Try.ntmps115
  clear hc
  go_wp2
  rw [← e1]
  clear e1 h0 hbd
  go_loop [4, 3] (fun i m => ∃ k : Nat, 1 ≤ k ∧ k ≤ ts.length ∧ i = .int .i64 k ∧ m = .int .i64 (mostTo ts k)) (fun i _ => ts.length - (intOf i).toNat)
  case atStart => exact ⟨1, Nat.le_refl _, hl0, rfl, rfl⟩
  case round =>
    obtain ⟨k, hk1, hk, rfl, rfl⟩ := hrel
    by_cases hlt : k < ts.length
    · obtain ⟨b2, off2, hs, hb2, hc⟩ := hI.at_ hlt
      cases hs
      have hcx := hc k hlt
      have hs := mostTo_succ hlt
      have Hs := Lib.hid hs
      clear hc hs
      go_wp2
      exact ⟨⟨k + 1, by omega, by omega, by simp, by rw [Hs.out]; congr 1; omega⟩, by simp [intOf]; omega⟩
    · obtain rfl : k = ts.length := by omega
      go_wp2
      go_ret
      exact ⟨ret_int rfl, rfl⟩

set_option maxRecDepth 100000 in
set_option maxHeartbeats 4000000 in
theorem areWeights_c (sv : Value) (ws : List Int) (w : World) (hI : Ints w.heap.size w sv ws) (hm : ws.length ≤ 1048576) :
    Calls Try.prog 73 #[sv] w fun e w' => e = .returned (.bool (wOk ws 0 8)) ∧ Below w.heap.size w w' := by
  obtain ⟨a, cap, rfl⟩ := hI.shape
  by_cases h1 : ws.length < 1
  · have Hf := Lib.hid (show wOk ws 0 8 = false by unfold wOk; rw [show ws.length = 0 by omega]; simp [sumN])
    go_enter Try.func73, Try.ntmps73
    go_wp2
    go_ret
    exact ⟨ret_bool Hf.out.symm, Below.refl _ _⟩
  · by_cases h8 : 8 < ws.length
    · have Hf := Lib.hid (show wOk ws 0 8 = false by unfold wOk; rw [show decide ((ws.length : Int) ≤ 8) = false from decide_eq_false (by omega)]; simp)
      go_enter Try.func73, Try.ntmps73
      go_wp2
      go_ret
      exact ⟨ret_bool Hf.out.symm, Below.refl _ _⟩
    · cases ha : (ws.all fun z => inB z 0 100)
      · have Hf := Lib.hid (show wOk ws 0 8 = false by unfold wOk; rw [ha]; rfl)
        have Ha := Lib.hid ha
        clear ha
        go_enter Try.func73, Try.ntmps73
        go_wp2_with fail
        refine (areWithin_d false _ ws 0 100 _ hI (by omega) Ha.out).mono ?_
        rintro e w1 ⟨rfl, hb⟩
        go_wp2
        go_ret
        exact ⟨ret_bool Hf.out.symm, hb⟩
      · have hd : ∀ i, i < ws.length → 0 ≤ nth ws i ∧ nth ws i ≤ 100 := fun i hi => by rw [List.all_eq_true] at ha; exact inB_true.1 (ha _ (nth_mem hi))
        have hmost : 0 < sumN (nth ws) ws.length ↔ 0 < most ws := by
          rw [sumN_pos fun i hi => (hd i hi).1]
          constructor
          · rintro ⟨i, hi, h2⟩; have := most_ge hi; omega
          · intro h; obtain ⟨j, hj, h2⟩ := most_mem (ts := ws) (by omega); exact ⟨j, hj, by omega⟩
        have hv : wOk ws 0 8 = decide (0 < most ws) := by
          unfold wOk; rw [ha, show decide ((ws.length : Int) ≤ 8) = true from decide_eq_true (by omega)]
          simp only [Bool.true_and, Bool.and_true, hmost]
        have hmb : 0 ≤ most ws ∧ most ws ≤ 100 := by
          obtain ⟨j, hj, h2⟩ := most_mem (ts := ws) (by have := most_ge (ts := ws) (j := 0) (by omega); have := hd 0 (by omega); omega)
          have := hd j hj; omega
        have Ha := Lib.hid ha
        have Hd := Lib.hid hd
        have Hv := Lib.hid hv
        obtain ⟨q, hq⟩ : ∃ q, most ws = q := ⟨_, rfl⟩
        have Hq := Lib.hid hq
        rw [hq] at hmb
        clear ha hd hv hmost hq
        go_enter Try.func73, Try.ntmps73
        go_wp2_with fail
        refine (areWithin_d true _ ws 0 100 _ hI (by omega) Ha.out).mono ?_
        rintro e w1 ⟨rfl, hb⟩
        go_wp2_with fail
        refine (maxW_c _ ws _ (hI.later hb) (by omega) (by omega) (fun k hk => by have := Hd.out k hk; omega)).mono ?_
        rintro e w2 ⟨he, rfl⟩
        rw [Hq.out] at he
        subst he
        go_wp2
        go_ret
        exact ⟨ret_bool (by rw [Hv.out, Hq.out]), hb⟩

set_option maxRecDepth 100000 in
set_option maxHeartbeats 8000000 in
theorem tasksWaitedFor_c (sv : Value) (ws : List Int) (w : World) (hI : Ints w.heap.size w sv ws) (hl : ws.length ≤ 8) (hd : ∀ i, i < ws.length → 0 ≤ nth ws i ∧ nth ws i ≤ 100) :
    Calls Try.prog 74 #[sv] w (GivesI w (twL ws) id) := by
  obtain ⟨a, cap, rfl⟩ := hI.shape
  obtain ⟨i0, hi, hz0, hz1, hz2⟩ := info_parts Try.infoI2
  refine (callsIn_wide (n := 9)).1 ?_
  refine callsIn_of_wp_marks Try.func74 rfl trivial ?_ rfl
  simp only [Try.ntmps74, List.size_toArray, List.length_cons, List.length_nil, Nat.reduceAdd, Nat.reduceSub, Array.replicate_succ, Array.replicate_zero, List.push_toArray, List.append_toArray, List.nil_append, List.cons_append]
  gi_wp2_with (first | (gi_at_call 87; refine (callsIn_wide.2 (numbered_c _ _ _ _)).mono ?_; rintro e w' ⟨rfl, rfl⟩) | (refine ⟨trivial, ?_⟩; gi_at_call 87; refine (callsIn_wide.2 (numbered_c _ _ _ _)).mono ?_; rintro e w' ⟨rfl, rfl⟩))
  obtain ⟨W2, hW0⟩ : ∃ W2, ((w.alloc (.cells #[.slice none 0 0] 24)).alloc (.cells #[.slice a ws.length cap] 24)) = W2 := ⟨_, rfl⟩
  have hB0 : Below w.heap.size w W2 := by rw [← hW0]; exact (((Below.refl _ w).alloc (Nat.le_refl _) _).alloc (by simp; try omega) _)
  have hs0 : w.heap.size + 2 ≤ W2.heap.size := by rw [← hW0]; simp
  have bO : Boxed W2 (w.heap.size) 24 (.slice none 0 0) := by rw [← hW0]; repeat first | (refine boxed_at ?_; (simp; done)) | refine Boxed.alloc ?_ _
  have bN : Boxed W2 (w.heap.size + 1) 24 (.slice a ws.length cap) := by rw [← hW0]; repeat first | (refine boxed_at ?_; (simp; done)) | refine Boxed.alloc ?_ _
  rw [hW0]
  clear hW0
  obtain ⟨top, htop⟩ : ∃ top, W2.heap.size + 2 + 0 = top := ⟨_, rfl⟩
  have Htop := Lib.hid htop
  refine range_outA rfl (by omega) rfl trivial (enters_of Try.func124 (by kernel_rfl) rfl) (numbered_at Fence.wide 8 trivial rfl (by omega) _ w.heap.size _ ws (by omega) W2 bN (by omega) (hI.below hB0)) (fun b hb => by omega) (fun _ => rfl)
    (fun k W => (∃ v, Boxed W w.heap.size 24 v ∧ OwnI top W v (twTo ws k)) ∧ Below w.heap.size w W ∧ (k = 0 ∨ top ≤ W.heap.size))
    (fun _ _ _ => False)
    (OwnFrom.and (Own.from (boxRow_Own _ _ _ _) _) (OwnFrom.and (ownFrom_below (Nat.le_refl _) (by omega)) (ownFrom_size _ _)))
    (fun _ _ _ _ _ hs _ _ => hs)
    ⟨⟨_, bO, ownI_nil _ _⟩, hB0, .inl rfl⟩ ?a1 ?assign ?body ?done ?stop
  case assign =>
    intro l k W K hk hK
    simp only [numAt]
    gi_wp2
    exact hK
  case body =>
    rintro l k W hl2 hr ⟨⟨v, bW1, ho1⟩, hB1, _⟩ hlt hsW
    have hsW2 : top ≤ W.heap.size := by omega
    have hwt : w.heap.size + 2 ≤ top := by omega
    have hwt2 : w.heap.size < W2.heap.size := by omega
    have hband : ∀ j, Band (fun b => b < w.heap.size) W2.heap.size (W2.heap.size + 2 + 0) j → ¬ (j = w.heap.size ∨ top ≤ j) := fun j hj => by
      rcases hj with hj | hj
      · have : j < w.heap.size := hj
        omega
      · omega
    have Hband := Lib.hid hband
    have hup := twTo_len ws k
    have hdk := hd k hlt
    by_cases hz : nth ws k = 0
    · have hq : (nth ws k == 0) = true := by simp [hz]
      have Hs := Lib.hid (show twTo ws (k + 1) = twTo ws k by simp [twTo, hz])
      clear htop hband hz
      gi_wp2
      exact ⟨Kps.refl _ _, ⟨v, bW1, by rw [Hs.out]; exact ho1⟩, hB1, .inr hsW2⟩
    · have hq : (nth ws k == 0) = false := by simp [hz]
      have Hs := Lib.hid (show twTo ws (k + 1) = twTo ws k ++ [(k : Int)] by simp [twTo, hz])
      have hdb : (twTo ws k).length ≤ 1048576 := by omega
      have hpos : 0 < (twTo ws (k + 1)).length := by rw [Hs.out]; simp
      have Hpos := Lib.hid hpos
      clear htop hband hup hsW hz hpos
      have cW := bW1.cell
      have fW := bW1.frozen
      gi_wp2_with (gi_at_builtin; refine wpListIn_append_own _ rfl _ _ 24 rfl top 2 i0 (.int .i64 0) 1 8 Try.underlying24 hi hz0 hz1 hz2 rfl (by decide) _ _ _ rfl (World.ownsRow.alloc ho1 _) ⟨W.heap.size, 0, none⟩ 1 1 [.int .i64 (k : Int)] rfl rfl (Go.cell_one_new _ _ _) (by simp [Value.oneCell']) (by unfold maxLen; omega) (by omega) (by simp; omega) ?_)
      intro v' w4 hown' hgrow _
      have ho2 := ownI_snoc hown'
      rw [← Hs.out] at ho2
      obtain ⟨g', cap', rfl, hg1, hg2⟩ := ho2.shape Hpos.out
      obtain ⟨r1, r2, r3, r4⟩ := appended bW1 (by omega) ho1 ho2 hgrow
      have c1 := r1.cell
      have f1 := r1.frozen
      clear hown' hgrow cW fW
      gi_wp2
      exact ⟨r4.kps Hband.out, ⟨⟨_, r2, r3⟩, r4.below hB1 (fun j hj => by omega) (by omega), .inr (Nat.le_trans hsW2 r4.size)⟩⟩
  case done =>
    rintro D W hD ⟨⟨v, bW1, ho1⟩, hB1, htp⟩ hK
    have cW := bW1.cell
    gi_wp2
    exact retM1 hK ⟨_, results_tmp rfl _ _ _, v, rfl, (ho1.base (by omega)).shut hK, below_shut hB1 (by omega)⟩
  case stop =>
    rintro D c k W hD hk h
    exact h.elim

/-! ### the mean by weights -/
def wS (ts : List Int) (i : Nat) : Nat := suW ts [(i : Int)] ts.length
def wQ (ws : List Int) (i : Nat) : Nat := (nth ws i).toNat
def wA (ts : List Int) (i : Nat) : Nat := lowN (wS ts i) ts.length
def wB (ts : List Int) (i : Nat) : Nat := lowD (wS ts i) ts.length
theorem suB_le {S Q : Nat → Nat} {a b n : Nat} (hS : ∀ i, i < n → S i ≤ a) (hQ : ∀ i, i < n → Q i ≤ b) : ∀ {k : Nat}, k ≤ n → suB S Q k ≤ k * (b * a)
  | 0, _ => by simp [suB]
  | k + 1, hk => by
    have ih := suB_le hS hQ (k := k) (by omega)
    have h1 : Q k * S k ≤ b * a := Nat.mul_le_mul (hQ k (by omega)) (hS k (by omega))
    simp only [suB, Nat.add_mul, Nat.one_mul]; omega
theorem wtTo_le {Q : Nat → Nat} {b n : Nat} (hQ : ∀ i, i < n → Q i ≤ b) : ∀ {k : Nat}, k ≤ n → wtTo Q k ≤ k * b
  | 0, _ => by simp [wtTo]
  | k + 1, hk => by
    have ih := wtTo_le hQ (k := k) (by omega)
    have h1 := hQ k (by omega)
    simp only [wtTo, Nat.add_mul, Nat.one_mul]; omega
theorem wtTo_sum {ws : List Int} {n : Nat} (h : ∀ i, i < n → 0 ≤ nth ws i) : ∀ {k : Nat}, k ≤ n → ((wtTo (wQ ws) k : Nat) : Int) = sumN (nth ws) k
  | 0, _ => rfl
  | k + 1, hk => by
    have ih := wtTo_sum h (k := k) (by omega)
    have := h k (by omega)
    simp only [wtTo, sumN, wQ]
    omega
structure WBd (ts ws : List Int) : Prop where
  n : 1 ≤ ts.length ∧ ts.length ≤ 120
  len : 1 ≤ ws.length ∧ ws.length ≤ 8
  q : ∀ i, i < ws.length → wQ ws i ≤ 100 ∧ (wQ ws i : Int) = nth ws i
  s : ∀ i, wS ts i ≤ 14400
  x : ∀ k, k ≤ ws.length → suB (wS ts) (wQ ws) k ≤ 11520000
  t : ∀ k, k ≤ ws.length → wtTo (wQ ws) k ≤ 800
  tpos : 0 < wtTo (wQ ws) ws.length
  sum : ∀ k, k ≤ ws.length → ((wtTo (wQ ws) k : Nat) : Int) = sumN (nth ws) k
theorem wBd {ts ws : List Int} (hn : 1 ≤ ts.length ∧ ts.length ≤ 120) (h : Wgt ws 0) : WBd ts ws := by
  have hq : ∀ i, i < ws.length → wQ ws i ≤ 100 ∧ (wQ ws i : Int) = nth ws i := fun i hi => by have := h.el i hi; unfold wQ; omega
  have hs : ∀ i, wS ts i ≤ 14400 := fun i => suW_le2 _ (by omega) hn.2 (Nat.le_refl _)
  have hsum : ∀ k, k ≤ ws.length → ((wtTo (wQ ws) k : Nat) : Int) = sumN (nth ws) k := fun k hk => wtTo_sum (fun i hi => (h.el i hi).1) hk
  have hl := h.len
  refine ⟨hn, hl, hq, hs, fun k hk => ?_, fun k hk => ?_, ?_, hsum⟩
  · have h1 := suB_le (S := wS ts) (Q := wQ ws) (a := 14400) (b := 100) (n := ws.length) (fun i _ => hs i) (fun i hi => (hq i hi).1) hk
    omega
  · have h1 := wtTo_le (Q := wQ ws) (b := 100) (n := ws.length) (fun i hi => (hq i hi).1) hk
    omega
  · have h1 := hsum ws.length (Nat.le_refl _)
    have h2 := h.sum
    omega
theorem WBd.frBd {ts ws : List Int} (h : WBd ts ws) : FrBd (wA ts) (wB ts) (wQ ws) ws.length := by
  have hn := h.n
  have hf : ∀ k, fr (wA ts) (wB ts) (wQ ws) k = (lowN (suB (wS ts) (wQ ws) k) ts.length, lowD (suB (wS ts) (wQ ws) k) ts.length) := fun k => fr_low (by omega) k
  have hA : ∀ i, wA ts i ≤ 14400 := fun i => Nat.le_trans (lowN_le _ _) (h.s i)
  have hB : ∀ i, wB ts i ≤ 120 := fun i => Nat.le_trans (lowD_le _ _) hn.2
  have h1 : ∀ k, k ≤ ws.length → lowN (suB (wS ts) (wQ ws) k) ts.length ≤ 11520000 := fun k hk => Nat.le_trans (lowN_le _ _) (h.x k hk)
  have h2 : ∀ k, lowD (suB (wS ts) (wQ ws) k) ts.length ≤ 120 := fun k => Nat.le_trans (lowD_le _ _) hn.2
  have hAQ : ∀ k, k < ws.length → wA ts k * wQ ws k ≤ 14400 * 100 := fun k hk => Nat.mul_le_mul (hA k) (h.q k hk).1
  refine ⟨fun k _ => lowD_pos (by omega), ?_, fun k hk => ?_, fun k hk => ?_, fun k hk => ?_, fun k hk => ?_, h.tpos, ?_⟩
  · rw [hf]; have := h1 ws.length (Nat.le_refl _); simp only; omega
  · have := hAQ k hk; omega
  · rw [hf]
    have a1 : lowN (suB (wS ts) (wQ ws) k) ts.length * wB ts k ≤ 11520000 * 120 := Nat.mul_le_mul (h1 k (by omega)) (hB k)
    have a2 : wA ts k * wQ ws k * lowD (suB (wS ts) (wQ ws) k) ts.length ≤ (14400 * 100) * 120 := Nat.mul_le_mul (hAQ k hk) (h2 k)
    simp only; omega
  · rw [hf]
    have a1 : lowD (suB (wS ts) (wQ ws) k) ts.length * wB ts k ≤ 120 * 120 := Nat.mul_le_mul (h2 k) (hB k)
    simp only; omega
  · have := h.t k hk; omega
  · rw [hf]
    have a1 : lowD (suB (wS ts) (wQ ws) ws.length) ts.length * wtTo (wQ ws) ws.length ≤ 120 * 800 := Nat.mul_le_mul (h2 _) (h.t _ (Nat.le_refl _))
    simp only; omega
theorem WBd.mean {ts ws : List Int} (h : WBd ts ws) : meN (wA ts) (wB ts) (wQ ws) ws.length = lowN (suB (wS ts) (wQ ws) ws.length) (ts.length * wtTo (wQ ws) ws.length) ∧ meD (wA ts) (wB ts) (wQ ws) ws.length = lowD (suB (wS ts) (wQ ws) ws.length) (ts.length * wtTo (wQ ws) ws.length) := by
  have hn := h.n
  have hf : fr (wA ts) (wB ts) (wQ ws) ws.length = (lowN (suB (wS ts) (wQ ws) ws.length) ts.length, lowD (suB (wS ts) (wQ ws) ws.length) ts.length) := fr_low (by omega) _
  have := low_low (a := suB (wS ts) (wQ ws) ws.length) (b := ts.length) (c := wtTo (wQ ws) ws.length) (by omega) h.tpos
  unfold meN meD
  rw [hf]
  exact this

set_option maxRecDepth 100000 in
set_option maxHeartbeats 4000000 in
theorem meanByWeights1_c (k q : Nat) (x : Int) (tv : Value) (ts : List Int) (bI : Nat) (w : World) (hb : Boxed w bI 24 tv) (hT : Ints w.heap.size w tv ts) (h0 : 0 < ts.length) (hl : ts.length ≤ 120) (hx : (q : Int) = x) :
    Calls Try.prog 116 #[.int .i64 (k : Int), .int .i64 x, .pointer (some ⟨bI, 0, none⟩)] w fun e w' => e = .returned (.tuple #[.agg #[.int .i64 (wA ts k : Nat), .int .i64 (wB ts k : Nat)], .int .i64 (q : Nat)]) ∧ Below w.heap.size w w' := by
  subst hx
  obtain ⟨a, cap, rfl⟩ := hT.shape
  have c0 := hb.cell
  have hlt := hb.lt
  go_enter Try.func116, Try.ntmps116
  go_wp2_with fail
  obtain ⟨W0, hW0⟩ : ∃ W0, (w.alloc (.cells #[.int .i64 0, .int .i64 0] 76)).alloc (.cells #[.int .i64 (k : Int)] 2) = W0 := ⟨_, rfl⟩
  have hB0 : Below w.heap.size w W0 := by rw [← hW0]; exact ((Below.refl _ w).alloc (Nat.le_refl _) _).alloc (by simp) _
  have bR : Box2 W0 w.heap.size 76 (.int .i64 0) (.int .i64 0) := by rw [← hW0]; exact (Box2.new _ _ _ _).alloc _
  have bK : Boxed W0 (w.heap.size + 1) 2 (.int .i64 (k : Int)) := by rw [← hW0]; exact boxed_at (by simp)
  rw [hW0]
  clear hW0
  refine (meanWaitFor_c _ _ ts [(k : Int)] _ (hT.later hB0) (ints_one bK.lt bK.cell) h0 hl (by simp)).mono ?_
  rintro e w1 ⟨rfl, hb1⟩
  replace bR := bR.later hb1
  have hB1 := hB0.trans (hb1.mono hB0.size)
  have Hp := Lib.hid (show wA ts k = lowN (suW ts [(k : Int)] ts.length) ts.length from rfl)
  have Hz := Lib.hid (show wB ts k = lowD (suW ts [(k : Int)] ts.length) ts.length from rfl)
  rw [← Hp.out, ← Hz.out]
  obtain ⟨m, hm⟩ : ∃ m, wA ts k = m := ⟨_, rfl⟩
  obtain ⟨n, hn⟩ : ∃ n, wB ts k = n := ⟨_, rfl⟩
  have Hm := Lib.hid hm
  have Hn := Lib.hid hn
  rw [hm, hn]
  clear hm hn hb1 hB0
  have d0 := bR.c0
  have d1 := bR.c1
  have f0 := bR.frozen 0
  have f1 := bR.frozen 1
  go_wp2_with fail
  have b3 := (bR.set0 (.int .i64 (m : Int))).set1 (.int .i64 (n : Int))
  have e0 := b3.c0
  have e1 := b3.c1
  refine bodyPost_ret (v := .tuple #[.agg #[.int .i64 (m : Int), .int .i64 (n : Int)], .int .i64 (q : Int)]) (by simp [results, Try.results116, go_sem, e0, e1]) rfl ⟨by rw [Hm.out, Hn.out], ?_⟩
  exact (hB1.setCell (p := ⟨w.heap.size, 0, none⟩) (by simp) _).setCell (p := ⟨w.heap.size, 1, none⟩) (by simp) _

set_option maxRecDepth 100000 in
set_option maxHeartbeats 4000000 in
theorem meanByWeights_c (sv tv : Value) (ts ws : List Int) (w : World) (hI : Ints w.heap.size w sv ts) (hT : Ints w.heap.size w tv ws) (hn : 1 ≤ ts.length ∧ ts.length ≤ 120) (hW : Wgt ws 0) :
    Calls Try.prog 75 #[sv, tv] w fun e w' => e = .returned (.agg #[.int .i64 (lowN (suB (wS ts) (wQ ws) ws.length) (ts.length * wtTo (wQ ws) ws.length) : Nat), .int .i64 (lowD (suB (wS ts) (wQ ws) ws.length) (ts.length * wtTo (wQ ws) ws.length) : Nat)]) ∧ Below w.heap.size w w' := by
  obtain ⟨a, cap, rfl⟩ := hI.shape
  obtain ⟨a2, cap2, rfl⟩ := hT.shape
  have hB := wBd hn hW
  have HB := Lib.hid hB
  have hwl := hB.len
  clear hB
  go_enter Try.func75, Try.ntmps75
  go_wp2_with fail
  obtain ⟨W0, hW0⟩ : ∃ W0, (w.alloc (.cells #[.slice a ts.length cap] 24)).alloc (.cells #[.int .i64 0, .int .i64 0] 76) = W0 := ⟨_, rfl⟩
  have hB0 : Below w.heap.size w W0 := by rw [← hW0]; exact ((Below.refl _ w).alloc (Nat.le_refl _) _).alloc (by simp) _
  have bT : Boxed W0 w.heap.size 24 (.slice a ts.length cap) := by rw [← hW0]; exact (Boxed.new _ _ _).alloc _
  have bR : Box2 W0 (w.heap.size + 1) 76 (.int .i64 0) (.int .i64 0) := by rw [← hW0]; exact box2_at (by simp)
  rw [hW0]
  clear hW0
  refine (numbered_c _ _ _ _).mono ?_
  rintro e w4 ⟨rfl, rfl⟩
  have hB5 : Below W0.heap.size W0 (W0.alloc (.cells #[.slice a2 ws.length cap2] 24)) := (Below.refl _ W0).alloc (Nat.le_refl _) _
  have bL := Boxed.new W0 24 (.slice a2 ws.length cap2)
  replace bT := boxed_later bT hB5
  replace bR := bR.later hB5
  obtain ⟨W5, hW5⟩ : ∃ W5, W0.alloc (.cells #[.slice a2 ws.length cap2] 24) = W5 := ⟨_, rfl⟩
  rw [hW5] at hB5 bL bT bR ⊢
  have hB6 := hB0.trans (hB5.mono hB0.size)
  have hI6 := hI.below hB6
  have hT6 := hT.below hB6
  have hs6 := hB6.size
  have hll := bL.lt
  have htl := bT.lt
  clear hW5 hB5 hB0
  go_wp2_with fail
  refine (meanWeights_c #[.pointer (some ⟨W0.heap.size, 0, none⟩)] w.heap.size (fun k => .int .i64 (nth ws k)) (fun b => b < w.heap.size) 0 ws.length (wA ts) (wB ts) (wQ ws) W5
    (fun W hW => numbered_at Fence.wide 8 trivial rfl (by omega) W0.heap.size w.heap.size _ ws (by omega) W (boxed_later bL hW) (by have := hW.size; omega) (hT6.below (hW.mono hs6))) (fun b hb => by omega) HB.out.frBd
    (fun k W hk hW => meanByWeights1_c k (wQ ws k) (nth ws k) _ ts w.heap.size W (boxed_later bT hW) ((hI6.below (hW.mono hs6)).mono (by have := hW.size; omega)) (by omega) hn.2 (HB.out.q k hk).2)).mono ?_
  rintro e w6 ⟨rfl, hb6⟩
  rw [HB.out.mean.1, HB.out.mean.2]
  replace bR := bR.later hb6
  have hB7 := hB6.trans (hb6.mono hs6)
  obtain ⟨p, hp⟩ : ∃ p, lowN (suB (wS ts) (wQ ws) ws.length) (ts.length * wtTo (wQ ws) ws.length) = p := ⟨_, rfl⟩
  obtain ⟨q, hq⟩ : ∃ q, lowD (suB (wS ts) (wQ ws) ws.length) (ts.length * wtTo (wQ ws) ws.length) = q := ⟨_, rfl⟩
  have Hp := Lib.hid hp
  have Hq := Lib.hid hq
  rw [hp, hq]
  clear hp hq hb6 hB6
  have d0 := bR.c0
  have d1 := bR.c1
  have f0 := bR.frozen 0
  have f1 := bR.frozen 1
  go_wp2_with fail
  have b3 := (bR.set0 (.int .i64 (p : Int))).set1 (.int .i64 (q : Int))
  have e0 := b3.c0
  have e1 := b3.c1
  refine bodyPost_ret (v := .agg #[.int .i64 (p : Int), .int .i64 (q : Int)]) (by simp [results, Try.results75, go_sem, e0, e1]) rfl ⟨ret_frac (by rw [Hp.out]) (by rw [Hq.out]), ?_⟩
  exact (hB7.setCell (p := ⟨w.heap.size + 1, 0, none⟩) (by simp) _).setCell (p := ⟨w.heap.size + 1, 1, none⟩) (by simp) _

end Go.Proofs.Ytgndbifcncklgaa
