/-
  AreBalanced of the program: countTurns, isBalanced.
  Conditions: lists of at most 1048576 elements.
-/
import Derived.Test.YtnhdfpmjebfjmaaLsh
import Derived.Test.YtnhdfpmjebfjmaaShiftIt
import Derived.Test.YtnhdfpmjebfjmaaRecs
namespace Go.Proofs.Ytnhdfpmjebfjmaa
open Go.RowKit Go.Shelf
attribute [local go_sem] Oper.semAt_some

/-! ### windows -/
/-- the slots from k on, round the end -/
def win (ts : List Int) (k len : Nat) : List Int := (List.range len).map fun j => nth ts ((k + j) % ts.length)
theorem win_length (ts : List Int) (k len : Nat) : (win ts k len).length = len := by simp [win]
theorem nth_win {ts : List Int} {k len j : Nat} (h : j < len) : nth (win ts k len) j = nth ts ((k + j) % ts.length) := by simp [nth, win, h]
theorem nth_dup {ts : List Int} {j : Nat} (h : j < ts.length + ts.length) : nth (ts ++ ts) j = nth ts (j % ts.length) := by
  by_cases e : j < ts.length
  · rw [Nat.mod_eq_of_lt e]; unfold nth; rw [List.getElem?_append_left e]
  · have h1 : j % ts.length = j - ts.length := by rw [Nat.mod_eq_sub_mod (by omega), Nat.mod_eq_of_lt (by omega)]
    rw [h1]; unfold nth; rw [List.getElem?_append_right (by omega)]
/-- how many turns of i there are -/
def wc (ts : List Int) (i : Int) (len k : Nat) : Int := ((slotsL (win ts k len) i).length : Nat)
theorem wc_bd (ts : List Int) (i : Int) (len k : Nat) : 0 ≤ wc ts i len k ∧ wc ts i len k ≤ len := by
  have := slotsL_length (win ts k len) i
  rw [win_length] at this
  unfold wc; omega
def loW (ts : List Int) (i : Int) (len : Nat) (s : Int) : Nat → Int
  | 0 => s
  | k + 1 => min (loW ts i len s k) (wc ts i len k)
def upW (ts : List Int) (i : Int) (len : Nat) : Nat → Int
  | 0 => 0
  | k + 1 => max (upW ts i len k) (wc ts i len k)
theorem loW_bd (ts : List Int) (i : Int) (len : Nat) {s : Int} (h : 0 ≤ s) (k : Nat) : 0 ≤ loW ts i len s k ∧ loW ts i len s k ≤ s := by
  induction k with
  | zero => exact ⟨h, Int.le_refl _⟩
  | succ k ih => have := wc_bd ts i len k; simp only [loW]; omega
theorem upW_bd (ts : List Int) (i : Int) (len k : Nat) : 0 ≤ upW ts i len k ∧ upW ts i len k ≤ len := by
  induction k with
  | zero => simp [upW]
  | succ k ih => have := wc_bd ts i len k; simp only [upW]; omega
/-- the start does not matter -/
theorem loW_start (ts : List Int) (i : Int) (len : Nat) {s t : Int} (hs : (len : Int) ≤ s) (ht : (len : Int) ≤ t) {k : Nat} (hk : 1 ≤ k) : loW ts i len s k = loW ts i len t k := by
  induction k with
  | zero => omega
  | succ k ih =>
    have h1 := wc_bd ts i len k
    by_cases e : k = 0
    · subst e; simp only [loW]; omega
    · simp only [loW]; rw [ih (by omega)]
def okW (ts : List Int) (i : Int) (len : Nat) : Bool := decide (upW ts i len ts.length - loW ts i len len ts.length ≤ 1)
def balI (ts : List Int) (i : Int) : Bool := (List.range ts.length).all fun len => okW ts i len
theorem balI_no {ts : List Int} {i : Int} {len : Nat} (h : len < ts.length) (ho : okW ts i len = false) : balI ts i = false := by
  unfold balI; rw [List.all_eq_false]; exact ⟨len, List.mem_range.2 h, by simp [ho]⟩
theorem balI_yes {ts : List Int} {i : Int} (h : ∀ len, len < ts.length → okW ts i len = true) : balI ts i = true := by
  unfold balI; rw [List.all_eq_true]; exact fun len hl => h len (List.mem_range.1 hl)
def balB (ts : List Int) : Bool := (List.range (lvK ts)).all fun (i : Nat) => balI ts (i : Int)
def baR (ts : List Int) : Bool := if levC ts = 0 then balB ts else false
theorem balB_no {ts : List Int} {i : Nat} (h : i < lvK ts) (ho : balI ts i = false) : balB ts = false := by
  unfold balB; rw [List.all_eq_false]; exact ⟨i, List.mem_range.2 h, by simp [ho]⟩
theorem balB_yes {ts : List Int} (h : ∀ i : Nat, i < lvK ts → balI ts i = true) : balB ts = true := by
  unfold balB; rw [List.all_eq_true]; exact fun i hi => h i (List.mem_range.1 hi)
theorem ret_bi {a a' : Bool} {b b' : Int} (h : a = a') (k : b = b') : Ending.returned (.tuple #[.bool a, .int .i64 b]) = .returned (.tuple #[.bool a', .int .i64 b']) := by rw [h, k]

set_option maxRecDepth 100000 in
set_option maxHeartbeats 4000000 in
theorem countTurns_c (sv : Value) (zs : List Int) (i : Int) (w : World) (hI : Ints w.heap.size w sv zs) (hl : zs.length ≤ 1048576) :
    Calls Try.prog 106 #[sv, .int .i64 i] w fun e w' => e = .returned (.int .i64 ((slotsL zs i).length : Nat)) ∧ Below w.heap.size w w' := by
  obtain ⟨a, cap, rfl⟩ := hI.shape
  have hsl := slotsL_length zs i
  refine (callsIn_wide (n := 9)).1 ?_
  refine callsIn_of_wp_marks Try.func106 rfl trivial ?_ rfl
  simp only [Try.ntmps106, List.size_toArray, List.length_cons, List.length_nil, Nat.reduceAdd, Nat.reduceSub, Array.replicate_succ, Array.replicate_zero, List.push_toArray, List.append_toArray, List.nil_append, List.cons_append]
  gi_wp2_with (first | (gi_at_call 107; refine (callsIn_wide.2 (slotsOf_c _ _ _ _ _)).mono ?_; rintro e w' ⟨rfl, rfl⟩) | (refine ⟨trivial, ?_⟩; gi_at_call 107; refine (callsIn_wide.2 (slotsOf_c _ _ _ _ _)).mono ?_; rintro e w' ⟨rfl, rfl⟩))
  obtain ⟨W0, hW0⟩ : ∃ W0, (((w.alloc (.cells #[.int .i64 0] 2)).alloc (.cells #[.slice a zs.length cap] 22)).alloc (.cells #[.int .i64 i] 2)) = W0 := ⟨_, rfl⟩
  have hB0 : Below w.heap.size w W0 := by rw [← hW0]; exact ((((Below.refl _ w).alloc (Nat.le_refl _) _).alloc (by simp; try omega) _).alloc (by simp; try omega) _)
  have hs0 : w.heap.size + 3 ≤ W0.heap.size := by rw [← hW0]; simp
  have bC : Boxed W0 (w.heap.size) 2 (.int .i64 0) := by rw [← hW0]; repeat first | (refine boxed_at ?_; (simp; done)) | refine Boxed.alloc ?_ _
  have bT : Boxed W0 (w.heap.size + 1) 22 (.slice a zs.length cap) := by rw [← hW0]; repeat first | (refine boxed_at ?_; (simp; done)) | refine Boxed.alloc ?_ _
  have bI : Boxed W0 (w.heap.size + 1 + 1) 2 (.int .i64 i) := by rw [← hW0]; repeat first | (refine boxed_at ?_; (simp; done)) | refine Boxed.alloc ?_ _
  rw [hW0]
  clear hW0
  refine range_outA (Keep := fun b => b < w.heap.size ∨ b = w.heap.size + 1 + 1) (c := 4) rfl (by omega) rfl trivial (enters_of Try.func125 (by kernel_rfl) rfl) (slotsOf_at 8 _ _ w.heap.size _ zs i (by omega) W0 bT bI (by omega) (hI.below hB0)) (fun b hb => by omega) (fun _ => rfl)
    (fun c W => Boxed W w.heap.size 2 (.int .i64 (c : Int)) ∧ Below w.heap.size w W)
    (fun _ _ _ => False)
    (OwnFrom.and (Own.from (boxed_own _ _ _) _) (ownFrom_below (Nat.le_refl _) (by omega)))
    (fun _ _ _ _ _ hs _ _ => hs)
    ⟨bC, hB0⟩ ?a1 ?assign ?body ?done ?stop
  case assign =>
    intro l c W K hk hK
    simp only [slotAt]
    gi_wp2
    exact hK
  case body =>
    rintro l c W hl' hr ⟨bC1, hB⟩ hc hs
    have hnb : ¬ Band (fun b => b < w.heap.size ∨ b = w.heap.size + 1 + 1) W0.heap.size (W0.heap.size + 2 + 4) w.heap.size := fun hb => by
      rcases hb with hb | hb <;> omega
    have cC := bC1.cell
    have fC := bC1.frozen
    have hcb : (c : Int) ≤ 1048576 := by omega
    have hc1 : (c : Int) + 1 = ((c + 1 : Nat) : Int) := by simp
    have Hc1 := Lib.hid hc1
    clear hc1
    gi_wp2
    exact ⟨Kps.setCell _ _ _ _ hnb, by rw [← Hc1.out]; exact bC1.set _, hB.setCell (p := ⟨w.heap.size, 0, none⟩) (Nat.le_refl _) _⟩
  case done =>
    rintro D W hD ⟨bC1, hB⟩ hK
    have cC := bC1.cell
    gi_wp2
    exact retM1 hK ⟨_, results_tmp rfl _ _ _, rfl, below_shut hB (by omega)⟩
  case stop =>
    rintro D c k W hD hk h
    exact h.elim

/-! ### isBalanced -/
structure EnvB (w W : World) (i : Int) (rs : List Nat) : Prop where
  bi : Boxed W w.heap.size 2 (.int .i64 i)
  below : Below w.heap.size w W
  op : Opens W rs
  lw : ∀ D ∈ rs, w.heap.size ≤ D
theorem EnvB.later {w W W' : World} {i : Int} {rs : List Nat} (E : EnvB w W i rs) (hb : Below W.heap.size W W') : EnvB w W' i rs := ⟨boxed_later E.bi hb, E.below.trans (hb.mono E.below.size), E.op.below hb, E.lw⟩
theorem EnvB.recd {w W : World} {i : Int} {rs : List Nat} (E : EnvB w W i rs) {D B : Nat} (hD : W.heap[D]? = some (.deferred (some []))) (hn : ∀ E ∈ rs, E < B) (hB : B ≤ D) (hw : w.heap.size ≤ D) : EnvB w W i (D :: rs) :=
  { E with op := E.op.cons hD hn hB, lw := fun F hF => by rcases List.mem_cons.1 hF with rfl | hF; exact hw; exact E.lw F hF }
def InvB (ts : List Int) (i : Int) (a : Option Addr) (cap : Nat) (w : World) (L : Nat) (a' : Act) (W : World) : Prop :=
  ∃ (k : Nat) (rs : List Nat) (u5 u6 u7 u8 u9 u10 u14 u15 u16 u17 u18 u19 u20 u21 u22 u23 u24 u25 u26 u27 u28 u29 u30 u31 u32 u33 u34 u35 u36 : Value), (k ≤ L ∧ rs.length = k ∧ (∀ len, len < k → okW ts i len = true) ∧ EnvB w W i rs) ∧ a' = { tmps := #[.slice a L cap, .int .i64 i, undef, .pointer (some ⟨w.heap.size, 0, none⟩), .bool false, u5, u6, u7, u8, u9, u10, .slice a L cap, .int .i64 L, .int .i64 k, u14, u15, u16, u17, u18, u19, u20, u21, u22, u23, u24, u25, u26, u27, u28, u29, u30, u31, u32, u33, u34, u35, u36], defers := rs.map recD }
theorem InvB.elim {ts : List Int} {i : Int} {a : Option Addr} {cap : Nat} {w : World} {L : Nat} {a' : Act} {W : World} {p : Act → Prop} (hI : InvB ts i a cap w L a' W)
    (hp : ∀ (k : Nat) (rs : List Nat) (u5 u6 u7 u8 u9 u10 u14 u15 u16 u17 u18 u19 u20 u21 u22 u23 u24 u25 u26 u27 u28 u29 u30 u31 u32 u33 u34 u35 u36 : Value), (k ≤ L ∧ rs.length = k ∧ (∀ len, len < k → okW ts i len = true) ∧ EnvB w W i rs) → p { tmps := #[.slice a L cap, .int .i64 i, undef, .pointer (some ⟨w.heap.size, 0, none⟩), .bool false, u5, u6, u7, u8, u9, u10, .slice a L cap, .int .i64 L, .int .i64 k, u14, u15, u16, u17, u18, u19, u20, u21, u22, u23, u24, u25, u26, u27, u28, u29, u30, u31, u32, u33, u34, u35, u36], defers := rs.map recD }) : p a' :=
  Exists.elim hI fun k hI => Exists.elim hI fun rs hI => Exists.elim hI fun u5 hI => Exists.elim hI fun u6 hI => Exists.elim hI fun u7 hI => Exists.elim hI fun u8 hI => Exists.elim hI fun u9 hI => Exists.elim hI fun u10 hI => Exists.elim hI fun u14 hI => Exists.elim hI fun u15 hI => Exists.elim hI fun u16 hI => Exists.elim hI fun u17 hI => Exists.elim hI fun u18 hI => Exists.elim hI fun u19 hI => Exists.elim hI fun u20 hI => Exists.elim hI fun u21 hI => Exists.elim hI fun u22 hI => Exists.elim hI fun u23 hI => Exists.elim hI fun u24 hI => Exists.elim hI fun u25 hI => Exists.elim hI fun u26 hI => Exists.elim hI fun u27 hI => Exists.elim hI fun u28 hI => Exists.elim hI fun u29 hI => Exists.elim hI fun u30 hI => Exists.elim hI fun u31 hI => Exists.elim hI fun u32 hI => Exists.elim hI fun u33 hI => Exists.elim hI fun u34 hI => Exists.elim hI fun u35 hI => Exists.elim hI fun u36 hI => by
    obtain ⟨hf, rfl⟩ := hI
    exact hp _ _ _ _ _ _ _ _ _ _ _ _ _ _ _ _ _ _ _ _ _ _ _ _ _ _ _ _ _ _ _ hf

set_option maxRecDepth 100000 in
set_option maxHeartbeats 16000000 in
theorem isBalanced_c (sv : Value) (ts : List Int) (i : Int) (w : World) (hI : Ints w.heap.size w sv ts) (h0 : 0 < ts.length) (hl : ts.length ≤ 60) :
    Calls Try.prog 77 #[sv, .int .i64 i] w fun e w' => e = .returned (.bool (balI ts i)) ∧ Below w.heap.size w w' := by
  obtain ⟨a, cap, rfl⟩ := hI.shape
  have hfw : Try.prog.follows Departure.mixedOrders = true := by kernel_rfl
  obtain ⟨L, hL⟩ : ∃ L, ts.length = L := ⟨_, rfl⟩
  rw [hL] at hI h0 hl ⊢
  have HL := Lib.hid hL
  have HI := Lib.hid hI
  clear hL hI
  obtain ⟨Wr, hWr⟩ : ∃ Wr, w.alloc (.cells #[.int .i64 i] 2) = Wr := ⟨_, rfl⟩
  have hBr : Below w.heap.size w Wr := by rw [← hWr]; exact (Below.refl _ w).alloc (Nat.le_refl _) _
  have E0 : EnvB w Wr i [] := ⟨by rw [← hWr]; exact Boxed.new _ _ _, hBr, Opens.nil _, by simp⟩
  refine (callsIn_wide (n := 9)).1 ?_
  refine callsIn_of_wp_marks Try.func77 rfl trivial ?_ rfl
  simp only [Try.ntmps77, List.size_toArray, List.length_cons, List.length_nil, Nat.reduceAdd, Nat.reduceSub, Array.replicate_succ, Array.replicate_zero, List.push_toArray, List.append_toArray, List.nil_append, List.cons_append]
  gi_wp2_with fail
  try rw [hWr]
  clear hWr hBr
  refine wpIn_loop (InvB ts i a cap w L) (fun a' _ => L - a'.defers.length) ?start ?round
  case start => exact ⟨0, [], _, _, _, _, _, _, _, _, _, _, _, _, _, _, _, _, _, _, _, _, _, _, _, _, _, _, _, _, _, ⟨Nat.zero_le _, rfl, fun len h => by omega, E0⟩, rfl⟩
  case round =>
    intro a' W hA
    apply InvB.elim hA
    clear hA a'
    intro k rs u5 u6 u7 u8 u9 u10 u14 u15 u16 u17 u18 u19 u20 u21 u22 u23 u24 u25 u26 u27 u28 u29 u30 u31 u32 u33 u34 u35 u36 ⟨hk, hrl, hall, E⟩
    dsimp only
    clear E0
    have Hrl := Lib.hid hrl
    have Hall := Lib.hid hall
    have hsE := E.below.size
    clear hrl hall
    by_cases hlt : k < L
    · have hki : (k : Int) < (L : Int) := by omega
      have hkl : (k : Int) ≤ (L : Int) := by omega
      obtain ⟨W3, hW3⟩ : ∃ W3, ((W.alloc (.cells #[.int .i64 k] 3)).alloc (.cells #[.int .i64 k] 2)).alloc (.cells #[.int .i64 0] 2) = W3 := ⟨_, rfl⟩
      have hB3 : Below W.heap.size W W3 := by rw [← hW3]; exact (((Below.refl _ W).alloc (Nat.le_refl _) _).alloc (by simp) _).alloc (by simp; omega) _
      have hs3 : W.heap.size + 3 ≤ W3.heap.size := by rw [← hW3]; simp
      have bW3 : Boxed W3 W.heap.size 3 (.int .i64 k) := by rw [← hW3]; exact ((Boxed.new _ _ _).alloc _).alloc _
      have bF3 : Boxed W3 (W.heap.size + 1) 2 (.int .i64 k) := by rw [← hW3]; refine Boxed.alloc ?_ _; exact boxed_at (by simp)
      have bM3 : Boxed W3 (W.heap.size + 1 + 1) 2 (.int .i64 0) := by rw [← hW3]; exact boxed_at (by simp)
      have fM := bM3.frozen
      have cM := bM3.cell
      obtain ⟨W4, hW4⟩ : ∃ W4, W3.setCell ⟨W.heap.size + 1 + 1, 0, none⟩ (.int .i64 0) = W4 := ⟨_, rfl⟩
      have hB4 : Below W.heap.size W W4 := by rw [← hW4]; exact hB3.setCell (p := ⟨W.heap.size + 1 + 1, 0, none⟩) (by simp; omega) _
      have hs4 : W.heap.size + 3 ≤ W4.heap.size := by rw [← hW4]; simpa [World.setCell] using hs3
      have bW4 : Boxed W4 W.heap.size 3 (.int .i64 k) := by rw [← hW4]; exact bW3.other (by omega) _
      have bF4 : Boxed W4 (W.heap.size + 1) 2 (.int .i64 k) := by rw [← hW4]; exact bF3.other (by omega) _
      have bM4 : Boxed W4 (W.heap.size + 1 + 1) 2 (.int .i64 0) := by rw [← hW4]; exact bM3.set _
      have E4 := E.later hB4
      have hltE : ∀ D ∈ rs, D < W.heap.size := fun D hD => E.op.lt hD
      have HLT := Lib.hid hltE
      have hsW := E.below.size
      clear hltE hB3 bW3 bF3 bM3
      gi_wp2_with fail
      clear hW3 hW4 fM cM
      refine ⟨trivial, (callsIn_wide.2 (shiftsOf_c _ ts W4 (HI.out.later E4.below) (by rw [HL.out]; exact h0) (by rw [HL.out]; omega))).mono ?_⟩
      rintro e W5 ⟨bT, bR, g, cg, rfl, bT5, bR5, ho5, hbT, hbR, hRg, hTg, hcg, hb5⟩
      rw [HL.out] at bR5 ho5 hcg
      have hB5 := hB4.trans (hb5.mono (by omega))
      have bW5 := boxed_later bW4 hb5
      have bF5 := boxed_later bF4 hb5
      have bM5 := boxed_later bM4 hb5
      have hs5 : W4.heap.size ≤ W5.heap.size := hb5.size
      have hgb := (ho5.blk g rfl)
      have hRl := bR5.lt
      clear hb5 bW4 bF4 bM4 E4 hB4
      gi_wp2_with fail
      refine range_outA (Keep := fun b => b < w.heap.size ∨ b = bR) (c := 4) rfl (by omega) rfl trivial (enters_of Try.func123 (by kernel_rfl) rfl) (shiftsOf_at 8 bT bR w.heap.size g cg _ ts (by rw [HL.out]; exact h0) (by rw [HL.out]; omega) (by rw [HL.out]; exact hcg) W5 bT5 (by rw [HL.out]; exact bR5) (by have := hB5.size; omega) (HI.out.below (E.below.trans (hB5.mono hsE)))) (fun b hb => by have := hB5.size; omega) (fun _ => rfl)
        (fun n V => Boxed V (W.heap.size + 1) 2 (.int .i64 (loW ts i k k n)) ∧ Boxed V (W.heap.size + 1 + 1) 2 (.int .i64 (upW ts i k n)) ∧ Boxed V W.heap.size 3 (.int .i64 k) ∧ OwnI W4.heap.size V (.slice (some ⟨g, 0, none⟩) (L + L) cg) (ts ++ ts) ∧ Below W.heap.size W V)
        (fun _ _ _ => False)
        (OwnFrom.and (Own.from (boxed_own _ _ _) _) (OwnFrom.and (Own.from (boxed_own _ _ _) _) (OwnFrom.and (Own.from (boxed_own _ _ _) _) (OwnFrom.and (Own.from (ownI_Own _ _ _) _) (ownFrom_below (Nat.le_refl _) (by have := hB5.size; omega))))))
        (fun _ _ _ _ _ hs _ _ => hs)
        ⟨bF5, bM5, bW5, ho5, hB5⟩ ?a1 ?assign ?body ?done ?stop
      case assign =>
        intro l n V K' hi hK
        simp only [shiftAt]
        gi_wp2
        exact hK
      case body =>
        rintro l n V hl' hr ⟨bF1, bM1, bW1, ho1, hB1⟩ hn hsV
        have hnL : n < L := by rw [HL.out] at hn; exact hn
        have EV := E.later hB1
        have hlob := loW_bd ts i k (s := k) (by omega) n
        have hupb := upW_bd ts i k n
        have hwb := wc_bd ts i k n
        have hkt : k ≤ ts.length := by rw [HL.out]; omega
        have hIsh : Ints V.heap.size V (.slice (some ⟨g, n, none⟩) k ts.length) (win ts n k) := by
          refine ⟨some ⟨g, n, none⟩, ts.length, by rw [win_length], .inr ⟨g, n, rfl, (ho1.blk g rfl).2, fun j hj => ?_⟩⟩
          rw [win_length] at hj
          rw [ho1.cellAt (j := n + j) (by rw [List.length_append, HL.out]; omega), nth_win hj, nth_dup (by rw [HL.out]; omega)]
        obtain ⟨lo, hlo⟩ : ∃ x, loW ts i k k n = x := ⟨_, rfl⟩
        obtain ⟨up, hup⟩ : ∃ x, upW ts i k n = x := ⟨_, rfl⟩
        obtain ⟨c, hc⟩ : ∃ x, wc ts i k n = x := ⟨_, rfl⟩
        have hlo1 : loW ts i k k (n + 1) = min lo c := by rw [← hlo, ← hc]; rfl
        have hup1 : upW ts i k (n + 1) = max up c := by rw [← hup, ← hc]; rfl
        rw [hlo] at bF1 hlob
        rw [hup] at bM1 hupb
        rw [hc] at hwb
        have Hc := Lib.hid (show (((slotsL (win ts n k) i).length : Nat) : Int) = c from hc)
        have Hl1 := Lib.hid hlo1
        have Hu1 := Lib.hid hup1
        clear hlo hup hc hlo1 hup1 bF5 bM5 bW5 ho5 hB5 bT5 bR5 hr
        have EV2 := EV
        clear EV
        gi_wp2_with fail
        refine wpIn_region_held (S := fun w' => Below V.heap.size V w') hfw (by kernel_rfl) (fun ⟨_, _, h⟩ => h) (Below.refl _ _).drew ?_
        intro hS0
        refine wpAnyH_take (i := 0) (v := ?vr10) rfl (by kernel_rfl) (by kernel_rfl) (by kernel_rfl) (fun _ _ _ h => h) (.inl ⟨by rfl, ?yr10⟩) hS0 ?_
        case yr10 =>
          intro w' hS
          (have q0 := (boxed_later bW1 hS).cell; have q1 := (EV2.later hS).bi.cell; clear hS)
          go_simp
          try with_reducible rfl
        refine wpAnyH_take (i := 1) (v := ?vr11) rfl (by kernel_rfl) (by kernel_rfl) (by kernel_rfl) (fun _ _ _ h => h) (.inl ⟨by rfl, ?yr11⟩) hS0 ?_
        case yr11 =>
          intro w' hS
          (have q0 := (boxed_later bW1 hS).cell; have q1 := (EV2.later hS).bi.cell; clear hS)
          go_simp
          try with_reducible rfl
        refine wpAnyH_take (i := 2) (v := ?vr12) rfl (by kernel_rfl) (by kernel_rfl) (by kernel_rfl) (fun _ _ _ h => h) (.inl ⟨by rfl, ?yr12⟩) hS0 ?_
        case yr12 =>
          intro w' hS
          (have q0 := (boxed_later bW1 hS).cell; have q1 := (EV2.later hS).bi.cell; clear hS)
          go_simp
          try with_reducible rfl
        refine wpAnyH_take (i := 3) (v := ?vr13) rfl (by kernel_rfl) (by kernel_rfl) (by kernel_rfl) (fun _ _ _ h => h) (.inl ⟨by rfl, ?yr13⟩) hS0 ?_
        case yr13 =>
          intro w' hS
          (have q0 := (boxed_later bW1 hS).cell; have q1 := (EV2.later hS).bi.cell; clear hS)
          go_simp
          try with_reducible rfl
        refine wpAnyH_ready (rs := [4]) (by kernel_rfl) (by simp) ?_
        refine AllReadyH.cons rfl (fun K' hK' => ?_) AllReadyH.nil
        rw [if_pos (by rfl)]
        go_simp
        refine (countTurns_c _ (win ts n k) i _ (hIsh.later hS0) (by rw [win_length]; omega)).mono ?_
        rintro e w9 ⟨he, hb9⟩
        rw [Hc.out] at he
        subst he
        refine hK'.out _ _ (hS0.trans (hb9.mono hS0.size)) fun hS1 => ?_
        refine wpAnyH_take (i := 5) (v := ?vr25) rfl (by kernel_rfl) (by kernel_rfl) (by kernel_rfl) (fun _ _ _ h => h) (.inl ⟨by rfl, ?yr25⟩) hS1 ?_
        case yr25 =>
          intro w' hS
          (clear hS)
          go_simp
          try with_reducible rfl
        refine wpAnyH_done (by kernel_rfl) ?_ _
        have bF9 := boxed_later bF1 hS1
        have bM9 := boxed_later bM1 hS1
        have bW9 := boxed_later bW1 hS1
        have ho9 := ho1.below hS1
        have hB9 := hB1.trans (hS1.mono hB1.size)
        have hk9 : Kps (Band (fun b => b < w.heap.size ∨ b = bR) W5.heap.size (W5.heap.size + 2 + 4)) V w9 := Kps.below hS1
        clear hS0 hS1 hb9 hK' bF1 bM1 bW1 ho1 hB1 EV2 hIsh
        obtain ⟨mn, hmn⟩ : ∃ x : Int, (if c < lo then c else lo) = x := ⟨_, rfl⟩
        obtain ⟨mx, hmx⟩ : ∃ x : Int, (if up < c then c else up) = x := ⟨_, rfl⟩
        have Hlo1 := Lib.hid (show loW ts i k k (n + 1) = mn by rw [Hl1.out, ← hmn]; split <;> omega)
        have Hup1 := Lib.hid (show upW ts i k (n + 1) = mx by rw [Hu1.out, ← hmx]; split <;> omega)
        gi_wp2_with fail
        refine wpIn_region_held (S := fun w' => Below W.heap.size W w' ∧ Boxed w' W.heap.size 3 (.int .i64 k) ∧ OwnI W4.heap.size w' (.slice (some ⟨g, 0, none⟩) (L + L) cg) (ts ++ ts) ∧ Kps (Band (fun b => b < w.heap.size ∨ b = bR) W5.heap.size (W5.heap.size + 2 + 4)) V w') hfw (by kernel_rfl) (fun ⟨_, _, h⟩ => h) ⟨hB9.drew, boxed_later bW9 (Below.refl _ _).drew, ho9.below (Below.refl _ _).drew, hk9.trans (Kps.below (Below.refl _ _).drew)⟩ ?_
        intro hS0
        refine wpAnyH_take (i := 1) (v := ?va11) rfl (by kernel_rfl) (by kernel_rfl) (by kernel_rfl) (fun _ _ _ h => h) (.inl ⟨by rfl, ?ya11⟩) hS0 ?_
        case ya11 =>
          intro w' hS
          (clear hS)
          go_simp
          try with_reducible rfl
        refine wpAnyH_take (i := 4) (v := ?va14) rfl (by kernel_rfl) (by kernel_rfl) (by kernel_rfl) (fun _ _ _ h => h) (.inl ⟨by rfl, ?ya14⟩) hS0 ?_
        case ya14 =>
          intro w' hS
          (clear hS)
          go_simp
          try with_reducible rfl
        obtain ⟨wd, hwd⟩ : ∃ wd, w9.drew = wd := ⟨_, rfl⟩
        have bFd : Boxed wd (W.heap.size + 1) 2 (.int .i64 lo) := by rw [← hwd]; exact boxed_later bF9 (Below.refl _ _).drew
        have bMd : Boxed wd (W.heap.size + 1 + 1) 2 (.int .i64 up) := by rw [← hwd]; exact boxed_later bM9 (Below.refl _ _).drew
        rw [hwd] at hS0 ⊢
        have cF := bFd.cell
        have fF := bFd.frozen
        have cM := bMd.cell
        have bM2 : Boxed (wd.setCell ⟨W.heap.size + 1, 0, none⟩ (.int .i64 mn)) (W.heap.size + 1 + 1) 2 (.int .i64 up) := bMd.other (by omega) _
        have cM2 := bM2.cell
        have fM2 := bM2.frozen
        have hS2 : Below W.heap.size W (wd.setCell ⟨W.heap.size + 1, 0, none⟩ (.int .i64 mn)) ∧ Boxed (wd.setCell ⟨W.heap.size + 1, 0, none⟩ (.int .i64 mn)) W.heap.size 3 (.int .i64 k) ∧ OwnI W4.heap.size (wd.setCell ⟨W.heap.size + 1, 0, none⟩ (.int .i64 mn)) (.slice (some ⟨g, 0, none⟩) (L + L) cg) (ts ++ ts) ∧ Kps (Band (fun b => b < w.heap.size ∨ b = bR) W5.heap.size (W5.heap.size + 2 + 4)) V (wd.setCell ⟨W.heap.size + 1, 0, none⟩ (.int .i64 mn)) :=
          ⟨hS0.1.setCell (p := ⟨W.heap.size + 1, 0, none⟩) (by simp) _, hS0.2.1.other (by omega) _, hS0.2.2.1.kept (grownBy_setCell' _ _ _) (.inr fun e => by have := (hS0.2.2.1.blk _ e).1; omega), hS0.2.2.2.trans (Kps.setCell _ _ _ _ (fun hb => by rcases hb with hb | hb <;> omega))⟩
        have hS3 : Below W.heap.size W ((wd.setCell ⟨W.heap.size + 1, 0, none⟩ (.int .i64 mn)).setCell ⟨W.heap.size + 1 + 1, 0, none⟩ (.int .i64 mx)) ∧ Boxed ((wd.setCell ⟨W.heap.size + 1, 0, none⟩ (.int .i64 mn)).setCell ⟨W.heap.size + 1 + 1, 0, none⟩ (.int .i64 mx)) W.heap.size 3 (.int .i64 k) ∧ OwnI W4.heap.size ((wd.setCell ⟨W.heap.size + 1, 0, none⟩ (.int .i64 mn)).setCell ⟨W.heap.size + 1 + 1, 0, none⟩ (.int .i64 mx)) (.slice (some ⟨g, 0, none⟩) (L + L) cg) (ts ++ ts) ∧ Kps (Band (fun b => b < w.heap.size ∨ b = bR) W5.heap.size (W5.heap.size + 2 + 4)) V ((wd.setCell ⟨W.heap.size + 1, 0, none⟩ (.int .i64 mn)).setCell ⟨W.heap.size + 1 + 1, 0, none⟩ (.int .i64 mx)) :=
          ⟨hS2.1.setCell (p := ⟨W.heap.size + 1 + 1, 0, none⟩) (by simp; omega) _, hS2.2.1.other (by omega) _, hS2.2.2.1.kept (grownBy_setCell' _ _ _) (.inr fun e => by have := (hS2.2.2.1.blk _ e).1; omega), hS2.2.2.2.trans (Kps.setCell _ _ _ _ (fun hb => by rcases hb with hb | hb <;> omega))⟩
        have bF3 : Boxed ((wd.setCell ⟨W.heap.size + 1, 0, none⟩ (.int .i64 mn)).setCell ⟨W.heap.size + 1 + 1, 0, none⟩ (.int .i64 mx)) (W.heap.size + 1) 2 (.int .i64 mn) := (bFd.set _).other (by omega) _
        have bM3 : Boxed ((wd.setCell ⟨W.heap.size + 1, 0, none⟩ (.int .i64 mn)).setCell ⟨W.heap.size + 1 + 1, 0, none⟩ (.int .i64 mx)) (W.heap.size + 1 + 1) 2 (.int .i64 mx) := bM2.set _
        clear hwd bF9 bM9 hB9 bW9 ho9 hk9
        refine wpAnyH_ready (rs := [0, 3]) (by kernel_rfl) (by simp) ?_
        refine AllReadyH.cons rfl (fun K' hK' => ?_) (AllReadyH.cons rfl (fun K' hK' => ?_) AllReadyH.nil)
        · rw [if_pos (by rfl)]
          go_simp
          refine hK'.out _ _ hS0 fun hS1 => ?_
          clear hK'
          refine wpAnyH_take (i := 2) (v := ?vb12) rfl (by kernel_rfl) (by kernel_rfl) (by kernel_rfl) (fun _ _ _ h => h) (.inl ⟨by rfl, ?yb12⟩) hS1 ?_
          case yb12 =>
            intro w' hS
            (clear hS)
            go_simp
            try with_reducible rfl
          refine wpAnyH_ready (rs := [3, 6]) (by kernel_rfl) (by simp) ?_
          refine AllReadyH.cons rfl (fun K' hK' => ?_) (AllReadyH.cons rfl (fun K' hK' => ?_) AllReadyH.nil)
          · rw [if_pos (by rfl)]
            go_simp
            refine hK'.out _ _ hS1 fun hS4 => ?_
            clear hK'
            refine wpAnyH_take (i := 5) (v := ?vb25) rfl (by kernel_rfl) (by kernel_rfl) (by kernel_rfl) (fun _ _ _ h => h) (.inl ⟨by rfl, ?yb25⟩) hS4 ?_
            case yb25 =>
              intro w' hS
              (clear hS)
              go_simp
              try with_reducible rfl
            refine wpAnyH_ready (rs := [6]) (by kernel_rfl) (by simp) ?_
            refine AllReadyH.cons rfl (fun K' hK' => ?_) AllReadyH.nil
            rw [if_pos (by rfl)]
            go_simp
            refine hK'.out _ _ hS2 fun hS5 => ?_
            clear hK'
            refine wpAnyH_ready (rs := [7]) (by kernel_rfl) (by simp) ?_
            refine AllReadyH.cons rfl (fun K' hK' => ?_) AllReadyH.nil
            rw [if_pos (by rfl)]
            go_simp
            refine hK'.out _ _ hS3 fun hS6 => ?_
            refine wpAnyH_done (by kernel_rfl) ?_ _
            exact ⟨hS3.2.2.2, by rw [Hlo1.out]; exact bF3, by rw [Hup1.out]; exact bM3, hS3.2.1, hS3.2.2.1, hS3.1⟩
          · rw [if_pos (by rfl)]
            go_simp
            refine hK'.out _ _ hS2 fun hS5 => ?_
            clear hK'
            refine wpAnyH_ready (rs := [3]) (by kernel_rfl) (by simp) ?_
            refine AllReadyH.cons rfl (fun K' hK' => ?_) AllReadyH.nil
            rw [if_pos (by rfl)]
            go_simp
            refine hK'.out _ _ hS5 fun hS4 => ?_
            clear hK'
            refine wpAnyH_take (i := 5) (v := ?vb35) rfl (by kernel_rfl) (by kernel_rfl) (by kernel_rfl) (fun _ _ _ h => h) (.inl ⟨by rfl, ?yb35⟩) hS4 ?_
            case yb35 =>
              intro w' hS
              (clear hS)
              go_simp
              try with_reducible rfl
            refine wpAnyH_ready (rs := [7]) (by kernel_rfl) (by simp) ?_
            refine AllReadyH.cons rfl (fun K' hK' => ?_) AllReadyH.nil
            rw [if_pos (by rfl)]
            go_simp
            refine hK'.out _ _ hS3 fun hS6 => ?_
            refine wpAnyH_done (by kernel_rfl) ?_ _
            exact ⟨hS3.2.2.2, by rw [Hlo1.out]; exact bF3, by rw [Hup1.out]; exact bM3, hS3.2.1, hS3.2.2.1, hS3.1⟩
        · rw [if_pos (by rfl)]
          go_simp
          refine hK'.out _ _ hS0 fun hS1 => ?_
          clear hK'
          refine wpAnyH_take (i := 5) (v := ?vc15) rfl (by kernel_rfl) (by kernel_rfl) (by kernel_rfl) (fun _ _ _ h => h) (.inl ⟨by rfl, ?yc15⟩) hS1 ?_
          case yc15 =>
            intro w' hS
            (clear hS)
            go_simp
            try with_reducible rfl
          refine wpAnyH_ready (rs := [0]) (by kernel_rfl) (by simp) ?_
          refine AllReadyH.cons rfl (fun K' hK' => ?_) AllReadyH.nil
          rw [if_pos (by rfl)]
          go_simp
          refine hK'.out _ _ hS1 fun hS4 => ?_
          clear hK'
          refine wpAnyH_take (i := 2) (v := ?vc22) rfl (by kernel_rfl) (by kernel_rfl) (by kernel_rfl) (fun _ _ _ h => h) (.inl ⟨by rfl, ?yc22⟩) hS4 ?_
          case yc22 =>
            intro w' hS
            (clear hS)
            go_simp
            try with_reducible rfl
          refine wpAnyH_ready (rs := [6]) (by kernel_rfl) (by simp) ?_
          refine AllReadyH.cons rfl (fun K' hK' => ?_) AllReadyH.nil
          rw [if_pos (by rfl)]
          go_simp
          refine hK'.out _ _ hS2 fun hS5 => ?_
          clear hK'
          refine wpAnyH_ready (rs := [7]) (by kernel_rfl) (by simp) ?_
          refine AllReadyH.cons rfl (fun K' hK' => ?_) AllReadyH.nil
          rw [if_pos (by rfl)]
          go_simp
          refine hK'.out _ _ hS3 fun hS6 => ?_
          refine wpAnyH_done (by kernel_rfl) ?_ _
          exact ⟨hS3.2.2.2, by rw [Hlo1.out]; exact bF3, by rw [Hup1.out]; exact bM3, hS3.2.1, hS3.2.2.1, hS3.1⟩
      case done =>
        rintro D V hDr ⟨bF1, bM1, bW1, ho1, hB1⟩ hKD
        have E1 := (E.later hB1).recd hKD HLT.out (by omega) (by omega)
        rw [HL.out] at bF1 bM1
        have hlob := loW_bd ts i k (s := k) (by omega) L
        have hupb := upW_bd ts i k L
        obtain ⟨lo, hlo⟩ : ∃ x, loW ts i k k L = x := ⟨_, rfl⟩
        obtain ⟨up, hup⟩ : ∃ x, upW ts i k L = x := ⟨_, rfl⟩
        rw [hlo] at bF1 hlob
        rw [hup] at bM1 hupb
        have Hok := Lib.hid (show okW ts i k = decide (up - lo ≤ 1) by unfold okW; rw [HL.out, hlo, hup])
        have cF := bF1.cell
        have cM := bM1.cell
        clear bF5 bM5 bW5 ho5 hB5 bT5 bR5 E hKD bW1 ho1 hlo hup
        by_cases hgt : 1 < up - lo
        · have Hv := Lib.hid (show balI ts i = false from balI_no (by rw [HL.out]; exact hlt) (by rw [Hok.out, decide_eq_false (by omega)]))
          gi_wp2
          show bodyPostM _ _ _ _ _ .ret { tmps := _, defers := (D :: rs).map recD } _
          refine retMs E1.op ⟨_, results_tmp rfl _ _ _, ?_⟩
          exact ⟨ret_bool Hv.out.symm, below_shutAll E1.below E1.lw⟩
        · have Hv := Lib.hid (show okW ts i k = true by rw [Hok.out, decide_eq_true (by omega)])
          gi_wp2
          have hk1 : (k : Int) + 1 = ((k + 1 : Nat) : Int) := by simp
          rw [hk1]
          refine ⟨⟨k + 1, D :: rs, _, _, _, _, _, _, _, _, _, _, _, _, _, _, _, _, _, _, _, _, _, _, _, _, _, _, _, _, _, ⟨by omega, by rw [List.length_cons, Hrl.out], fun len hlen => by by_cases e : len = k; (subst e; exact Hv.out); exact Hall.out len (by omega), E1⟩, rfl⟩, ?_⟩
          rw [Hrl.out]; omega
      case stop =>
        rintro D c k W hD hk h
        exact h.elim
    · obtain rfl : k = L := by omega
      have hkN : ¬ (k : Int) < (k : Int) := by omega
      have Hv := Lib.hid (show balI ts i = true from balI_yes (by rw [HL.out]; exact Hall.out))
      clear hkN
      gi_wp2
      refine retMs E.op ⟨_, results_tmp rfl _ _ _, ?_⟩
      exact ⟨ret_bool Hv.out.symm, below_shutAll E.below E.lw⟩

end Go.Proofs.Ytnhdfpmjebfjmaa
