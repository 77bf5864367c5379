/-
  FirstKept of the program.
  Conditions: lists of at most 1048576 elements.
-/
import Derived.Test.YthggpmgjgibcoaaKeepI
namespace Go.Proofs.Ythggpmgjgibcoaa
open Go.RowKit Go.Shelf Go.Maps
attribute [local go_sem] Oper.semAt_some

/-! ### the mathematics -/
def chOk (zs cs : List Int) : Bool := cs.all (fun z => inB z (-1) (zs.length - 1)) && decide (cs.length ≤ 120)
/-- the state behind the first k choices -/
def runSt (zs st cs : List Int) : Nat → List Int
  | 0 => st
  | k + 1 => stepL zs (runSt zs st cs k) (nth cs k)
open Classical in
noncomputable def firstK (zs : List Int) : List Int → List Int → Nat
  | _, [] => 0
  | st, c :: cs => if Kpc zs st c then firstK zs (stepL zs st c) cs + 1 else 0
theorem runSt_cons (zs st : List Int) (c : Int) (cs : List Int) (k : Nat) : runSt zs st (c :: cs) (k + 1) = runSt zs (stepL zs st c) cs k := by
  induction k with
  | zero => rfl
  | succ k ih =>
    show stepL zs (runSt zs st (c :: cs) (k + 1)) (nth (c :: cs) (k + 1)) = _
    rw [ih]; rfl
theorem firstK_all {zs cs : List Int} : ∀ {st : List Int}, (∀ j, j < cs.length → Kpc zs (runSt zs st cs j) (nth cs j)) → firstK zs st cs = cs.length := by
  induction cs with
  | nil => intro st _; rfl
  | cons c cs ih =>
    intro st h
    have h0 : Kpc zs st c := h 0 (by simp)
    unfold firstK
    rw [if_pos h0, ih fun j hj => by have := h (j + 1) (by simp; omega); rw [runSt_cons] at this; exact this]
    rfl
theorem firstK_at {zs cs : List Int} : ∀ {st : List Int} {k : Nat}, k < cs.length → (∀ j, j < k → Kpc zs (runSt zs st cs j) (nth cs j)) → ¬ Kpc zs (runSt zs st cs k) (nth cs k) → firstK zs st cs = k := by
  induction cs with
  | nil => intro st k h; simp at h
  | cons c cs ih =>
    intro st k hk h hno
    cases k with
    | zero =>
      have h0 : ¬ Kpc zs st c := hno
      unfold firstK; rw [if_neg h0]
    | succ k =>
      have h0 : Kpc zs st c := h 0 (by omega)
      unfold firstK
      rw [if_pos h0, ih (k := k) (by simpa using hk) (fun j hj => by have := h (j + 1) (by omega); rw [runSt_cons] at this; exact this) (by rw [runSt_cons] at hno; exact hno)]
theorem runSt_st {zs st cs : List Int} (hs : IsSt zs st) {k : Nat} (h : ∀ j, j < k → Kpc zs (runSt zs st cs j) (nth cs j)) : IsSt zs (runSt zs st cs k) := by
  induction k with
  | zero => exact hs
  | succ k ih => exact (ih fun j hj => h j (by omega)).step (h k (by omega)).1
noncomputable def firstC (zs st cs : List Int) : Int := if stCode zs st = 0 then (if chOk zs cs then lastCode zs st else 2) else stCode zs st
noncomputable def firstR (zs st cs : List Int) : Int := if firstC zs st cs = 0 then (firstK zs st cs : Int) else 0

/-- the two results are stored -/
theorem res2 {w W : World} {x y x' y' : Int} (bR : Boxed W (w.heap.size + 1) 2 (.int .i64 x)) (bE : Boxed W (w.heap.size + 1 + 1) 2 (.int .i64 y)) (hB : Below w.heap.size w W) :
    Boxed ((W.setCell ⟨w.heap.size + 1, 0, none⟩ (.int .i64 x')).setCell ⟨w.heap.size + 1 + 1, 0, none⟩ (.int .i64 y')) (w.heap.size + 1) 2 (.int .i64 x') ∧
    Boxed ((W.setCell ⟨w.heap.size + 1, 0, none⟩ (.int .i64 x')).setCell ⟨w.heap.size + 1 + 1, 0, none⟩ (.int .i64 y')) (w.heap.size + 1 + 1) 2 (.int .i64 y') ∧
    Below w.heap.size w ((W.setCell ⟨w.heap.size + 1, 0, none⟩ (.int .i64 x')).setCell ⟨w.heap.size + 1 + 1, 0, none⟩ (.int .i64 y')) :=
  ⟨(bR.set _).other (by omega) _, (bE.other (by omega) _).set _, (hB.setCell (p := ⟨w.heap.size + 1, 0, none⟩) (by show w.heap.size ≤ w.heap.size + 1; omega) _).setCell (p := ⟨w.heap.size + 1 + 1, 0, none⟩) (by show w.heap.size ≤ w.heap.size + 1 + 1; omega) _⟩

set_option maxRecDepth 100000 in
set_option maxHeartbeats 8000000 in
theorem areChoicesFor_c (c0 : Value) (zs : List Int) (c1 : Value) (cs : List Int) (w : World) (hI : Ints w.heap.size w c0 zs) (hT : Ints w.heap.size w c1 cs) (hm1 : cs.length ≤ 1048576) :
    Calls Try.prog 144 #[.agg #[c0], c1] w fun e w' => e = .returned (.bool (chOk zs cs)) ∧ Below w.heap.size w w' := by
  obtain ⟨a, cap, rfl⟩ := hI.shape
  obtain ⟨a2, cap2, rfl⟩ := hT.shape
  have hB0 : Below w.heap.size w (w.alloc (.cells #[.slice a zs.length cap] 26)) := (Below.refl _ w).alloc (Nat.le_refl _) _
  by_cases h0 : cs.length = 0
  · have hv : chOk zs cs = true := by rw [List.length_eq_zero_iff.1 h0]; rfl
    have Hv := Lib.hid hv
    clear hv
    go_enter Try.func144, Try.ntmps144
    go_wp2_with fail
    go_ret
    exact ⟨ret_bool Hv.out.symm, hB0⟩
  · have hv : chOk zs cs = turnsOk cs zs.length := by
      unfold chOk turnsOk
      congr 1
      unfold inB
      congr 1
      apply propext; omega
    have Hv := Lib.hid hv
    have h1 : 1 ≤ cs.length := by omega
    clear hv
    go_enter Try.func144, Try.ntmps144
    go_wp2_with fail
    refine (areTurns_c _ cs _ _ (hT.later hB0) (by omega)).mono ?_
    rintro e w1 ⟨rfl, hb⟩
    go_wp2
    go_ret
    exact ⟨ret_bool (by rw [Hv.out]; simp; intro e; rw [e] at h1; simp at h1), hB0.trans (hb.mono hB0.size)⟩

set_option maxRecDepth 100000 in
set_option maxHeartbeats 8000000 in
open Classical in
theorem i_FirstKept (c0 : Value) (zs : List Int) (c1 : Value) (st : List Int) (c2 : Value) (cs : List Int) (w : World) (hI : Ints w.heap.size w c0 zs) (hN : I64s zs) (hm : zs.length ≤ 1048576) (hT : Ints w.heap.size w c1 st) (_hN1 : I64s st) (hm1 : st.length ≤ 1048576) (hC : Ints w.heap.size w c2 cs) (_hN2 : I64s cs) (hm2 : cs.length ≤ 1048576) :
    Calls Try.prog 59 #[.agg #[c0], c1, c2] w fun e w' => e = .returned (.tuple #[.int .i64 (firstR zs st cs), .int .i64 (firstC zs st cs)]) ∧ Below w.heap.size w w' := by
  obtain ⟨a, cap, rfl⟩ := hI.shape
  obtain ⟨a2, cap2, rfl⟩ := hT.shape
  obtain ⟨a3, cap3, rfl⟩ := hC.shape
  refine (callsIn_wide (n := 12)).1 ?_
  by_cases h0 : stCode zs st = 0
  · obtain ⟨ht, hs⟩ := stCode_zero h0
    obtain ⟨hl8, hbd⟩ := bytes_st ht hs
    have H0 := Lib.hid h0
    by_cases hch : chOk zs cs = true
    · by_cases hlc : lastCode zs st = 0
      · have hf : firstC zs st cs = 0 := by unfold firstC; rw [if_pos h0, if_pos hch, hlc]
        have hr : firstR zs st cs = (firstK zs st cs : Int) := by unfold firstR; rw [if_pos hf]
        have Hf := Lib.hid hf
        have Hr := Lib.hid hr
        have Hc := Lib.hid hch
        have Hl := Lib.hid hlc
        clear h0 hch hlc hf hr
        refine callsIn_of_wp_marks Try.func59 rfl trivial ?_ rfl
        simp only [Try.ntmps59, List.size_toArray, List.length_cons, List.length_nil, Nat.reduceAdd, Nat.reduceSub, Array.replicate_succ, Array.replicate_zero, List.push_toArray, List.append_toArray, List.nil_append, List.cons_append]
        gi_wp2_with fail
        obtain ⟨W0, hW1⟩ : ∃ W0, (((w.alloc (.cells #[.slice a zs.length cap] 26)).alloc (.cells #[.int .i64 0] 2)).alloc (.cells #[.int .i64 0] 2)) = W0 := ⟨_, rfl⟩
        have hB1 : Below w.heap.size w W0 := by rw [← hW1]; exact ((((Below.refl _ w).alloc (Nat.le_refl _) _).alloc (by simp; try omega) _).alloc (by simp; try omega) _)
        have hs1 : w.heap.size + 3 ≤ W0.heap.size := by rw [← hW1]; simp
        have bT : Boxed W0 (w.heap.size) 26 (.slice a zs.length cap) := by rw [← hW1]; repeat first | (refine boxed_at ?_; (simp; done)) | refine Boxed.alloc ?_ _
        have bR : Boxed W0 (w.heap.size + 1) 2 (.int .i64 0) := by rw [← hW1]; repeat first | (refine boxed_at ?_; (simp; done)) | refine Boxed.alloc ?_ _
        have bE : Boxed W0 (w.heap.size + 1 + 1) 2 (.int .i64 0) := by rw [← hW1]; repeat first | (refine boxed_at ?_; (simp; done)) | refine Boxed.alloc ?_ _
        rw [hW1]
        clear hW1
        refine ⟨trivial, (callsIn_wide.2 (checkStateFor_c _ zs _ st _ (hI.later hB1) hm (hT.later hB1) hm1)).mono ?_⟩
        rintro e w1 ⟨he, hb⟩
        rw [H0.out] at he
        subst he
        have hB2 := hB1.trans (hb.mono hB1.size)
        replace bT := boxed_later bT hb
        replace bR := boxed_later bR hb
        replace bE := boxed_later bE hb
        have cT := bT.cell
        have hs2 := hb.size
        clear hb hB1
        gi_wp2_with fail
        refine ⟨trivial, (callsIn_wide.2 (areChoicesFor_c _ zs _ cs _ (hI.later hB2) (hC.later hB2) hm2)).mono ?_⟩
        rintro e w2 ⟨he, hb⟩
        rw [Hc.out] at he
        subst he
        have hB3 := hB2.trans (hb.mono hB2.size)
        replace bT := boxed_later bT hb
        replace bR := boxed_later bR hb
        replace bE := boxed_later bE hb
        have cT2 := bT.cell
        have hs3 := hb.size
        clear hb hB2 cT
        gi_wp2_with fail
        refine ⟨trivial, (callsIn_wide.2 (checkLasting_c _ zs _ st _ (hI.later hB3) hN hm (hT.later hB3) H0.out)).mono ?_⟩
        rintro e w3 ⟨⟨_, bO, m, rfl, hG, hbo, hbm⟩ | ⟨hne, _⟩, hb⟩
        · have hB4 := hB3.trans (hb.mono hB3.size)
          replace bT := boxed_later bT hb
          replace bR := boxed_later bR hb
          replace bE := boxed_later bE hb
          have hs4 := hb.size
          clear hb hB3 cT2
          gi_wp2_with fail
          obtain ⟨W3, hW5⟩ : ∃ W3, (w3.alloc (.cells #[.pointer (some ⟨bO, 0, none⟩)] 108)) = W3 := ⟨_, rfl⟩
          have hB5 : Below w3.heap.size w3 W3 := by rw [← hW5]; exact ((Below.refl _ w3).alloc (Nat.le_refl _) _)
          have hs5 : w3.heap.size + 1 ≤ W3.heap.size := by rw [← hW5]; simp
          have bo : Boxed W3 (w3.heap.size) 108 (.pointer (some ⟨bO, 0, none⟩)) := by rw [← hW5]; repeat first | (refine boxed_at ?_; (simp; done)) | refine Boxed.alloc ?_ _
          rw [hW5]
          clear hW5
          have hG3 := hG.later hB5
          have hlm : bO < w3.heap.size ∧ m < w3.heap.size := ⟨hG.1.lt, by obtain ⟨_, B, K, _, hM, _⟩ := hG; exact hM.lt⟩
          have hB6 := hB4.trans (hB5.mono hB4.size)
          replace bT := boxed_later bT hB5
          replace bR := boxed_later bR hB5
          replace bE := boxed_later bE hB5
          clear hG hB5
          refine ⟨trivial, (callsIn_wide.2 (taskStateOf_c _ st _ (hT.later hB6) hl8 hbd)).mono ?_⟩
          rintro e w5 ⟨rfl, hb⟩
          have hB7 := hB6.trans (hb.mono hB6.size)
          have hG5 := hG3.later hb
          replace bT := boxed_later bT hb
          replace bR := boxed_later bR hb
          replace bE := boxed_later bE hb
          replace bo := boxed_later bo hb
          have hs6 := hb.size
          clear hb hB6 hG3
          simp only [arrV, cells8]
          gi_wp2_with (first | (gi_at_call 86; refine (callsIn_wide.2 (numbered_c _ _ _ _)).mono ?_; rintro e w' ⟨rfl, rfl⟩) | (refine ⟨trivial, ?_⟩; gi_at_call 86; refine (callsIn_wide.2 (numbered_c _ _ _ _)).mono ?_; rintro e w' ⟨rfl, rfl⟩))
          obtain ⟨W6, hW6⟩ : ∃ W6, (w5.alloc (.cells #[.int .u8 (nth st 0), .int .u8 (nth st 1), .int .u8 (nth st 2), .int .u8 (nth st 3), .int .u8 (nth st 4), .int .u8 (nth st 5), .int .u8 (nth st 6), .int .u8 (nth st 7)] 115)).alloc (.cells #[.slice a3 cs.length cap3] 24) = W6 := ⟨_, rfl⟩
          have hb6 : Below w5.heap.size w5 W6 := by rw [← hW6]; exact ((Below.refl _ w5).alloc (Nat.le_refl _) _).alloc (by simp) _
          have hA6 : Arr W6 w5.heap.size st := by rw [← hW6]; exact (Arr.new w5 st).alloc _
          have bN : Boxed W6 (w5.heap.size + 1) 24 (.slice a3 cs.length cap3) := by rw [← hW6]; simpa using Boxed.new (w5.alloc (.cells #[.int .u8 (nth st 0), .int .u8 (nth st 1), .int .u8 (nth st 2), .int .u8 (nth st 3), .int .u8 (nth st 4), .int .u8 (nth st 5), .int .u8 (nth st 6), .int .u8 (nth st 7)] 115)) 24 (.slice a3 cs.length cap3)
          have hs7 : w5.heap.size + 2 ≤ W6.heap.size := by rw [← hW6]; simp
          rw [hW6]
          clear hW6
          have hB8 := hB7.trans (hb6.mono hB7.size)
          have hG6 := hG5.later hb6
          replace bT := boxed_later bT hb6
          replace bR := boxed_later bR hb6
          replace bE := boxed_later bE hb6
          replace bo := boxed_later bo hb6
          clear hb6 hB7 hG5
          have hcl : cs.length ≤ 120 := by
            have := Hc.out
            unfold chOk at this
            simp at this
            omega
          obtain ⟨top, htop⟩ : ∃ top, W6.heap.size + 2 + 0 = top := ⟨_, rfl⟩
          have Htop := Lib.hid htop
          refine range_outA rfl (by omega) rfl trivial (enters_of Try.func160 (by kernel_rfl) rfl) (numbered_at Fence.wide 11 trivial rfl (by omega) _ w.heap.size _ cs (by omega) W6 bN (by omega) (hC.below hB8)) (fun b hb => by omega) (fun _ => rfl)
            (fun k W => (∀ j, j < k → Kpc zs (runSt zs st cs j) (nth cs j)) ∧ Arr W w5.heap.size (runSt zs st cs k) ∧ Good W zs bO m ∧ Boxed W w3.heap.size 108 (.pointer (some ⟨bO, 0, none⟩)) ∧ Boxed W (w.heap.size + 1) 2 (.int .i64 0) ∧ Boxed W (w.heap.size + 1 + 1) 2 (.int .i64 0) ∧ Below w.heap.size w W)
            (fun c _ W => c = .ret ∧ Boxed W (w.heap.size + 1) 2 (.int .i64 (firstK zs st cs)) ∧ Boxed W (w.heap.size + 1 + 1) 2 (.int .i64 0) ∧ Below w.heap.size w W)
            ?hI ?hIx ⟨by simp, hA6, hG6, bo, bR, bE, hB8⟩ ?a1 ?assign ?body ?done ?stop
          case hI =>
            rintro k A B row ⟨h1, h2, h3, h4, h5, h6, h7⟩ hg hr
            have ne : ∀ j, j < W6.heap.size → some j ≠ row := fun j hj e => by have := (hr j e.symm).1; omega
            exact ⟨h1, h2.kept hg (ne _ (by omega)), h3.kept2 hg (ne _ (by omega)) (ne _ (by omega)), h4.kept hg (ne _ (by omega)), h5.kept hg (ne _ (by omega)), h6.kept hg (ne _ (by omega)), h7.grown hg h7.size (fun j e => by have := (hr j e).1; omega)⟩
          case hIx =>
            rintro c k A B row ⟨h1, h5, h6, h7⟩ hg hr
            have ne : ∀ j, j < W6.heap.size → some j ≠ row := fun j hj e => by have := (hr j e.symm).1; omega
            exact ⟨h1, h5.kept hg (ne _ (by omega)), h6.kept hg (ne _ (by omega)), h7.grown hg h7.size (fun j e => by have := (hr j e).1; omega)⟩
          case assign =>
            intro l k W K hk hK
            simp only [numAt]
            gi_wp2
            exact hK
          case body =>
            rintro l k W hl2 hr ⟨h1, h2, h3, h4, h5, h6, h7⟩ hlt hsW
            have hst := runSt_st hs h1
            obtain ⟨xs, hxs⟩ : ∃ xs, runSt zs st cs k = xs := ⟨_, rfl⟩
            rw [hxs] at h2 hst
            have Hxs := Lib.hid hxs
            have H1 := Lib.hid h1
            clear h1 hxs htop
            have cA0 := h2.cell (i := 0) (by omega)
            have cA1 := h2.cell (i := 1) (by omega)
            have cA2 := h2.cell (i := 2) (by omega)
            have cA3 := h2.cell (i := 3) (by omega)
            have cA4 := h2.cell (i := 4) (by omega)
            have cA5 := h2.cell (i := 5) (by omega)
            have cA6 := h2.cell (i := 6) (by omega)
            have cA7 := h2.cell (i := 7) (by omega)
            have fA0 := h2.frozen 0
            have fA1 := h2.frozen 1
            have fA2 := h2.frozen 2
            have fA3 := h2.frozen 3
            have fA4 := h2.frozen 4
            have fA5 := h2.frozen 5
            have fA6 := h2.frozen 6
            have fA7 := h2.frozen 7
            have c4 := h4.cell
            gi_wp2_with fail
            refine ⟨trivial, (callsIn_wide.2 (keep_good ht h3 hst (nth cs k))).mono ?_⟩
            rintro e W2 ⟨⟨b, rfl, hb⟩, hG2, hg⟩
            have hwz := h7.size
            have h7' := h7
            have ne : ∀ j, j ≠ m → some j ≠ some m := fun j hj e => hj (Option.some.inj e)
            have k2 := h2.kept hg (ne _ (by omega))
            have k4 := h4.kept hg (ne _ (by omega))
            have k5 := h5.kept hg (ne _ (by omega))
            have k6 := h6.kept hg (ne _ (by omega))
            have k7 := h7.grown hg hwz (fun j e => by cases e; omega)
            have hch : Chg (fun q => w.heap.size ≤ q ∧ q < W6.heap.size) W W2 := Chg.grown hg (fun q e => by cases e; omega)
            have hsb : ∀ q, Band (fun b => b < w.heap.size) W6.heap.size (W6.heap.size + 2 + 0) q → ¬ (w.heap.size ≤ q ∧ q < W6.heap.size) := fun q hq => by
              rcases hq with hq | hq
              · have : q < w.heap.size := hq
                omega
              · omega
            have Hsb := Lib.hid hsb
            clear cA0 cA1 cA2 cA3 cA4 cA5 cA6 cA7 fA0 fA1 fA2 fA3 fA4 fA5 fA6 fA7 c4 h2 h3 h4 h5 h6 h7 hg ne hsb
            simp only [arrV, cells8]
            by_cases hk : Kpc zs xs (nth cs k)
            · obtain rfl := hb hk
              rw [decide_eq_true hk]
              have Hk := Lib.hid hk
              obtain ⟨ys, hys⟩ : ∃ ys, stepL zs xs (nth cs k) = ys := ⟨_, rfl⟩
              rw [hys]
              have Hys := Lib.hid hys
              clear hk hys hb
              have q2 := k2.alloc (.cells #[.int .u8 (nth ys 0), .int .u8 (nth ys 1), .int .u8 (nth ys 2), .int .u8 (nth ys 3), .int .u8 (nth ys 4), .int .u8 (nth ys 5), .int .u8 (nth ys 6), .int .u8 (nth ys 7)] 115)
              have cA0 := q2.cell (i := 0) (by omega)
              have cA1 := q2.cell (i := 1) (by omega)
              have cA2 := q2.cell (i := 2) (by omega)
              have cA3 := q2.cell (i := 3) (by omega)
              have cA4 := q2.cell (i := 4) (by omega)
              have cA5 := q2.cell (i := 5) (by omega)
              have cA6 := q2.cell (i := 6) (by omega)
              have cA7 := q2.cell (i := 7) (by omega)
              have fA0 := q2.frozen 0
              have fA1 := q2.frozen 1
              have fA2 := q2.frozen 2
              have fA3 := q2.frozen 3
              have fA4 := q2.frozen 4
              have fA5 := q2.frozen 5
              have fA6 := q2.frozen 6
              have fA7 := q2.frozen 7
              gi_wp2_with fail
              obtain ⟨Wa, hWa⟩ : ∃ Wa, W2.alloc (.cells #[.int .u8 (nth ys 0), .int .u8 (nth ys 1), .int .u8 (nth ys 2), .int .u8 (nth ys 3), .int .u8 (nth ys 4), .int .u8 (nth ys 5), .int .u8 (nth ys 6), .int .u8 (nth ys 7)] 115) = Wa := ⟨_, rfl⟩
              have hga : W2.grownBy Wa none := by rw [← hWa]; exact World.grownBy_alloc _ _ _
              rw [hWa] at q2 ⊢
              clear hWa
              obtain ⟨Wf, hWf⟩ : ∃ Wf, ((((((((Wa.setCell ⟨w5.heap.size, 0, none⟩ (.int .u8 (nth ys 0))).setCell ⟨w5.heap.size, 1, none⟩ (.int .u8 (nth ys 1))).setCell ⟨w5.heap.size, 2, none⟩ (.int .u8 (nth ys 2))).setCell ⟨w5.heap.size, 3, none⟩ (.int .u8 (nth ys 3))).setCell ⟨w5.heap.size, 4, none⟩ (.int .u8 (nth ys 4))).setCell ⟨w5.heap.size, 5, none⟩ (.int .u8 (nth ys 5))).setCell ⟨w5.heap.size, 6, none⟩ (.int .u8 (nth ys 6))).setCell ⟨w5.heap.size, 7, none⟩ (.int .u8 (nth ys 7))) = Wf := ⟨_, rfl⟩
              have hE : store8 Wa w5.heap.size ys = Wf := hWf
              rw [hWf]
              clear hWf
              have bA : Arr Wf w5.heap.size ys := by rw [← hE]; exact Arr.stored8 ys q2
              have hgf := grownBy_set8 Wa w5.heap.size ys
              rw [hE] at hgf
              have ne : ∀ j, j < w5.heap.size → some j ≠ some w5.heap.size := fun j hj e => by have := Option.some.inj e; omega
              have hch2 : Chg (fun q => w.heap.size ≤ q ∧ q < W6.heap.size) W Wf := (hch.trans (Chg.grown hga (by simp))).trans (Chg.grown hgf (fun q e => by cases e; omega))
              refine ⟨hch2.kps Hsb.out, fun j hj => ?_, ?_, (hG2.kept2 hga (by simp) (by simp)).kept2 hgf (ne _ (by omega)) (ne _ (by omega)), (k4.kept hga (by simp)).kept hgf (ne _ (by omega)), (k5.kept hga (by simp)).kept hgf (ne _ (by omega)), (k6.kept hga (by simp)).kept hgf (ne _ (by omega)), hch2.below ?_ (fun q hq h => by omega) (by omega)⟩
              · by_cases e : j = k
                · subst e; rw [Hxs.out]; exact Hk.out
                · exact H1.out j (by omega)
              · show Arr Wf w5.heap.size (stepL zs (runSt zs st cs k) (nth cs k))
                rw [Hxs.out, Hys.out]; exact bA
              · exact h7'
            · rw [decide_eq_false hk]
              have Hk := Lib.hid hk
              clear hk hb
              have q5 := k5.alloc (.cells #[.int .u8 (nth b 0), .int .u8 (nth b 1), .int .u8 (nth b 2), .int .u8 (nth b 3), .int .u8 (nth b 4), .int .u8 (nth b 5), .int .u8 (nth b 6), .int .u8 (nth b 7)] 115)
              have q6 := k6.alloc (.cells #[.int .u8 (nth b 0), .int .u8 (nth b 1), .int .u8 (nth b 2), .int .u8 (nth b 3), .int .u8 (nth b 4), .int .u8 (nth b 5), .int .u8 (nth b 6), .int .u8 (nth b 7)] 115)
              have cR := q5.cell
              have fR := q5.frozen
              have cE := q6.cell
              have fE := q6.frozen
              gi_wp2_with fail
              have hfk := firstK_at hlt H1.out (by rw [Hxs.out]; exact Hk.out)
              obtain ⟨z1, z2, z3⟩ := res2 (x' := (k : Int)) (y' := 0) q5 q6 (k7.alloc k7.size (.cells #[.int .u8 (nth b 0), .int .u8 (nth b 1), .int .u8 (nth b 2), .int .u8 (nth b 3), .int .u8 (nth b 4), .int .u8 (nth b 5), .int .u8 (nth b 6), .int .u8 (nth b 7)] 115))
              have hch2 := ((hch.trans (Chg.alloc _ W2 (.cells #[.int .u8 (nth b 0), .int .u8 (nth b 1), .int .u8 (nth b 2), .int .u8 (nth b 3), .int .u8 (nth b 4), .int .u8 (nth b 5), .int .u8 (nth b 6), .int .u8 (nth b 7)] 115))).trans (Chg.setCell _ (w.heap.size + 1) 0 (.int .i64 (k : Int)) (by omega))).trans (Chg.setCell _ (w.heap.size + 1 + 1) 0 (.int .i64 0) (by omega))
              refine ⟨hch2.kps Hsb.out, rfl, ?_, z2, z3⟩
              rw [hfk]; exact z1
          case done =>
            rintro D W hD ⟨h1, h2, h3, h4, h5, h6, h7⟩ hK
            have Hfk := Lib.hid (firstK_all h1)
            have cR := h5.cell
            have fR := h5.frozen
            have cE := h6.cell
            have fE := h6.frozen
            have hwz := h7.size
            clear h1 h2 h3 h4 htop
            gi_wp2
            obtain ⟨z1, z2, z3⟩ := res2 (x' := (cs.length : Int)) (y' := 0) h5 h6 h7
            have hK' := ((KeepsOthers.setCell W ⟨w.heap.size + 1, 0, none⟩ (.int .i64 (cs.length : Int))).same D _ hK rfl)
            have hK2 := ((KeepsOthers.setCell (W.setCell ⟨w.heap.size + 1, 0, none⟩ (.int .i64 (cs.length : Int))) ⟨w.heap.size + 1 + 1, 0, none⟩ (.int .i64 0)).same D _ hK' rfl)
            have c1 := (boxed_shut z1 hK2).cell
            have c2 := (boxed_shut z2 hK2).cell
            exact retM1 hK2 ⟨.tuple #[.int .i64 (cs.length : Int), .int .i64 0], by simp [results, Try.f59, go_sem, c1, c2], by rw [Hr.out, Hf.out, Hfk.out], below_shut z3 (by omega)⟩
          case stop =>
            rintro D c k W hD hk ⟨rfl, h5, h6, h7⟩ hK
            have cR := (boxed_shut h5 hK).cell
            have cE := (boxed_shut h6 hK).cell
            gi_wp2
            exact retM1 hK ⟨.tuple #[.int .i64 (firstK zs st cs), .int .i64 0], by simp [results, Try.f59, go_sem, cR, cE], by rw [Hr.out, Hf.out], below_shut h7 (by omega)⟩
        · exact absurd Hl.out hne
      · have hf : firstC zs st cs = lastCode zs st := by unfold firstC; rw [if_pos h0, if_pos hch]
        have hr : firstR zs st cs = 0 := by unfold firstR; rw [hf, if_neg hlc]
        have Hf := Lib.hid hf
        have Hr := Lib.hid hr
        have Hc := Lib.hid hch
        have Hl := Lib.hid hlc
        have hq : (lastCode zs st != 0) = true := by simpa using hlc
        have hp := lastCode_bd zs st
        clear h0 hch hlc hf hr
        refine callsIn_of_wp_marks Try.func59 rfl trivial ?_ rfl
        simp only [Try.ntmps59, List.size_toArray, List.length_cons, List.length_nil, Nat.reduceAdd, Nat.reduceSub, Array.replicate_succ, Array.replicate_zero, List.push_toArray, List.append_toArray, List.nil_append, List.cons_append]
        gi_wp2_with fail
        obtain ⟨W0, hW1⟩ : ∃ W0, (((w.alloc (.cells #[.slice a zs.length cap] 26)).alloc (.cells #[.int .i64 0] 2)).alloc (.cells #[.int .i64 0] 2)) = W0 := ⟨_, rfl⟩
        have hB1 : Below w.heap.size w W0 := by rw [← hW1]; exact ((((Below.refl _ w).alloc (Nat.le_refl _) _).alloc (by simp; try omega) _).alloc (by simp; try omega) _)
        have hs1 : w.heap.size + 3 ≤ W0.heap.size := by rw [← hW1]; simp
        have bT : Boxed W0 (w.heap.size) 26 (.slice a zs.length cap) := by rw [← hW1]; repeat first | (refine boxed_at ?_; (simp; done)) | refine Boxed.alloc ?_ _
        have bR : Boxed W0 (w.heap.size + 1) 2 (.int .i64 0) := by rw [← hW1]; repeat first | (refine boxed_at ?_; (simp; done)) | refine Boxed.alloc ?_ _
        have bE : Boxed W0 (w.heap.size + 1 + 1) 2 (.int .i64 0) := by rw [← hW1]; repeat first | (refine boxed_at ?_; (simp; done)) | refine Boxed.alloc ?_ _
        rw [hW1]
        clear hW1
        refine ⟨trivial, (callsIn_wide.2 (checkStateFor_c _ zs _ st _ (hI.later hB1) hm (hT.later hB1) hm1)).mono ?_⟩
        rintro e w1 ⟨he, hb⟩
        rw [H0.out] at he
        subst he
        have hB2 := hB1.trans (hb.mono hB1.size)
        replace bT := boxed_later bT hb
        replace bR := boxed_later bR hb
        replace bE := boxed_later bE hb
        have cT := bT.cell
        have hs2 := hb.size
        clear hb hB1
        gi_wp2_with fail
        refine ⟨trivial, (callsIn_wide.2 (areChoicesFor_c _ zs _ cs _ (hI.later hB2) (hC.later hB2) hm2)).mono ?_⟩
        rintro e w2 ⟨he, hb⟩
        rw [Hc.out] at he
        subst he
        have hB3 := hB2.trans (hb.mono hB2.size)
        replace bT := boxed_later bT hb
        replace bR := boxed_later bR hb
        replace bE := boxed_later bE hb
        have cT2 := bT.cell
        have hs3 := hb.size
        clear hb hB2 cT
        gi_wp2_with fail
        refine ⟨trivial, (callsIn_wide.2 (checkLasting_c _ zs _ st _ (hI.later hB3) hN hm (hT.later hB3) H0.out)).mono ?_⟩
        rintro e w3 ⟨⟨h5, _⟩ | ⟨_, rfl⟩, hb⟩
        · exact absurd h5 Hl.out
        · have hB4 := hB3.trans (hb.mono hB3.size)
          replace bR := boxed_later bR hb
          replace bE := boxed_later bE hb
          have q5 := bR.alloc (.cells #[.pointer none] 108)
          have q6 := bE.alloc (.cells #[.pointer none] 108)
          have cR := q5.cell
          have fR := q5.frozen
          have cE := q6.cell
          have fE := q6.frozen
          clear hb hB3 cT2
          gi_wp2_with fail
          obtain ⟨z1, z2, z3⟩ := res2 (x' := 0) (y' := lastCode zs st) q5 q6 (hB4.alloc hB4.size (.cells #[.pointer none] 108))
          have c1 := z1.cell
          have c2 := z2.cell
          exact retM0 ⟨.tuple #[.int .i64 0, .int .i64 (lastCode zs st)], by simp [results, Try.f59, go_sem, c1, c2], by rw [Hr.out, Hf.out], z3⟩
    · have hf : firstC zs st cs = 2 := by unfold firstC; rw [if_pos h0, if_neg hch]
      have hr : firstR zs st cs = 0 := by unfold firstR; rw [hf]; rfl
      have hcf : chOk zs cs = false := by simpa using hch
      have Hf := Lib.hid hf
      have Hr := Lib.hid hr
      have Hc := Lib.hid hcf
      clear h0 hch hf hr hcf
      refine callsIn_of_wp_marks Try.func59 rfl trivial ?_ rfl
      simp only [Try.ntmps59, List.size_toArray, List.length_cons, List.length_nil, Nat.reduceAdd, Nat.reduceSub, Array.replicate_succ, Array.replicate_zero, List.push_toArray, List.append_toArray, List.nil_append, List.cons_append]
      gi_wp2_with fail
      obtain ⟨W0, hW1⟩ : ∃ W0, (((w.alloc (.cells #[.slice a zs.length cap] 26)).alloc (.cells #[.int .i64 0] 2)).alloc (.cells #[.int .i64 0] 2)) = W0 := ⟨_, rfl⟩
      have hB1 : Below w.heap.size w W0 := by rw [← hW1]; exact ((((Below.refl _ w).alloc (Nat.le_refl _) _).alloc (by simp; try omega) _).alloc (by simp; try omega) _)
      have hs1 : w.heap.size + 3 ≤ W0.heap.size := by rw [← hW1]; simp
      have bT : Boxed W0 (w.heap.size) 26 (.slice a zs.length cap) := by rw [← hW1]; repeat first | (refine boxed_at ?_; (simp; done)) | refine Boxed.alloc ?_ _
      have bR : Boxed W0 (w.heap.size + 1) 2 (.int .i64 0) := by rw [← hW1]; repeat first | (refine boxed_at ?_; (simp; done)) | refine Boxed.alloc ?_ _
      have bE : Boxed W0 (w.heap.size + 1 + 1) 2 (.int .i64 0) := by rw [← hW1]; repeat first | (refine boxed_at ?_; (simp; done)) | refine Boxed.alloc ?_ _
      rw [hW1]
      clear hW1
      refine ⟨trivial, (callsIn_wide.2 (checkStateFor_c _ zs _ st _ (hI.later hB1) hm (hT.later hB1) hm1)).mono ?_⟩
      rintro e w1 ⟨he, hb⟩
      rw [H0.out] at he
      subst he
      have hB2 := hB1.trans (hb.mono hB1.size)
      replace bT := boxed_later bT hb
      replace bR := boxed_later bR hb
      replace bE := boxed_later bE hb
      have cT := bT.cell
      have hs2 := hb.size
      clear hb hB1
      gi_wp2_with fail
      refine ⟨trivial, (callsIn_wide.2 (areChoicesFor_c _ zs _ cs _ (hI.later hB2) (hC.later hB2) hm2)).mono ?_⟩
      rintro e w2 ⟨he, hb⟩
      rw [Hc.out] at he
      subst he
      have hB3 := hB2.trans (hb.mono hB2.size)
      replace bR := boxed_later bR hb
      replace bE := boxed_later bE hb
      have cR := bR.cell
      have fR := bR.frozen
      have cE := bE.cell
      have fE := bE.frozen
      clear hb hB2 cT
      gi_wp2_with fail
      obtain ⟨z1, z2, z3⟩ := res2 (x' := 0) (y' := 2) bR bE hB3
      have c1 := z1.cell
      have c2 := z2.cell
      exact retM0 ⟨.tuple #[.int .i64 0, .int .i64 2], by simp [results, Try.f59, go_sem, c1, c2], by rw [Hr.out, Hf.out], z3⟩
  · have hf : firstC zs st cs = stCode zs st := by unfold firstC; rw [if_neg h0]
    have hr : firstR zs st cs = 0 := by unfold firstR; rw [hf, if_neg h0]
    have Hf := Lib.hid hf
    have Hr := Lib.hid hr
    have hq : (stCode zs st != 0) = true := by simpa using h0
    have hp := stCode_bd zs st
    clear h0 hf hr
    refine callsIn_of_wp_marks Try.func59 rfl trivial ?_ rfl
    simp only [Try.ntmps59, List.size_toArray, List.length_cons, List.length_nil, Nat.reduceAdd, Nat.reduceSub, Array.replicate_succ, Array.replicate_zero, List.push_toArray, List.append_toArray, List.nil_append, List.cons_append]
    gi_wp2_with fail
    obtain ⟨W0, hW1⟩ : ∃ W0, (((w.alloc (.cells #[.slice a zs.length cap] 26)).alloc (.cells #[.int .i64 0] 2)).alloc (.cells #[.int .i64 0] 2)) = W0 := ⟨_, rfl⟩
    have hB1 : Below w.heap.size w W0 := by rw [← hW1]; exact ((((Below.refl _ w).alloc (Nat.le_refl _) _).alloc (by simp; try omega) _).alloc (by simp; try omega) _)
    have hs1 : w.heap.size + 3 ≤ W0.heap.size := by rw [← hW1]; simp
    have bT : Boxed W0 (w.heap.size) 26 (.slice a zs.length cap) := by rw [← hW1]; repeat first | (refine boxed_at ?_; (simp; done)) | refine Boxed.alloc ?_ _
    have bR : Boxed W0 (w.heap.size + 1) 2 (.int .i64 0) := by rw [← hW1]; repeat first | (refine boxed_at ?_; (simp; done)) | refine Boxed.alloc ?_ _
    have bE : Boxed W0 (w.heap.size + 1 + 1) 2 (.int .i64 0) := by rw [← hW1]; repeat first | (refine boxed_at ?_; (simp; done)) | refine Boxed.alloc ?_ _
    rw [hW1]
    clear hW1
    refine ⟨trivial, (callsIn_wide.2 (checkStateFor_c _ zs _ st _ (hI.later hB1) hm (hT.later hB1) hm1)).mono ?_⟩
    rintro e w1 ⟨rfl, hb⟩
    have hB2 := hB1.trans (hb.mono hB1.size)
    replace bR := boxed_later bR hb
    replace bE := boxed_later bE hb
    have cR := bR.cell
    have fR := bR.frozen
    have cE := bE.cell
    have fE := bE.frozen
    clear hb hB1
    gi_wp2_with fail
    obtain ⟨z1, z2, z3⟩ := res2 (x' := 0) (y' := stCode zs st) bR bE hB2
    have c1 := z1.cell
    have c2 := z2.cell
    exact retM0 ⟨.tuple #[.int .i64 0, .int .i64 (stCode zs st)], by simp [results, Try.f59, go_sem, c1, c2], by rw [Hr.out, Hf.out], z3⟩

end Go.Proofs.Ythggpmgjgibcoaa
