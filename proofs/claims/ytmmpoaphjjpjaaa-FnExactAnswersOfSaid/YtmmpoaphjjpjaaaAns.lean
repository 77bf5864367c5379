/-
  AnswersOf of the program: slices.Contains, timesComeIn, answerBehind.
  Conditions: lists of at most 1048576 elements.
-/
import Derived.Test.YtmmpoaphjjpjaaaJobU
import Derived.Test.YtmmpoaphjjpjaaaRegJ
import Derived.Test.YtmmpoaphjjpjaaaRecs
namespace Go.Proofs.Ytmmpoaphjjpjaaa
open Go.RowKit Go.Shelf
attribute [local go_sem] Oper.semAt_some

set_option maxHeartbeats 4000000 in
theorem timesComeIn_c (l p d n : Int) (w : World) (hp : 1 ≤ p ∧ p ≤ 60) (hn : 1 ≤ n ∧ n ≤ 1000) :
    Calls Try.prog 123 #[.agg #[.int .i64 l, .int .i64 p, .int .i64 d], .int .i64 n] w fun e w' => e = .returned (.int .i64 (comesIn n p)) ∧ Below w.heap.size w w' := by
  have hB0 : Below w.heap.size w (w.alloc (.cells #[.int .i64 l, .int .i64 p, .int .i64 d] 88)) := (Below.refl _ _).alloc (Nat.le_refl _) _
  have h1 : 0 ≤ (n - 1) / p := Int.ediv_nonneg (by omega) (by omega)
  have h2 : (n - 1) / p ≤ n - 1 := Int.ediv_le_self _ (by omega)
  have hq : (n - 1).tdiv p = (n - 1) / p := Int.tdiv_eq_ediv_of_nonneg (by omega)
  have Hf := Lib.hid (show comesIn n p = (n - 1) / p + 1 from rfl)
  have hz : ¬ p = 0 := by omega
  obtain ⟨q, hqq⟩ : ∃ q, (n - 1) / p = q := ⟨_, rfl⟩
  rw [hqq] at h1 h2 hq Hf
  clear hqq
  go_enter Try.func123, Try.ntmps123
  go_wp2
  go_ret
  exact ⟨ret_int Hf.out.symm, hB0⟩

theorem contains_no {xs : List Int} {v : Int} (h : ∀ j, j < xs.length → nth xs j ≠ v) : xs.contains v = false := by
  rw [Bool.eq_false_iff]
  intro hc
  have hm : v ∈ xs := by simpa using hc
  obtain ⟨j, hj, rfl⟩ := List.getElem_of_mem hm
  exact h j hj (nth_lt hj)
theorem contains_yes {xs : List Int} {k : Nat} (h : k < xs.length) : xs.contains (nth xs k) = true := by
  rw [List.contains_iff_mem]; exact nth_mem h

set_option maxRecDepth 100000 in
set_option maxHeartbeats 4000000 in
theorem sIndex_c (sv : Value) (xs : List Int) (v : Int) (w : World) (hI : Ints w.heap.size w sv xs) (hl : xs.length ≤ 1048576) :
    Calls Try.prog 137 #[sv, .int .i64 v] w fun e w' => (∃ r : Int, e = .returned (.int .i64 r) ∧ -1 ≤ r ∧ r ≤ 1048576 ∧ decide (0 ≤ r) = xs.contains v) ∧ w = w' := by
  obtain ⟨a, cap, rfl⟩ := hI.shape
  go_enter Try.func137, Try.ntmps137
  go_wp2_with fail
  go_loop [8] (fun i => ∃ k : Nat, k ≤ xs.length ∧ i = .int .i64 k ∧ ∀ j, j < k → nth xs j ≠ v) (fun i => xs.length - (intOf i).toNat)
  case atStart => exact ⟨0, Nat.zero_le _, rfl, by simp⟩
  case round =>
    obtain ⟨k, hk, rfl, hall⟩ := hrel
    have Hall := Lib.hid hall
    clear hall
    by_cases hlt : k < xs.length
    · obtain ⟨b, off, rfl, hb, hc⟩ := hI.at_ hlt
      have hcx := hc k hlt
      clear hc
      by_cases he : v = nth xs k
      · have hq : (v == nth xs k) = true := by rw [beq_iff_eq]; exact he
        have He := Lib.hid he
        clear he
        go_wp2
        go_ret
        exact ⟨⟨(k : Int), rfl, by omega, by omega, by have h1 := contains_yes hlt; rw [← He.out] at h1; first | (rw [h1]; simp; done) | (rw [List.contains_iff_mem] at h1; exact ⟨fun _ => h1, fun _ => by omega⟩)⟩, rfl⟩
      · have hq : (v == nth xs k) = false := by rw [beq_eq_false_iff_ne]; exact he
        have He := Lib.hid he
        clear he
        go_wp2
        go_round
        case rel => exact ⟨k + 1, by omega, by simp, fun j hj => by by_cases e : j = k; exact e ▸ fun e' => He.out e'.symm; exact Hall.out j (by omega)⟩
        case measure => simp [intOf]; omega
    · obtain rfl : k = xs.length := by omega
      go_wp2
      go_ret
      exact ⟨⟨-1, rfl, by omega, by omega, by have h1 := contains_no Hall.out; first | (rw [h1]; simp; done) | (exact ⟨fun h => absurd h (by omega), fun h => absurd (List.contains_iff_mem.2 h) (by rw [h1]; simp)⟩)⟩, rfl⟩

theorem sContains_c (sv : Value) (xs : List Int) (v : Int) (w : World) (hI : Ints w.heap.size w sv xs) (hl : xs.length ≤ 1048576) :
    Calls Try.prog 122 #[sv, .int .i64 v] w fun e w' => e = .returned (.bool (xs.contains v)) ∧ w = w' := by
  obtain ⟨a, cap, rfl⟩ := hI.shape
  go_enter Try.func122, Try.ntmps122
  go_wp2_with fail
  refine (sIndex_c _ xs v _ hI hl).mono ?_
  rintro e w' ⟨⟨r, rfl, h1, h2, h3⟩, rfl⟩
  have H3 := Lib.hid h3
  clear h3
  go_wp2
  go_ret
  exact ⟨ret_bool H3.out, rfl⟩

theorem needIn {ls ps : List Int} {xs : List Int} {i : Nat} {r : Int} (hn : xs.Nodup) (hb : ∀ x ∈ xs, 0 ≤ x ∧ x < ls.length) : nth ls i + inSum ls ps r xs ls.length = needOf ls ps xs i r := by
  unfold needOf; rw [inSum_ahead hn hb]
theorem ansS_step {need : Int → Int} {m : Nat} {r : Int} (h : need r ≠ r) : ansS need (m + 1) r = ansS need m (r + 1) := by simp [ansS, h]
theorem ansS_hit {need : Int → Int} {m : Nat} {r : Int} (h : need r = r) : ansS need (m + 1) r = r := by simp [ansS, h]

set_option maxRecDepth 100000 in
set_option maxHeartbeats 16000000 in
theorem answerBehind_c (cl cp cd ca : Value) (ls ps ds xs : List Int) (i : Nat) (w : World) (hI : Jobs3 w.heap.size w cl cp cd ls ps ds) (hA : Ints w.heap.size w ca xs) (hxl : xs.length ≤ 8) (ht : jobsOk ls ps ds = true) (hi : i < ls.length) (hn : xs.Nodup) (hbx : ∀ x ∈ xs, 0 ≤ x ∧ x < ls.length) :
    Calls Try.prog 94 #[.agg #[cl, cp, cd], ca, .int .i64 (i : Int)] w fun e w' => e = .returned (.int .i64 (ansOf ls ps ds xs i)) ∧ Below w.heap.size w w' := by
  obtain ⟨al, capl, rfl⟩ := hI.l.shape
  obtain ⟨ap, capp, rfl⟩ := hI.p.shape
  obtain ⟨ad, capd, rfl⟩ := hI.d.shape
  obtain ⟨aa, capa, rfl⟩ := hA.shape
  have hP := jobsP ht
  have HP := Lib.hid hP
  have h8 := hP.len8
  have hd := hP.d i hi
  have hp := hP.p i hi
  have hld : i < ds.length := by have := hP.ld; omega
  have HI := Lib.hid hI
  obtain ⟨b8, o8, rfl, e8⟩ := hI.l.cellOf hi
  obtain ⟨b9, o9, rfl, e9⟩ := hI.d.cellOf hld
  have hb8 := World.block_lt_of_cell? w _ e8
  have hb9 := World.block_lt_of_cell? w _ e9
  have i8 : (i : Int) < (ls.length : Int) := by omega
  have i9 : (i : Int) < (ds.length : Int) := by omega
  obtain ⟨dN, hdN⟩ : ∃ dN : Nat, nth ds i = dN := ⟨(nth ds i).toNat, by omega⟩
  have hdN1 : 1 ≤ dN ∧ dN ≤ 60 := by omega
  have hans : ansOf ls ps ds xs i = ansS (needOf ls ps xs i) dN 1 := by unfold ansOf; rw [hdN]; rfl
  have Hneed := Lib.hid (fun (r : Int) => needIn (ls := ls) (ps := ps) (xs := xs) (i := i) (r := r) hn hbx)
  have HA0 := Lib.hid hans
  have HDN := Lib.hid hdN
  have hmax : ls.length ≤ 1048576 := by omega
  rw [hdN] at e9
  clear ht hP hd hp hans hn hbx hdN hI
  refine (callsIn_wide (n := 9)).1 ?_
  refine callsIn_of_wp_marks Try.func94 rfl trivial ?_ rfl
  simp only [Try.ntmps94, List.size_toArray, List.length_cons, List.length_nil, Nat.reduceAdd, Nat.reduceSub, Array.replicate_succ, Array.replicate_zero, List.push_toArray, List.append_toArray, List.nil_append, List.cons_append]
  gi_wp2_with fail
  obtain ⟨W0, hW0⟩ : ∃ W0, (((w.alloc (.cells #[.slice (some ⟨b8, o8, none⟩) ls.length capl, .slice ap ps.length capp, .slice (some ⟨b9, o9, none⟩) ds.length capd] 41)).alloc (.cells #[.slice aa xs.length capa] 22)).alloc (.cells #[.int .i64 1] 2)) = W0 := ⟨_, rfl⟩
  have hB0 : Below w.heap.size w W0 := by rw [← hW0]; exact ((((Below.refl _ w).alloc (Nat.le_refl _) _).alloc (by simp; try omega) _).alloc (by simp; try omega) _)
  have hs0 : w.heap.size + 3 ≤ W0.heap.size := by rw [← hW0]; simp
  have bJ : Box3 W0 (w.heap.size) 41 (.slice (some ⟨b8, o8, none⟩) ls.length capl) (.slice ap ps.length capp) (.slice (some ⟨b9, o9, none⟩) ds.length capd) := by rw [← hW0]; repeat first | (refine box3_at ?_; (simp; done)) | refine Box3.alloc ?_ _
  have bA : Boxed W0 (w.heap.size + 1) 22 (.slice aa xs.length capa) := by rw [← hW0]; repeat first | (refine boxed_at ?_; (simp; done)) | refine Boxed.alloc ?_ _
  have bR : Boxed W0 (w.heap.size + 1 + 1) 2 (.int .i64 1) := by rw [← hW0]; repeat first | (refine boxed_at ?_; (simp; done)) | refine Boxed.alloc ?_ _
  rw [hW0]
  clear hW0
  refine wpIn_loop (fun a' W => ∃ (rs : List Nat) (k b : Nat) (u8 u9 u10 u11 u12 u13 u14 u15 u16 u17 u18 u19 u20 u21 u22 u23 u24 u25 u26 u27 u28 u29 u30 u31 u32 u33 u34 u35 u36 u37 u38 u39 u40 u41 u42 u43 u44 : Value), (k ≤ dN ∧ rs.length = k ∧ w.heap.size + 2 ≤ b ∧ ansOf ls ps ds xs i = ansS (needOf ls ps xs i) (dN - k) ((k : Int) + 1) ∧ Boxed W b 2 (.int .i64 ((k : Int) + 1)) ∧ Boxed W (w.heap.size + 1) 22 (.slice aa xs.length capa) ∧ Box3 W w.heap.size 41 (.slice (some ⟨b8, o8, none⟩) ls.length capl) (.slice ap ps.length capp) (.slice (some ⟨b9, o9, none⟩) ds.length capd) ∧ Below w.heap.size w W ∧ Opens W rs ∧ ∀ D ∈ rs, w.heap.size ≤ D) ∧ a' = { tmps := #[.agg #[.slice (some ⟨b8, o8, none⟩) ls.length capl, .slice ap ps.length capp, .slice (some ⟨b9, o9, none⟩) ds.length capd], .slice aa xs.length capa, .int .i64 (i : Int), .pointer (some ⟨w.heap.size, 0, none⟩), .pointer (some ⟨w.heap.size + 1, 0, none⟩), undef, .int .i64 0, .pointer (some ⟨b, 0, none⟩), u8, u9, u10, u11, u12, u13, u14, u15, u16, u17, u18, u19, u20, u21, u22, u23, u24, u25, u26, u27, u28, u29, u30, u31, u32, u33, u34, u35, u36, u37, u38, u39, u40, u41, u42, u43, u44], defers := rs.map recD })
    (fun a' _ => dN - a'.defers.length) ?start ?round
  case start => exact ⟨[], 0, w.heap.size + 1 + 1, _, _, _, _, _, _, _, _, _, _, _, _, _, _, _, _, _, _, _, _, _, _, _, _, _, _, _, _, _, _, _, _, _, _, _, _, _, ⟨by omega, rfl, by omega, HA0.out, bR, bA, bJ, hB0, Opens.nil _, by simp⟩, rfl⟩
  case round =>
    rintro a' W ⟨rs, k, b, u8, u9, u10, u11, u12, u13, u14, u15, u16, u17, u18, u19, u20, u21, u22, u23, u24, u25, u26, u27, u28, u29, u30, u31, u32, u33, u34, u35, u36, u37, u38, u39, u40, u41, u42, u43, u44, ⟨hk, hdl, hb0, hans, bR1, bA1, bJ1, hB1, hop, hdlo⟩, rfl⟩
    clear bR bA bJ hB0 hs0
    have Hdl := Lib.hid hdl
    have Hans := Lib.hid hans
    clear hdl hans
    have cR := bR1.cell
    have cD := bJ1.c2
    have e9' := (hB1.cell hb9).trans e9
    have hi0 : (0 : Int) ≤ (i : Int) := by omega
    by_cases hkd : k < dN
    · have hle : (k : Int) + 1 ≤ (dN : Int) := by omega
      gi_wp2_with fail
      gi_quiet (fail)
      have hbq : Below W.heap.size W (W.drewN nq) := below_drewN (Below.refl _ _) _
      obtain ⟨W2, hW2⟩ : ∃ W2, W.drewN nq = W2 := ⟨_, rfl⟩
      rw [hW2] at hbq ⊢
      clear hW2 cR cD e9'
      have bR2 := boxed_later bR1 hbq
      have bA2 := boxed_later bA1 hbq
      have bJ2 := bJ1.later hbq
      have hB2 := hB1.trans (hbq.mono hB1.size)
      have hop2 := hop.below hbq
      have hbW := bR2.lt
      clear bR1 bA1 bJ1 hB1 hop hbq
      have e8' := (hB2.cell hb8).trans e8
      have c0 := bJ2.c0
      have k0 := (bJ2.alloc (.cells #[.int .i64 (nth ls i)] 2)).c0
      have k1 := (bJ2.alloc (.cells #[.int .i64 (nth ls i)] 2)).c1
      have k2 := (bJ2.alloc (.cells #[.int .i64 (nth ls i)] 2)).c2
      gi_wp2_with (first | (gi_at_call 78; refine (callsIn_wide.2 (jobsByTask_c _ _ _ _)).mono ?_; rintro e w' ⟨rfl, rfl⟩) | (refine ⟨trivial, ?_⟩; gi_at_call 78; refine (callsIn_wide.2 (jobsByTask_c _ _ _ _)).mono ?_; rintro e w' ⟨rfl, rfl⟩))
      clear k0 k1 k2 c0 e8'
      have hrb : (1 : Int) ≤ (k : Int) + 1 ∧ (k : Int) + 1 ≤ 60 := by omega
      obtain ⟨r, hrr⟩ : ∃ r, (k : Int) + 1 = r := ⟨_, rfl⟩
      rw [hrr] at bR2 hrb hle
      have Hrr := Lib.hid hrr
      clear hrr
      obtain ⟨W4, hW5⟩ : ∃ W4, ((W2.alloc (.cells #[.int .i64 (nth ls i)] 2)).alloc (.cells #[.slice (some ⟨b8, o8, none⟩) ls.length capl, .slice ap ps.length capp, .slice (some ⟨b9, o9, none⟩) ds.length capd] 41)) = W4 := ⟨_, rfl⟩
      have hB5 : Below W2.heap.size W2 W4 := by rw [← hW5]; exact (((Below.refl _ W2).alloc (Nat.le_refl _) _).alloc (by simp; try omega) _)
      have hs5 : W2.heap.size + 2 ≤ W4.heap.size := by rw [← hW5]; simp
      have bN : Boxed W4 (W2.heap.size) 2 (.int .i64 (nth ls i)) := by rw [← hW5]; repeat first | (refine boxed_at ?_; (simp; done)) | refine Boxed.alloc ?_ _
      have bj : Box3 W4 (W2.heap.size + 1) 41 (.slice (some ⟨b8, o8, none⟩) ls.length capl) (.slice ap ps.length capp) (.slice (some ⟨b9, o9, none⟩) ds.length capd) := by rw [← hW5]; repeat first | (refine box3_at ?_; (simp; done)) | refine Box3.alloc ?_ _
      rw [hW5]
      clear hW5
      replace bR2 := boxed_later bR2 hB5
      replace bA2 := boxed_later bA2 hB5
      replace bJ2 := bJ2.later hB5
      have hwW := hB2.size
      have hB4 := hB2.trans (hB5.mono hwW)
      have hlt4 : ∀ E ∈ rs, E < W4.heap.size := fun E hE => by have := hop2.lt hE; omega
      have hop4 := hop2.below hB5
      have HLT := Lib.hid hlt4
      have HLO := Lib.hid hdlo
      clear hdlo hop2 hB2 hB5
      refine range_outB 88 (fun k => .int .i64 (nth ls k)) (fun k => .int .i64 (nth ps k)) (fun k => .int .i64 (nth ds k)) (Keep := fun x => x < w.heap.size ∨ x = W2.heap.size + 1) (c := 4) rfl (by omega) rfl trivial (enters_of Try.func113 (by kernel_rfl) rfl) (jobsByTask_at 8 _ w.heap.size _ _ _ ls ps ds hmax HP.out.lp HP.out.ld W4 bj (by omega) (HI.out.below hB4)) (fun b hb => by omega) (fun _ => rfl)
        (fun k' W => Boxed W W2.heap.size 2 (.int .i64 (nth ls i + inSum ls ps r xs k')) ∧ Boxed W b 2 (.int .i64 r) ∧ Boxed W (w.heap.size + 1) 22 (.slice aa xs.length capa) ∧ Box3 W w.heap.size 41 (.slice (some ⟨b8, o8, none⟩) ls.length capl) (.slice ap ps.length capp) (.slice (some ⟨b9, o9, none⟩) ds.length capd) ∧ Below w.heap.size w W ∧ Opens W rs)
        (fun _ _ _ => False)
        (OwnFrom.and (Own.from (boxed_own _ _ _) _) (OwnFrom.and (Own.from (boxed_own _ _ _) _) (OwnFrom.and (Own.from (boxed_own _ _ _) _) (OwnFrom.and (Own.from (box3_own _ _ _ _ _) _) (OwnFrom.and (ownFrom_below (Nat.le_refl _) (by omega)) (opens_own hlt4))))))
        (fun _ _ _ _ _ hs _ _ => hs)
        ⟨by simpa [inSum] using bN, bR2, bA2, bJ2, hB4, hop4⟩ ?a1 ?assign ?body ?done ?stop
      case assign =>
        intro l k b W K hk hb hK
        simp only [jobAt]
        gi_wp2_with fail
        exact hK
      case body =>
        rintro l' k' b3 W3 hl' hr9 ⟨bN1, bR1, bA1, bJ1, hB1, hop1⟩ hb3 bx hk' hs
        have hA3 : Ints W3.heap.size W3 (.slice aa xs.length capa) xs := hA.later hB1
        have cA := bA1.cell
        clear bN bj bR2 bA2 bJ2 hB4 hop4 hr9
        cases hct : xs.contains (k' : Int)
        · have hst : inSum ls ps r xs (k' + 1) = inSum ls ps r xs k' := by simp only [inSum, hct]; simp
          have HCT := Lib.hid hct
          have HST := Lib.hid hst
          clear hct hst
          gi_wp2_with fail
          refine ⟨trivial, (callsIn_wide.2 (sContains_c _ xs (k' : Int) W3 hA3 (by omega))).mono ?_⟩
          rintro e w' ⟨he, rfl⟩
          rw [HCT.out] at he
          subst he
          gi_wp2
          exact ⟨Kps.refl _ _, by rw [HST.out]; exact bN1, bR1, bA1, bJ1, hB1, hop1⟩
        · have hst : nth ls i + inSum ls ps r xs (k' + 1) = nth ls i + inSum ls ps r xs k' + nth ls k' * comesIn r (nth ps k') := by simp only [inSum, hct]; simp; omega
          have hib := inSum_bd HP.out (xs := xs) hrb.1 hrb.2 (Nat.le_of_lt hk')
          have hli := HP.out.l i hi
          have hl := HP.out.l k' hk'
          have hp := HP.out.p k' hk'
          obtain ⟨l, e1⟩ : ∃ l, nth ls k' = l := ⟨_, rfl⟩
          obtain ⟨p, e2⟩ : ∃ p, nth ps k' = p := ⟨_, rfl⟩
          obtain ⟨d, e3⟩ : ∃ d, nth ds k' = d := ⟨_, rfl⟩
          rw [e1] at hl hst bx
          rw [e2] at hp hst bx
          rw [e3] at bx
          have htb := comesIn_bd (r := r) (p := p) hp.1 hrb.1
          obtain ⟨t, htt⟩ : ∃ t, comesIn r p = t := ⟨_, rfl⟩
          obtain ⟨s, hss⟩ : ∃ s, nth ls i + inSum ls ps r xs k' = s := ⟨_, rfl⟩
          have hsb : 0 ≤ s ∧ s ≤ 10000 := by have := Nat.mul_le_mul_left 1200 (show k' ≤ 8 by omega); omega
          rw [htt] at htb hst
          rw [hss] at hst bN1
          have m1 : 0 ≤ l * t := Int.mul_nonneg (by omega) (by omega)
          have m2 : l * t ≤ 20 * 60 := Int.mul_le_mul hl.2 (by omega) (by omega) (by omega)
          obtain ⟨u, huu⟩ : ∃ u, l * t = u := ⟨_, rfl⟩
          rw [huu] at m1 m2 hst
          have HS := Lib.hid hst
          have hw1 : IntKind.i64.wrap u = u := by rw [IntKind.wrap_i64]; omega
          have hw2 : IntKind.i64.wrap (s + u) = s + u := by rw [IntKind.wrap_i64]; omega
          have hfw : Try.prog.follows Departure.mixedOrders = true := by kernel_rfl
          have hr : 1 ≤ r ∧ r ≤ 1000 := by omega
          have HBX := Lib.hid bN1
          have BR := Lib.hid bR1
          have BA := Lib.hid bA1
          have BJ := Lib.hid bJ1
          have BX := Lib.hid bx
          have HB := Lib.hid hB1
          have HOP := Lib.hid hop1
          have HCT := Lib.hid hct
          have hpB := hB1.size
          have hbW3 := bx.lt
          have c0 : W3.drew.cell? ⟨W2.heap.size, 0, none⟩ = some (.int .i64 s) := bN1.cell
          clear hst e1 e2 e3 hss hct hib hli
          gi_wp2_with fail
          refine ⟨trivial, (callsIn_wide.2 (sContains_c _ xs (k' : Int) W3 hA3 (by omega))).mono ?_⟩
          rintro e w' ⟨he, rfl⟩
          rw [HCT.out] at he
          subst he
          clear bN1 bR1 bA1 bJ1 bx hB1 hop1 cA hA3
          gi_wp2_with fail
          refine wpIn_region_heldI (fun w' => Kps (Band (fun x => x < w.heap.size ∨ x = W2.heap.size + 1) W4.heap.size (W4.heap.size + 2 + 4)) W3 w' ∧ Below w.heap.size w w' ∧ Box3 w' b3 88 (.int .i64 l) (.int .i64 p) (.int .i64 d) ∧ Boxed w' b 2 (.int .i64 r) ∧ Boxed w' (w.heap.size + 1) 22 (.slice aa xs.length capa) ∧ Box3 w' w.heap.size 41 (.slice (some ⟨b8, o8, none⟩) ls.length capl) (.slice ap ps.length capp) (.slice (some ⟨b9, o9, none⟩) ds.length capd) ∧ Opens w' rs) hfw ⟨⟨Nat.le_refl _, fun _ _ _ => rfl⟩, HB.out.drew, BX.out, BR.out, BA.out, BJ.out, ⟨HOP.out.nodup, HOP.out.all⟩⟩ ?_
          intro hS0
          refine anyIH_take (i := 1) (v := ?v1) (by kernel_rfl) rfl (by kernel_rfl) (by kernel_rfl) (by kernel_rfl) (fun _ _ _ h => h) (.inl ⟨by rfl, ?y1⟩) hS0 ?_
          case y1 =>
            intro w' hS
            (have q0 := hS.2.2.1.c0; have q1 := hS.2.2.1.c1; have q2 := hS.2.2.1.c2; have q3 := hS.2.2.2.1.cell; clear hS)
            go_simp
            try with_reducible rfl
          refine anyIH_take (i := 2) (v := ?v2) (by kernel_rfl) rfl (by kernel_rfl) (by kernel_rfl) (by kernel_rfl) (fun _ _ _ h => h) (.inl ⟨by rfl, ?y2⟩) hS0 ?_
          case y2 =>
            intro w' hS
            (have q0 := hS.2.2.1.c0; have q1 := hS.2.2.1.c1; have q2 := hS.2.2.1.c2; have q3 := hS.2.2.2.1.cell; clear hS)
            go_simp
            try with_reducible rfl
          refine anyIH_take (i := 3) (v := ?v3) (by kernel_rfl) rfl (by kernel_rfl) (by kernel_rfl) (by kernel_rfl) (fun _ _ _ h => h) (.inl ⟨by rfl, ?y3⟩) hS0 ?_
          case y3 =>
            intro w' hS
            (have q0 := hS.2.2.1.c0; have q1 := hS.2.2.1.c1; have q2 := hS.2.2.1.c2; have q3 := hS.2.2.2.1.cell; clear hS)
            go_simp
            try with_reducible rfl
          refine anyIH_take (i := 4) (v := ?v4) (by kernel_rfl) rfl (by kernel_rfl) (by kernel_rfl) (by kernel_rfl) (fun _ _ _ h => h) (.inl ⟨by rfl, ?y4⟩) hS0 ?_
          case y4 =>
            intro w' hS
            (have q0 := hS.2.2.1.c0; have q1 := hS.2.2.1.c1; have q2 := hS.2.2.1.c2; have q3 := hS.2.2.2.1.cell; clear hS)
            go_simp
            try with_reducible rfl
          refine anyIH_two (i := 0) (j := 5) (by kernel_rfl) rfl rfl (fun K' hK' => ?_) (fun K' hK' => ?_)
          all_goals rw [if_pos (by rfl)]
          · go_simp
            refine hK'.out _ _ hS0 fun hS1 => ?_
            refine anyIH_one (i := 5) (by kernel_rfl) rfl (fun K' hK' => ?_)
            rw [if_pos (by rfl)]
            go_simp
            refine ⟨trivial, ?_⟩
            refine (callsIn_wide.2 (timesComeIn_c l p d r W3.drew hp hr)).mono ?_
            rintro e w3 ⟨rfl, hb3⟩
            have hb4 : Below W3.heap.size W3 w3 := (Below.refl _ _).drew.trans hb3
            have hS3 : Kps (Band (fun x => x < w.heap.size ∨ x = W2.heap.size + 1) W4.heap.size (W4.heap.size + 2 + 4)) W3 w3 ∧ Below w.heap.size w w3 ∧ Box3 w3 b3 88 (.int .i64 l) (.int .i64 p) (.int .i64 d) ∧ Boxed w3 b 2 (.int .i64 r) ∧ Boxed w3 (w.heap.size + 1) 22 (.slice aa xs.length capa) ∧ Box3 w3 w.heap.size 41 (.slice (some ⟨b8, o8, none⟩) ls.length capl) (.slice ap ps.length capp) (.slice (some ⟨b9, o9, none⟩) ds.length capd) ∧ Opens w3 rs := ⟨Kps.below hb4, HB.out.trans (hb4.mono hpB), BX.out.later hb4, boxed_later BR.out hb4, boxed_later BA.out hb4, BJ.out.later hb4, HOP.out.below hb4⟩
            have bA3 := boxed_later HBX.out hb4
            have c3 := bA3.cell
            have f3 := bA3.frozen
            rw [htt]
            clear hb3 hb4
            refine hK'.out _ _ hS3 fun hS4 => ?_
            refine anyIH_take (i := 6) (v := ?vw16) (by kernel_rfl) rfl (by kernel_rfl) (by kernel_rfl) (by kernel_rfl) (fun _ _ _ h => h) (.inl ⟨by rfl, ?yw16⟩) hS3 ?_
            case yw16 =>
              intro w' hS
              (clear hS)
              go_simp
              try with_reducible rfl
            refine anyIH_take (i := 7) (v := ?vw17) (by kernel_rfl) rfl (by kernel_rfl) (by kernel_rfl) (by kernel_rfl) (fun _ _ _ h => h) (.inl ⟨by rfl, ?yw17⟩) hS3 ?_
            case yw17 =>
              intro w' hS
              (clear hS)
              go_simp
              try with_reducible rfl
            refine anyIH_one (i := 8) (by kernel_rfl) rfl (fun K' hK' => ?_)
            rw [if_pos (by rfl)]
            go_simp
            refine hK'.out _ _ ⟨hS3.1.trans (Kps.setCell _ _ _ _ (jobs_band (by omega) (by omega) (by omega))), hS3.2.1.setCell (p := ⟨W2.heap.size, 0, none⟩) (by show w.heap.size ≤ W2.heap.size; omega) _, hS3.2.2.1.other (by omega) _, hS3.2.2.2.1.other (by omega) _, hS3.2.2.2.2.1.other (by omega) _, hS3.2.2.2.2.2.1.other (by omega) _, hS3.2.2.2.2.2.2.setCell _ _⟩ fun hS5 => ?_
            refine anyIH_done (by kernel_rfl) ?_ _
            exact ⟨hS5.1, by rw [HS.out]; exact bA3.set _, hS5.2.2.2.1, hS5.2.2.2.2.1, hS5.2.2.2.2.2.1, hS5.2.1, hS5.2.2.2.2.2.2⟩
          · skip
            go_simp
            refine ⟨trivial, ?_⟩
            refine (callsIn_wide.2 (timesComeIn_c l p d r W3.drew hp hr)).mono ?_
            rintro e w3 ⟨rfl, hb3⟩
            have hb4 : Below W3.heap.size W3 w3 := (Below.refl _ _).drew.trans hb3
            have hS3 : Kps (Band (fun x => x < w.heap.size ∨ x = W2.heap.size + 1) W4.heap.size (W4.heap.size + 2 + 4)) W3 w3 ∧ Below w.heap.size w w3 ∧ Box3 w3 b3 88 (.int .i64 l) (.int .i64 p) (.int .i64 d) ∧ Boxed w3 b 2 (.int .i64 r) ∧ Boxed w3 (w.heap.size + 1) 22 (.slice aa xs.length capa) ∧ Box3 w3 w.heap.size 41 (.slice (some ⟨b8, o8, none⟩) ls.length capl) (.slice ap ps.length capp) (.slice (some ⟨b9, o9, none⟩) ds.length capd) ∧ Opens w3 rs := ⟨Kps.below hb4, HB.out.trans (hb4.mono hpB), BX.out.later hb4, boxed_later BR.out hb4, boxed_later BA.out hb4, BJ.out.later hb4, HOP.out.below hb4⟩
            have bA3 := boxed_later HBX.out hb4
            have c3 := bA3.cell
            have f3 := bA3.frozen
            rw [htt]
            clear hb3 hb4
            refine hK'.out _ _ hS3 fun hS4 => ?_
            refine anyIH_take (i := 6) (v := ?vx6) (by kernel_rfl) rfl (by kernel_rfl) (by kernel_rfl) (by kernel_rfl) (fun _ _ _ h => h) (.inl ⟨by rfl, ?yx6⟩) hS3 ?_
            case yx6 =>
              intro w' hS
              (clear hS)
              go_simp
              try with_reducible rfl
            refine anyIH_one (i := 0) (by kernel_rfl) rfl (fun K' hK' => ?_)
            rw [if_pos (by rfl)]
            go_simp
            refine hK'.out _ _ hS3 fun hS6 => ?_
            refine anyIH_take (i := 7) (v := ?vw27) (by kernel_rfl) rfl (by kernel_rfl) (by kernel_rfl) (by kernel_rfl) (fun _ _ _ h => h) (.inl ⟨by rfl, ?yw27⟩) hS3 ?_
            case yw27 =>
              intro w' hS
              (clear hS)
              go_simp
              try with_reducible rfl
            refine anyIH_one (i := 8) (by kernel_rfl) rfl (fun K' hK' => ?_)
            rw [if_pos (by rfl)]
            go_simp
            refine hK'.out _ _ ⟨hS3.1.trans (Kps.setCell _ _ _ _ (jobs_band (by omega) (by omega) (by omega))), hS3.2.1.setCell (p := ⟨W2.heap.size, 0, none⟩) (by show w.heap.size ≤ W2.heap.size; omega) _, hS3.2.2.1.other (by omega) _, hS3.2.2.2.1.other (by omega) _, hS3.2.2.2.2.1.other (by omega) _, hS3.2.2.2.2.2.1.other (by omega) _, hS3.2.2.2.2.2.2.setCell _ _⟩ fun hS5 => ?_
            refine anyIH_done (by kernel_rfl) ?_ _
            exact ⟨hS5.1, by rw [HS.out]; exact bA3.set _, hS5.2.2.2.1, hS5.2.2.2.2.1, hS5.2.2.2.2.2.1, hS5.2.1, hS5.2.2.2.2.2.2⟩
      case done =>
        rintro D W5 hD ⟨bN1, bR1, bA1, bJ1, hB1, hop1⟩ hK
        rw [Hneed.out r] at bN1
        have cN := bN1.cell
        have cR := bR1.cell
        have hop2 : Opens W5 (D :: rs) := hop1.cons hK HLT.out hD.1
        have hlo2 : ∀ E ∈ D :: rs, w.heap.size ≤ E := fun E hE => by
          rcases List.mem_cons.1 hE with rfl | hE
          · omega
          · exact HLO.out E hE
        have hsz5 := hB1.size
        have hbW5 := bR1.lt
        clear bN bj bR2 bA2 bJ2 hB4 hop4 hop1
        by_cases hit : needOf ls ps xs i r = r
        · have hq : (needOf ls ps xs i r == r) = true := by rw [beq_iff_eq]; exact hit
          have Hit := Lib.hid hit
          clear hit
          gi_wp2
          show bodyPostM _ _ _ _ _ .ret { tmps := _, defers := (D :: rs).map recD } _
          refine retMs hop2 ⟨_, results_tmp rfl _ _ _, ?_⟩
          refine ⟨ret_int ?_, below_shutAll hB1 hlo2⟩
          rw [Hans.out, show dN - k = (dN - k - 1) + 1 by omega, Hrr.out, ansS_hit Hit.out]
        · have hq : (needOf ls ps xs i r == r) = false := by rw [beq_eq_false_iff_ne]; exact hit
          have Hit := Lib.hid hit
          clear hit
          gi_wp2
          have hans2 : ansOf ls ps ds xs i = ansS (needOf ls ps xs i) (dN - (k + 1)) (((k + 1 : Nat) : Int) + 1) := by
            rw [Hans.out, show dN - k = (dN - (k + 1)) + 1 by omega, Hrr.out, ansS_step Hit.out]; congr 1; have := Hrr.out; omega
          have hr1 : r + 1 = ((k + 1 : Nat) : Int) + 1 := by have := Hrr.out; omega
          rw [hr1]
          refine ⟨⟨D :: rs, k + 1, W5.heap.size, _, _, _, _, _, _, _, _, _, _, _, _, _, _, _, _, _, _, _, _, _, _, _, _, _, _, _, _, _, _, _, _, _, _, _, _, _, ⟨by omega, by simp [Hdl.out], by omega, hans2, Boxed.new _ _ _, bA1.alloc _, bJ1.alloc _, hB1.alloc hsz5 _, hop2.alloc _, hlo2⟩, rfl⟩, ?_⟩
          simp only [List.length_cons, List.length_map, Hdl.out]; omega
      case stop =>
        rintro D c k W hD hk h
        exact h.elim
    · have hkd2 : k = dN := by omega
      have hle : (dN : Int) < (k : Int) + 1 := by omega
      have hlo2 := hdlo
      have HAN := Lib.hid (show ansOf ls ps ds xs i = -1 by rw [Hans.out, show dN - k = 0 by omega]; rfl)
      gi_wp2_with fail
      gi_quiet (fail)
      gi_wp2
      have hop2 : Opens (W.drewN nq) rs := ⟨hop.nodup, hop.all⟩
      refine retMs hop2 ⟨_, results_tmp rfl _ _ _, ?_⟩
      exact ⟨ret_int HAN.out.symm, below_shutAll (below_drewN hB1 _) hlo2⟩

end Go.Proofs.Ytmmpoaphjjpjaaa
