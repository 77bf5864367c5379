/-
  RepeatTurns: slices.Repeat; RepeatTurns of both.
  Conditions: lists of at most 1048576 elements.
-/
import Derived.Test.YtgndbifcncklgaaShift
import Derived.Test.YtgndbifcncklgaaShelf
import Derived.Laws.CopyOwn
namespace Go.Proofs.Ytgndbifcncklgaa
open Go.RowKit Go.Shelf

/-- ts, k times -/
def repL (ts : List Int) : Nat → List Int
  | 0 => []
  | k + 1 => repL ts k ++ ts
theorem repL_length (ts : List Int) (k : Nat) : (repL ts k).length = k * ts.length := by
  induction k with
  | zero => simp [repL]
  | succ k ih => simp [repL, ih, Nat.add_mul]
theorem nth_repL (ts : List Int) (k : Nat) {m : Nat} (h : m < k * ts.length) : nth (repL ts k) m = nth ts (m % ts.length) := by
  induction k generalizing m with
  | zero => simp at h
  | succ k ih =>
    rw [Nat.add_mul, Nat.one_mul] at h
    unfold repL
    by_cases hm : m < k * ts.length
    · rw [nth_append_left (by rw [repL_length]; exact hm), ih hm]
    · rw [nth_append_right (by rw [repL_length]; omega), repL_length]
      congr 1
      rw [show m = (m - k * ts.length) + ts.length * k by rw [Nat.mul_comm ts.length k]; omega, Nat.add_mul_mod_self_left]
      rw [Nat.mul_comm ts.length k, Nat.add_sub_cancel, Nat.mod_eq_of_lt (by omega)]
/-- the first n of N numbers of the round, and zeros behind them -/
def repTo (ts : List Int) (N n : Nat) : List Int := (List.range N).map fun (j : Nat) => if j < n then nth ts (j % ts.length) else 0
theorem repTo_length (ts : List Int) (N n : Nat) : (repTo ts N n).length = N := by simp [repTo]
theorem nth_repTo (ts : List Int) {N n m : Nat} (h : m < N) : nth (repTo ts N n) m = if m < n then nth ts (m % ts.length) else 0 := by simp [nth, repTo, h]
theorem repTo_all (ts : List Int) (k : Nat) {n : Nat} (h : k * ts.length ≤ n) : repTo ts (k * ts.length) n = repL ts k := by
  refine ext_nth (by rw [repTo_length, repL_length]) fun m hm => ?_
  rw [repTo_length] at hm
  rw [nth_repTo _ hm, nth_repL _ _ hm, if_pos (by omega)]
theorem repTo_zero (ts : List Int) (N : Nat) : repTo ts N 0 = List.replicate N 0 := by
  refine List.ext_getElem (by simp [repTo]) fun m h1 h2 => ?_
  simp [repTo]
/-- the block g holds just the ints zs -/
def RowI (W : World) (g : Nat) (zs : List Int) : Prop := W.heap[g]? = some (.cells (zs.map (Value.int .i64)).toArray 2 (0, 0))
theorem RowI.own {W : World} {B g : Nat} {zs : List Int} (h : RowI W g zs) (hB : B ≤ g) (hm : zs.length ≤ maxLen) : OwnI B W (.slice (some ⟨g, 0, none⟩) zs.length zs.length) zs :=
  ⟨by simp, .inr ⟨g, zs.length, _, rfl, hB, h, Nat.le_refl _, hm, by simp, List.take_of_length_le (by simp)⟩⟩
theorem OwnI.row {B g n : Nat} {W : World} {zs : List Int} (h : OwnI B W (.slice (some ⟨g, 0, none⟩) n n) zs) : RowI W g zs := by
  have hl : zs.length = n := by obtain ⟨a, c, e, _⟩ := h.ints; simp at e; omega
  obtain ⟨_, h2⟩ := h
  rcases h2 with ⟨e, _⟩ | ⟨g', cap, cur, e, hg, hh, hn, hm, hs, ht⟩
  · simp at e
  · simp only [Value.slice.injEq, Option.some.injEq, Addr.mk.injEq, and_true] at e
    obtain ⟨rfl, _, rfl⟩ := e
    have hc : cur = (zs.map (Value.int .i64)).toArray := by
      rw [← ht, List.take_of_length_le (by simp; omega)]
    unfold RowI
    rw [hh, hc]

theorem rep_step {ts : List Int} {N n m : Nat} (hm : m ≤ n) (hnm : n + m ≤ N) (hd : n % ts.length = 0) :
    (repTo ts N n).take n ++ (repTo ts N n).take m ++ (repTo ts N n).drop (n + m) = repTo ts N (n + m) := by
  have h1 : ((repTo ts N n).take n).length = n := by rw [List.length_take, repTo_length]; omega
  have h2 : ((repTo ts N n).take m).length = m := by rw [List.length_take, repTo_length]; omega
  have h3 : ((repTo ts N n).take n ++ (repTo ts N n).take m).length = n + m := by rw [List.length_append, h1, h2]
  refine ext_nth (by rw [List.length_append, h3, List.length_drop, repTo_length, repTo_length]; omega) fun k hk => ?_
  have hk' : k < N := by rw [List.length_append, h3, List.length_drop, repTo_length] at hk; omega
  rw [nth_repTo _ hk']
  by_cases c2 : k < n + m
  · rw [nth_append_left (by rw [h3]; exact c2), if_pos c2]
    by_cases c1 : k < n
    · rw [nth_append_left (by rw [h1]; exact c1), nth_take c1, nth_repTo _ hk', if_pos c1]
    · rw [nth_append_right (by rw [h1]; omega), h1, nth_take (by omega), nth_repTo _ (by omega), if_pos (by omega)]
      congr 1
      conv => rhs; rw [show k = (k - n) + n by omega, Nat.add_mod, hd, Nat.add_zero, Nat.mod_mod]
  · rw [nth_append_right (by rw [h3]; omega), h3, nth_drop, show n + m + (k - (n + m)) = k by omega, nth_repTo _ hk', if_neg (by omega), if_neg c2]
theorem rep_first {ts : List Int} {N : Nat} (hn : ts.length ≤ N) : (repTo ts N 0).take 0 ++ ts ++ (repTo ts N 0).drop (0 + ts.length) = repTo ts N ts.length := by
  refine ext_nth (by simp [repTo_length]; omega) fun m hm => ?_
  have hm' : m < N := by simp [repTo_length] at hm; omega
  rw [nth_repTo _ hm', List.take_zero, List.nil_append, Nat.zero_add]
  by_cases c1 : m < ts.length
  · rw [nth_append_left c1, if_pos c1, Nat.mod_eq_of_lt c1]
  · rw [nth_append_right (by omega), nth_drop, show ts.length + (m - ts.length) = m by omega, nth_repTo _ hm', if_neg (by omega), if_neg c1]
theorem copyI {W : World} {g o dLen dCap sLen sCap : Nat} {a : Addr} {zs cs : List Int} (hR : RowI W g zs) (hn : cs.length = Nat.min sLen dLen) (hsrc : ∀ j v, (cs.map (Value.int .i64))[j]? = some v → W.cell? (a.add j) = some v) (hfit : o + cs.length ≤ zs.length) :
    ∃ W', (Builtin.copy_ #[24, 24] 3 #[.slice (some ⟨g, o, none⟩) dLen dCap, .slice (some a) sLen sCap]).run Try.prog W = .ok (.int .i64 ((cs.length : Nat) : Int)) W' ∧ RowI W' g (zs.take o ++ cs ++ zs.drop (o + cs.length)) ∧ ∀ (B : Nat) (w0 : World), B ≤ g → Below B w0 W → Below B w0 W' := by
  obtain ⟨i0, hi, hz0, hz1, hz2⟩ := info_parts Try.infoI
  have hsz : (Try.prog.info? 2).map (·.size) = some 1 := by rw [hi]; simp [hz1]
  refine ⟨_, run_copy_row (P := Try.prog) W 24 24 3 2 g o dLen dCap a sLen sCap ((zs.map (Value.int .i64)).toArray) 2 (cs.map (Value.int .i64)) Try.underlying24 hsz hR (by simpa using hn) hsrc (by simpa using hfit) (cells_one cs) |>.trans (by simp [goInt]; rfl), ?_, fun B w0 hB hb => below_setRow hb hB _⟩
  unfold RowI
  rw [setRow_heap W g _ _ 2 _ hR]
  simp [List.map_take, List.map_drop]

set_option maxRecDepth 100000 in
set_option maxHeartbeats 8000000 in
theorem repeat_c (sv : Value) (ts : List Int) (q : Nat) (w : World) (hI : Ints w.heap.size w sv ts) (h0 : 0 < ts.length) (hl : ts.length ≤ 120) (hq : 0 < q) (hq2 : q ≤ 120) :
    Calls Try.prog 80 #[sv, .int .i64 q] w (GivesI w (repL ts q) id) := by
  obtain ⟨i0, hi, hz0, hz1, hz2⟩ := info_parts Try.infoI
  obtain ⟨a, cap, rfl⟩ := hI.shape
  have hN : ts.length * q ≤ 120 * 120 := Nat.mul_le_mul hl hq2
  go_enter Try.func80, Try.ntmps80
  go_wp2_with fail
  refine (Go.Proofs.Try.bits_Mul ts.length q (by omega) (by omega) w).mono ?_
  rintro e w1 ⟨rfl, hw⟩
  subst w1
  have hhi : ts.length * q / 18446744073709551616 = 0 := Nat.div_eq_of_lt (by omega)
  have hlo : ts.length * q % 18446744073709551616 = ts.length * q := Nat.mod_eq_of_lt (by omega)
  have hpos : 0 < ts.length * q := Nat.mul_pos h0 hq
  obtain ⟨N, hNe⟩ : ∃ N, ts.length * q = N := ⟨_, rfl⟩
  try simp only [hhi, hlo]
  rw [hNe] at hN hpos ⊢
  have HN := Lib.hid hNe
  clear hhi hlo hNe
  go_wp2_with (at_make; refine wpList_make_full _ rfl _ _ 24 rfl w.heap.size 2 i0 (.int .i64 0) 1 Try.underlying24 hi hz0 hz1 .i64 .i64 _ _ N rfl rfl rfl rfl ?c1 ?c2 ?c3 ?_)
  case c1 => rw [hz2]; omega
  case c2 => unfold maxLen; omega
  case c3 => exact Nat.le_refl _
  intro w1 hown hgrow
  have ho1 := ownI_made hown
  rw [← repTo_zero ts N] at ho1
  have hR1 := ho1.row
  have hB1 : Below w.heap.size w w1 := (Below.refl _ w).grown hgrow (Nat.le_refl _) (by simp)
  clear hown hgrow ho1
  obtain ⟨b, off, ea, hb, _⟩ := hI.at_ h0
  subst ea
  have hLN : ts.length ≤ N := by rw [← HN.out]; exact Nat.le_mul_of_pos_right _ hq
  have hIb := hI.below hB1
  obtain ⟨w2, hrun, hR2, hB2⟩ := copyI (g := w.heap.size) (o := 0) (dLen := N) (dCap := N) (sLen := ts.length) (sCap := cap) (a := ⟨b, off, none⟩) (cs := ts) hR1 (Nat.min_eq_left hLN).symm (cells_src hIb) (by rw [repTo_length]; omega)
  rw [rep_first hLN] at hR2
  have hB3 := hB2 w.heap.size w (Nat.le_refl _) hB1
  clear hB2
  go_wp2
  have hNm : N % ts.length = 0 := by rw [← HN.out]; exact Nat.mul_mod_right _ _
  have HNm := Lib.hid hNm
  clear hrun hR1 hB1 hIb hNm
  go_loopw [8] (fun n wr => ∃ m : Nat, 0 < m ∧ m ≤ N ∧ m % ts.length = 0 ∧ n = .int .i64 m ∧ RowI wr w.heap.size (repTo ts N m) ∧ Below w.heap.size w wr) (fun n _ => N - (intOf n).toNat)
  case atStart => exact ⟨ts.length, h0, hLN, Nat.mod_self _, rfl, hR2, hB3⟩
  case round =>
    obtain ⟨m, hm0, hm, hmd, rfl, hRm, hBm⟩ := hrel
    have Hmd := Lib.hid hmd
    clear hmd hR2 hB3
    by_cases hlt : m < N
    · have hne : ¬ N = m := by omega
      have hRd : RowI wr.drew w.heap.size (repTo ts N m) := hRm
      have hod := hRd.own (Nat.le_refl _) (by rw [repTo_length]; unfold maxLen; omega)
      rw [repTo_length] at hod
      have hId := hod.ints
      obtain ⟨k, hk⟩ : ∃ k, min m (N - m) = k := ⟨_, rfl⟩
      have hlk : ((repTo ts N m).take k).length = k := by rw [List.length_take, repTo_length]; omega
      obtain ⟨w3, hrun, hR3, hB4⟩ := copyI (g := w.heap.size) (o := m) (dLen := N - m) (dCap := N - m) (sLen := m) (sCap := N) (a := ⟨w.heap.size, 0, none⟩) (cs := (repTo ts N m).take k) hRd (by rw [hlk, ← hk]) (cells_src (ints_take hId (by rw [repTo_length]; omega))) (by rw [hlk, repTo_length]; omega)
      rw [hlk] at hrun hR3
      rw [rep_step (by omega) (by omega) Hmd.out] at hR3
      have hB5 := hB4 w.heap.size w (Nat.le_refl _) hBm.drew
      have hmk : (m + k) % ts.length = 0 := by
        by_cases c : m ≤ N - m
        · rw [show k = m by omega, Nat.add_mod, Hmd.out]; rfl
        · rw [show m + k = N by omega, HNm.out]
      have Hmk := Lib.hid hmk
      have hk1 : 0 < k := by omega
      have hk2 : m + k ≤ N := by omega
      clear hB4 hod hId hRd hlk hk hmk hRm hBm
      go_wp2
      go_region
      go_wp2
      go_roundw
      case rel => exact ⟨m + k, by omega, hk2, Hmk.out, by simp, hR3, hB5⟩
      case measure => simp [intOf]; omega
    · obtain rfl : m = N := by omega
      have hrl : repTo ts m m = repL ts q := by
        have := repTo_all ts q (n := m) (by rw [Nat.mul_comm, HN.out]; exact Nat.le_refl _)
        rw [Nat.mul_comm, HN.out] at this; exact this
      have hod := hRm.own (Nat.le_refl _) (by rw [repTo_length]; unfold maxLen; omega)
      rw [repTo_length, hrl] at hod
      clear hrl
      go_wp2
      go_ret
      exact ⟨_, rfl, hod, hBm⟩

/-! ### RepeatTurns -/
def repOk (ts : List Int) (n : Int) : Bool := turnsOk ts 8 && inB n 1 120
def repC (ts : List Int) (n : Int) : Int := if repOk ts n then if 120 < (ts.length : Int) * n then 3 else 0 else 2
def repR (ts : List Int) (n : Int) : List Int := if repC ts n = 0 then repL ts n.toNat else []
theorem repR_len (ts : List Int) (n : Int) : (repR ts n).length * 8 ≤ 140737488351232 := by
  unfold repR; split
  · rename_i h
    unfold repC at h
    split at h
    · rename_i h2
      unfold repOk at h2
      rw [Bool.and_eq_true, inB_true] at h2
      have h3 := turnsOk_len h2.1
      have h4 : n.toNat * ts.length ≤ 120 * 120 := Nat.mul_le_mul (by omega) h3.2
      rw [repL_length]; omega
    · cases h
  · simp

end Go.Proofs.Ytgndbifcncklgaa
