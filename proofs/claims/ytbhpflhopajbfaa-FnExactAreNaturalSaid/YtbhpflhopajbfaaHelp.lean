/-
  The contracts of the laws' own helpers: sizes, copies, comparisons, marks.
  Conditions: lists of at most 1048576 elements where a copy is made, less than 2^60 elsewhere.
-/
import Derived.Test.YtbhpflhopajbfaaBase
namespace Go.Proofs.Ytbhpflhopajbfaa
open Go.RowKit Go.Shelf

theorem ret_bool {a b : Bool} (h : a = b) : Ending.returned (.bool a) = .returned (.bool b) := by rw [h]
theorem ret_int {k : IntKind} {a b : Int} (h : a = b) : Ending.returned (.int k a) = .returned (.int k b) := by rw [h]

/-! ### sizes -/
def szI (n : Nat) (left : Int) : Int := if left - n < 0 then -1 else left - n
set_option maxHeartbeats 400000 in
theorem szInt64S_c (a : Option Addr) (n cap : Nat) (left : Int) (w : World) (h0 : 0 ≤ left) (h1 : left ≤ 1048576) (hn : n ≤ 9223372036854775807) :
    Calls Try.prog 64 #[.slice a n cap, .int .i64 left] w fun e w' => e = .returned (.int .i64 (szI n left)) ∧ w = w' := by
  by_cases h : left - n < 0
  · have hm : szI n left = -1 := if_pos h
    go_enter Try.func64, Try.ntmps64
    go_wp2
    go_ret
    exact ⟨ret_int hm.symm, rfl⟩
  · have hm : szI n left = left - n := if_neg h
    have Hm := Lib.hid hm
    clear hm
    go_enter Try.func64, Try.ntmps64
    go_wp2
    go_ret
    exact ⟨ret_int Hm.out.symm, rfl⟩

set_option maxHeartbeats 400000 in
theorem szTasks_c (a : Option Addr) (n cap : Nat) (left : Int) (w : World) (h0 : 0 ≤ left) (h1 : left ≤ 1048576) (hn : n ≤ 9223372036854775807) :
    Calls Try.prog 15 #[.agg #[.slice a n cap], .int .i64 left] w fun e w' => e = .returned (.int .i64 (szI n left)) ∧ Below w.heap.size w w' := by
  have hs : -1 ≤ szI n left ∧ szI n left ≤ left := by unfold szI; split <;> omega
  by_cases h : szI n left < 0
  · have hm : szI n left = -1 := by unfold szI at h ⊢; split <;> omega
    have Hm := Lib.hid hm
    clear hm
    go_enter Try.func15, Try.ntmps15
    go_wp2_with (go_at_call 64; refine (szInt64S_c _ _ _ _ _ (by omega) (by omega) hn).mono ?_; rintro e w' ⟨rfl, rfl⟩)
    go_ret
    exact ⟨ret_int Hm.out.symm, (Below.refl _ _).alloc (Nat.le_refl _) _⟩
  · go_enter Try.func15, Try.ntmps15
    go_wp2_with (go_at_call 64; refine (szInt64S_c _ _ _ _ _ (by omega) (by omega) hn).mono ?_; rintro e w' ⟨rfl, rfl⟩)
    go_ret
    exact ⟨rfl, (Below.refl _ _).alloc (Nat.le_refl _) _⟩

/-! ### copies -/
/-- the first k elements of zs, and zeros behind them -/
def fillTo (zs : List Int) (k : Nat) : List Int := zs.take k ++ List.replicate (zs.length - k) 0
theorem fillTo_length (zs : List Int) {k : Nat} (h : k ≤ zs.length) : (fillTo zs k).length = zs.length := by simp [fillTo]; omega
theorem fillTo_zero (zs : List Int) : fillTo zs 0 = List.replicate zs.length 0 := by simp [fillTo]
theorem fillTo_all (zs : List Int) : fillTo zs zs.length = zs := by simp [fillTo]
theorem fillTo_succ (zs : List Int) {k : Nat} (h : k < zs.length) : fillTo zs (k + 1) = (fillTo zs k).set k (nth zs k) := by
  apply List.ext_getElem?
  intro i
  unfold fillTo
  rw [List.getElem?_set]
  by_cases e : k = i
  · subst e
    simp only [List.length_append, List.length_take, List.length_replicate, if_true]
    rw [if_pos (by omega), List.getElem?_append_left (by simp; omega)]
    simp [getElem?_nth h]
  · rw [if_neg e]
    by_cases hi : i < k
    · rw [List.getElem?_append_left (by simp; omega), List.getElem?_append_left (by simp; omega)]
      simp [hi, show i < k + 1 by omega]
    · rw [List.getElem?_append_right (by simp; omega), List.getElem?_append_right (by simp; omega)]
      simp only [List.getElem?_replicate, List.length_take]
      split <;> split <;> first | rfl | omega

theorem Try.infoI : (Try.prog.info? 2).map (fun i => (i.zero, i.size, i.bytes)) = some (some (.int .i64 0), 1, 8) := by kernel_rfl
theorem madeI (n : Nat) : (madeCells #[Value.int .i64 0] n).toList = (List.replicate n (0 : Int)).map (.int .i64) := by
  have := toList_madeCells_one (.int .i64 0) n
  simpa [Value.cells] using this

set_option maxRecDepth 100000 in
set_option maxHeartbeats 1000000 in
theorem toInt64S_c (sv : Value) (zs : List Int) (w : World) (hI : Ints w.heap.size w sv zs) (hl : zs.length ≤ 1048576) :
    Calls Try.prog 45 #[sv] w (GivesI w zs id) := by
  obtain ⟨i0, hi, hz0, hz1, hz2⟩ := info_parts Try.infoI
  obtain ⟨a, cap, rfl⟩ := hI.shape
  go_enter Try.func45, Try.ntmps45
  go_wp2_with (at_make; refine wpList_make_full _ rfl (.tmp 6) (.tmp 6) 22 rfl w.heap.size 2 i0 (.int .i64 0) 1 Try.underlying22 hi hz0 hz1 .i64 .i64 _ _ zs.length rfl rfl rfl rfl ?c1 ?c2 ?c3 ?_)
  case c1 => rw [hz2]; omega
  case c2 => unfold maxLen; omega
  case c3 => exact Nat.le_refl _
  intro w1 hown hgrow
  have ho1 : OwnI w.heap.size w1 (.slice (some ⟨w.heap.size, 0, none⟩) zs.length zs.length) (fillTo zs 0) := by
    unfold OwnI
    rw [fillTo_length _ (Nat.zero_le _), fillTo_zero, ← madeI]
    exact hown
  have hB1 : Below w.heap.size w w1 := (Below.refl _ _).grown hgrow (Nat.le_refl _) (by simp)
  clear hown hgrow
  go_wp2
  go_loopw [4] (fun i wr => ∃ k : Nat, k ≤ zs.length ∧ i = .int .i64 k ∧ OwnI w.heap.size wr (.slice (some ⟨w.heap.size, 0, none⟩) zs.length zs.length) (fillTo zs k) ∧ Below w.heap.size w wr)
    (fun i _ => zs.length - (intOf i).toNat)
  case atStart => exact ⟨0, Nat.zero_le _, rfl, ho1, hB1⟩
  case round =>
    obtain ⟨k, hk, rfl, ho, hB⟩ := hrel
    by_cases hlt : k < zs.length
    · obtain ⟨b, off, rfl, hb, hc⟩ := (hI.below hB).at_ hlt
      have hcx := hc k hlt
      have hcy := ho.cellAt (j := k) (by rw [fillTo_length _ hk]; exact hlt)
      have hfy := ho.frozen k
      clear hc
      go_wp2
      go_roundw
      case rel => exact ⟨k + 1, by omega, by simp, by rw [fillTo_succ _ hlt]; exact (ho.stored k _).1, hB.setCell (p := ⟨w.heap.size, k, none⟩) (Nat.le_refl _) _⟩
      case measure => simp [intOf]; omega
    · obtain rfl : k = zs.length := by omega
      go_wp2
      go_ret
      exact ⟨_, rfl, by rw [fillTo_all] at ho; exact ho, hB⟩

theorem toTasks_c (sv : Value) (zs : List Int) (w : World) (hI : Ints w.heap.size w sv zs) (hl : zs.length ≤ 1048576) :
    Calls Try.prog 17 #[.agg #[sv]] w (GivesI w zs fun v => .agg #[v]) := by
  obtain ⟨a, cap, rfl⟩ := hI.shape
  have hB0 : Below w.heap.size w (((w.alloc (.cells #[.slice a zs.length cap] 24)).alloc (.cells #[.slice none 0 0] 28)).alloc (.cells #[.slice none 0 0] 28)) :=
    (((Below.refl _ w).alloc (Nat.le_refl _) _).alloc (by simp) _).alloc (by simp; omega) _
  have hI3 := hI.later hB0
  go_enter Try.func17, Try.ntmps17
  go_wp2_with fail
  refine (toInt64S_c _ zs _ hI3 hl).mono ?_
  rintro e w1 ⟨v, rfl, ho, hb⟩
  simp only [World.size_alloc] at hb ho
  obtain ⟨a1, c1, rfl⟩ := ho.ints.shape
  have k1 : w1.cell? ⟨w.heap.size + 1, 0, none⟩ = some (.slice none 0 0) := (hb.cell (p := ⟨w.heap.size + 1, 0, none⟩) (by simp)).trans (by simp [go_sem])
  have k2 : w1.cell? ⟨w.heap.size + 1 + 1, 0, none⟩ = some (.slice none 0 0) := (hb.cell (p := ⟨w.heap.size + 1 + 1, 0, none⟩) (by simp)).trans (by simp [go_sem])
  have f1 : w1.frozen? ⟨w.heap.size + 1, 0, none⟩ = false := (hb.frozen (p := ⟨w.heap.size + 1, 0, none⟩) (by simp)).trans (by simp [go_sem])
  have f2 : w1.frozen? ⟨w.heap.size + 1 + 1, 0, none⟩ = false := (hb.frozen (p := ⟨w.heap.size + 1 + 1, 0, none⟩) (by simp)).trans (by simp [go_sem])
  go_wp2
  have hB1 : Below w.heap.size w w1 := hB0.trans (hb.mono (by omega))
  have hs1 : (w.heap.size + 1 + 1 + 1) ≤ w1.heap.size := by have := hb.size; simpa using this
  refine bodyPost_ret (v := .agg #[.slice a1 zs.length c1]) (by simp [results, Try.results17, go_sem, k1]) rfl ⟨_, rfl, ?_, ?_⟩
  · exact ((ho.kept (grownBy_setCell' _ _ _) (.inr fun e => by have := (ho.blk _ e).1; omega)).kept (grownBy_setCell' _ _ _) (.inr fun e => by have := (ho.blk _ e).1; omega)).base (by omega)
  · exact (hB1.setCell (p := ⟨w.heap.size + 1 + 1, 0, none⟩) (by simp; omega) _).setCell (p := ⟨w.heap.size + 1, 0, none⟩) (by simp) _

/-! ### comparisons -/
set_option maxRecDepth 100000 in
set_option maxHeartbeats 1000000 in
theorem eqInt64S_c (sv tv : Value) (xs ys : List Int) (w : World) (hX : Ints w.heap.size w sv xs) (hY : Ints w.heap.size w tv ys) (hl : xs.length * 8 ≤ 140737488351232) :
    Calls Try.prog 24 #[sv, tv] w fun e w' => e = .returned (.bool (decide (xs = ys))) ∧ Below w.heap.size w w' := by
  obtain ⟨a, cap, rfl⟩ := hX.shape
  obtain ⟨a2, cap2, rfl⟩ := hY.shape
  by_cases hlen : xs.length = ys.length
  · have hq : ((xs.length : Int) != (ys.length : Int)) = false := by rw [hlen]; simp
    have Hl := Lib.hid hlen
    clear hlen
    go_enter Try.func24, Try.ntmps24
    go_wp2
    go_loopw [5] (fun i wr => ∃ k : Nat, k ≤ xs.length ∧ i = .int .i64 k ∧ (∀ j, j < k → nth xs j = nth ys j) ∧ Below w.heap.size w wr)
      (fun i _ => xs.length - (intOf i).toNat)
    case atStart => exact ⟨0, Nat.zero_le _, rfl, by simp, Below.refl _ _⟩
    case round =>
      obtain ⟨k, hk, rfl, hall, hB⟩ := hrel
      by_cases hlt : k < xs.length
      · obtain ⟨b, off, rfl, hb, hc⟩ := (hX.below hB).at_ hlt
        have hlt2 : k < ys.length := by have := Hl.out; omega
        obtain ⟨b2, off2, rfl, hb2, hc2⟩ := (hY.below hB).at_ hlt2
        have hcx := hc k hlt
        have hcy := hc2 k hlt2
        have hi1 : (k : Int) < (xs.length : Int) := by omega
        have hi2 : (k : Int) < (ys.length : Int) := by omega
        clear hc hc2
        by_cases he : nth xs k = nth ys k
        · have hq2 : (nth xs k != nth ys k) = false := by simp [he]
          have He := Lib.hid he
          clear he
          go_wp2
          go_quiet (fail)
          go_wp2
          go_roundw
          case rel => exact ⟨k + 1, by omega, by simp, fun j hj => by by_cases e : j = k; exact e ▸ He.out; exact hall j (by omega), below_drewN hB _⟩
          case measure => simp [intOf]; omega
        · have hq2 : (nth xs k != nth ys k) = true := by simpa using he
          go_wp2
          go_quiet (fail)
          go_wp2
          go_ret
          exact ⟨ret_bool (decide_eq_false (fun e => he (by rw [e]))).symm, below_drewN hB _⟩
      · obtain rfl : k = xs.length := by omega
        go_wp2
        go_ret
        exact ⟨ret_bool (decide_eq_true (ext_nth Hl.out hall)).symm, hB⟩
  · have hq : ((xs.length : Int) != (ys.length : Int)) = true := by rw [bne_iff_ne]; omega
    go_enter Try.func24, Try.ntmps24
    go_wp2
    go_ret
    exact ⟨ret_bool (decide_eq_false (fun e => hlen (by rw [e]))).symm, Below.refl _ _⟩

theorem eqInt64S_d (d : Bool) (sv tv : Value) (xs ys : List Int) (w : World) (hX : Ints w.heap.size w sv xs) (hY : Ints w.heap.size w tv ys) (hl : xs.length * 8 ≤ 140737488351232) (hd : decide (xs = ys) = d) :
    Calls Try.prog 24 #[sv, tv] w fun e w' => e = .returned (.bool d) ∧ Below w.heap.size w w' := by
  subst hd; exact eqInt64S_c sv tv xs ys w hX hY hl

set_option maxRecDepth 100000 in
set_option maxHeartbeats 1000000 in
theorem eqTasks_d (d : Bool) (sv tv : Value) (xs ys : List Int) (w : World) (hX : Ints w.heap.size w sv xs) (hY : Ints w.heap.size w tv ys) (hl : xs.length * 8 ≤ 140737488351232) (hd : decide (xs = ys) = d) :
    Calls Try.prog 19 #[.agg #[sv], .agg #[tv]] w fun e w' => e = .returned (.bool d) ∧ Below w.heap.size w w' := by
  obtain ⟨a, cap, rfl⟩ := hX.shape
  obtain ⟨a2, cap2, rfl⟩ := hY.shape
  have hB0 : Below w.heap.size w ((w.alloc (.cells #[.slice a xs.length cap] 28)).alloc (.cells #[.slice a2 ys.length cap2] 28)) :=
    ((Below.refl _ w).alloc (Nat.le_refl _) _).alloc (by simp) _
  have hX3 := hX.later hB0
  have hY3 := hY.later hB0
  have Hd := Lib.hid hd
  clear hd
  cases d
  · go_enter Try.func19, Try.ntmps19
    go_wp2_with fail
    refine (eqInt64S_d false _ _ xs ys _ hX3 hY3 hl Hd.out).mono ?_
    rintro e w1 ⟨rfl, hb⟩
    go_wp2
    go_ret
    exact ⟨rfl, hB0.trans (hb.mono (by simp; omega))⟩
  · go_enter Try.func19, Try.ntmps19
    go_wp2_with fail
    refine (eqInt64S_d true _ _ xs ys _ hX3 hY3 hl Hd.out).mono ?_
    rintro e w1 ⟨rfl, hb⟩
    go_wp2
    go_ret
    exact ⟨rfl, hB0.trans (hb.mono (by simp; omega))⟩

/-! ### marks -/
/-- k, k + 1, .. : n numbers -/
def ups (k : Int) (n : Nat) : List Int := (List.range n).map fun (j : Nat) => k + (j : Int)
theorem ups_length (k : Int) (n : Nat) : (ups k n).length = n := by simp [ups]
theorem nth_ups (k : Int) {n j : Nat} (h : j < n) : nth (ups k n) j = k + j := by simp [nth, ups, h]
/-- the first j of them over the elements of zs -/
def upsTo (k : Int) (zs : List Int) (j : Nat) : List Int := (List.range zs.length).map fun (i : Nat) => if i < j then k + (i : Int) else nth zs i
theorem upsTo_length (k : Int) (zs : List Int) (j : Nat) : (upsTo k zs j).length = zs.length := by simp [upsTo]
theorem upsTo_zero (k : Int) (zs : List Int) : upsTo k zs 0 = zs := by
  apply ext_nth (upsTo_length _ _ _)
  intro i hi
  rw [upsTo_length] at hi
  simp [nth, upsTo, hi]
theorem upsTo_all (k : Int) (zs : List Int) : upsTo k zs zs.length = ups k zs.length := by
  unfold upsTo ups
  refine List.map_congr_left fun i hi => ?_
  rw [if_pos (by simpa using hi)]
theorem upsTo_succ (k : Int) (zs : List Int) {j : Nat} (h : j < zs.length) : upsTo k zs (j + 1) = (upsTo k zs j).set j (k + j) := by
  apply List.ext_getElem?
  intro i
  rw [List.getElem?_set]
  by_cases e : j = i
  · subst e; simp [upsTo, h]
  · rw [if_neg e]
    by_cases hi : i < zs.length
    · simp only [upsTo, List.getElem?_map, List.getElem?_range hi, Option.map_some]
      by_cases h2 : i < j
      · rw [if_pos (by omega), if_pos h2]
      · rw [if_neg (by omega), if_neg h2]
    · rw [List.getElem?_eq_none (by rw [upsTo_length]; omega), List.getElem?_eq_none (by rw [upsTo_length]; omega)]

theorem grownBy_tr {a w w' : World} {row : Option Nat} (h : a.grownBy w row) (k : w.grownBy w' row) : a.grownBy w' row :=
  ⟨k.os.trans h.os, k.tape.trans h.tape, k.output.trans h.output, Nat.le_trans h.size k.size, fun i hi hr => (k.block i (Nat.lt_of_lt_of_le hi h.size) hr).trans (h.block i hi hr)⟩
def Marks (B : Nat) (w : World) (v : Value) (n : Nat) (k : Int) (e : Ending) (w' : World) : Prop :=
  e = .returned (.int .i64 (k + n)) ∧ OwnI B w' v (ups k n) ∧ w.grownBy w' v.ownBlock

set_option maxRecDepth 100000 in
set_option maxHeartbeats 1000000 in
theorem markInt64S_c (B : Nat) (v : Value) (zs : List Int) (k : Int) (w : World) (ho : OwnI B w v zs) (hl : zs.length * 8 ≤ 140737488351232) (hk0 : 0 ≤ k) (hk1 : k ≤ 1099511627776) :
    Calls Try.prog 27 #[v, .int .i64 k] w (Marks B w v zs.length k) := by
  by_cases hz : zs.length = 0
  · obtain ⟨a, c, rfl⟩ := ho.ints.shape
    have hfin : Marks B w (.slice a zs.length c) zs.length k (.returned (.int .i64 k)) w :=
      ⟨ret_int (by omega), by have := List.length_eq_zero_iff.1 hz; subst this; exact ho, ⟨rfl, rfl, rfl, Nat.le_refl _, fun _ _ _ => rfl⟩⟩
    have Hf := Lib.hid hfin
    clear hfin
    rw [hz] at Hf ⊢
    clear ho
    go_enter Try.func27, Try.ntmps27
    go_wp2
    go_loopw [5, 1] (fun i q wr => i = .int .i64 0 ∧ q = .int .i64 k ∧ wr = w) (fun _ _ _ => 0)
    case atStart => exact ⟨rfl, rfl, rfl⟩
    case round =>
      obtain ⟨rfl, rfl, rfl⟩ := hrel
      go_wp2
      go_ret
      exact Hf.out
  · obtain ⟨g, cap, rfl, hBg, hgl⟩ := ho.shape (by omega)
    go_enter Try.func27, Try.ntmps27
    go_wp2
    go_loopw [5, 1] (fun i q wr => ∃ j : Nat, j ≤ zs.length ∧ i = .int .i64 j ∧ q = .int .i64 (k + j) ∧ OwnI B wr (.slice (some ⟨g, 0, none⟩) zs.length cap) (upsTo k zs j) ∧ w.grownBy wr (some g))
      (fun i _ _ => zs.length - (intOf i).toNat)
    case atStart => exact ⟨0, Nat.zero_le _, rfl, by simp, by rw [upsTo_zero]; exact ho, ⟨rfl, rfl, rfl, Nat.le_refl _, fun _ _ _ => rfl⟩⟩
    case round =>
      obtain ⟨j, hj, rfl, rfl, hoj, hg⟩ := hrel
      by_cases hlt : j < zs.length
      · have hcy := hoj.cellAt (j := j) (by rw [upsTo_length]; exact hlt)
        have hfy := hoj.frozen j
        go_wp2
        go_roundw
        case rel =>
          obtain ⟨r1, r2⟩ := hoj.stored j (k + j)
          exact ⟨j + 1, by omega, by simp, by go_num, by rw [upsTo_succ _ _ hlt]; exact r1, grownBy_tr hg r2⟩
        case measure => simp [intOf]; omega
      · obtain rfl : j = zs.length := by omega
        go_wp2
        go_ret
        exact ⟨rfl, by rw [upsTo_all] at hoj; exact hoj, hg⟩

set_option maxRecDepth 100000 in
set_option maxHeartbeats 1000000 in
theorem heldInt64S_c (v : Value) (n : Nat) (k : Int) (w : World) (hI : Ints w.heap.size w v (ups k n)) (hl : n * 8 ≤ 140737488351232) (hk0 : 0 ≤ k) (hk1 : k ≤ 1099511627776) :
    Calls Try.prog 28 #[v, .int .i64 k] w fun e w' => e = .returned (.int .i64 (k + n)) ∧ w = w' := by
  obtain ⟨a, cap, rfl⟩ := hI.shape
  rw [ups_length] at hI ⊢
  go_enter Try.func28, Try.ntmps28
  go_wp2
  go_loop [5, 1] (fun i q => ∃ j : Nat, j ≤ n ∧ i = .int .i64 j ∧ q = .int .i64 (k + j)) (fun i _ => n - (intOf i).toNat)
  case atStart => exact ⟨0, Nat.zero_le _, rfl, by simp⟩
  case round =>
    obtain ⟨j, hj, rfl, rfl⟩ := hrel
    by_cases hlt : j < n
    · obtain ⟨b, off, rfl, hb, hc⟩ := hI.at_ (k := j) (by rw [ups_length]; exact hlt)
      have hcx := hc j (by rw [ups_length]; exact hlt)
      rw [nth_ups k hlt] at hcx
      clear hc hI
      go_wp2
      go_round
      case rel => exact ⟨j + 1, by omega, by simp, by go_num⟩
      case measure => simp [intOf]; omega
    · obtain rfl : j = n := by omega
      go_wp2
      go_ret
      exact ⟨rfl, rfl⟩

set_option maxRecDepth 100000 in
set_option maxHeartbeats 1000000 in
theorem markTasks_c (B : Nat) (v : Value) (zs : List Int) (k : Int) (w : World) (ho : OwnI B w v zs) (hl : zs.length * 8 ≤ 140737488351232) (hk0 : 0 ≤ k) (hk1 : k ≤ 1099511627776) :
    Calls Try.prog 37 #[.agg #[v], .int .i64 k] w (Marks B w v zs.length k) := by
  obtain ⟨a, c, rfl⟩ := ho.ints.shape
  have ho1 : OwnI B (w.alloc (.cells #[.slice a zs.length c] 28)) (.slice a zs.length c) zs := ho.kept (World.grownBy_alloc w _ none) (by
    rcases e : (Value.slice a zs.length c).ownBlock with _ | k
    · exact .inl rfl
    · exact .inr (by simp))
  go_enter Try.func37, Try.ntmps37
  go_wp2_with fail
  refine (markInt64S_c B _ zs k _ ho1 hl hk0 hk1).mono ?_
  rintro e w1 ⟨rfl, ho2, hg⟩
  go_wp2
  go_ret
  exact ⟨rfl, ho2, grownBy_tr (World.grownBy_alloc w _ _) hg⟩

set_option maxRecDepth 100000 in
set_option maxHeartbeats 1000000 in
theorem heldTasks_c (v : Value) (n : Nat) (k : Int) (w : World) (hI : Ints w.heap.size w v (ups k n)) (hl : n * 8 ≤ 140737488351232) (hk0 : 0 ≤ k) (hk1 : k ≤ 1099511627776) :
    Calls Try.prog 38 #[.agg #[v], .int .i64 k] w fun e w' => e = .returned (.int .i64 (k + n)) ∧ Below w.heap.size w w' := by
  obtain ⟨a, cap, rfl⟩ := hI.shape
  rw [ups_length] at hI ⊢
  have hB0 : Below w.heap.size w (w.alloc (.cells #[.slice a n cap] 28)) := (Below.refl _ w).alloc (Nat.le_refl _) _
  have hI3 := hI.later hB0
  go_enter Try.func38, Try.ntmps38
  go_wp2_with fail
  refine (heldInt64S_c _ n k _ hI3 hl hk0 hk1).mono ?_
  rintro e w1 ⟨rfl, rfl⟩
  go_wp2
  go_ret
  exact ⟨rfl, hB0⟩

end Go.Proofs.Ytbhpflhopajbfaa
