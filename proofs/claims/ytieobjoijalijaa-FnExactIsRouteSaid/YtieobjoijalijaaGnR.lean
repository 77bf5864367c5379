/-
  Routes on a ground: isRoute, l09Route, IsRoute of program and model.
  Conditions: the turns are at most 1048576.
-/
import Derived.Test.YtieobjoijalijaaGnI
import Derived.Test.YtieobjoijalijaaLev
namespace Go.Proofs.Ytieobjoijalijaa
open Go.RowKit Go.Shelf
attribute [local go_sem] Oper.semAt_some

/-! ### mathematics -/
/-- the slot ahead, round the end -/
def prevK (n k : Nat) : Nat := if k = 0 then n - 1 else k - 1
/-- the places of a slot and of the slot ahead are near -/
def prP (m : Nat) (ts : List Int) (k : Nat) : Bool := nearB m (nth ts (prevK ts.length k)).toNat (nth ts k).toNat
def rtB (m : Nat) (ts : List Int) : Bool := ts.all (fun z => decide (0 ≤ z)) && (List.range ts.length).all (prP m ts)
theorem rt_neg {m : Nat} {ts : List Int} {k : Nat} (hk : k < ts.length) (h : nth ts k < 0) : rtB m ts = false := by
  unfold rtB
  rw [all_false_of (p := fun z => decide (0 ≤ z)) hk (by simp; omega), Bool.false_and]
theorem rt_far {m : Nat} {ts : List Int} {k : Nat} (hk : k < ts.length) (h : prP m ts k = false) : rtB m ts = false := by
  have : (List.range ts.length).all (prP m ts) = false := by
    rw [List.all_eq_false]
    exact ⟨k, List.mem_range.2 hk, by simp [h]⟩
  unfold rtB
  rw [this, Bool.and_false]
theorem rt_yes {m : Nat} {ts : List Int} (h0 : ∀ k, k < ts.length → 0 ≤ nth ts k) (h : ∀ k, k < ts.length → prP m ts k = true) : rtB m ts = true := by
  have : (List.range ts.length).all (prP m ts) = true := by
    rw [List.all_eq_true]
    exact fun k hk => h k (List.mem_range.1 hk)
  unfold rtB
  rw [this, Bool.and_true]
  exact all_true_of (p := fun z => decide (0 ≤ z)) fun j hj => by simpa using h0 j hj
theorem turns_at {ts : List Int} {p : Int} (h : turnsOk ts p = true) {k : Nat} (hk : k < ts.length) : -1 ≤ nth ts k ∧ nth ts k ≤ p - 1 := by
  unfold turnsOk at h
  rw [Bool.and_eq_true, List.all_eq_true] at h
  exact inB_true.1 (h.1 _ (nth_mem hk))
theorem turns_len {ts : List Int} {p : Int} (h : turnsOk ts p = true) : 1 ≤ ts.length ∧ ts.length ≤ 120 := by
  unfold turnsOk at h
  rw [Bool.and_eq_true] at h
  have := inB_true.1 h.2
  omega
def isrC (p r : Int) (ts : List Int) : Int := if gOk p r then (if turnsOk ts p then 0 else 2) else 1
def isrB (p r : Int) (ts : List Int) : Bool := isrC p r ts == 0 && rtB r.toNat ts

/-! ### the program -/
set_option maxRecDepth 100000 in
set_option maxHeartbeats 4000000 in
theorem isRoute_c (p m : Nat) (sv : Value) (ts : List Int) (w : World) (hI : Ints w.heap.size w sv ts) (hp : p ≤ 6) (hm : m < 32768) (ht : turnsOk ts p = true) :
    Calls Try.prog 113 #[.agg #[.int .i64 (p : Int), .int .i64 (m : Int)], sv] w fun e w' => e = .returned (.bool (rtB m ts)) ∧ Below w.heap.size w w' := by
  obtain ⟨a, cap, rfl⟩ := hI.shape
  have hl := turns_len ht
  have b0 := Box2.new w 56 (.int .i64 (p : Int)) (.int .i64 (m : Int))
  have hB0 : Below w.heap.size w (w.alloc (.cells #[.int .i64 (p : Int), .int .i64 (m : Int)] 56)) := (Below.refl _ w).alloc (Nat.le_refl _) _
  obtain ⟨W0, hW0⟩ : ∃ W0, (w.alloc (.cells #[.int .i64 (p : Int), .int .i64 (m : Int)] 56)) = W0 := ⟨_, rfl⟩
  rw [hW0] at b0 hB0
  have Ht := Lib.hid ht
  clear ht
  cases hc : ts.contains (-1)
  · have hpos : ∀ k, k < ts.length → 0 ≤ nth ts k := fun k hk => by
      have h1 := turns_at Ht.out hk
      have h2 : nth ts k ≠ -1 := fun e => by
        have := contains_yes hk
        rw [e, hc] at this
        exact absurd this (by simp)
      omega
    have Hpos := Lib.hid hpos
    have Hc := Lib.hid hc
    have HI := Lib.hid hI
    obtain ⟨b, off, rfl, hb0, hcell⟩ := hI.at_ (k := ts.length - 1) (by omega)
    have hlast : W0.cell? ⟨b, off + (ts.length - 1), none⟩ = some (.int .i64 (nth ts (ts.length - 1))) := (hB0.cell (p := ⟨b, off + (ts.length - 1), none⟩) hb0).trans (hcell _ (by omega))
    have hli : ((ts.length : Int) - 1) = ((ts.length - 1 : Nat) : Int) := by omega
    have hlw : IntKind.i64.wrap ((ts.length - 1 : Nat) : Int) = ((ts.length - 1 : Nat) : Int) := by rw [IntKind.wrap_i64]; omega
    have hlt : ((ts.length - 1 : Nat) : Int) < (ts.length : Int) := by omega
    have hl1 : ts.length - 1 < ts.length := by omega
    clear hpos hc hI hcell
    go_enter Try.func113, Try.ntmps113
    go_wp2_with fail
    refine (sContains_c _ ts (-1) _ (HI.out.later hB0) (by omega)).mono ?_
    rintro e w1 ⟨rfl, rfl⟩
    rw [Hc.out]
    have hB1 := hB0
    clear hB0 hW0
    go_wp2
    go_loopw [5, 18] (fun l q wr => ∃ k : Nat, k ≤ ts.length ∧ q = .int .i64 k ∧ l = .int .i64 (nth ts (prevK ts.length k)) ∧ (∀ j, j < k → prP m ts j = true) ∧ Box2 wr w.heap.size 56 (.int .i64 (p : Int)) (.int .i64 (m : Int)) ∧ Below w.heap.size w wr) (fun _ q _ => ts.length - (intOf q).toNat)
    case atStart => exact ⟨0, Nat.zero_le _, rfl, rfl, fun j hj => by omega, b0, hB1⟩
    case round =>
      obtain ⟨k, hk, rfl, rfl, hall, bG, hB⟩ := hrel
      clear b0 hB1 hlast hli hlw hlt
      by_cases hlt : k < ts.length
      · have hki : (k : Int) < (ts.length : Int) := by omega
        obtain ⟨b', off', he, hb', hcell⟩ := (HI.out.below hB).at_ hlt
        have hx := hcell k hlt
        obtain ⟨rfl, rfl⟩ : b = b' ∧ off = off' := by simpa using he
        have c0 := bG.c0
        have c1 := bG.c1
        have hpk : prevK ts.length k < ts.length := by unfold prevK; split <;> omega
        have t1 := turns_at Ht.out hpk
        have t2 := turns_at Ht.out hlt
        have t3 := Hpos.out _ hpk
        have t4 := Hpos.out _ hlt
        have Hall := Lib.hid hall
        obtain ⟨u, hu⟩ : ∃ u : Nat, nth ts (prevK ts.length k) = u := ⟨(nth ts (prevK ts.length k)).toNat, by omega⟩
        obtain ⟨v, hv⟩ : ∃ v : Nat, nth ts k = v := ⟨(nth ts k).toNat, by omega⟩
        have Hv := Lib.hid hv
        have Hp := Lib.hid (show prP m ts k = nearB m u v by unfold prP; rw [hu, hv, Int.toNat_natCast, Int.toNat_natCast])
        have hu6 : u < 6 := by omega
        have hv6 : v < 6 := by omega
        rw [hu]
        rw [hv] at hx
        clear hall hcell he t1 t2 t3 t4 hu hv hpk
        go_wp2_with fail
        refine (areNear_c p m u v _ hm hu6 hv6).mono ?_
        rintro e wq ⟨rfl, hb⟩
        have bG1 := bG.later hb
        have hB1 := hB.trans (hb.mono hB.size)
        clear hb bG hB c0 c1 hx
        cases hn : nearB m u v
        · have Hf := Lib.hid (rt_far (m := m) hlt (Hp.out.trans hn))
          clear hn
          go_wp2
          go_ret
          exact ⟨ret_bool (by rw [Hf.out]), hB1⟩
        · have Hn := Lib.hid hn
          clear hn
          go_wp2
          go_roundw
          case rel => exact ⟨k + 1, by omega, by simp, by rw [show prevK ts.length (k + 1) = k by unfold prevK; simp, Hv.out], fun j hj => (by
            by_cases h : j = k
            · subst h; rw [Hp.out, Hn.out]
            · exact Hall.out j (by omega)), bG1, hB1⟩
          case measure => simp [intOf]; omega
      · obtain rfl : k = ts.length := by omega
        have Hf := Lib.hid (rt_yes (m := m) Hpos.out hall)
        clear hall
        go_wp2
        go_ret
        exact ⟨ret_bool (by rw [Hf.out]), hB⟩
  · obtain ⟨k, hk, he⟩ : ∃ k, k < ts.length ∧ nth ts k = -1 := by
      rw [List.contains_iff_mem] at hc
      obtain ⟨k, hk, he⟩ := List.getElem_of_mem hc
      exact ⟨k, hk, by rw [nth_lt hk, he]⟩
    have Hf := Lib.hid (rt_neg (m := m) hk (by omega))
    have Hc := Lib.hid hc
    clear hc he hk
    go_enter Try.func113, Try.ntmps113
    go_wp2_with fail
    refine (sContains_c _ ts (-1) _ (hI.later hB0) (by omega)).mono ?_
    rintro e w1 ⟨rfl, rfl⟩
    rw [Hc.out]
    go_wp2
    go_ret
    exact ⟨ret_bool (by rw [Hf.out]), hB0⟩

/-! ### the model -/
def nextK (n k : Nat) : Nat := (k + 1) % n
theorem next_prev {n k : Nat} (h : k < n) : nextK n k < n ∧ prevK n (nextK n k) = k := by
  unfold nextK prevK
  by_cases e : k + 1 = n
  · rw [e, Nat.mod_self, if_pos rfl]; omega
  · rw [Nat.mod_eq_of_lt (by omega), if_neg (by omega)]; omega
theorem prev_next {n k : Nat} (h : k < n) : prevK n k < n ∧ nextK n (prevK n k) = k := by
  unfold nextK prevK
  split
  · rw [show n - 1 + 1 = n by omega, Nat.mod_self]; omega
  · rw [show k - 1 + 1 = k by omega, Nat.mod_eq_of_lt h]; omega

set_option maxRecDepth 100000 in
set_option maxHeartbeats 8000000 in
theorem l09Route_c (p m : Nat) (sv : Value) (ts : List Int) (w : World) (hI : Ints w.heap.size w sv ts) (hp : p ≤ 6) (hm : m < 32768) (ht : turnsOk ts p = true) :
    Calls Try.prog 111 #[.agg #[.int .i64 (p : Int), .int .i64 (m : Int)], sv] w fun e w' => e = .returned (.bool (rtB m ts)) ∧ Below w.heap.size w w' := by
  obtain ⟨a, cap, rfl⟩ := hI.shape
  have hl := turns_len ht
  have hfw : Try.prog.follows Departure.mixedOrders = true := by kernel_rfl
  have b0 := Box2.new w 56 (.int .i64 (p : Int)) (.int .i64 (m : Int))
  have hB0 : Below w.heap.size w (w.alloc (.cells #[.int .i64 (p : Int), .int .i64 (m : Int)] 56)) := (Below.refl _ w).alloc (Nat.le_refl _) _
  obtain ⟨W0, hW0⟩ : ∃ W0, (w.alloc (.cells #[.int .i64 (p : Int), .int .i64 (m : Int)] 56)) = W0 := ⟨_, rfl⟩
  rw [hW0] at b0 hB0
  have Ht := Lib.hid ht
  have HI := Lib.hid hI
  clear ht hI
  go_enter Try.func111, Try.ntmps111
  go_wp2
  clear hW0
  go_loopw [9] (fun q wr => ∃ k : Nat, k ≤ ts.length ∧ q = .int .i64 k ∧ (∀ j, j < k → 0 ≤ nth ts j ∧ prP m ts (nextK ts.length j) = true) ∧ Box2 wr w.heap.size 56 (.int .i64 (p : Int)) (.int .i64 (m : Int)) ∧ Below w.heap.size w wr) (fun q _ => ts.length - (intOf q).toNat)
  case atStart => exact ⟨0, Nat.zero_le _, rfl, fun j hj => by omega, b0, hB0⟩
  case round =>
    obtain ⟨k, hk, rfl, hall, bG, hB⟩ := hrel
    clear b0 hB0
    by_cases hlt : k < ts.length
    · have hki : (k : Int) < (ts.length : Int) := by omega
      obtain ⟨b, off, rfl, hb', hcell⟩ := (HI.out.below hB).at_ hlt
      have hnk := next_prev hlt
      have hx := hcell k hlt
      have hy := hcell _ hnk.1
      have hrem : ((k : Int) + 1).tmod (ts.length : Int) = ((nextK ts.length k : Nat) : Int) := by unfold nextK; rw [Int.tmod_eq_emod_of_nonneg (by omega)]; simp
      obtain ⟨n, hn⟩ : ∃ n, nextK ts.length k = n := ⟨_, rfl⟩
      have Hn := Lib.hid hn
      rw [hn] at hnk hy hrem
      have hni : (n : Int) < (ts.length : Int) := by omega
      have Hnk := Lib.hid hnk
      clear hn hnk hcell
      replace hx : wr.drew.cell? ⟨b, off + k, none⟩ = some (.int .i64 (nth ts k)) := hx
      have HY := Lib.hid hy
      have c0 : wr.drew.cell? ⟨w.heap.size, 0, none⟩ = some (.int .i64 (p : Int)) := bG.c0
      have c1 : wr.drew.cell? ⟨w.heap.size, 1, none⟩ = some (.int .i64 (m : Int)) := bG.c1
      have HB := Lib.hid hB
      have HG := Lib.hid bG
      have Hall := Lib.hid hall
      have t1 := turns_at Ht.out hlt
      have t2 := turns_at Ht.out Hnk.out.1
      clear hB bG hall
      by_cases hk0 : nth ts k < 0
      · have Hf := Lib.hid (rt_neg (m := m) hlt hk0)
        clear t1 t2
        go_wp2_with fail
        clear hy
        refine wp_region_held_drew (S := fun w' => w' = wr.drew) hfw rfl ?_
        intro hS0
        refine wpAnyH_take (i := 0) (v := ?va10) rfl (by kernel_rfl) (by kernel_rfl) (by kernel_rfl) (fun _ _ _ h => h) (.inl ⟨by first | kernel_rfl | rfl, ?ya10⟩) rfl ?_
        case ya10 =>
          intro w' hS
          (subst hS)
          go_simp
          try with_reducible rfl
        refine wpAnyH_take (i := 1) (v := ?va11) rfl (by kernel_rfl) (by kernel_rfl) (by kernel_rfl) (fun _ _ _ h => h) (.inl ⟨by first | kernel_rfl | rfl, ?ya11⟩) rfl ?_
        case ya11 =>
          intro w' hS
          (subst hS)
          go_simp
          try with_reducible rfl
        refine wpAnyH_take (i := 2) (v := ?va12) rfl (by kernel_rfl) (by kernel_rfl) (by kernel_rfl) (fun _ _ _ h => h) (.inl ⟨by first | kernel_rfl | rfl, ?ya12⟩) rfl ?_
        case ya12 =>
          intro w' hS
          (subst hS)
          go_simp
          try with_reducible rfl
        refine wpAnyH_take (i := 3) (v := ?va13) rfl (by kernel_rfl) (by kernel_rfl) (by kernel_rfl) (fun _ _ _ h => h) (.inl ⟨by first | kernel_rfl | rfl, ?ya13⟩) rfl ?_
        case ya13 =>
          intro w' hS
          (subst hS)
          go_simp
          try with_reducible rfl
        try simp only [Act.put, List.getElem_toArray, List.getElem_cons_zero, List.getElem_cons_succ, List.setIfInBounds_toArray, List.set_cons_zero, List.set_cons_succ]
        refine wpAnyH_take (i := 4) (v := (.bool true)) rfl (by kernel_rfl) (by kernel_rfl) (by kernel_rfl) (fun _ _ _ h => h) (.inl ⟨by first | kernel_rfl | rfl, ?ya24⟩) rfl ?_
        case ya24 =>
          intro w' hS
          (subst hS)
          go_simp
          first | done | (simp; done) | (simp; omega) | omega | (simp [*]; done)
        refine wpAnyH_take (i := 5) (v := ?va35) rfl (by kernel_rfl) (by kernel_rfl) (by kernel_rfl) (fun _ _ _ h => h) (.inl ⟨by first | kernel_rfl | rfl, ?ya35⟩) rfl ?_
        case ya35 =>
          intro w' hS
          (subst hS)
          go_simp
          try with_reducible rfl
        try simp only [Act.put, List.getElem_toArray, List.getElem_cons_zero, List.getElem_cons_succ, List.setIfInBounds_toArray, List.set_cons_zero, List.set_cons_succ]
        refine wpAnyH_take (i := 6) (v := undef) rfl (by kernel_rfl) (by kernel_rfl) (by kernel_rfl) (fun _ _ _ h => h) (.inr ⟨by kernel_rfl, rfl⟩) rfl ?_
        refine wpAnyH_take (i := 7) (v := undef) rfl (by kernel_rfl) (by kernel_rfl) (by kernel_rfl) (fun _ _ _ h => h) (.inr ⟨by kernel_rfl, rfl⟩) rfl ?_
        try simp only [Act.put, List.getElem_toArray, List.getElem_cons_zero, List.getElem_cons_succ, List.setIfInBounds_toArray, List.set_cons_zero, List.set_cons_succ]
        refine wpAnyH_take (i := 8) (v := (.bool true)) rfl (by kernel_rfl) (by kernel_rfl) (by kernel_rfl) (fun _ _ _ h => h) (.inl ⟨by first | kernel_rfl | rfl, ?ya48⟩) rfl ?_
        case ya48 =>
          intro w' hS
          (subst hS)
          go_simp
          first | done | (simp; done) | (simp; omega) | omega | (simp [*]; done)
        refine wpAnyH_take (i := 9) (v := ?va59) rfl (by kernel_rfl) (by kernel_rfl) (by kernel_rfl) (fun _ _ _ h => h) (.inl ⟨by first | kernel_rfl | rfl, ?ya59⟩) rfl ?_
        case ya59 =>
          intro w' hS
          (subst hS)
          go_simp
          try with_reducible rfl
        try simp only [Act.put, List.getElem_toArray, List.getElem_cons_zero, List.getElem_cons_succ, List.setIfInBounds_toArray, List.set_cons_zero, List.set_cons_succ]
        refine wpAnyH_take (i := 10) (v := undef) rfl (by kernel_rfl) (by kernel_rfl) (by kernel_rfl) (fun _ _ _ h => h) (.inr ⟨by kernel_rfl, rfl⟩) rfl ?_
        refine wpAnyH_take (i := 11) (v := undef) rfl (by kernel_rfl) (by kernel_rfl) (by kernel_rfl) (fun _ _ _ h => h) (.inr ⟨by kernel_rfl, rfl⟩) rfl ?_
        refine wpAnyH_take (i := 12) (v := undef) rfl (by kernel_rfl) (by kernel_rfl) (by kernel_rfl) (fun _ _ _ h => h) (.inr ⟨by kernel_rfl, rfl⟩) rfl ?_
        refine wpAnyH_take (i := 13) (v := undef) rfl (by kernel_rfl) (by kernel_rfl) (by kernel_rfl) (fun _ _ _ h => h) (.inr ⟨by kernel_rfl, rfl⟩) rfl ?_
        refine wpAnyH_take (i := 14) (v := undef) rfl (by kernel_rfl) (by kernel_rfl) (by kernel_rfl) (fun _ _ _ h => h) (.inr ⟨by kernel_rfl, rfl⟩) rfl ?_
        refine wpAnyH_take (i := 15) (v := undef) rfl (by kernel_rfl) (by kernel_rfl) (by kernel_rfl) (fun _ _ _ h => h) (.inr ⟨by kernel_rfl, rfl⟩) rfl ?_
        refine wpAnyH_take (i := 16) (v := undef) rfl (by kernel_rfl) (by kernel_rfl) (by kernel_rfl) (fun _ _ _ h => h) (.inr ⟨by kernel_rfl, rfl⟩) rfl ?_
        refine wpAnyH_take (i := 17) (v := undef) rfl (by kernel_rfl) (by kernel_rfl) (by kernel_rfl) (fun _ _ _ h => h) (.inr ⟨by kernel_rfl, rfl⟩) rfl ?_
        try simp only [Act.put, List.getElem_toArray, List.getElem_cons_zero, List.getElem_cons_succ, List.setIfInBounds_toArray, List.set_cons_zero, List.set_cons_succ]
        refine wpAnyH_take (i := 18) (v := (.bool true)) rfl (by kernel_rfl) (by kernel_rfl) (by kernel_rfl) (fun _ _ _ h => h) (.inl ⟨by first | kernel_rfl | rfl, ?ya918⟩) rfl ?_
        case ya918 =>
          intro w' hS
          (subst hS)
          go_simp
          first | done | (simp; done) | (simp; omega) | omega | (simp [*]; done)
        refine wpAnyH_done (by kernel_rfl) ?_ _
        go_wp2
        go_ret
        exact ⟨ret_bool (by rw [Hf.out]), HB.out.drew⟩
      by_cases hn0 : nth ts n < 0
      · have Hf := Lib.hid (rt_neg (m := m) Hnk.out.1 hn0)
        clear t1 t2
        go_wp2_with fail
        clear hy
        refine wp_region_held_drew (S := fun w' => w' = wr.drew) hfw rfl ?_
        intro hS0
        refine wpAnyH_take (i := 0) (v := ?vb10) rfl (by kernel_rfl) (by kernel_rfl) (by kernel_rfl) (fun _ _ _ h => h) (.inl ⟨by first | kernel_rfl | rfl, ?yb10⟩) rfl ?_
        case yb10 =>
          intro w' hS
          (subst hS)
          go_simp
          try with_reducible rfl
        refine wpAnyH_take (i := 1) (v := ?vb11) rfl (by kernel_rfl) (by kernel_rfl) (by kernel_rfl) (fun _ _ _ h => h) (.inl ⟨by first | kernel_rfl | rfl, ?yb11⟩) rfl ?_
        case yb11 =>
          intro w' hS
          (subst hS)
          go_simp
          try with_reducible rfl
        refine wpAnyH_take (i := 2) (v := ?vb12) rfl (by kernel_rfl) (by kernel_rfl) (by kernel_rfl) (fun _ _ _ h => h) (.inl ⟨by first | kernel_rfl | rfl, ?yb12⟩) rfl ?_
        case yb12 =>
          intro w' hS
          (subst hS)
          go_simp
          try with_reducible rfl
        refine wpAnyH_take (i := 3) (v := ?vb13) rfl (by kernel_rfl) (by kernel_rfl) (by kernel_rfl) (fun _ _ _ h => h) (.inl ⟨by first | kernel_rfl | rfl, ?yb13⟩) rfl ?_
        case yb13 =>
          intro w' hS
          (subst hS)
          go_simp
          try with_reducible rfl
        try simp only [Act.put, List.getElem_toArray, List.getElem_cons_zero, List.getElem_cons_succ, List.setIfInBounds_toArray, List.set_cons_zero, List.set_cons_succ]
        refine wpAnyH_take (i := 4) (v := (.bool false)) rfl (by kernel_rfl) (by kernel_rfl) (by kernel_rfl) (fun _ _ _ h => h) (.inl ⟨by first | kernel_rfl | rfl, ?yb24⟩) rfl ?_
        case yb24 =>
          intro w' hS
          (subst hS)
          go_simp
          first | done | (simp; done) | (simp; omega) | omega | (simp [*]; done)
        refine wpAnyH_take (i := 5) (v := ?vb35) rfl (by kernel_rfl) (by kernel_rfl) (by kernel_rfl) (fun _ _ _ h => h) (.inl ⟨by first | kernel_rfl | rfl, ?yb35⟩) rfl ?_
        case yb35 =>
          intro w' hS
          (subst hS)
          go_simp
          try with_reducible rfl
        refine wpAnyH_take (i := 6) (v := ?vb36) rfl (by kernel_rfl) (by kernel_rfl) (by kernel_rfl) (fun _ _ _ h => h) (.inl ⟨by first | kernel_rfl | rfl, ?yb36⟩) rfl ?_
        case yb36 =>
          intro w' hS
          (subst hS)
          go_simp
          try with_reducible rfl
        try simp only [Act.put, List.getElem_toArray, List.getElem_cons_zero, List.getElem_cons_succ, List.setIfInBounds_toArray, List.set_cons_zero, List.set_cons_succ]
        refine wpAnyH_take (i := 7) (v := (.bool true)) rfl (by kernel_rfl) (by kernel_rfl) (by kernel_rfl) (fun _ _ _ h => h) (.inl ⟨by first | kernel_rfl | rfl, ?yb47⟩) rfl ?_
        case yb47 =>
          intro w' hS
          (subst hS)
          go_simp
          first | done | (simp; done) | (simp; omega) | omega | (simp [*]; done)
        refine wpAnyH_take (i := 8) (v := (.bool true)) rfl (by kernel_rfl) (by kernel_rfl) (by kernel_rfl) (fun _ _ _ h => h) (.inl ⟨by first | kernel_rfl | rfl, ?yb58⟩) rfl ?_
        case yb58 =>
          intro w' hS
          (subst hS)
          go_simp
          first | done | (simp; done) | (simp; omega) | omega | (simp [*]; done)
        refine wpAnyH_take (i := 9) (v := ?vb69) rfl (by kernel_rfl) (by kernel_rfl) (by kernel_rfl) (fun _ _ _ h => h) (.inl ⟨by first | kernel_rfl | rfl, ?yb69⟩) rfl ?_
        case yb69 =>
          intro w' hS
          (subst hS)
          go_simp
          try with_reducible rfl
        try simp only [Act.put, List.getElem_toArray, List.getElem_cons_zero, List.getElem_cons_succ, List.setIfInBounds_toArray, List.set_cons_zero, List.set_cons_succ]
        refine wpAnyH_take (i := 10) (v := undef) rfl (by kernel_rfl) (by kernel_rfl) (by kernel_rfl) (fun _ _ _ h => h) (.inr ⟨by kernel_rfl, rfl⟩) rfl ?_
        refine wpAnyH_take (i := 11) (v := undef) rfl (by kernel_rfl) (by kernel_rfl) (by kernel_rfl) (fun _ _ _ h => h) (.inr ⟨by kernel_rfl, rfl⟩) rfl ?_
        refine wpAnyH_take (i := 12) (v := undef) rfl (by kernel_rfl) (by kernel_rfl) (by kernel_rfl) (fun _ _ _ h => h) (.inr ⟨by kernel_rfl, rfl⟩) rfl ?_
        refine wpAnyH_take (i := 13) (v := undef) rfl (by kernel_rfl) (by kernel_rfl) (by kernel_rfl) (fun _ _ _ h => h) (.inr ⟨by kernel_rfl, rfl⟩) rfl ?_
        refine wpAnyH_take (i := 14) (v := undef) rfl (by kernel_rfl) (by kernel_rfl) (by kernel_rfl) (fun _ _ _ h => h) (.inr ⟨by kernel_rfl, rfl⟩) rfl ?_
        refine wpAnyH_take (i := 15) (v := undef) rfl (by kernel_rfl) (by kernel_rfl) (by kernel_rfl) (fun _ _ _ h => h) (.inr ⟨by kernel_rfl, rfl⟩) rfl ?_
        refine wpAnyH_take (i := 16) (v := undef) rfl (by kernel_rfl) (by kernel_rfl) (by kernel_rfl) (fun _ _ _ h => h) (.inr ⟨by kernel_rfl, rfl⟩) rfl ?_
        refine wpAnyH_take (i := 17) (v := undef) rfl (by kernel_rfl) (by kernel_rfl) (by kernel_rfl) (fun _ _ _ h => h) (.inr ⟨by kernel_rfl, rfl⟩) rfl ?_
        try simp only [Act.put, List.getElem_toArray, List.getElem_cons_zero, List.getElem_cons_succ, List.setIfInBounds_toArray, List.set_cons_zero, List.set_cons_succ]
        refine wpAnyH_take (i := 18) (v := (.bool true)) rfl (by kernel_rfl) (by kernel_rfl) (by kernel_rfl) (fun _ _ _ h => h) (.inl ⟨by first | kernel_rfl | rfl, ?yb918⟩) rfl ?_
        case yb918 =>
          intro w' hS
          (subst hS)
          go_simp
          first | done | (simp; done) | (simp; omega) | omega | (simp [*]; done)
        refine wpAnyH_done (by kernel_rfl) ?_ _
        go_wp2
        go_ret
        exact ⟨ret_bool (by rw [Hf.out]), HB.out.drew⟩
      obtain ⟨u, hu⟩ : ∃ u : Nat, nth ts k = u := ⟨(nth ts k).toNat, by omega⟩
      obtain ⟨v, hv⟩ : ∃ v : Nat, nth ts n = v := ⟨(nth ts n).toNat, by omega⟩
      have Hp := Lib.hid (show prP m ts n = nearB m u v by unfold prP; rw [Hnk.out.2, hu, hv, Int.toNat_natCast, Int.toNat_natCast])
      have hu6 : u < 6 := by omega
      have hv6 : v < 6 := by omega
      have Hu := Lib.hid hu
      rw [hu] at hx hk0
      rw [hv] at hn0 hy
      clear hu t1 t2
      have hg6 : w.heap.size < wr.heap.size := HG.out.lt
      have hb6 : b < wr.heap.size := Nat.lt_of_lt_of_le hb' HB.out.size
      go_wp2_with fail
      clear hy hv
      refine wp_region_held_drew (S := fun w' => w'.cell? ⟨w.heap.size, 0, none⟩ = some (.int .i64 (p : Int)) ∧ w'.cell? ⟨w.heap.size, 1, none⟩ = some (.int .i64 (m : Int)) ∧ w'.cell? ⟨b, off + k, none⟩ = some (.int .i64 (u : Int)) ∧ Below wr.heap.size wr w') hfw ⟨c0, c1, hx, (Below.refl _ _).drew⟩ ?_
      intro hS0
      refine wpAnyH_take (i := 0) (v := ?vc10) rfl (by kernel_rfl) (by kernel_rfl) (by kernel_rfl) (fun _ _ _ h => h) (.inl ⟨by first | kernel_rfl | rfl, ?yc10⟩) hS0 ?_
      case yc10 =>
        intro w' hS
        (obtain ⟨q0, q1, qx, _⟩ := hS)
        go_simp
        try with_reducible rfl
      refine wpAnyH_take (i := 1) (v := ?vc11) rfl (by kernel_rfl) (by kernel_rfl) (by kernel_rfl) (fun _ _ _ h => h) (.inl ⟨by first | kernel_rfl | rfl, ?yc11⟩) hS0 ?_
      case yc11 =>
        intro w' hS
        (obtain ⟨q0, q1, qx, _⟩ := hS)
        go_simp
        try with_reducible rfl
      refine wpAnyH_take (i := 2) (v := ?vc12) rfl (by kernel_rfl) (by kernel_rfl) (by kernel_rfl) (fun _ _ _ h => h) (.inl ⟨by first | kernel_rfl | rfl, ?yc12⟩) hS0 ?_
      case yc12 =>
        intro w' hS
        (obtain ⟨q0, q1, qx, _⟩ := hS)
        go_simp
        try with_reducible rfl
      refine wpAnyH_take (i := 3) (v := ?vc13) rfl (by kernel_rfl) (by kernel_rfl) (by kernel_rfl) (fun _ _ _ h => h) (.inl ⟨by first | kernel_rfl | rfl, ?yc13⟩) hS0 ?_
      case yc13 =>
        intro w' hS
        (obtain ⟨q0, q1, qx, _⟩ := hS)
        go_simp
        try with_reducible rfl
      try simp only [Act.put, List.getElem_toArray, List.getElem_cons_zero, List.getElem_cons_succ, List.setIfInBounds_toArray, List.set_cons_zero, List.set_cons_succ]
      refine wpAnyH_take (i := 4) (v := (.bool false)) rfl (by kernel_rfl) (by kernel_rfl) (by kernel_rfl) (fun _ _ _ h => h) (.inl ⟨by first | kernel_rfl | rfl, ?yc24⟩) hS0 ?_
      case yc24 =>
        intro w' hS
        (obtain ⟨q0, q1, qx, _⟩ := hS)
        go_simp
        first | done | (simp; done) | (simp; omega) | omega | (simp [*]; done)
      refine wpAnyH_take (i := 5) (v := ?vc35) rfl (by kernel_rfl) (by kernel_rfl) (by kernel_rfl) (fun _ _ _ h => h) (.inl ⟨by first | kernel_rfl | rfl, ?yc35⟩) hS0 ?_
      case yc35 =>
        intro w' hS
        (obtain ⟨q0, q1, qx, _⟩ := hS)
        go_simp
        try with_reducible rfl
      refine wpAnyH_take (i := 6) (v := ?vc36) rfl (by kernel_rfl) (by kernel_rfl) (by kernel_rfl) (fun _ _ _ h => h) (.inl ⟨by first | kernel_rfl | rfl, ?yc36⟩) hS0 ?_
      case yc36 =>
        intro w' hS
        (obtain ⟨q0, q1, qx, _⟩ := hS)
        go_simp
        try with_reducible rfl
      try simp only [Act.put, List.getElem_toArray, List.getElem_cons_zero, List.getElem_cons_succ, List.setIfInBounds_toArray, List.set_cons_zero, List.set_cons_succ]
      refine wpAnyH_take (i := 7) (v := (.bool false)) rfl (by kernel_rfl) (by kernel_rfl) (by kernel_rfl) (fun _ _ _ h => h) (.inl ⟨by first | kernel_rfl | rfl, ?yc47⟩) hS0 ?_
      case yc47 =>
        intro w' hS
        (obtain ⟨q0, q1, qx, _⟩ := hS)
        go_simp
        first | done | (simp; done) | (simp; omega) | omega | (simp [*]; done)
      refine wpAnyH_take (i := 8) (v := (.bool false)) rfl (by kernel_rfl) (by kernel_rfl) (by kernel_rfl) (fun _ _ _ h => h) (.inl ⟨by first | kernel_rfl | rfl, ?yc58⟩) hS0 ?_
      case yc58 =>
        intro w' hS
        (obtain ⟨q0, q1, qx, _⟩ := hS)
        go_simp
        first | done | (simp; done) | (simp; omega) | omega | (simp [*]; done)
      refine wpAnyH_take (i := 9) (v := ?vc69) rfl (by kernel_rfl) (by kernel_rfl) (by kernel_rfl) (fun _ _ _ h => h) (.inl ⟨by first | kernel_rfl | rfl, ?yc69⟩) hS0 ?_
      case yc69 =>
        intro w' hS
        (obtain ⟨q0, q1, qx, _⟩ := hS)
        go_simp
        try with_reducible rfl
      refine wpAnyH_take (i := 10) (v := ?vc610) rfl (by kernel_rfl) (by kernel_rfl) (by kernel_rfl) (fun _ _ _ h => h) (.inl ⟨by first | kernel_rfl | rfl, ?yc610⟩) hS0 ?_
      case yc610 =>
        intro w' hS
        (obtain ⟨q0, q1, qx, _⟩ := hS)
        go_simp
        try with_reducible rfl
      refine wpAnyH_take (i := 11) (v := ?vc611) rfl (by kernel_rfl) (by kernel_rfl) (by kernel_rfl) (fun _ _ _ h => h) (.inl ⟨by first | kernel_rfl | rfl, ?yc611⟩) hS0 ?_
      case yc611 =>
        intro w' hS
        (obtain ⟨q0, q1, qx, _⟩ := hS)
        go_simp
        try with_reducible rfl
      refine wpAnyH_take (i := 12) (v := ?vc612) rfl (by kernel_rfl) (by kernel_rfl) (by kernel_rfl) (fun _ _ _ h => h) (.inl ⟨by first | kernel_rfl | rfl, ?yc612⟩) hS0 ?_
      case yc612 =>
        intro w' hS
        (obtain ⟨q0, q1, qx, _⟩ := hS)
        go_simp
        try with_reducible rfl
      refine wpAnyH_take (i := 13) (v := ?vc613) rfl (by kernel_rfl) (by kernel_rfl) (by kernel_rfl) (fun _ _ _ h => h) (.inl ⟨by first | kernel_rfl | rfl, ?yc613⟩) hS0 ?_
      case yc613 =>
        intro w' hS
        (obtain ⟨q0, q1, qx, _⟩ := hS)
        go_simp
        try with_reducible rfl
      refine wpAnyH_take (i := 14) (v := ?vc614) rfl (by kernel_rfl) (by kernel_rfl) (by kernel_rfl) (fun _ _ _ h => h) (.inl ⟨by first | kernel_rfl | rfl, ?yc614⟩) hS0 ?_
      case yc614 =>
        intro w' hS
        (obtain ⟨q0, q1, qx, _⟩ := hS)
        go_simp
        try with_reducible rfl
      refine wpAnyH_take (i := 15) (v := ?vc615) rfl (by kernel_rfl) (by kernel_rfl) (by kernel_rfl) (fun _ _ _ h => h) (.inl ⟨by first | kernel_rfl | rfl, ?yc615⟩) hS0 ?_
      case yc615 =>
        intro w' hS
        (obtain ⟨q0, q1, qx, _⟩ := hS)
        go_simp
        try with_reducible rfl
      try simp only [Act.put, List.getElem_toArray, List.getElem_cons_zero, List.getElem_cons_succ, List.setIfInBounds_toArray, List.set_cons_zero, List.set_cons_succ]
      refine wpAnyH_ready (rs := [16]) (by kernel_rfl) (by simp) ?_
      refine AllReadyH.cons rfl (fun K' hK' => ?_) AllReadyH.nil
      rw [if_pos (by first | kernel_rfl | rfl)]
      go_simp
      refine (l09Near_c p m u v _ hm hu6 hv6).mono ?_
      rintro e w2 ⟨rfl, hb⟩
      have hbw : Below wr.heap.size wr w2 := hS0.2.2.2.trans (hb.mono hS0.2.2.2.size)
      have hS2 : w2.cell? ⟨w.heap.size, 0, none⟩ = some (.int .i64 (p : Int)) ∧ w2.cell? ⟨w.heap.size, 1, none⟩ = some (.int .i64 (m : Int)) ∧ w2.cell? ⟨b, off + k, none⟩ = some (.int .i64 (u : Int)) ∧ Below wr.heap.size wr w2 :=
        ⟨(hb.cell (p := ⟨w.heap.size, 0, none⟩) hg6).trans hS0.1, (hb.cell (p := ⟨w.heap.size, 1, none⟩) hg6).trans hS0.2.1, (hb.cell (p := ⟨b, off + k, none⟩) hb6).trans hS0.2.2.1, hbw⟩
      refine hK'.out _ _ hS2 fun hS1 => ?_
      refine wpAnyH_take (i := 17) (v := (.bool (!nearB m u v))) rfl (by kernel_rfl) (by kernel_rfl) (by kernel_rfl) (fun _ _ _ h => h) (.inl ⟨by first | kernel_rfl | rfl, ?yc717⟩) hS1 ?_
      case yc717 =>
        intro w' hS
        (clear hS)
        go_simp
        first | done | (simp; done) | (simp; omega) | omega | (simp [*]; done)
      refine wpAnyH_take (i := 18) (v := (.bool (!nearB m u v))) rfl (by kernel_rfl) (by kernel_rfl) (by kernel_rfl) (fun _ _ _ h => h) (.inl ⟨by first | kernel_rfl | rfl, ?yc818⟩) hS1 ?_
      case yc818 =>
        intro w' hS
        (clear hS)
        go_simp
        first | done | (simp; done) | (simp; omega) | omega | (simp [*]; done)
      refine wpAnyH_done (by kernel_rfl) ?_ _
      have bG1 := HG.out.later hbw
      have hB1 := HB.out.trans (hbw.mono HB.out.size)
      clear hS1 hS2 hS0 hb hbw hK' c0 c1 hx
      cases hn : nearB m u v
      · have Hf := Lib.hid (rt_far (m := m) Hnk.out.1 (Hp.out.trans hn))
        clear hn
        go_wp2
        go_ret
        exact ⟨ret_bool (by rw [Hf.out]), hB1⟩
      · have Hn1 := Lib.hid hn
        clear hn
        go_wp2
        go_roundw
        case rel => exact ⟨k + 1, by omega, by simp, fun j hj => (by
          by_cases h : j = k
          · subst h; exact ⟨by rw [Hu.out]; omega, by rw [Hn.out, Hp.out, Hn1.out]⟩
          · exact Hall.out j (by omega)), bG1, hB1⟩
        case measure => simp [intOf]; omega
    · obtain rfl : k = ts.length := by omega
      have Hf := Lib.hid (rt_yes (m := m) (fun j hj => (hall j hj).1) (fun j hj => (by have h := hall _ (prev_next hj).1; rw [(prev_next hj).2] at h; exact h.2)))
      clear hall
      go_wp2
      go_ret
      exact ⟨ret_bool (by rw [Hf.out]), hB⟩

set_option maxRecDepth 100000 in
set_option maxHeartbeats 4000000 in
theorem i_IsRoute (p r : Int) (c : Value) (ts : List Int) (w : World) (_hp : I64 p) (_hr : I64 r) (hI : Ints w.heap.size w c ts) (_hN : I64s ts) (hm : ts.length ≤ 1048576) :
    Calls Try.prog 55 #[.agg #[.int .i64 p, .int .i64 r], c] w fun e w' => e = .returned (.tuple #[.bool (isrB p r ts), .int .i64 (isrC p r ts)]) ∧ Below w.heap.size w w' := by
  obtain ⟨a, cap, rfl⟩ := hI.shape
  have b0 := Box2.new w 56 (.int .i64 p) (.int .i64 r)
  have c0 := b0.c0
  have c1 := b0.c1
  have hB0 : Below w.heap.size w (w.alloc (.cells #[.int .i64 p, .int .i64 r] 56)) := (Below.refl _ w).alloc (Nat.le_refl _) _
  obtain ⟨W0, hW0⟩ : ∃ W0, (w.alloc (.cells #[.int .i64 p, .int .i64 r] 56)) = W0 := ⟨_, rfl⟩
  rw [hW0] at b0 c0 c1 hB0
  have HB0 := Lib.hid b0
  have HI := Lib.hid hI
  clear b0 hI
  cases hg : gOk p r
  · have Hg := Lib.hid hg
    have Hc := Lib.hid (show isrC p r ts = 1 by unfold isrC; rw [hg]; rfl)
    have Hb := Lib.hid (show isrB p r ts = false by unfold isrB; rw [Hc.out]; rfl)
    clear hg
    go_enter Try.func55, Try.ntmps55
    go_wp2_with fail
    refine (isGround_c p r _).mono ?_
    rintro e w1 ⟨rfl, hb⟩
    rw [Hg.out]
    go_wp2
    go_ret2
    exact ⟨by rw [Hc.out, Hb.out]; rfl, hB0.trans (hb.mono hB0.size)⟩
  have Hg := Lib.hid hg
  obtain ⟨n, m, rfl, rfl, hn1, hn6, hm2⟩ := gOk_nat hg
  have hmm : m < 32768 := Nat.lt_of_lt_of_le hm2 (gTop_le n hn6)
  cases ht : turnsOk ts n
  · have Ht := Lib.hid ht
    have Hc := Lib.hid (show isrC n m ts = 2 by unfold isrC; rw [hg, ht]; rfl)
    have Hb := Lib.hid (show isrB n m ts = false by unfold isrB; rw [Hc.out]; rfl)
    clear hg ht hm2
    go_enter Try.func55, Try.ntmps55
    go_wp2_with fail
    refine (isGround_c n m _).mono ?_
    rintro e w1 ⟨rfl, hb⟩
    rw [Hg.out]
    have b1 := HB0.out.later hb
    have hB1 := hB0.trans (hb.mono hB0.size)
    replace c0 := b1.c0
    replace c1 := b1.c1
    clear hb hB0
    go_wp2_with fail
    refine (areTurns_c _ ts n _ (HI.out.later hB1) (by omega)).mono ?_
    rintro e w2 ⟨rfl, hb2⟩
    have b2 := b1.later hb2
    have hB2 := hB1.trans (hb2.mono hB1.size)
    clear hb2
    rw [Ht.out]
    go_wp2
    go_ret2
    exact ⟨by rw [Hc.out, Hb.out]; rfl, hB2⟩
  · have Ht := Lib.hid ht
    have Hc := Lib.hid (show isrC n m ts = 0 by unfold isrC; rw [hg, ht]; rfl)
    have Hb := Lib.hid (show isrB n m ts = rtB m ts by unfold isrB; rw [Hc.out]; simp)
    clear hg ht hm2
    go_enter Try.func55, Try.ntmps55
    go_wp2_with fail
    refine (isGround_c n m _).mono ?_
    rintro e w1 ⟨rfl, hb⟩
    rw [Hg.out]
    have b1 := HB0.out.later hb
    have hB1 := hB0.trans (hb.mono hB0.size)
    replace c0 := b1.c0
    replace c1 := b1.c1
    clear hb hB0
    go_wp2_with fail
    refine (areTurns_c _ ts n _ (HI.out.later hB1) (by omega)).mono ?_
    rintro e w2 ⟨rfl, hb2⟩
    have b2 := b1.later hb2
    have hB2 := hB1.trans (hb2.mono hB1.size)
    clear hb2
    rw [Ht.out]
    replace c0 := b2.c0
    replace c1 := b2.c1
    go_wp2_with fail
    refine (isRoute_c n m _ ts _ (HI.out.later hB2) hn6 hmm Ht.out).mono ?_
    rintro e w3 ⟨rfl, hb3⟩
    go_wp2
    go_ret2
    exact ⟨by rw [Hc.out, Hb.out]; rfl, hB2.trans (hb3.mono hB2.size)⟩

set_option maxRecDepth 100000 in
set_option maxHeartbeats 4000000 in
theorem s_IsRoute (p r : Int) (c : Value) (ts : List Int) (w : World) (_hp : I64 p) (_hr : I64 r) (hI : Ints w.heap.size w c ts) (_hN : I64s ts) (hm : ts.length ≤ 1048576) :
    Calls Try.prog 54 #[.agg #[.int .i64 p, .int .i64 r], c] w fun e w' => e = .returned (.tuple #[.bool (isrB p r ts), .int .i64 (isrC p r ts)]) ∧ Below w.heap.size w w' := by
  obtain ⟨a, cap, rfl⟩ := hI.shape
  have b0 := Box2.new w 56 (.int .i64 p) (.int .i64 r)
  have c0 := b0.c0
  have c1 := b0.c1
  have hB0 : Below w.heap.size w (w.alloc (.cells #[.int .i64 p, .int .i64 r] 56)) := (Below.refl _ w).alloc (Nat.le_refl _) _
  obtain ⟨W0, hW0⟩ : ∃ W0, (w.alloc (.cells #[.int .i64 p, .int .i64 r] 56)) = W0 := ⟨_, rfl⟩
  rw [hW0] at b0 c0 c1 hB0
  have HB0 := Lib.hid b0
  have HI := Lib.hid hI
  clear b0 hI
  cases hg : gOk p r
  · have Hg := Lib.hid hg
    have Hc := Lib.hid (show isrC p r ts = 1 by unfold isrC; rw [hg]; rfl)
    have Hb := Lib.hid (show isrB p r ts = false by unfold isrB; rw [Hc.out]; rfl)
    clear hg
    go_enter Try.func54, Try.ntmps54
    go_wp2_with fail
    refine (l09Is_c p r _).mono ?_
    rintro e w1 ⟨rfl, hb⟩
    rw [Hg.out]
    go_wp2
    go_ret2
    exact ⟨by rw [Hc.out, Hb.out]; rfl, hB0.trans (hb.mono hB0.size)⟩
  have Hg := Lib.hid hg
  obtain ⟨n, m, rfl, rfl, hn1, hn6, hm2⟩ := gOk_nat hg
  have hmm : m < 32768 := Nat.lt_of_lt_of_le hm2 (gTop_le n hn6)
  cases ht : turnsOk ts n
  · have Ht := Lib.hid ht
    have Hc := Lib.hid (show isrC n m ts = 2 by unfold isrC; rw [hg, ht]; rfl)
    have Hb := Lib.hid (show isrB n m ts = false by unfold isrB; rw [Hc.out]; rfl)
    clear hg ht hm2
    go_enter Try.func54, Try.ntmps54
    go_wp2_with fail
    refine (l09Is_c n m _).mono ?_
    rintro e w1 ⟨rfl, hb⟩
    rw [Hg.out]
    have b1 := HB0.out.later hb
    have hB1 := hB0.trans (hb.mono hB0.size)
    replace c0 := b1.c0
    replace c1 := b1.c1
    clear hb hB0
    go_wp2_with fail
    refine (l01Turns_c _ ts n _ (HI.out.later hB1) (by omega) (by omega) (by omega)).mono ?_
    rintro e w2 ⟨rfl, rfl⟩
    have b2 := b1
    have hB2 := hB1
    rw [Ht.out]
    go_wp2
    go_ret2
    exact ⟨by rw [Hc.out, Hb.out]; rfl, hB2⟩
  · have Ht := Lib.hid ht
    have Hc := Lib.hid (show isrC n m ts = 0 by unfold isrC; rw [hg, ht]; rfl)
    have Hb := Lib.hid (show isrB n m ts = rtB m ts by unfold isrB; rw [Hc.out]; simp)
    clear hg ht hm2
    go_enter Try.func54, Try.ntmps54
    go_wp2_with fail
    refine (l09Is_c n m _).mono ?_
    rintro e w1 ⟨rfl, hb⟩
    rw [Hg.out]
    have b1 := HB0.out.later hb
    have hB1 := hB0.trans (hb.mono hB0.size)
    replace c0 := b1.c0
    replace c1 := b1.c1
    clear hb hB0
    go_wp2_with fail
    refine (l01Turns_c _ ts n _ (HI.out.later hB1) (by omega) (by omega) (by omega)).mono ?_
    rintro e w2 ⟨rfl, rfl⟩
    have b2 := b1
    have hB2 := hB1
    rw [Ht.out]
    replace c0 := b2.c0
    replace c1 := b2.c1
    go_wp2_with fail
    refine (l09Route_c n m _ ts _ (HI.out.later hB2) hn6 hmm Ht.out).mono ?_
    rintro e w3 ⟨rfl, hb3⟩
    go_wp2
    go_ret2
    exact ⟨by rw [Hc.out, Hb.out]; rfl, hB2.trans (hb3.mono hB2.size)⟩

end Go.Proofs.Ytieobjoijalijaa
