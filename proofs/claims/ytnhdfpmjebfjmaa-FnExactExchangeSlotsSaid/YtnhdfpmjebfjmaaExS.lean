/-
  ExchangeSlots of both.
  Conditions: lists of at most 1048576 elements.
-/
import Derived.Test.YtnhdfpmjebfjmaaClone
import Derived.Test.YtnhdfpmjebfjmaaCls
namespace Go.Proofs.Ytnhdfpmjebfjmaa
open Go.RowKit Go.Shelf
attribute [local go_sem] Oper.semAt_some

def exL (ts : List Int) (n m : Nat) : List Int := (ts.set n (nth ts m)).set m (nth ts n)
theorem exL_length (ts : List Int) (n m : Nat) : (exL ts n m).length = ts.length := by simp [exL]
def exOk (ts : List Int) (n m : Int) : Bool := turnsOk ts 8 && (inB n 0 (ts.length - 1) && inB m 0 (ts.length - 1))
def exR (ts : List Int) (n m : Int) : List Int := if exOk ts n m then exL ts n.toNat m.toNat else []
def exC (ts : List Int) (n m : Int) : Int := if exOk ts n m then 0 else 2
theorem exR_len (ts : List Int) (n m : Int) : (exR ts n m).length * 8 ≤ 140737488351232 := by
  unfold exR
  split
  · rename_i h
    unfold exOk at h
    rw [Bool.and_eq_true] at h
    have := turnsOk_len h.1
    rw [exL_length]; omega
  · simp
theorem ex_no {ts : List Int} {n m : Int} (h : exOk ts n m = false) : exR ts n m = [] ∧ exC ts n m = 2 := by
  unfold exR exC; rw [h]; exact ⟨rfl, rfl⟩
theorem ex_yes {ts : List Int} {n m : Nat} (h : exOk ts n m = true) : exR ts n m = exL ts n m ∧ exC ts n m = 0 := by
  unfold exR exC; rw [h, Int.toNat_natCast, Int.toNat_natCast]; exact ⟨rfl, rfl⟩

set_option maxRecDepth 100000 in
set_option maxHeartbeats 8000000 in
theorem l07Exchanged_c (c0 : Value) (ts : List Int) (n m : Nat) (w : World) (hI : Ints w.heap.size w c0 ts) (hm : ts.length ≤ 1048576) (hn : n < ts.length) (hk : m < ts.length) :
    Calls Try.prog 82 #[c0, .int .i64 n, .int .i64 m] w (GivesI w (exL ts n m) id) := by
  obtain ⟨a, cap, rfl⟩ := hI.shape
  have hni : (n : Int) < (ts.length : Int) := by omega
  have hmi : (m : Int) < (ts.length : Int) := by omega
  go_enter Try.func82, Try.ntmps82
  go_wp2_with fail
  refine (l01Own_c _ ts _ hI (by omega) hm).mono ?_
  rintro e w1 ⟨v, rfl, ho, hB⟩
  simp only [id]
  obtain ⟨g, c, rfl, hg1, hg2⟩ := ho.shape (by omega)
  obtain ⟨b, off, rfl, hb, hc⟩ := (hI.below hB).at_ hn
  have c1 := hc n hn
  have c2 := hc m hk
  have hbg : b ≠ g := by omega
  have x1 := ho.cellAt (j := n) hn
  have f1 := ho.frozen n
  obtain ⟨r1, r2⟩ := ho.stored (n := ts.length) n (nth ts m)
  obtain ⟨r3, r4⟩ := r1.stored (n := ts.length) m (nth ts n)
  have hB1 := hB.setCell (p := ⟨g, n, none⟩) hg1 (.int .i64 (nth ts m))
  have hB2 := hB1.setCell (p := ⟨g, m, none⟩) hg1 (.int .i64 (nth ts n))
  have d1 := (hB.setCell (p := ⟨g, n, none⟩) hg1 (.int .i64 (nth ts m))).cell (p := ⟨b, off + n, none⟩) hb
  have x2 := r1.cellAt (j := m) (by simpa using hk)
  have f2 := r1.frozen m
  have c1' : (w1.setCell ⟨g, n, none⟩ (.int .i64 (nth ts m))).cell? ⟨b, off + n, none⟩ = some (.int .i64 (nth ts n)) := by
    have h := ((Below.refl b.succ w1).setCell (p := ⟨g, n, none⟩) (by show b.succ ≤ g; omega) (.int .i64 (nth ts m))).cell (p := ⟨b, off + n, none⟩) (Nat.lt_succ_self b)
    exact h.trans c1
  clear hc hI r2 r4 d1 hB1
  go_wp2
  go_ret
  exact ⟨_, rfl, r3, hB2⟩

set_option maxRecDepth 100000 in
set_option maxHeartbeats 8000000 in
theorem s_ExchangeSlots (c0 : Value) (ts : List Int) (n m : Int) (w : World) (hI : Ints w.heap.size w c0 ts) (_hN : I64s ts) (hm : ts.length ≤ 1048576) (_hn : I64 n) (_hk : I64 m) :
    Calls Try.prog 47 #[c0, .int .i64 n, .int .i64 m] w (GivesI w (exR ts n m) fun v => .tuple #[v, .int .i64 (exC ts n m)]) := by
  obtain ⟨a, cap, rfl⟩ := hI.shape
  cases ht : turnsOk ts 8
  · obtain ⟨r1, r2⟩ := ex_no (n := n) (m := m) (show exOk ts n m = false by unfold exOk; rw [ht]; rfl)
    have R1 := Lib.hid r1
    have R2 := Lib.hid r2
    have Ht := Lib.hid ht
    clear ht r1 r2
    go_enter Try.func47, Try.ntmps47
    go_wp2_with fail
    refine (l01Turns_c _ ts 8 _ hI (by omega) (by omega) (by omega)).mono ?_
    rintro e w1 ⟨he, rfl⟩
    rw [Ht.out] at he
    subst he
    go_wp2
    go_ret2
    exact ⟨_, ret_v2 R2.out.symm, by rw [R1.out]; exact ownI_nil _ _, Below.refl _ _⟩
  · have hl := turnsOk_len ht
    have Ht := Lib.hid ht
    cases hi1 : inB n 0 (ts.length - 1)
    · obtain ⟨r1, r2⟩ := ex_no (n := n) (m := m) (show exOk ts n m = false by unfold exOk; rw [hi1]; simp)
      have R1 := Lib.hid r1
      have R2 := Lib.hid r2
      have H1 := Lib.hid hi1
      clear ht r1 r2 hi1
      go_enter Try.func47, Try.ntmps47
      go_wp2_with fail
      refine (l01Turns_c _ ts 8 _ hI (by omega) (by omega) (by omega)).mono ?_
      rintro e w1 ⟨he, rfl⟩
      rw [Ht.out] at he
      subst he
      go_wp2_with fail
      refine (l01In_d false _ _ _ _ H1.out).mono ?_
      rintro e w' ⟨rfl, rfl⟩
      go_wp2
      go_ret2
      exact ⟨_, ret_v2 R2.out.symm, by rw [R1.out]; exact ownI_nil _ _, Below.refl _ _⟩
    · cases hi2 : inB m 0 (ts.length - 1)
      · obtain ⟨r1, r2⟩ := ex_no (n := n) (m := m) (show exOk ts n m = false by unfold exOk; rw [hi2]; simp)
        have R1 := Lib.hid r1
        have R2 := Lib.hid r2
        have H1 := Lib.hid hi1
        have H2 := Lib.hid hi2
        clear ht r1 r2 hi1 hi2
        go_enter Try.func47, Try.ntmps47
        go_wp2_with fail
        refine (l01Turns_c _ ts 8 _ hI (by omega) (by omega) (by omega)).mono ?_
        rintro e w1 ⟨he, rfl⟩
        rw [Ht.out] at he
        subst he
        go_wp2_with fail
        refine (l01In_d true _ _ _ _ H1.out).mono ?_
        rintro e w' ⟨rfl, rfl⟩
        go_wp2_with fail
        refine (l01In_d false _ _ _ _ H2.out).mono ?_
        rintro e w' ⟨rfl, rfl⟩
        go_wp2
        go_ret2
        exact ⟨_, ret_v2 R2.out.symm, by rw [R1.out]; exact ownI_nil _ _, Below.refl _ _⟩
      · have b1 := inB_true.1 hi1
        have b2 := inB_true.1 hi2
        obtain ⟨x, rfl⟩ : ∃ x : Nat, n = x := ⟨n.toNat, by omega⟩
        obtain ⟨y, rfl⟩ : ∃ y : Nat, m = y := ⟨m.toNat, by omega⟩
        obtain ⟨r1, r2⟩ := ex_yes (ts := ts) (n := x) (m := y) (by unfold exOk; rw [ht, hi1, hi2]; rfl)
        have R1 := Lib.hid r1
        have R2 := Lib.hid r2
        have H1 := Lib.hid hi1
        have H2 := Lib.hid hi2
        clear ht r1 r2 hi1 hi2
        go_enter Try.func47, Try.ntmps47
        go_wp2_with fail
        refine (l01Turns_c _ ts 8 _ hI (by omega) (by omega) (by omega)).mono ?_
        rintro e w1 ⟨he, rfl⟩
        rw [Ht.out] at he
        subst he
        go_wp2_with fail
        refine (l01In_d true _ _ _ _ H1.out).mono ?_
        rintro e w' ⟨rfl, rfl⟩
        go_wp2_with fail
        refine (l01In_d true _ _ _ _ H2.out).mono ?_
        rintro e w' ⟨rfl, rfl⟩
        go_wp2_with fail
        refine (l07Exchanged_c _ ts x y _ hI hm (by omega) (by omega)).mono ?_
        rintro e w2 ⟨v, rfl, ho, hB⟩
        simp only [id]
        go_wp2
        go_ret2
        exact ⟨_, ret_v2 R2.out.symm, by rw [R1.out]; exact ho, hB⟩

set_option maxRecDepth 100000 in
set_option maxHeartbeats 8000000 in
theorem exchangeIn_c (c0 : Value) (ts : List Int) (n m : Nat) (w : World) (hI : Ints w.heap.size w c0 ts) (hm : ts.length ≤ 1048576) (hn : n < ts.length) (hk : m < ts.length) :
    Calls Try.prog 84 #[.agg #[.int .i64 n, .int .i64 m], c0] w (GivesI w (exL ts n m) id) := by
  obtain ⟨a, cap, rfl⟩ := hI.shape
  have hni : (n : Int) < (ts.length : Int) := by omega
  have hmi : (m : Int) < (ts.length : Int) := by omega
  have hfw : Try.prog.follows Departure.mixedOrders = true := by kernel_rfl
  obtain ⟨W0, hW0⟩ : ∃ W0, w.alloc (.cells #[.int .i64 n, .int .i64 m] 93) = W0 := ⟨_, rfl⟩
  have hB0 : Below w.heap.size w W0 := by rw [← hW0]; exact (Below.refl _ w).alloc (Nat.le_refl _) _
  have bE : Box2 W0 w.heap.size 93 (.int .i64 n) (.int .i64 m) := by rw [← hW0]; exact Box2.new _ _ _ _
  have hs0 : w.heap.size + 1 ≤ W0.heap.size := by rw [← hW0]; simp
  go_enter Try.func84, Try.ntmps84
  go_wp2_with fail
  try rw [hW0]
  clear hW0
  refine (clone_c _ ts _ (hI.later hB0) (by omega) hm).mono ?_
  rintro e w1 ⟨v, rfl, ho, hB⟩
  simp only [id]
  obtain ⟨g, c, rfl, hg1, hg2⟩ := ho.shape (by omega)
  have hB1 := hB0.trans (hB.mono hB0.size)
  obtain ⟨b, off, rfl, hb, hc⟩ := hI.at_ hn
  have c1 := hc n hn
  have c2 := hc m hk
  have bE1 := bE.later hB
  have ho1 := ho.base hB0.size
  have hgw : w.heap.size + 1 ≤ g := by omega
  clear hc bE hB0 hB ho
  go_wp2_with fail
  refine wp_region_held_drew (S := fun w' => Box2 w' w.heap.size 93 (.int .i64 n) (.int .i64 m) ∧ Below w.heap.size w w') hfw ⟨bE1.later (Below.refl _ _).drew, hB1.drew⟩ ?_
  intro hS0
  refine wpAnyH_take (i := 0) (v := ?v0) rfl (by kernel_rfl) (by kernel_rfl) (by kernel_rfl) (fun _ _ _ h => h) (.inl ⟨by rfl, ?y0⟩) hS0 ?_
  case y0 =>
    intro w' hS
    (have k0 := hS.1.c0; have k1 := hS.1.c1; have k2 := (hS.2.cell (p := ⟨b, off + n, none⟩) hb).trans c1; have k3 := (hS.2.cell (p := ⟨b, off + m, none⟩) hb).trans c2; clear hS)
    go_simp
    try with_reducible rfl
  refine wpAnyH_take (i := 1) (v := ?v1) rfl (by kernel_rfl) (by kernel_rfl) (by kernel_rfl) (fun _ _ _ h => h) (.inl ⟨by rfl, ?y1⟩) hS0 ?_
  case y1 =>
    intro w' hS
    (have k0 := hS.1.c0; have k1 := hS.1.c1; have k2 := (hS.2.cell (p := ⟨b, off + n, none⟩) hb).trans c1; have k3 := (hS.2.cell (p := ⟨b, off + m, none⟩) hb).trans c2; clear hS)
    go_simp
    try with_reducible rfl
  refine wpAnyH_take (i := 2) (v := ?v2) rfl (by kernel_rfl) (by kernel_rfl) (by kernel_rfl) (fun _ _ _ h => h) (.inl ⟨by rfl, ?y2⟩) hS0 ?_
  case y2 =>
    intro w' hS
    (have k0 := hS.1.c0; have k1 := hS.1.c1; have k2 := (hS.2.cell (p := ⟨b, off + n, none⟩) hb).trans c1; have k3 := (hS.2.cell (p := ⟨b, off + m, none⟩) hb).trans c2; clear hS)
    go_simp
    try with_reducible rfl
  refine wpAnyH_take (i := 3) (v := ?v3) rfl (by kernel_rfl) (by kernel_rfl) (by kernel_rfl) (fun _ _ _ h => h) (.inl ⟨by rfl, ?y3⟩) hS0 ?_
  case y3 =>
    intro w' hS
    (have k0 := hS.1.c0; have k1 := hS.1.c1; have k2 := (hS.2.cell (p := ⟨b, off + n, none⟩) hb).trans c1; have k3 := (hS.2.cell (p := ⟨b, off + m, none⟩) hb).trans c2; clear hS)
    go_simp
    try with_reducible rfl
  refine wpAnyH_take (i := 4) (v := ?v4) rfl (by kernel_rfl) (by kernel_rfl) (by kernel_rfl) (fun _ _ _ h => h) (.inl ⟨by rfl, ?y4⟩) hS0 ?_
  case y4 =>
    intro w' hS
    (have k0 := hS.1.c0; have k1 := hS.1.c1; have k2 := (hS.2.cell (p := ⟨b, off + n, none⟩) hb).trans c1; have k3 := (hS.2.cell (p := ⟨b, off + m, none⟩) hb).trans c2; clear hS)
    go_simp
    try with_reducible rfl
  refine wpAnyH_take (i := 5) (v := ?v5) rfl (by kernel_rfl) (by kernel_rfl) (by kernel_rfl) (fun _ _ _ h => h) (.inl ⟨by rfl, ?y5⟩) hS0 ?_
  case y5 =>
    intro w' hS
    (have k0 := hS.1.c0; have k1 := hS.1.c1; have k2 := (hS.2.cell (p := ⟨b, off + n, none⟩) hb).trans c1; have k3 := (hS.2.cell (p := ⟨b, off + m, none⟩) hb).trans c2; clear hS)
    go_simp
    try with_reducible rfl
  refine wpAnyH_take (i := 6) (v := ?v6) rfl (by kernel_rfl) (by kernel_rfl) (by kernel_rfl) (fun _ _ _ h => h) (.inl ⟨by rfl, ?y6⟩) hS0 ?_
  case y6 =>
    intro w' hS
    (have k0 := hS.1.c0; have k1 := hS.1.c1; have k2 := (hS.2.cell (p := ⟨b, off + n, none⟩) hb).trans c1; have k3 := (hS.2.cell (p := ⟨b, off + m, none⟩) hb).trans c2; clear hS)
    go_simp
    try with_reducible rfl
  refine wpAnyH_take (i := 7) (v := ?v7) rfl (by kernel_rfl) (by kernel_rfl) (by kernel_rfl) (fun _ _ _ h => h) (.inl ⟨by rfl, ?y7⟩) hS0 ?_
  case y7 =>
    intro w' hS
    (have k0 := hS.1.c0; have k1 := hS.1.c1; have k2 := (hS.2.cell (p := ⟨b, off + n, none⟩) hb).trans c1; have k3 := (hS.2.cell (p := ⟨b, off + m, none⟩) hb).trans c2; clear hS)
    go_simp
    try with_reducible rfl
  refine wpAnyH_take (i := 8) (v := ?v8) rfl (by kernel_rfl) (by kernel_rfl) (by kernel_rfl) (fun _ _ _ h => h) (.inl ⟨by rfl, ?y8⟩) hS0 ?_
  case y8 =>
    intro w' hS
    (have k0 := hS.1.c0; have k1 := hS.1.c1; have k2 := (hS.2.cell (p := ⟨b, off + n, none⟩) hb).trans c1; have k3 := (hS.2.cell (p := ⟨b, off + m, none⟩) hb).trans c2; clear hS)
    go_simp
    try with_reducible rfl
  refine wpAnyH_take (i := 9) (v := ?v9) rfl (by kernel_rfl) (by kernel_rfl) (by kernel_rfl) (fun _ _ _ h => h) (.inl ⟨by rfl, ?y9⟩) hS0 ?_
  case y9 =>
    intro w' hS
    (have k0 := hS.1.c0; have k1 := hS.1.c1; have k2 := (hS.2.cell (p := ⟨b, off + n, none⟩) hb).trans c1; have k3 := (hS.2.cell (p := ⟨b, off + m, none⟩) hb).trans c2; clear hS)
    go_simp
    try with_reducible rfl
  refine wpAnyH_take (i := 10) (v := ?v10) rfl (by kernel_rfl) (by kernel_rfl) (by kernel_rfl) (fun _ _ _ h => h) (.inl ⟨by rfl, ?y10⟩) hS0 ?_
  case y10 =>
    intro w' hS
    (have k0 := hS.1.c0; have k1 := hS.1.c1; have k2 := (hS.2.cell (p := ⟨b, off + n, none⟩) hb).trans c1; have k3 := (hS.2.cell (p := ⟨b, off + m, none⟩) hb).trans c2; clear hS)
    go_simp
    try with_reducible rfl
  refine wpAnyH_take (i := 11) (v := ?v11) rfl (by kernel_rfl) (by kernel_rfl) (by kernel_rfl) (fun _ _ _ h => h) (.inl ⟨by rfl, ?y11⟩) hS0 ?_
  case y11 =>
    intro w' hS
    (have k0 := hS.1.c0; have k1 := hS.1.c1; have k2 := (hS.2.cell (p := ⟨b, off + n, none⟩) hb).trans c1; have k3 := (hS.2.cell (p := ⟨b, off + m, none⟩) hb).trans c2; clear hS)
    go_simp
    try with_reducible rfl
  refine wpAnyH_take (i := 12) (v := ?v12) rfl (by kernel_rfl) (by kernel_rfl) (by kernel_rfl) (fun _ _ _ h => h) (.inl ⟨by rfl, ?y12⟩) hS0 ?_
  case y12 =>
    intro w' hS
    (have k0 := hS.1.c0; have k1 := hS.1.c1; have k2 := (hS.2.cell (p := ⟨b, off + n, none⟩) hb).trans c1; have k3 := (hS.2.cell (p := ⟨b, off + m, none⟩) hb).trans c2; clear hS)
    go_simp
    try with_reducible rfl
  refine wpAnyH_take (i := 13) (v := ?v13) rfl (by kernel_rfl) (by kernel_rfl) (by kernel_rfl) (fun _ _ _ h => h) (.inl ⟨by rfl, ?y13⟩) hS0 ?_
  case y13 =>
    intro w' hS
    (have k0 := hS.1.c0; have k1 := hS.1.c1; have k2 := (hS.2.cell (p := ⟨b, off + n, none⟩) hb).trans c1; have k3 := (hS.2.cell (p := ⟨b, off + m, none⟩) hb).trans c2; clear hS)
    go_simp
    try with_reducible rfl
  refine wpAnyH_take (i := 14) (v := ?v14) rfl (by kernel_rfl) (by kernel_rfl) (by kernel_rfl) (fun _ _ _ h => h) (.inl ⟨by rfl, ?y14⟩) hS0 ?_
  case y14 =>
    intro w' hS
    (have k0 := hS.1.c0; have k1 := hS.1.c1; have k2 := (hS.2.cell (p := ⟨b, off + n, none⟩) hb).trans c1; have k3 := (hS.2.cell (p := ⟨b, off + m, none⟩) hb).trans c2; clear hS)
    go_simp
    try with_reducible rfl
  refine wpAnyH_take (i := 15) (v := ?v15) rfl (by kernel_rfl) (by kernel_rfl) (by kernel_rfl) (fun _ _ _ h => h) (.inl ⟨by rfl, ?y15⟩) hS0 ?_
  case y15 =>
    intro w' hS
    (have k0 := hS.1.c0; have k1 := hS.1.c1; have k2 := (hS.2.cell (p := ⟨b, off + n, none⟩) hb).trans c1; have k3 := (hS.2.cell (p := ⟨b, off + m, none⟩) hb).trans c2; clear hS)
    go_simp
    try with_reducible rfl
  refine wpAnyH_take (i := 16) (v := ?v16) rfl (by kernel_rfl) (by kernel_rfl) (by kernel_rfl) (fun _ _ _ h => h) (.inl ⟨by rfl, ?y16⟩) hS0 ?_
  case y16 =>
    intro w' hS
    (have k0 := hS.1.c0; have k1 := hS.1.c1; have k2 := (hS.2.cell (p := ⟨b, off + n, none⟩) hb).trans c1; have k3 := (hS.2.cell (p := ⟨b, off + m, none⟩) hb).trans c2; clear hS)
    go_simp
    try with_reducible rfl
  obtain ⟨wd, hwd⟩ : ∃ wd, w1.drew = wd := ⟨_, rfl⟩
  have hod : OwnI w.heap.size wd (.slice (some ⟨g, 0, none⟩) ts.length c) ts := by rw [← hwd]; exact ho1
  rw [hwd] at hS0 ⊢
  clear hwd
  have x1 := hod.cellAt (j := n) hn
  have f1 := hod.frozen n
  obtain ⟨r1, r2⟩ := hod.stored (n := ts.length) n (nth ts m)
  obtain ⟨r3, r4⟩ := r1.stored (n := ts.length) m (nth ts n)
  have x2 := r1.cellAt (j := m) (by simpa using hk)
  have f2 := r1.frozen m
  refine wpAnyH_ready (rs := [17]) (by kernel_rfl) (by simp) ?_
  refine AllReadyH.cons rfl (fun K' hK' => ?_) AllReadyH.nil
  rw [if_pos (by rfl)]
  go_simp
  refine hK'.out _ _ ⟨hS0.1.kept r2 (by simp; omega), hS0.2.grown r2 hS0.2.size (fun j e => by have h1 : g = j := (by simpa using e); omega)⟩ fun hS1 => ?_
  clear hK'
  refine wpAnyH_take (i := 18) (v := ?vs218) rfl (by kernel_rfl) (by kernel_rfl) (by kernel_rfl) (fun _ _ _ h => h) (.inl ⟨by rfl, ?ys218⟩) hS1 ?_
  case ys218 =>
    intro w' hS
    (clear hS)
    go_simp
    try with_reducible rfl
  refine wpAnyH_ready (rs := [19]) (by kernel_rfl) (by simp) ?_
  refine AllReadyH.cons rfl (fun K' hK' => ?_) AllReadyH.nil
  rw [if_pos (by rfl)]
  go_simp
  refine hK'.out _ _ ⟨hS1.1.kept r4 (by simp; omega), hS1.2.grown r4 hS1.2.size (fun j e => by have h1 : g = j := (by simpa using e); omega)⟩ fun hS2 => ?_
  refine wpAnyH_done (by kernel_rfl) ?_ _
  go_wp2
  go_ret
  exact ⟨_, rfl, r3, hS2.2⟩

set_option maxRecDepth 100000 in
set_option maxHeartbeats 8000000 in
theorem i_ExchangeSlots (c0 : Value) (ts : List Int) (n m : Int) (w : World) (hI : Ints w.heap.size w c0 ts) (_hN : I64s ts) (hm : ts.length ≤ 1048576) (_hn : I64 n) (_hk : I64 m) :
    Calls Try.prog 48 #[c0, .int .i64 n, .int .i64 m] w (GivesI w (exR ts n m) fun v => .tuple #[v, .int .i64 (exC ts n m)]) := by
  obtain ⟨a, cap, rfl⟩ := hI.shape
  cases ht : turnsOk ts 8
  · obtain ⟨r1, r2⟩ := ex_no (n := n) (m := m) (show exOk ts n m = false by unfold exOk; rw [ht]; rfl)
    have R1 := Lib.hid r1
    have R2 := Lib.hid r2
    have Ht := Lib.hid ht
    clear ht r1 r2
    go_enter Try.func48, Try.ntmps48
    go_wp2_with fail
    refine (areTurns_c _ ts 8 _ hI (by omega)).mono ?_
    rintro e w1 ⟨he, hb⟩
    rw [Ht.out] at he
    subst he
    go_wp2
    go_ret2
    exact ⟨_, ret_v2 R2.out.symm, by rw [R1.out]; exact ownI_nil _ _, hb⟩
  · have hl := turnsOk_len ht
    have Ht := Lib.hid ht
    obtain ⟨lo, hlo⟩ : ∃ lo, (if m < n then m else n) = lo := ⟨_, rfl⟩
    obtain ⟨up, hup⟩ : ∃ up, (if n < m then m else n) = up := ⟨_, rfl⟩
    have hlo2 : lo ≤ n ∧ lo ≤ m ∧ (lo = n ∨ lo = m) := by rw [← hlo]; split <;> omega
    have hup2 : n ≤ up ∧ m ≤ up ∧ (up = n ∨ up = m) := by rw [← hup]; split <;> omega
    by_cases h0 : lo < 0
    · obtain ⟨r1, r2⟩ := ex_no (ts := ts) (n := n) (m := m) (by
        unfold exOk
        rcases hlo2.2.2 with e | e
        · rw [inB_false.2 (show n < 0 ∨ (ts.length : Int) - 1 < n by omega)]; simp
        · rw [inB_false.2 (show m < 0 ∨ (ts.length : Int) - 1 < m by omega)]; simp)
      have R1 := Lib.hid r1
      have R2 := Lib.hid r2
      clear ht r1 r2 hlo2 hup2 hup
      by_cases hnm : m < n
      · rw [if_pos hnm] at hlo
        subst hlo
        go_enter Try.func48, Try.ntmps48
        go_wp2_with fail
        refine (areTurns_c _ ts 8 _ hI (by omega)).mono ?_
        rintro e w1 ⟨he, hb⟩
        rw [Ht.out] at he
        subst he
        go_wp2
        go_ret2
        exact ⟨_, ret_v2 R2.out.symm, by rw [R1.out]; exact ownI_nil _ _, hb⟩
      · rw [if_neg hnm] at hlo
        subst hlo
        go_enter Try.func48, Try.ntmps48
        go_wp2_with fail
        refine (areTurns_c _ ts 8 _ hI (by omega)).mono ?_
        rintro e w1 ⟨he, hb⟩
        rw [Ht.out] at he
        subst he
        go_wp2
        go_ret2
        exact ⟨_, ret_v2 R2.out.symm, by rw [R1.out]; exact ownI_nil _ _, hb⟩
    · by_cases h8 : (ts.length : Int) ≤ up
      · obtain ⟨r1, r2⟩ := ex_no (ts := ts) (n := n) (m := m) (by
          unfold exOk
          rcases hup2.2.2 with e | e
          · rw [inB_false.2 (show n < 0 ∨ (ts.length : Int) - 1 < n by omega)]; simp
          · rw [inB_false.2 (show m < 0 ∨ (ts.length : Int) - 1 < m by omega)]; simp)
        have R1 := Lib.hid r1
        have R2 := Lib.hid r2
        have hn0 : 0 ≤ n := by omega
        have hm0 : 0 ≤ m := by omega
        clear ht r1 r2 hlo2 hup2 hlo
        rcases Int.lt_trichotomy n m with hnm | rfl | hnm
        · rw [if_pos hnm] at hup
          subst hup
          go_enter Try.func48, Try.ntmps48
          go_wp2_with fail
          refine (areTurns_c _ ts 8 _ hI (by omega)).mono ?_
          rintro e w1 ⟨he, hb⟩
          rw [Ht.out] at he
          subst he
          go_wp2
          go_ret2
          exact ⟨_, ret_v2 R2.out.symm, by rw [R1.out]; exact ownI_nil _ _, hb⟩
        · rw [if_neg (by omega)] at hup
          subst hup
          go_enter Try.func48, Try.ntmps48
          go_wp2_with fail
          refine (areTurns_c _ ts 8 _ hI (by omega)).mono ?_
          rintro e w1 ⟨he, hb⟩
          rw [Ht.out] at he
          subst he
          go_wp2
          go_ret2
          exact ⟨_, ret_v2 R2.out.symm, by rw [R1.out]; exact ownI_nil _ _, hb⟩
        · rw [if_neg (by omega)] at hup
          subst hup
          go_enter Try.func48, Try.ntmps48
          go_wp2_with fail
          refine (areTurns_c _ ts 8 _ hI (by omega)).mono ?_
          rintro e w1 ⟨he, hb⟩
          rw [Ht.out] at he
          subst he
          go_wp2
          go_ret2
          exact ⟨_, ret_v2 R2.out.symm, by rw [R1.out]; exact ownI_nil _ _, hb⟩
      · obtain ⟨x, rfl⟩ : ∃ x : Nat, n = x := ⟨n.toNat, by omega⟩
        obtain ⟨y, rfl⟩ : ∃ y : Nat, m = y := ⟨m.toNat, by omega⟩
        have hx : x < ts.length := by omega
        have hy : y < ts.length := by omega
        obtain ⟨r1, r2⟩ := ex_yes (ts := ts) (n := x) (m := y) (by unfold exOk; rw [ht, inB_true.2 (by omega), inB_true.2 (by omega)]; rfl)
        have R1 := Lib.hid r1
        have R2 := Lib.hid r2
        have hxi : (x : Int) < (ts.length : Int) := by omega
        have hyi : (y : Int) < (ts.length : Int) := by omega
        clear ht r1 r2 hlo2 hup2 hlo hup h0 h8
        rcases Int.lt_trichotomy (x : Int) (y : Int) with hnm | hnm | hnm
        · have hnm2 : ¬ (y : Int) < (x : Int) := by omega
          go_enter Try.func48, Try.ntmps48
          go_wp2_with fail
          refine (areTurns_c _ ts 8 _ hI (by omega)).mono ?_
          rintro e w1 ⟨he, hb⟩
          rw [Ht.out] at he
          subst he
          go_wp2_with fail
          refine (exchangeIn_c _ ts x y _ (hI.later hb) hm hx hy).mono ?_
          rintro e w2 ⟨v, rfl, ho, hB⟩
          simp only [id]
          have hB2 := hb.trans (hB.mono hb.size)
          have ho2 := ho.base hb.size
          clear ho hB
          go_wp2
          go_ret2
          exact ⟨_, ret_v2 R2.out.symm, by rw [R1.out]; exact ho2, hB2⟩
        · have hxy : x = y := by omega
          subst hxy
          clear hnm
          go_enter Try.func48, Try.ntmps48
          go_wp2_with fail
          refine (areTurns_c _ ts 8 _ hI (by omega)).mono ?_
          rintro e w1 ⟨he, hb⟩
          rw [Ht.out] at he
          subst he
          go_wp2_with fail
          refine (exchangeIn_c _ ts x x _ (hI.later hb) hm hx hy).mono ?_
          rintro e w2 ⟨v, rfl, ho, hB⟩
          simp only [id]
          have hB2 := hb.trans (hB.mono hb.size)
          have ho2 := ho.base hb.size
          clear ho hB
          go_wp2
          go_ret2
          exact ⟨_, ret_v2 R2.out.symm, by rw [R1.out]; exact ho2, hB2⟩
        · have hnm2 : ¬ (x : Int) < (y : Int) := by omega
          go_enter Try.func48, Try.ntmps48
          go_wp2_with fail
          refine (areTurns_c _ ts 8 _ hI (by omega)).mono ?_
          rintro e w1 ⟨he, hb⟩
          rw [Ht.out] at he
          subst he
          go_wp2_with fail
          refine (exchangeIn_c _ ts x y _ (hI.later hb) hm hx hy).mono ?_
          rintro e w2 ⟨v, rfl, ho, hB⟩
          simp only [id]
          have hB2 := hb.trans (hB.mono hb.size)
          have ho2 := ho.base hb.size
          clear ho hB
          go_wp2
          go_ret2
          exact ⟨_, ret_v2 R2.out.symm, by rw [R1.out]; exact ho2, hB2⟩

end Go.Proofs.Ytnhdfpmjebfjmaa
