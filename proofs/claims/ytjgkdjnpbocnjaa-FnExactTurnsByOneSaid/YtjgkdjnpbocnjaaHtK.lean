/-
  turnsOfKind of the program: HarmonicTurns, TurnsByPowers and TurnsByOne.
  Conditions: lists of at most 1048576 elements.
-/
import Derived.Test.YtjgkdjnpbocnjaaHtJ
import Derived.Test.YtjgkdjnpbocnjaaHtL
import Derived.Test.YtjgkdjnpbocnjaaOwn
namespace Go.Proofs.Ytjgkdjnpbocnjaa
open Go.RowKit Go.Shelf
attribute [local go_sem] Oper.semAt_some

/-- what the turns of a kind of gaps gs of the tasks zs are: the turns rs and the code c -/
structure KindIs (zs gs : List Int) (c : Int) (rs : List Int) : Prop where
  no : tasksOk zs = false → c = 1 ∧ rs = []
  ok : tasksOk zs = true → tasksOk gs = true
  odd : tasksOk zs = true → harmB gs = false → c = 5 ∧ rs = []
  full : tasksOk zs = true → harmB gs = true → harmT gs = none → c = 4 ∧ rs = []
  yes : ∀ l, tasksOk zs = true → harmB gs = true → harmT gs = some l → c = 0 ∧ rs = l
theorem kind_own (zs : List Int) : KindIs zs zs (htC zs) (htR zs) where
  no h := by unfold htC htR; rw [h]; exact ⟨rfl, rfl⟩
  ok h := h
  odd h e := by unfold htC htR; rw [h, e]; exact ⟨rfl, rfl⟩
  full h e k := by unfold htC htR; rw [h, e, k]; exact ⟨rfl, rfl⟩
  yes l h e k := by unfold htC htR; rw [h, e, k]; exact ⟨rfl, rfl⟩
theorem kind_les {zs : List Int} {x : Int} (ht : tasksOk zs = true) (hx : 1 ≤ x ∧ x ≤ leastL zs) : KindIs zs (lesTo x zs zs.length) (powC zs x) (powL zs x) where
  no h := by rw [ht] at h; cases h
  ok h := lesTo_tasks ht hx.1 (leastL_all hx.2)
  odd _ e := by rw [lesTo_harm] at e; cases e
  full _ _ k := by unfold powC powL powT; rw [k]; exact ⟨rfl, rfl⟩
  yes l _ _ k := by unfold powC powL powT; rw [k]; exact ⟨rfl, rfl⟩
theorem kind_pow (zs : List Int) : KindIs zs (lesTo 1 zs zs.length) (tbpC zs) (tbpR zs) where
  no h := by unfold tbpC tbpR; rw [h]; exact ⟨rfl, rfl⟩
  ok h := lesTo_tasks h (Int.le_refl 1) (fun m hm => (tasksOk_nth h hm).1)
  odd _ e := by rw [lesTo_harm] at e; cases e
  full h _ k := by unfold tbpC tbpR powC powL powT; rw [h, k]; exact ⟨rfl, rfl⟩
  yes l h _ k := by unfold tbpC tbpR powC powL powT; rw [h, k]; exact ⟨rfl, rfl⟩

set_option maxRecDepth 100000 in
set_option maxHeartbeats 8000000 in
theorem turnsWork_c (bt bk : Nat) (sv kv : Value) (zs gs : List Int) (c : Int) (rs : List Int) (w : World) (hbT : Boxed w bt 39 sv) (hbK : Boxed w bk 118 kv) (hI : Ints w.heap.size w sv zs) (hm : zs.length ≤ 1048576) (hkd : KindIs zs gs c rs)
    (hkc : tasksOk zs = true → ∀ W, Below w.heap.size w W → Calls Try.prog 88 #[.agg #[sv], kv] W (GivesI W gs fun v => .agg #[v])) :
    Calls Try.prog 85 #[.pointer (some ⟨bt, 0, none⟩), .pointer (some ⟨bk, 0, none⟩)] w fun e w' => (c = 0 ∧ GivesI w rs id e w') ∨ (rs = [] ∧ e = .panicked (refused c) ∧ Below w.heap.size w w') := by
  obtain ⟨a, cap, rfl⟩ := hI.shape
  have Hkc := Lib.hid hkc
  clear hkc
  have cT := hbT.cell
  have cK := hbK.cell
  go_enter Try.func85, Try.ntmps85
  go_wp2_with fail
  refine (isTasks_c _ zs _ hI (by omega)).mono ?_
  rintro e w1 ⟨rfl, hb⟩
  have bT := boxed_later hbT hb
  have bK := boxed_later hbK hb
  clear cT cK
  have cT := bT.cell
  have cK := bK.cell
  cases ht : tasksOk zs
  · obtain ⟨rfl, hr⟩ := hkd.no ht
    go_wp2_with fail
    refine (demand_n' _ _ _ rfl).mono ?_
    rintro e w2 ⟨rfl, rfl⟩
    go_wp2
    exact ⟨rfl, .inr ⟨hr, rfl, hb⟩⟩
  have Ht := Lib.hid ht
  go_wp2_with fail
  refine (demand_y' _ _ _ rfl).mono ?_
  rintro e w2 ⟨rfl, rfl⟩
  go_wp2_with fail
  refine (Hkc.out ht _ hb).mono ?_
  rintro e w3 ⟨v, rfl, ho, hb2⟩
  have hB2 := hb.trans (hb2.mono hb.size)
  have hgo := hkd.ok ht
  have hs1 := hb.size
  clear hb hb2 cT cK bT bK ht
  go_wp2_with fail
  refine (harmonicTurns_c _ gs _ ho.ints hgo).mono ?_
  rintro e w4 (⟨hh, l, hl, v4, rfl, ho4, hb4⟩ | ⟨hh, rfl, hb4⟩ | ⟨hh, hn, rfl, hb4⟩)
  · obtain ⟨hc, rfl⟩ := hkd.yes l Ht.out hh hl
    have hs2 := hB2.size
    simp only [id]
    go_wp2
    go_ret
    exact .inl ⟨hc, _, rfl, ho4.base (by omega), hB2.trans (hb4.mono hs2)⟩
  · obtain ⟨rfl, hr⟩ := hkd.odd Ht.out hh
    go_wp2
    exact ⟨rfl, .inr ⟨hr, rfl, hB2.trans (hb4.mono hB2.size)⟩⟩
  · obtain ⟨rfl, hr⟩ := hkd.full Ht.out hh hn
    go_wp2
    exact ⟨rfl, .inr ⟨hr, rfl, hB2.trans (hb4.mono hB2.size)⟩⟩

set_option maxRecDepth 100000 in
set_option maxHeartbeats 8000000 in
theorem turnsOfKind_c (c0 : Value) (kt : TypeId) (kx : Value) (zs gs : List Int) (c : Int) (rs : List Int) (w : World) (hI : Ints w.heap.size w c0 zs) (hm : zs.length ≤ 1048576) (hkd : KindIs zs gs c rs)
    (hkc : tasksOk zs = true → ∀ W, Below w.heap.size w W → Calls Try.prog 88 #[.agg #[c0], .iface kt kx] W (GivesI W gs fun v => .agg #[v])) :
    Calls Try.prog 61 #[.agg #[c0], .iface kt kx] w (GivesI w rs fun v => .tuple #[v, .int .i64 c]) := by
  have hmf : ∀ (fn : Fn) (first cap : Array Value) (w : World), (Instr.makeFunc fn first cap).run Try.prog w = .ok (.func fn first cap) w := fun _ _ _ _ => rfl
  obtain ⟨a, cap, rfl⟩ := hI.shape
  go_enter Try.func61, Try.ntmps61
  go_wp2_with fail
  obtain ⟨W0, hW0⟩ : ∃ W0, ((w.alloc (.cells #[.slice a zs.length cap] 39)).alloc (.cells #[.iface kt kx] 118)) = W0 := ⟨_, rfl⟩
  have hB0 : Below w.heap.size w W0 := by rw [← hW0]; exact (((Below.refl _ w).alloc (Nat.le_refl _) _).alloc (by simp; try omega) _)
  have hs0 : w.heap.size + 2 ≤ W0.heap.size := by rw [← hW0]; simp
  have bT : Boxed W0 (w.heap.size) 39 (.slice a zs.length cap) := by rw [← hW0]; repeat first | (refine boxed_at ?_; (simp; done)) | refine Boxed.alloc ?_ _
  have bK : Boxed W0 (w.heap.size + 1) 118 (.iface kt kx) := by rw [← hW0]; repeat first | (refine boxed_at ?_; (simp; done)) | refine Boxed.alloc ?_ _
  rw [hW0]
  clear hW0
  refine (doorL_c _ _ rs c W0 (enters_of Try.func85 (by kernel_rfl) rfl) (fun W hW hs => turnsWork_c w.heap.size (w.heap.size + 1) _ _ zs gs c rs W (boxed_later bT hW) (boxed_later bK hW) ((hI.later hB0).later hW) hm hkd (fun ht W2 hW2 => hkc ht W2 (hB0.trans ((hW.mono hB0.size).trans (hW2.mono (Nat.le_trans hB0.size hs))))))).mono ?_
  rintro e w1 ⟨v, rfl, ho, hb⟩
  have hB1 := hB0.trans (hb.mono hB0.size)
  go_wp2_with fail
  go_ret2
  exact ⟨_, rfl, ho.base hB0.size, hB1⟩

set_option maxRecDepth 100000 in
set_option maxHeartbeats 8000000 in
theorem i_HarmonicTurns (c0 : Value) (zs : List Int) (w : World) (hI : Ints w.heap.size w c0 zs) (_hN : I64s zs) (hm : zs.length ≤ 1048576) :
    Calls Try.prog 30 #[.agg #[c0]] w (GivesI w (htR zs) fun v => .tuple #[v, .int .i64 (htC zs)]) := by
  obtain ⟨a, cap, rfl⟩ := hI.shape
  go_enter Try.func30, Try.ntmps30
  go_wp2_with fail
  obtain ⟨W0, hW0⟩ : ∃ W0, (w.alloc (.cells #[.slice a zs.length cap] 39)) = W0 := ⟨_, rfl⟩
  have hB0 : Below w.heap.size w W0 := by rw [← hW0]; exact ((Below.refl _ w).alloc (Nat.le_refl _) _)
  have hs0 : w.heap.size + 1 ≤ W0.heap.size := by rw [← hW0]; simp
  have bT : Boxed W0 (w.heap.size) 39 (.slice a zs.length cap) := by rw [← hW0]; repeat first | (refine boxed_at ?_; (simp; done)) | refine Boxed.alloc ?_ _
  rw [hW0]
  clear hW0
  refine (turnsOfKind_c _ _ _ zs zs (htC zs) (htR zs) _ (hI.later hB0) hm (kind_own zs) (fun _ W hW => tasksOfKind_own _ zs W ((hI.later hB0).later hW) hm)).mono ?_
  rintro e w1 ⟨v, rfl, ho, hb⟩
  have hB1 := hB0.trans (hb.mono hB0.size)
  go_wp2_with fail
  go_ret2
  exact ⟨_, rfl, ho.base hB0.size, hB1⟩

set_option maxRecDepth 100000 in
set_option maxHeartbeats 8000000 in
theorem i_TurnsByPowers (c0 : Value) (zs : List Int) (w : World) (hI : Ints w.heap.size w c0 zs) (_hN : I64s zs) (hm : zs.length ≤ 1048576) :
    Calls Try.prog 32 #[.agg #[c0]] w (GivesI w (tbpR zs) fun v => .tuple #[v, .int .i64 (tbpC zs)]) := by
  obtain ⟨a, cap, rfl⟩ := hI.shape
  go_enter Try.func32, Try.ntmps32
  go_wp2_with fail
  have hfw : Try.prog.follows Departure.mixedOrders = true := by kernel_rfl
  obtain ⟨W0, hW0⟩ : ∃ W0, (w.alloc (.cells #[.slice a zs.length cap] 39)) = W0 := ⟨_, rfl⟩
  have hB0 : Below w.heap.size w W0 := by rw [← hW0]; exact ((Below.refl _ w).alloc (Nat.le_refl _) _)
  have hs0 : w.heap.size + 1 ≤ W0.heap.size := by rw [← hW0]; simp
  have bT : Boxed W0 (w.heap.size) 39 (.slice a zs.length cap) := by rw [← hW0]; repeat first | (refine boxed_at ?_; (simp; done)) | refine Boxed.alloc ?_ _
  rw [hW0]
  clear hW0
  refine wp_region_held_drew (S := fun w' => Boxed w' w.heap.size 39 (.slice a zs.length cap) ∧ Below w.heap.size w w') hfw ⟨bT, hB0.drew⟩ ?_
  intro hS0
  refine wpAnyH_take (i := 0) (v := ?v0) rfl (by kernel_rfl) (by kernel_rfl) (by kernel_rfl) (fun _ _ _ h => h) (.inl ⟨by rfl, ?y0⟩) hS0 ?_
  case y0 =>
    intro w' hS
    (have k1 := hS.1.cell; clear hS)
    go_simp
    try with_reducible rfl
  refine wpAnyH_ready (rs := [1]) (by kernel_rfl) (by simp) ?_
  refine AllReadyH.cons rfl (fun K' hK' => ?_) AllReadyH.nil
  rw [if_pos (by rfl)]
  go_simp
  refine (lessenedTo_c 1 _).mono ?_
  rintro e w3 ⟨rfl, rfl⟩
  have s1 := hS0.1.alloc (.cells #[.int .i64 1] 2)
  have s2 := hS0.2.alloc hS0.2.size (.cells #[.int .i64 1] 2)
  have s3 : Boxed (W0.drew.alloc (.cells #[.int .i64 1] 2)) W0.heap.size 2 (.int .i64 1) := Boxed.new W0.drew 2 (.int .i64 1)
  refine hK'.out _ _ ⟨s1, s2⟩ fun hS1 => ?_
  refine wpAnyH_take (i := 2) (v := ?vb2) rfl (by kernel_rfl) (by kernel_rfl) (by kernel_rfl) (fun _ _ _ h => h) (.inl ⟨by rfl, ?yb2⟩) hS1 ?_
  case yb2 =>
    intro w' hS
    (clear hS)
    go_simp
    try with_reducible rfl
  refine wpAnyH_ready (rs := [3]) (by kernel_rfl) (by simp) ?_
  refine AllReadyH.cons rfl (fun K' hK' => ?_) AllReadyH.nil
  rw [if_pos (by rfl)]
  go_simp
  have hpow := kind_pow zs
  refine (turnsOfKind_c _ _ _ zs (lesTo 1 zs zs.length) (tbpC zs) (tbpR zs) _ (hI.later s2) hm hpow (fun ht W hW => tasksOfKind_les _ zs W0.heap.size 1 W ((hI.later s2).later hW) hm (boxed_later s3 hW) (by omega) (fun k hk => (tasksOk_nth ht hk).2))).mono ?_
  rintro e w4 ⟨v, rfl, ho, hb⟩
  have t1 := boxed_later s1 hb
  have t2 := s2.trans (hb.mono s2.size)
  refine hK'.out _ _ ⟨t1, t2⟩ fun hS2 => ?_
  have hs2 := s2.size
  refine wpAnyH_take (i := 4) (v := ?vc4) rfl (by kernel_rfl) (by kernel_rfl) (by kernel_rfl) (fun _ _ _ h => h) (.inl ⟨by rfl, ?yc4⟩) hS2 ?_
  case yc4 =>
    intro w' hS
    (clear hS)
    go_simp
    try with_reducible rfl
  refine wpAnyH_take (i := 5) (v := ?vc5) rfl (by kernel_rfl) (by kernel_rfl) (by kernel_rfl) (fun _ _ _ h => h) (.inl ⟨by rfl, ?yc5⟩) hS2 ?_
  case yc5 =>
    intro w' hS
    (clear hS)
    go_simp
    try with_reducible rfl
  refine wpAnyH_take (i := 6) (v := ?vc6) rfl (by kernel_rfl) (by kernel_rfl) (by kernel_rfl) (fun _ _ _ h => h) (.inl ⟨by rfl, ?yc6⟩) hS2 ?_
  case yc6 =>
    intro w' hS
    (clear hS)
    go_simp
    try with_reducible rfl
  refine wpAnyH_take (i := 7) (v := ?vc7) rfl (by kernel_rfl) (by kernel_rfl) (by kernel_rfl) (fun _ _ _ h => h) (.inl ⟨by rfl, ?yc7⟩) hS2 ?_
  case yc7 =>
    intro w' hS
    (clear hS)
    go_simp
    try with_reducible rfl
  refine wpAnyH_done (by kernel_rfl) ?_ _
  clear hS0 hS1 hS2 hb s1 s2 s3
  go_wp2
  go_ret2
  exact ⟨_, rfl, ho.base hs2, t2⟩

end Go.Proofs.Ytjgkdjnpbocnjaa
