/-
  turnsOfKind of the program: HarmonicTurns, TurnsByPowers and TurnsByOne.
  Conditions: lists of at most 1048576 elements.
-/
import Derived.Test.YtahleajedgehlaaHtJ
import Derived.Test.YtahleajedgehlaaHtL
import Derived.Test.YtahleajedgehlaaOwn
namespace Go.Proofs.Ytahleajedgehlaa
open Go.RowKit Go.Shelf
attribute [local go_sem] Oper.semAt_some

/-- what the turns of a kind of gaps gs of the tasks zs are: the turns rs and the code c -/
structure KindIs (zs gs : List Int) (c : Int) (rs : List Int) : Prop where
  no : tasksOk zs = false → c = 1 ∧ rs = []
  ok : tasksOk zs = true → tasksOk gs = true
  odd : tasksOk zs = true → harmB gs = false → c = 5 ∧ rs = []
  full : tasksOk zs = true → harmB gs = true → harmT gs = none → c = 4 ∧ rs = []
  yes : ∀ l, tasksOk zs = true → harmB gs = true → harmT gs = some l → c = 0 ∧ rs = l
theorem kind_own (zs : List Int) : KindIs zs zs (htC zs) (htR zs) where
  no h := by unfold htC htR; rw [h]; exact ⟨rfl, rfl⟩
  ok h := h
  odd h e := by unfold htC htR; rw [h, e]; exact ⟨rfl, rfl⟩
  full h e k := by unfold htC htR; rw [h, e, k]; exact ⟨rfl, rfl⟩
  yes l h e k := by unfold htC htR; rw [h, e, k]; exact ⟨rfl, rfl⟩
theorem kind_les {zs : List Int} {x : Int} (ht : tasksOk zs = true) (hx : 1 ≤ x ∧ x ≤ leastL zs) : KindIs zs (lesTo x zs zs.length) (powC zs x) (powL zs x) where
  no h := by rw [ht] at h; cases h
  ok h := lesTo_tasks ht hx.1 (leastL_all hx.2)
  odd _ e := by rw [lesTo_harm] at e; cases e
  full _ _ k := by unfold powC powL powT; rw [k]; exact ⟨rfl, rfl⟩
  yes l _ _ k := by unfold powC powL powT; rw [k]; exact ⟨rfl, rfl⟩
theorem kind_pow (zs : List Int) : KindIs zs (lesTo 1 zs zs.length) (tbpC zs) (tbpR zs) where
  no h := by unfold tbpC tbpR; rw [h]; exact ⟨rfl, rfl⟩
  ok h := lesTo_tasks h (Int.le_refl 1) (fun m hm => (tasksOk_nth h hm).1)
  odd _ e := by rw [lesTo_harm] at e; cases e
  full h _ k := by unfold tbpC tbpR powC powL powT; rw [h, k]; exact ⟨rfl, rfl⟩
  yes l h _ k := by unfold tbpC tbpR powC powL powT; rw [h, k]; exact ⟨rfl, rfl⟩

set_option maxRecDepth 100000 in
set_option maxHeartbeats 8000000 in
theorem turnsWork_c (bt bk : Nat) (sv kv : Value) (zs gs : List Int) (c : Int) (rs : List Int) (w : World) (hbT : Boxed w bt 24 sv) (hbK : Boxed w bk 56 kv) (hI : Ints w.heap.size w sv zs) (hm : zs.length ≤ 1048576) (hkd : KindIs zs gs c rs)
    (hkc : tasksOk zs = true → ∀ W, Below w.heap.size w W → Calls Try.prog 37 #[.agg #[sv], kv] W (GivesI W gs fun v => .agg #[v])) :
    Calls Try.prog 34 #[.pointer (some ⟨bt, 0, none⟩), .pointer (some ⟨bk, 0, none⟩)] w fun e w' => (c = 0 ∧ GivesI w rs id e w') ∨ (rs = [] ∧ e = .panicked (refused c) ∧ Below w.heap.size w w') := by
  obtain ⟨a, cap, rfl⟩ := hI.shape
  have Hkc := Lib.hid hkc
  clear hkc
  have cT := hbT.cell
  have cK := hbK.cell
  go_enter Try.func34, Try.ntmps34
  go_wp2_with fail
  refine (isTasks_c _ zs _ hI (by omega)).mono ?_
  rintro e w1 ⟨rfl, hb⟩
  have bT := boxed_later hbT hb
  have bK := boxed_later hbK hb
  clear cT cK
  have cT := bT.cell
  have cK := bK.cell
  cases ht : tasksOk zs
  · obtain ⟨rfl, hr⟩ := hkd.no ht
    go_wp2_with fail
    refine (demand_n' _ _ _ rfl).mono ?_
    rintro e w2 ⟨rfl, rfl⟩
    go_wp2
    exact ⟨rfl, .inr ⟨hr, rfl, hb⟩⟩
  have Ht := Lib.hid ht
  go_wp2_with fail
  refine (demand_y' _ _ _ rfl).mono ?_
  rintro e w2 ⟨rfl, rfl⟩
  go_wp2_with fail
  refine (Hkc.out ht _ hb).mono ?_
  rintro e w3 ⟨v, rfl, ho, hb2⟩
  have hB2 := hb.trans (hb2.mono hb.size)
  have hgo := hkd.ok ht
  have hs1 := hb.size
  clear hb hb2 cT cK bT bK ht
  go_wp2_with fail
  refine (harmonicTurns_c _ gs _ ho.ints hgo).mono ?_
  rintro e w4 (⟨hh, l, hl, v4, rfl, ho4, hb4⟩ | ⟨hh, rfl, hb4⟩ | ⟨hh, hn, rfl, hb4⟩)
  · obtain ⟨hc, rfl⟩ := hkd.yes l Ht.out hh hl
    have hs2 := hB2.size
    simp only [id]
    go_wp2
    go_ret
    exact .inl ⟨hc, _, rfl, ho4.base (by omega), hB2.trans (hb4.mono hs2)⟩
  · obtain ⟨rfl, hr⟩ := hkd.odd Ht.out hh
    go_wp2
    exact ⟨rfl, .inr ⟨hr, rfl, hB2.trans (hb4.mono hB2.size)⟩⟩
  · obtain ⟨rfl, hr⟩ := hkd.full Ht.out hh hn
    go_wp2
    exact ⟨rfl, .inr ⟨hr, rfl, hB2.trans (hb4.mono hB2.size)⟩⟩

set_option maxRecDepth 100000 in
set_option maxHeartbeats 8000000 in
theorem turnsOfKind_c (c0 : Value) (kt : TypeId) (kx : Value) (zs gs : List Int) (c : Int) (rs : List Int) (w : World) (hI : Ints w.heap.size w c0 zs) (hm : zs.length ≤ 1048576) (hkd : KindIs zs gs c rs)
    (hkc : tasksOk zs = true → ∀ W, Below w.heap.size w W → Calls Try.prog 37 #[.agg #[c0], .iface kt kx] W (GivesI W gs fun v => .agg #[v])) :
    Calls Try.prog 14 #[.agg #[c0], .iface kt kx] w (GivesI w rs fun v => .tuple #[v, .int .i64 c]) := by
  have hmf : ∀ (fn : Fn) (first cap : Array Value) (w : World), (Instr.makeFunc fn first cap).run Try.prog w = .ok (.func fn first cap) w := fun _ _ _ _ => rfl
  obtain ⟨a, cap, rfl⟩ := hI.shape
  go_enter Try.func14, Try.ntmps14
  go_wp2_with fail
  obtain ⟨W0, hW0⟩ : ∃ W0, ((w.alloc (.cells #[.slice a zs.length cap] 24)).alloc (.cells #[.iface kt kx] 56)) = W0 := ⟨_, rfl⟩
  have hB0 : Below w.heap.size w W0 := by rw [← hW0]; exact (((Below.refl _ w).alloc (Nat.le_refl _) _).alloc (by simp; try omega) _)
  have hs0 : w.heap.size + 2 ≤ W0.heap.size := by rw [← hW0]; simp
  have bT : Boxed W0 (w.heap.size) 24 (.slice a zs.length cap) := by rw [← hW0]; repeat first | (refine boxed_at ?_; (simp; done)) | refine Boxed.alloc ?_ _
  have bK : Boxed W0 (w.heap.size + 1) 56 (.iface kt kx) := by rw [← hW0]; repeat first | (refine boxed_at ?_; (simp; done)) | refine Boxed.alloc ?_ _
  rw [hW0]
  clear hW0
  refine (doorL_c _ _ rs c W0 (enters_of Try.func34 (by kernel_rfl) rfl) (fun W hW hs => turnsWork_c w.heap.size (w.heap.size + 1) _ _ zs gs c rs W (boxed_later bT hW) (boxed_later bK hW) ((hI.later hB0).later hW) hm hkd (fun ht W2 hW2 => hkc ht W2 (hB0.trans ((hW.mono hB0.size).trans (hW2.mono (Nat.le_trans hB0.size hs))))))).mono ?_
  rintro e w1 ⟨v, rfl, ho, hb⟩
  have hB1 := hB0.trans (hb.mono hB0.size)
  go_wp2_with fail
  go_ret2
  exact ⟨_, rfl, ho.base hB0.size, hB1⟩

set_option maxRecDepth 100000 in
set_option maxHeartbeats 8000000 in
theorem i_HarmonicTurns (c0 : Value) (zs : List Int) (w : World) (hI : Ints w.heap.size w c0 zs) (_hN : I64s zs) (hm : zs.length ≤ 1048576) :
    Calls Try.prog 4 #[.agg #[c0]] w (GivesI w (htR zs) fun v => .tuple #[v, .int .i64 (htC zs)]) := by
  obtain ⟨a, cap, rfl⟩ := hI.shape
  go_enter Try.func4, Try.ntmps4
  go_wp2_with fail
  obtain ⟨W0, hW0⟩ : ∃ W0, (w.alloc (.cells #[.slice a zs.length cap] 24)) = W0 := ⟨_, rfl⟩
  have hB0 : Below w.heap.size w W0 := by rw [← hW0]; exact ((Below.refl _ w).alloc (Nat.le_refl _) _)
  have hs0 : w.heap.size + 1 ≤ W0.heap.size := by rw [← hW0]; simp
  have bT : Boxed W0 (w.heap.size) 24 (.slice a zs.length cap) := by rw [← hW0]; repeat first | (refine boxed_at ?_; (simp; done)) | refine Boxed.alloc ?_ _
  rw [hW0]
  clear hW0
  refine (turnsOfKind_c _ _ _ zs zs (htC zs) (htR zs) _ (hI.later hB0) hm (kind_own zs) (fun _ W hW => tasksOfKind_own _ zs W ((hI.later hB0).later hW) hm)).mono ?_
  rintro e w1 ⟨v, rfl, ho, hb⟩
  have hB1 := hB0.trans (hb.mono hB0.size)
  go_wp2_with fail
  go_ret2
  exact ⟨_, rfl, ho.base hB0.size, hB1⟩

end Go.Proofs.Ytahleajedgehlaa
