/-
  ClassesOfTurns of the program.
  Conditions: lists of at most 1048576 elements.
-/
import Derived.Test.YtckkhgpciglbmaaCoM
import Derived.Test.YtckkhgpciglbmaaSrt
import Derived.Test.YtckkhgpciglbmaaGreat
import Derived.Test.YtckkhgpciglbmaaClF
import Derived.Test.YtckkhgpciglbmaaClS
import Derived.Test.YtckkhgpciglbmaaEqc
import Derived.Laws.Cover3
namespace Go.Proofs.Ytckkhgpciglbmaa
open Go.RowKit Go.Shelf
attribute [local go_sem] Oper.semAt_some

set_option maxRecDepth 100000 in
set_option maxHeartbeats 4000000 in
theorem classBetween_c (b off n cap a g : Nat) (w : World) (h2 : 2 ≤ n) (hg : 1 ≤ g) (_ha : a ≤ 100000) (hgl : g ≤ 100000) (h0 : w.cell? ⟨b, off, none⟩ = some (.int .i64 a)) (h1 : w.cell? ⟨b, off + 1, none⟩ = some (.int .i64 ((a + g : Nat) : Int))) :
    Calls Try.prog 157 #[.slice (some ⟨b, off, none⟩) n cap] w fun e w' => e = .returned (.agg #[.int .i64 ((a % g : Nat) : Int), .int .i64 (g : Nat)]) ∧ Below w.heap.size w w' := by
  have hz : ((g : Nat) : Int) ≠ 0 := by omega
  have hmo : ((a : Nat) : Int).tmod ((g : Nat) : Int) = ((a % g : Nat) : Int) := rfl
  have hme : ((a : Nat) : Int) % ((g : Nat) : Int) = ((a % g : Nat) : Int) := by simp
  have hml := Nat.mod_lt a (show 0 < g by omega)
  obtain ⟨r, hr⟩ : ∃ r, a % g = r := ⟨_, rfl⟩
  rw [hr] at hmo hme hml ⊢
  have hsub : ((a + g : Nat) : Int) - ((a : Nat) : Int) = (g : Int) := by omega
  obtain ⟨c, hc⟩ : ∃ c, a + g = c := ⟨_, rfl⟩
  rw [hc] at h1 hsub
  have hn : (2 : Int) ≤ (n : Int) := by omega
  have hb0 : b < w.heap.size := World.block_lt_of_cell? w _ h0
  clear hr
  have hat : ∀ w, (Instr.arrayAt 86 (.slice (some ⟨b, off, none⟩) n cap)).run Try.prog w = .ok (.pointer (some ⟨b, off, none⟩)) w := fun w => run_arrayAt w 86 _ 2 _ n cap Try.underlying86 h2
  have hB0 : Below w.heap.size w (w.alloc (.cells #[.int .i64 0, .int .i64 0] 87)) := (Below.refl _ _).alloc (Nat.le_refl _) _
  have k0 := (hB0.cell (p := ⟨b, off, none⟩) hb0).trans h0
  have k1 := (hB0.cell (p := ⟨b, off + 1, none⟩) hb0).trans h1
  have hwg : IntKind.i64.wrap ((c : Int) - a) = (g : Int) := by rw [hsub, IntKind.wrap_i64]; omega
  go_enter Try.func157, Try.ntmps157
  go_wp2
  refine bodyPost_ret (v := .agg #[.int .i64 r, .int .i64 g]) (by simp [results, Try.results157, go_sem]) rfl ⟨rfl, ?_⟩
  exact ((Below.refl _ _).alloc (Nat.le_refl _) _).alloc (by simp) _

/-! ### the class of one task -/
/-- the slots of a task, as numbers -/
def slotsI (ts : List Int) (i : Int) : List Int := (slotsL ts i).map Int.ofNat
theorem slotsI_length (ts : List Int) (i : Int) : (slotsI ts i).length = (slotsL ts i).length := by simp [slotsI]
theorem nth_slotsI (ts : List Int) (i : Int) (k : Nat) : nth (slotsI ts i) k = (slotN ts i k : Nat) := by
  unfold nth slotsI slotN
  rw [List.getElem?_map]
  cases (slotsL ts i)[k]? <;> rfl
theorem slotAt_val (ts : List Int) (i : Int) : slotAt ts i = valAt (slotsI ts i) := by
  funext k
  unfold slotAt valAt
  rw [nth_slotsI]
/-- what the class of a task is told as -/
def ctA (ts : List Int) (i : Int) : Int := if okT ts i then ctF ts i else 0
def ctB (ts : List Int) (i : Int) : Int := if okT ts i then ctG ts i else 0

set_option maxRecDepth 100000 in
set_option maxHeartbeats 8000000 in
theorem classOfTask_c (sv : Value) (ts : List Int) (i : Int) (w : World) (hI : Ints w.heap.size w sv ts) (h0 : 0 < ts.length) (hl : ts.length ≤ 1000) :
    Calls Try.prog 113 #[sv, .int .i64 i] w fun e w' => e = .returned (.tuple #[.agg #[.int .i64 (ctA ts i), .int .i64 (ctB ts i)], .bool (okT ts i)]) ∧ Below w.heap.size w w' := by
  obtain ⟨a, cap, rfl⟩ := hI.shape
  have hB0 : Below w.heap.size w (w.alloc (.cells #[.int .i64 0, .int .i64 0] 87)) := (Below.refl _ _).alloc (Nat.le_refl _) _
  have bR : Box2 (w.alloc (.cells #[.int .i64 0, .int .i64 0] 87)) w.heap.size 87 (.int .i64 0) (.int .i64 0) := Box2.new _ _ _ _
  go_enter Try.func113, Try.ntmps113
  go_wp2_with fail
  refine (twice_c _ ts _ (hI.later hB0) h0 (by omega)).mono ?_
  rintro e w1 ⟨v, rfl, ho1, hb1⟩
  simp only [id]
  have hB1 := hB0.trans (hb1.mono (by simp))
  replace bR := bR.later hb1
  obtain ⟨a1, c1, rfl⟩ := ho1.ints.shape
  have hI1 : Ints w1.heap.size w1 _ (ts ++ ts) := ho1.ints
  have hll : (ts ++ ts).length ≤ 2000 := by simp; omega
  go_wp2_with fail
  refine (slotsOf_c _ _ _ i w1).mono ?_
  rintro e w2 ⟨rfl, hw2⟩
  have hb2 : Below w1.heap.size w1 w2 := by rw [hw2]; exact ((Below.refl _ _).alloc (Nat.le_refl _) _).alloc (by simp) _
  have bT : Boxed w2 w1.heap.size 22 (.slice a1 (ts ++ ts).length c1) := by rw [hw2, List.length_append]; exact (Boxed.new _ _ _).alloc _
  have bI : Boxed w2 (w1.heap.size + 1) 2 (.int .i64 i) := by rw [hw2]; exact boxed_at (by simp)
  have hs2 : w1.heap.size + 2 ≤ w2.heap.size := by rw [hw2]; simp
  have hB2 := hB1.trans (hb2.mono hB1.size)
  replace bR := bR.later hb2
  have hI2 : Ints w1.heap.size w2 _ (ts ++ ts) := hI1.below hb2
  clear hw2 hI1 ho1 hb1 hB0
  go_wp2_with fail
  refine (collect_c _ _ (slotsI (ts ++ ts) i) (fun b => b < w1.heap.size ∨ b = w1.heap.size + 1) 4 _ (enters_of Try.func180 (by kernel_rfl) rfl) (fun W hW => ?_) (fun b hb => by omega) ?_).mono ?_
  · rw [← slotAt_val, slotsI_length]
    exact slotsOf_at 8 w1.heap.size (w1.heap.size + 1) w1.heap.size _ (ts ++ ts) i (by omega) W (boxed_later bT hW) (boxed_later bI hW) (by have := hW.size; omega) (hI2.below (hW.mono (by omega)))
  · rw [slotsI_length]
    have := slotsL_length (ts ++ ts) i
    omega
  rintro e w3 ⟨v, rfl, ho3, hb3⟩
  simp only [id]
  have hB3 := hB2.trans (hb3.mono hB2.size)
  replace bR := bR.later hb3
  have hs3 := hb3.size
  obtain ⟨c, hc⟩ : ∃ c, (slotsL ts i).length = c := ⟨_, rfl⟩
  have hLl : (slotsI (ts ++ ts) i).length = c * 2 := by rw [slotsI_length, two_length, hc]
  have hcl : c ≤ 1000 := by have := slotsL_length ts i; omega
  clear bT bI hI2 hb2 hb3 hB1 hB2
  by_cases hc0 : c = 0
  · obtain ⟨a3, c3, ev⟩ := ho3.ints.shape
    rw [hLl, hc0, Nat.zero_mul] at ev
    subst ev
    have hno : okT ts i = false := decide_eq_false fun h => by have := h.1; omega
    have Hok := Lib.hid hno
    have HcA := Lib.hid (show ctA ts i = 0 by unfold ctA; rw [hno]; rfl)
    have HcB := Lib.hid (show ctB ts i = 0 by unfold ctB; rw [hno]; rfl)
    have hB4 : Below w.heap.size w (w3.alloc (.cells #[.int .i64 0, .int .i64 0] 87)) := hB3.alloc hB3.size _
    have bC : Box2 (w3.alloc (.cells #[.int .i64 0, .int .i64 0] 87)) w3.heap.size 87 (.int .i64 0) (.int .i64 0) := Box2.new _ _ _ _
    have bR4 : Box2 (w3.alloc (.cells #[.int .i64 0, .int .i64 0] 87)) w.heap.size 87 (.int .i64 0) (.int .i64 0) := bR.alloc _
    clear hno hB3 bR ho3
    go_wp2
    go_loopw [18] (fun v wr => v = .int .i64 0 ∧ Box2 wr w3.heap.size 87 (.int .i64 0) (.int .i64 0) ∧ Box2 wr w.heap.size 87 (.int .i64 0) (.int .i64 0) ∧ Below w.heap.size w wr) (fun _ _ => 0)
    case atStart => exact ⟨rfl, bC, bR4, hB4⟩
    case round =>
      obtain ⟨rfl, bC1, bR1, hB5⟩ := hrel
      have c0 := bC1.c0
      have c1 := bC1.c1
      have r0 := bR1.c0
      have r1 := bR1.c1
      have g0 := bR1.frozen 0
      have g1 := bR1.frozen 1
      clear bC bR4 hB4
      go_wp2
      have bR8 := (bR1.set0 (.int .i64 0)).set1 (.int .i64 0)
      have q0 := bR8.c0
      have q1 := bR8.c1
      refine bodyPost_ret (v := .tuple #[.agg #[.int .i64 0, .int .i64 0], .bool false]) (by simp [results, Try.results113, go_sem, q0, q1]) rfl ⟨by rw [Hok.out, HcA.out, HcB.out], ?_⟩
      exact (hB5.setCell (p := ⟨w.heap.size, 0, none⟩) (Nat.le_refl _) _).setCell (p := ⟨w.heap.size, 1, none⟩) (Nat.le_refl _) _
  · obtain ⟨g, cp, ev, hg1, hg2⟩ := ho3.shape (by omega)
    have hcapO := ho3.capOk
    rw [hLl] at ev hcapO
    subst ev
    obtain ⟨_, _, hce, hcap, _⟩ := hcapO
    cases hce
    have Hc := Lib.hid hc
    have HLl := Lib.hid hLl
    have ho4 : OwnI w2.heap.size w3 (.slice (some ⟨g, 0, none⟩) (c * 2) cp) (slotsI (ts ++ ts) i) := ho3
    have hB4 : Below w.heap.size w (w3.alloc (.cells #[.int .i64 0, .int .i64 0] 87)) := hB3.alloc hB3.size _
    have bC : Box2 (w3.alloc (.cells #[.int .i64 0, .int .i64 0] 87)) w3.heap.size 87 (.int .i64 0) (.int .i64 0) := Box2.new _ _ _ _
    have bR4 : Box2 (w3.alloc (.cells #[.int .i64 0, .int .i64 0] 87)) w.heap.size 87 (.int .i64 0) (.int .i64 0) := bR.alloc _
    have ho5 : OwnI w2.heap.size (w3.alloc (.cells #[.int .i64 0, .int .i64 0] 87)) (.slice (some ⟨g, 0, none⟩) (c * 2) cp) (slotsI (ts ++ ts) i) := World.ownsRow.alloc ho4 _
    have hRl := bR.lt
    clear hc hLl ho3 ho4 hB3 bR
    go_wp2
    go_loopw [18] (fun v wr => ∃ k : Nat, k + 1 ≤ c * 2 ∧ v = .int .i64 k ∧ (∀ j, j < k → clF ts i j = clF ts i 0 ∧ wt ts i j = wt ts i 0) ∧ Box2 wr w3.heap.size 87 (.int .i64 (if 0 < k then clF ts i 0 else 0)) (.int .i64 (if 0 < k then wt ts i 0 else 0)) ∧ Box2 wr w.heap.size 87 (.int .i64 0) (.int .i64 0) ∧ OwnI w2.heap.size wr (.slice (some ⟨g, 0, none⟩) (c * 2) cp) (slotsI (ts ++ ts) i) ∧ Below w.heap.size w wr) (fun v _ => c * 2 - (intOf v).toNat)
    case atStart => exact ⟨0, by omega, rfl, by omega, by simpa using bC, bR4, ho5, hB4⟩
    case round =>
      obtain ⟨k, hk, rfl, hall, bC1, bR1, ho6, hB5⟩ := hrel
      have Hall := Lib.hid hall
      clear hall bC bR4 ho5 hB4
      by_cases hlt : k + 1 < c * 2
      · have hwp := wt_pos (ts := ts) (i := i) (j := k) (by rw [Hc.out]; exact hlt)
        obtain ⟨p, hp⟩ : ∃ p, slotN (ts ++ ts) i k = p := ⟨_, rfl⟩
        obtain ⟨q, hq⟩ : ∃ q : Nat, wt ts i k = q := ⟨(wt ts i k).toNat, by omega⟩
        have hpl := slotN_lt (zs := ts ++ ts) (i := i) (c := k) (by rw [two_length, Hc.out]; omega)
        have hcy := ho6.cellAt (j := k) (by rw [HLl.out]; omega)
        have hcz := ho6.cellAt (j := k + 1) (by rw [HLl.out]; omega)
        have hnx : (slotN (ts ++ ts) i (k + 1) : Int) = ((p + q : Nat) : Int) := by have := hq; unfold wt at this; omega
        rw [nth_slotsI, hp] at hcy
        rw [nth_slotsI, hnx] at hcz
        have hcf : clF ts i k = ((p % q : Nat) : Int) := by unfold clF; rw [hp, hq]; simp
        rw [hp] at hpl
        rw [hq] at hwp
        have Hq := Lib.hid hq
        have Hcf := Lib.hid hcf
        have hkc : ¬ cp = k := by omega
        have hk1 : (k : Int) ≤ ((c * 2 : Nat) : Int) := by omega
        have hk2 : (k : Int) < ((c * 2 : Nat) : Int) - 1 := by omega
        have hs5 := hB5.size
        clear hp hq hnx hcf
        go_wp2_with fail
        refine (classBetween_c g k (c * 2 - k) (cp - k) p q _ (by omega) (by omega) (by omega) (by omega) hcy hcz).mono ?_
        rintro e w7 ⟨rfl, hb7⟩
        obtain ⟨m, hm⟩ : ∃ m : Nat, p % q = m := ⟨_, rfl⟩
        rw [hm] at Hcf ⊢
        have hB6 := hB5.trans (hb7.mono hs5)
        have bC7 := (bC1.later hb7).alloc (.cells #[.int .i64 m, .int .i64 q] 87)
        have bR7 := (bR1.later hb7).alloc (.cells #[.int .i64 m, .int .i64 q] 87)
        have ho7 : OwnI w2.heap.size (w7.alloc (.cells #[.int .i64 m, .int .i64 q] 87)) (.slice (some ⟨g, 0, none⟩) (c * 2) cp) (slotsI (ts ++ ts) i) := World.ownsRow.alloc (ho6.below hb7) _
        have hB7 : Below w.heap.size w (w7.alloc (.cells #[.int .i64 m, .int .i64 q] 87)) := hB6.alloc hB6.size _
        have hs7 := hb7.size
        have hb3l := bC1.lt
        clear hcy hcz hb7 bC1 bR1 ho6 hB5 hm hB6
        by_cases hk0 : k = 0
        · subst hk0
          simp only [Nat.lt_irrefl, if_false] at bC7
          have c0 := bC7.c0
          have c1 := bC7.c1
          have f0 := bC7.frozen 0
          have f1 := bC7.frozen 1
          go_wp2
          go_roundw
          case rel =>
            refine ⟨1, by omega, by simp, fun j hj => ?_, ?_, (bR7.other (by omega) _).other (by omega) _, ?_, (hB7.setCell (p := ⟨w3.heap.size, 0, none⟩) (by show w.heap.size ≤ w3.heap.size; omega) _).setCell (p := ⟨w3.heap.size, 1, none⟩) (by show w.heap.size ≤ w3.heap.size; omega) _⟩
            · have : j = 0 := by omega
              subst this
              exact ⟨rfl, rfl⟩
            · have := (bC7.set0 (.int .i64 m)).set1 (.int .i64 q)
              rw [if_pos (by omega), if_pos (by omega), Hcf.out, Hq.out]
              exact this
            · exact (ho7.kept (grownBy_setC _ _ _ _) (.inr fun e => by have := (ho7.blk _ e).1; simp [Value.ownBlock] at e; omega)).kept (grownBy_setC _ _ _ _) (.inr fun e => by simp [Value.ownBlock] at e; omega)
          case measure => simp [intOf]; omega
        · have hkp : 0 < k := by omega
          have hkp2 : (0 : Int) < (k : Int) := by omega
          simp only [if_pos hkp] at bC7
          obtain ⟨A, hA⟩ : ∃ A, clF ts i 0 = A := ⟨_, rfl⟩
          obtain ⟨D, hD⟩ : ∃ D, wt ts i 0 = D := ⟨_, rfl⟩
          rw [hA, hD] at bC7
          have HA := Lib.hid hA
          have HD := Lib.hid hD
          clear hA hD
          have c0 := bC7.c0
          have c1 := bC7.c1
          have f0 := bC7.frozen 0
          have f1 := bC7.frozen 1
          have r0 := bR7.c0
          have r1 := bR7.c1
          have g0 := bR7.frozen 0
          have g1 := bR7.frozen 1
          by_cases he : (m : Int) = A ∧ (q : Int) = D
          · obtain ⟨rfl, rfl⟩ := he
            have heq := fun W => eqcl (m : Int) (q : Int) (m : Int) (q : Int) W true (decide_eq_true ⟨rfl, rfl⟩)
            go_wp2
            go_roundw
            case rel =>
              refine ⟨k + 1, by omega, by simp, fun j hj => ?_, ?_, (bR7.other (by omega) _).other (by omega) _, ?_, (hB7.setCell (p := ⟨w3.heap.size, 0, none⟩) (by show w.heap.size ≤ w3.heap.size; omega) _).setCell (p := ⟨w3.heap.size, 1, none⟩) (by show w.heap.size ≤ w3.heap.size; omega) _⟩
              · by_cases e : j = k
                · subst e; exact ⟨by rw [Hcf.out, HA.out], by rw [Hq.out, HD.out]⟩
                · exact Hall.out j (by omega)
              · have := (bC7.set0 (.int .i64 m)).set1 (.int .i64 q)
                rw [if_pos (by omega), if_pos (by omega), HA.out, HD.out]
                exact this
              · exact (ho7.kept (grownBy_setC _ _ _ _) (.inr fun e => by have := (ho7.blk _ e).1; simp [Value.ownBlock] at e; omega)).kept (grownBy_setC _ _ _ _) (.inr fun e => by simp [Value.ownBlock] at e; omega)
            case measure => simp [intOf]; omega
          · have hno := no_of (ts := ts) (i := i) (j := k) (k := 0) (by rw [Hc.out]; exact hlt) (by rw [Hc.out]; omega) (by rw [Hcf.out, Hq.out, HA.out, HD.out]; exact he)
            have Hok := Lib.hid hno
            have HcA := Lib.hid (show ctA ts i = 0 by unfold ctA; rw [hno]; rfl)
            have HcB := Lib.hid (show ctB ts i = 0 by unfold ctB; rw [hno]; rfl)
            have heq := fun W => eqcl (m : Int) (q : Int) A D W false (decide_eq_false he)
            clear he hno
            go_wp2
            have bR8 := (bR7.set0 (.int .i64 0)).set1 (.int .i64 0)
            have q0 := bR8.c0
            have q1 := bR8.c1
            refine bodyPost_ret (v := .tuple #[.agg #[.int .i64 0, .int .i64 0], .bool false]) (by simp [results, Try.results113, go_sem, q0, q1]) rfl ⟨by rw [Hok.out, HcA.out, HcB.out], ?_⟩
            exact (hB7.setCell (p := ⟨w.heap.size, 0, none⟩) (Nat.le_refl _) _).setCell (p := ⟨w.heap.size, 1, none⟩) (Nat.le_refl _) _
      · have hkk : k = c * 2 - 1 := by omega
        have hke : (k : Int) = (c : Int) * 2 - 1 := by omega
        have hok : okT ts i = true := ok_of (by rw [Hc.out]; omega) fun j hj => (Hall.out j (by rw [Hc.out] at hj; omega)).2
        have Hok := Lib.hid hok
        have hcl0 := ok_cl hok (j := 0) (by rw [Hc.out]; omega)
        have HcA := Lib.hid (show ctA ts i = clF ts i 0 by unfold ctA; rw [hok, if_pos rfl, hcl0.1])
        have HcB := Lib.hid (show ctB ts i = wt ts i 0 by unfold ctB; rw [hok, if_pos rfl, hcl0.2])
        simp only [if_pos (show 0 < k by omega)] at bC1
        obtain ⟨A, hA⟩ : ∃ A, clF ts i 0 = A := ⟨_, rfl⟩
        obtain ⟨D, hD⟩ : ∃ D, wt ts i 0 = D := ⟨_, rfl⟩
        rw [hA, hD] at bC1
        have HA := Lib.hid hA
        have HD := Lib.hid hD
        have c0 := bC1.c0
        have c1 := bC1.c1
        have r0 := bR1.c0
        have r1 := bR1.c1
        have g0 := bR1.frozen 0
        have g1 := bR1.frozen 1
        clear hok hcl0 hA hD hkk
        go_wp2
        have bR8 := (bR1.set0 (.int .i64 A)).set1 (.int .i64 D)
        have q0 := bR8.c0
        have q1 := bR8.c1
        refine bodyPost_ret (v := .tuple #[.agg #[.int .i64 A, .int .i64 D], .bool true]) (by simp [results, Try.results113, go_sem, q0, q1]; omega) rfl ⟨by rw [Hok.out, HcA.out, HcB.out, HA.out, HD.out], ?_⟩
        exact (hB5.setCell (p := ⟨w.heap.size, 0, none⟩) (Nat.le_refl _) _).setCell (p := ⟨w.heap.size, 1, none⟩) (Nat.le_refl _) _

end Go.Proofs.Ytckkhgpciglbmaa
