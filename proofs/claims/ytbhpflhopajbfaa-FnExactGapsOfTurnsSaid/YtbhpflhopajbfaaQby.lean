/-
  byEarliestDeadlines: the slots by earliest deadlines, and who is late.
  Conditions: jobs with a whole period of at most 240.
-/
import Derived.Test.YtbhpflhopajbfaaQit
import Derived.Test.YtbhpflhopajbfaaQco
namespace Go.Proofs.Ytbhpflhopajbfaa
open Go.RowKit Go.Shelf
attribute [local go_sem] Oper.semAt_some mth_less mth_swap mth_len mth_push mth_pop

/-- the slots, and who is late at their end -/
def edL (ls ps ds : List Int) (n : Nat) : List Int := edTo ls ps ds (edN ls ps ds n)
def edT (ls ps ds : List Int) (n : Nat) : Int := edLate ls ps ds (edN ls ps ds n)

set_option maxRecDepth 100000 in
set_option maxHeartbeats 16000000 in
theorem byEarliest_c (cl cp cd : Value) (ls ps ds : List Int) (n : Nat) (w : World) (hI : Jobs3 w.heap.size w cl cp cd ls ps ds) (ht : jobsOk ls ps ds = true) (hn : n ≤ 240) (hnw : ∀ i, i < ls.length → (n : Int) % nth ps i = 0) :
    Calls Try.prog 75 #[.agg #[cl, cp, cd], .int .i64 n] w (GivesI w (edL ls ps ds n) fun v => .tuple #[v, .int .i64 (edT ls ps ds n)]) := by
  obtain ⟨al, capl, rfl⟩ := hI.l.shape
  obtain ⟨ap, capp, rfl⟩ := hI.p.shape
  obtain ⟨ad, capd, rfl⟩ := hI.d.shape
  have hlen : (edTo ls ps ds (edN ls ps ds n)).length ≤ 240 := by rw [edTo_length]; have := edN_le ls ps ds n; omega
  go_enter Try.func75, Try.ntmps75
  go_wp2_with fail
  obtain ⟨WA, hWA⟩ : ∃ WA, ((w.alloc (.cells #[.slice al ls.length capl, .slice ap ps.length capp, .slice ad ds.length capd] 37)).alloc (.cells #[.slice none 0 0, .func (.func 137) #[] #[]] 170)) = WA := ⟨_, rfl⟩
  have hBA : Below w.heap.size w WA := by rw [← hWA]; exact ((Below.refl _ w).alloc (Nat.le_refl _) _).alloc (by simp) _
  have hsA : WA.heap.size = w.heap.size + 2 := by rw [← hWA]; simp
  have hqA : Que (w.heap.size + 2) (w.heap.size + 1) WA (.slice none 0 0) [] := ⟨by rw [← hWA]; exact box2_at (by simp), ownP_nil _ _⟩
  rw [hWA]
  clear hWA
  refine (slotsByDeadlines_c _ _ _ n _ WA).mono ?_
  rintro e w' ⟨rfl, rfl⟩
  obtain ⟨WC, hWC⟩ : ∃ WC, ((WA.alloc (.cells #[.slice al ls.length capl, .slice ap ps.length capp, .slice ad ds.length capd] 37)).alloc (.cells #[.int .i64 n] 2)).alloc (.cells #[.pointer (some ⟨w.heap.size + 1, 0, none⟩)] 166) = WC := ⟨_, rfl⟩
  have hBC : Below WA.heap.size WA WC := by rw [← hWC]; exact (((Below.refl _ WA).alloc (Nat.le_refl _) _).alloc (by simp) _).alloc (by simp; omega) _
  have hsC : WA.heap.size + 3 = WC.heap.size := by rw [← hWC]; simp
  have hE : ItE w.heap.size WA.heap.size (WA.heap.size + 1) (WA.heap.size + 1 + 1) (w.heap.size + 1) n (.slice al ls.length capl) (.slice ap ps.length capp) (.slice ad ds.length capd) ls ps ds WC := by
    refine ⟨?_, ?_, ?_, (hI.below hBA).below (hBC.mono (by omega))⟩
    · rw [← hWC]; exact ((Box3.new WA _ _ _ _).alloc _).alloc _
    · rw [← hWC]; exact Boxed.alloc (boxed_at (by simp)) _
    · rw [← hWC]; exact boxed_at (by simp)
  have hqC := hqA.later hBC
  have hBw : Below w.heap.size w WC := hBA.trans (hBC.mono (by omega))
  rw [hWC]
  clear hWC hqA hI
  have hsA2 : w.heap.size + 2 ≤ WA.heap.size ∧ WA.heap.size ≤ w.heap.size + 2 := by omega
  have hsC2 : WA.heap.size + 3 ≤ WC.heap.size := by omega
  clear hsA hsC
  have hseq : ∀ W, Below WC.heap.size WC W → SeqQ Fence.wide 8 Try.prog 172 #[.pointer (some ⟨WA.heap.size + 1, 0, none⟩), .pointer (some ⟨WA.heap.size + 1 + 1, 0, none⟩), .pointer (some ⟨WA.heap.size, 0, none⟩)] (valAt (edTo ls ps ds (edN ls ps ds n))) (fun j => j < w.heap.size ∨ j = WA.heap.size ∨ j = WA.heap.size + 1 ∨ j = WA.heap.size + 1 + 1) (w.heap.size + 2) (w.heap.size + 1) (edTo ls ps ds (edN ls ps ds n)).length (QEnd ls ps ds n) W := fun W hW => by
    rw [edTo_length]
    exact slotsBy_at w.heap.size _ _ _ _ _ _ _ _ ls ps ds ht n hn hnw W (hE.kept (S := fun _ => True) (Kps.below hW) (fun _ _ => trivial) trivial trivial trivial) (hqC.later hW) (by omega) (by omega) (by have := hW.size; omega) (by omega) (by omega) (by omega)
  have Hseq := Lib.hid hseq
  have HqC := Lib.hid hqC
  clear hseq hqC hE hnw
  go_wp2_with fail
  refine (collectQ_c _ _ (edTo ls ps ds (edN ls ps ds n)) _ (w.heap.size + 2) (w.heap.size + 1) _ _ (QEnd ls ps ds n) WC (enters_of Try.func172 (by kernel_rfl) rfl) HqC.out Hseq.out (fun j hj => by omega) (by omega)).mono ?_
  rintro e w5 ⟨v, rfl, ho, vq, qs, hq, hR, hm⟩
  have hB5 : Below w.heap.size w w5 := hBw.trans ⟨hm.os, hm.tape, hm.output, hm.size, fun k hk => hm.same k (by omega) (by omega) (by simp [Value.ownBlock])⟩
  have Ho := Lib.hid (show OwnI w.heap.size w5 v (edL ls ps ds n) from ho.base (by omega))
  have HB := Lib.hid hB5
  have HQ := Lib.hid hq
  unfold QEnd at hR
  rw [show edLate ls ps ds (edN ls ps ds n) = edT ls ps ds n from rfl] at hR
  have hq0 := hq.box.c0
  clear ho hm hB5 hBw hBA hBC Hseq HqC
  by_cases hz : qs.length = 0
  · rw [if_neg (by omega)] at hR
    have HR := Lib.hid hR
    clear hR hq
    go_wp2_with fail
    refine (len_c _ _ _ qs w5 HQ.out).mono ?_
    rintro e w6 ⟨rfl, rfl⟩
    rw [hz]
    go_wp2_with fail
    go_ret2
    exact ⟨v, (show Ending.returned (.tuple #[v, .int .i64 (-1)]) = Ending.returned (.tuple #[v, .int .i64 (edT ls ps ds n)]) by rw [HR.out]), Ho.out, HB.out⟩
  · rw [if_pos (by omega)] at hR
    have HR := Lib.hid hR
    obtain ⟨g, cap, rfl, _, _⟩ := hq.own.shape (by omega)
    have x0 := hq.own.cellAt (k := 0) (i := 0) (by omega) (by omega)
    simp only [pC, List.getElem?_cons_zero, Nat.zero_mul, Nat.zero_add] at x0
    have hposi : (0 : Int) < (qs.length : Int) := by omega
    clear hR hq
    go_wp2_with fail
    refine (len_c _ _ _ qs w5 HQ.out).mono ?_
    rintro e w6 ⟨rfl, rfl⟩
    go_wp2_with fail
    go_region
    go_wp2_with fail
    go_ret2
    exact ⟨v, (show Ending.returned (.tuple #[v, .int .i64 (pat qs 0).task]) = Ending.returned (.tuple #[v, .int .i64 (edT ls ps ds n)]) by rw [HR.out]), World.ownsRow.drew Ho.out, HB.out.drew⟩

end Go.Proofs.Ytbhpflhopajbfaa
