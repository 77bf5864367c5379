/-
  SharesByWeights of the program.
  Conditions: lists of at most 1048576 elements.
-/
import Derived.Test.YtgndbifcncklgaaWsw
import Derived.Test.YtgndbifcncklgaaRep
namespace Go.Proofs.Ytgndbifcncklgaa
open Go.RowKit Go.Shelf
attribute [local go_sem] Oper.semAt_some

theorem repL_one (q : Nat) : repL [1] q = List.replicate q 1 := by
  refine ext_nth (by rw [repL_length]; simp) fun k hk => ?_
  rw [repL_length] at hk
  rw [nth_repL [1] q hk]
  have h1 : k < q := by simpa using hk
  simp [nth, h1, Nat.mod_one]
theorem dvN_pos {h : List Int} {i : Nat} (hp : 1 ≤ nth h i) : 0 < dvN h i := Nat.mul_pos (by unfold shN; omega) (by omega)
/-- the shares behind m further slots -/
def swTo (ws : List Int) : Nat → List Int
  | 0 => List.replicate ws.length 1
  | m + 1 => (swTo ws m).set (bwTo (wQ ws) (dvN (swTo ws m)) ws.length) (nth (swTo ws m) (bwTo (wQ ws) (dvN (swTo ws m)) ws.length) + 1)
theorem swTo_len (ws : List Int) (m : Nat) : (swTo ws m).length = ws.length := by
  induction m with
  | zero => simp [swTo]
  | succ m ih => simp only [swTo, List.length_set, ih]
theorem swTo_bd (ws : List Int) (m : Nat) : ∀ i, i < ws.length → 1 ≤ nth (swTo ws m) i ∧ nth (swTo ws m) i ≤ m + 1 := by
  induction m with
  | zero => intro i hi; simp [swTo, nth, hi]
  | succ m ih =>
    intro i hi
    have h1 := ih i hi
    have hl := swTo_len ws m
    have hb := bwTo_lt (wQ ws) (dvN (swTo ws m)) (k := ws.length) (by omega)
    have h2 := ih _ hb
    simp only [swTo]
    rw [nth_set2 (by omega)]
    split <;> omega
def sbC (ws : List Int) (n : Int) : Int := if wOk ws 0 8 && inB n 1 120 then (if n < ws.length then 3 else 0) else 2
def sbR (ws : List Int) (n : Int) : List Int := if sbC ws n = 0 then swTo ws (n - ws.length).toNat else []
theorem sbC_zero {ws : List Int} {n : Int} (h : sbC ws n = 0) : wOk ws 0 8 = true ∧ inB n 1 120 = true ∧ ¬ n < ws.length := by
  unfold sbC at h
  cases h1 : wOk ws 0 8
  · rw [h1] at h; cases h
  · cases h2 : inB n 1 120
    · rw [h1, h2] at h; cases h
    · rw [h1, h2] at h
      by_cases c : n < ws.length
      · simp [c] at h
      · exact ⟨rfl, rfl, c⟩
theorem sbR_len (ws : List Int) (n : Int) : (sbR ws n).length * 8 ≤ 140737488351232 := by
  unfold sbR
  split
  · rename_i h
    have := (wgt (by omega) (sbC_zero h).1).len
    rw [swTo_len]; omega
  · simp

set_option maxRecDepth 100000 in
set_option maxHeartbeats 16000000 in
theorem i_SharesByWeights (c0 : Value) (ws : List Int) (n : Int) (w : World) (hI : Ints w.heap.size w c0 ws) (_hN : I64s ws) (hm : ws.length ≤ 1048576) (_hn : I64 n) :
    Calls Try.prog 45 #[c0, .int .i64 n] w (GivesI w (sbR ws n) fun v => .tuple #[v, .int .i64 (sbC ws n)]) := by
  obtain ⟨a, cap, rfl⟩ := hI.shape
  unfold I64 at _hn
  cases hw : wOk ws 0 8
  · have Hc := Lib.hid (show sbC ws n = 2 by unfold sbC; rw [hw]; rfl)
    have Hr := Lib.hid (show sbR ws n = [] by unfold sbR; rw [Hc.out]; rfl)
    have Hw := Lib.hid hw
    clear hw
    go_enter Try.func45, Try.ntmps45
    go_wp2_with fail
    refine (areWeights_c _ ws _ hI hm).mono ?_
    rintro e w1 ⟨he, hb⟩
    rw [Hw.out] at he
    subst he
    go_wp2
    go_ret2
    exact ⟨_, ret_v2 Hc.out.symm, by rw [Hr.out]; exact ownI_nil _ _, hb⟩
  · have hW := wgt (by omega) hw
    have hl := hW.len
    have Hw := Lib.hid hw
    have HW := Lib.hid hW
    clear hW
    by_cases h1 : n < 1
    · have Hc := Lib.hid (show sbC ws n = 2 by unfold sbC; rw [inB_false.2 (.inl h1), Bool.and_false]; rfl)
      have Hr := Lib.hid (show sbR ws n = [] by unfold sbR; rw [Hc.out]; rfl)
      clear hw
      go_enter Try.func45, Try.ntmps45
      go_wp2_with fail
      refine (areWeights_c _ ws _ hI hm).mono ?_
      rintro e w1 ⟨he, hb⟩
      rw [Hw.out] at he
      subst he
      go_wp2
      go_ret2
      exact ⟨_, ret_v2 Hc.out.symm, by rw [Hr.out]; exact ownI_nil _ _, hb⟩
    · by_cases h2 : 120 < n
      · have Hc := Lib.hid (show sbC ws n = 2 by unfold sbC; rw [inB_false.2 (.inr h2), Bool.and_false]; rfl)
        have Hr := Lib.hid (show sbR ws n = [] by unfold sbR; rw [Hc.out]; rfl)
        clear hw
        go_enter Try.func45, Try.ntmps45
        go_wp2_with fail
        refine (areWeights_c _ ws _ hI hm).mono ?_
        rintro e w1 ⟨he, hb⟩
        rw [Hw.out] at he
        subst he
        go_wp2
        go_ret2
        exact ⟨_, ret_v2 Hc.out.symm, by rw [Hr.out]; exact ownI_nil _ _, hb⟩
      · by_cases h3 : n < ws.length
        · have Hc := Lib.hid (show sbC ws n = 3 by unfold sbC; rw [hw, inB_true.2 (by omega)]; simp [h3])
          have Hr := Lib.hid (show sbR ws n = [] by unfold sbR; rw [Hc.out]; rfl)
          have h3' : n - (ws.length : Int) < 0 := by omega
          clear hw
          go_enter Try.func45, Try.ntmps45
          go_wp2_with fail
          refine (areWeights_c _ ws _ hI hm).mono ?_
          rintro e w1 ⟨he, hb⟩
          rw [Hw.out] at he
          subst he
          go_wp2
          go_ret2
          exact ⟨_, ret_v2 Hc.out.symm, by rw [Hr.out]; exact ownI_nil _ _, hb⟩
        · have hc : sbC ws n = 0 := by unfold sbC; rw [hw, inB_true.2 (by omega)]; simp [h3]
          have Hc := Lib.hid hc
          have Hr := Lib.hid (show sbR ws n = swTo ws (n - ws.length).toNat by unfold sbR; rw [if_pos hc])
          obtain ⟨N, hN⟩ : ∃ N : Nat, n - (ws.length : Int) = N := ⟨(n - ws.length).toNat, by omega⟩
          have hNb : N ≤ 119 := by omega
          have hN3 : ¬ ((N : Int) < 0) := by omega
          rw [hN] at Hr
          obtain ⟨K, hK⟩ : ∃ K, ws.length = K := ⟨_, rfl⟩
          rw [hK] at hl hN h3 hI hm ⊢
          have HK := Lib.hid hK
          clear hw hc hK
          go_enter Try.func45, Try.ntmps45
          go_wp2_with fail
          refine (areWeights_c _ ws _ hI (by rw [HK.out]; exact hm)).mono ?_
          rintro e w1 ⟨he, hb⟩
          rw [Hw.out] at he
          subst he
          go_wp2_with fail
          have hBv : Below w1.heap.size w1 (w1.alloc (.cells #[.int .i64 1] 2)) := (Below.refl _ w1).alloc (Nat.le_refl _) _
          refine (repeat_c _ [1] K _ (ints_one_new w1 1 _) (by simp) (by simp) (by omega) (by omega)).mono ?_
          rintro e w2 ⟨v, rfl, ho, hb2⟩
          rw [repL_one] at ho
          have hBw := hb.trans (hBv.mono hb.size)
          have hB2 := hBw.trans (hb2.mono hBw.size)
          have hoS := ho.base hBw.size
          obtain ⟨g, cg, rfl, hg1, hg2⟩ := hoS.shape (by simp; omega)
          simp only [List.length_replicate] at hoS ⊢
          simp only [id]
          clear hb hBv hBw hb2 ho
          go_wp2
          have hWp := HW.out.len
          go_loopw [30] (fun i wr => ∃ k : Nat, k ≤ N ∧ i = .int .i64 k ∧ OwnI w.heap.size wr (.slice (some ⟨g, 0, none⟩) K cg) (swTo ws k) ∧ Below w.heap.size w wr) (fun i _ => N - (intOf i).toNat)
          case atStart => exact ⟨0, Nat.zero_le _, rfl, by show OwnI _ _ _ (List.replicate ws.length 1); rw [HK.out]; exact hoS, hB2⟩
          case round =>
            obtain ⟨k, hk, rfl, hok, hBk⟩ := hrel
            clear hoS hB2
            by_cases hlt : k < N
            · have hsl : (swTo ws k).length = K := by rw [swTo_len]; exact HK.out
              have hsb := swTo_bd ws k
              have hh := bwTo_lt (wQ ws) (dvN (swTo ws k)) (k := ws.length) (by omega)
              have Hnx := Lib.hid (show swTo ws (k + 1) = (swTo ws k).set (bwTo (wQ ws) (dvN (swTo ws k)) ws.length) (nth (swTo ws k) (bwTo (wQ ws) (dvN (swTo ws k)) ws.length) + 1) from rfl)
              have hgw := (gw_bw (w := wQ ws) (t := dvN (swTo ws k)) (n := ws.length) (fun i hi => dvN_pos (by have := hsb i hi; omega)) (Nat.le_refl _)).1
              obtain ⟨m, hmq⟩ : ∃ m, bwTo (wQ ws) (dvN (swTo ws k)) ws.length = m := ⟨_, rfl⟩
              have hbm := hsb m (by rw [← hmq]; exact hh)
              rw [hmq] at hh hgw Hnx
              rw [HK.out] at hh
              have Hgw := Lib.hid hgw
              have Hsl := Lib.hid hsl
              have Hsb := Lib.hid hsb
              have hmi : (m : Int) < (K : Int) := by omega
              clear hmq hgw hsl hsb
              go_wp2_with fail
              refine (nextByWeights_c _ _ ws (swTo ws k) _ (hI.later hBk) (by rw [← Hsl.out] at hok ⊢; exact hok.ints) HW.out (by rw [Hsl.out, HK.out]) (fun i hi => by have := Hsb.out i hi; omega)).mono ?_
              rintro e w3 ⟨he, hb3⟩
              rw [Hgw.out] at he
              subst he
              have hok3 := hok.below hb3
              have hB3 := hBk.trans (hb3.mono hBk.size)
              clear hok hb3 hBk
              have c4 := hok3.cellAt (j := m) (by rw [Hsl.out]; exact hh)
              have f4 := hok3.frozen m
              obtain ⟨r1, r2⟩ := hok3.stored m (nth (swTo ws k) m + 1)
              go_wp2
              go_roundw
              case rel => exact ⟨k + 1, by omega, by simp, by rw [Hnx.out]; exact r1, hB3.setCell (p := ⟨g, m, none⟩) hg1 _⟩
              case measure => simp [intOf]; omega
            · obtain rfl : k = N := by omega
              go_wp2
              go_ret2
              exact ⟨_, ret_v2 Hc.out.symm, by rw [Hr.out, Int.toNat_natCast]; exact hok, hBk⟩

end Go.Proofs.Ytgndbifcncklgaa
