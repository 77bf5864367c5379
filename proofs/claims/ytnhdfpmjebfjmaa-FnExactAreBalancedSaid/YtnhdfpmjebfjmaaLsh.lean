/-
  Shares of turns in the model: l07Shares, l07Given.
  Conditions: lists of at most 1048576 elements.
-/
import Derived.Test.YtnhdfpmjebfjmaaLev
namespace Go.Proofs.Ytnhdfpmjebfjmaa
open Go.RowKit Go.Shelf
attribute [local go_sem] Oper.semAt_some

theorem ret_vbS {v : Value} {a a' : Bool} (h : a = a') : Ending.returned (.tuple #[v, .bool a]) = .returned (.tuple #[v, .bool a']) := by rw [h]
/-- how many tasks there are -/
def lvK (ts : List Int) : Nat := (most ts + 1).toNat
def lvS (ts : List Int) : List Int := if levC ts = 0 then sharesL (lvK ts) ts else []
theorem cnt_pos {ts : List Int} {i : Int} (h : ts.contains i = true) : 1 ≤ cnt ts i := by
  rw [List.contains_iff_mem] at h
  unfold cnt
  have : 0 < ts.countP fun z => z == i := List.countP_pos_iff.2 ⟨i, h, by simp⟩
  omega
theorem cnt_none {ts : List Int} {i : Int} (h : ts.contains i = false) : cnt ts i = 0 := by
  unfold cnt
  have : ts.countP (fun z => z == i) = 0 := by
    rw [List.countP_eq_zero]
    intro z hz hq
    rw [beq_iff_eq] at hq
    subst hq
    have : ts.contains z = true := by rw [List.contains_iff_mem]; exact hz
    rw [this] at h; cases h
  rw [this]; rfl

set_option maxRecDepth 100000 in
set_option maxHeartbeats 8000000 in
theorem l07Shares_c (c0 : Value) (ts : List Int) (w : World) (hI : Ints w.heap.size w c0 ts) (ht : turnsOk ts 8 = true) :
    Calls Try.prog 103 #[c0] w fun e w' => ∃ v, e = .returned (.tuple #[v, .bool (sharedB ts)]) ∧ (∃ xs, OwnI w.heap.size w' v xs ∧ (sharedB ts = true → xs = sharesL (lvK ts) ts)) ∧ Below w.heap.size w w' := by
  obtain ⟨a, cap, rfl⟩ := hI.shape
  obtain ⟨i0, hi, hz0, hz1, hz2⟩ := info_parts Try.infoI2
  have hl := turnsOk_len ht
  have Ht := Lib.hid ht
  have hmb := most_bd ht
  clear ht
  go_enter Try.func103, Try.ntmps103
  go_wp2
  go_loop [4, 5] (fun q i => ∃ (k : Nat) (x : Int), k ≤ ts.length ∧ i = .int .i64 k ∧ q = .int .i64 x ∧ (x = max 0 (mostTo ts k) ∧ 0 ≤ x ∧ x ≤ 7) ∧ (∀ j, j < k → 0 ≤ nth ts j)) (fun _ i => ts.length - (intOf i).toNat)
  case atStart => exact ⟨0, 0, Nat.zero_le _, rfl, rfl, ⟨by rw [show mostTo ts 0 = -1 from rfl]; omega, by omega, by omega⟩, by simp⟩
  case round =>
    obtain ⟨k, x, hk, rfl, rfl, ⟨hx, hx0, hx1⟩, hall⟩ := hrel
    have Hx := Lib.hid hx
    have Hall := Lib.hid hall
    clear hx hall
    by_cases hlt : k < ts.length
    · obtain ⟨b, off, rfl, hb, hc⟩ := hI.at_ hlt
      have hcx := hc k hlt
      have hnb := turnsOk_nth Ht.out hlt
      clear hc
      by_cases hneg : nth ts k < 0
      · have Hs := Lib.hid (show sharedB ts = false by
          cases h : sharedB ts
          · rfl
          · have := (shd Ht.out h).el k hlt; omega)
        go_wp2
        go_ret2
        refine ⟨_, ret_vbS Hs.out.symm, ⟨[], ownI_nil _ _, fun h => ?_⟩, Below.refl _ _⟩
        rw [Hs.out] at h; cases h
      · have hst := mostTo_succ hlt
        by_cases hmx : x < nth ts k
        · have Hn := Lib.hid (show nth ts k = max 0 (mostTo ts (k + 1)) by rw [hst]; have := Hx.out; omega)
          clear hst
          go_wp2
          exact ⟨⟨k + 1, nth ts k, by omega, by simp, rfl, ⟨Hn.out, by omega, by omega⟩, fun j hj => by by_cases e : j = k; (subst e; omega); exact Hall.out j (by omega)⟩, by simp [intOf]; omega⟩
        · have Hn := Lib.hid (show x = max 0 (mostTo ts (k + 1)) by rw [hst]; have := Hx.out; omega)
          clear hst
          go_wp2
          exact ⟨⟨k + 1, x, by omega, by simp, rfl, ⟨Hn.out, by omega, by omega⟩, fun j hj => by by_cases e : j = k; (subst e; omega); exact Hall.out j (by omega)⟩, by simp [intOf]; omega⟩
    · obtain rfl : k = ts.length := by omega
      have hm0 : 0 ≤ most ts := by have := most_ge (show 0 < ts.length by omega); have := Hall.out 0 (by omega); omega
      have hxm : x = most ts := by have := Hx.out; unfold most at hm0 ⊢; omega
      obtain ⟨K, hK⟩ : ∃ K : Nat, lvK ts = K := ⟨_, rfl⟩
      have hxK : x + 1 = (K : Int) := by rw [← hK]; unfold lvK; omega
      have hK8 : 1 ≤ K ∧ K ≤ 8 := by omega
      have HK := Lib.hid hK
      have Hm := Lib.hid (show most ts = (K : Int) - 1 by omega)
      clear hK hm0 hxm hmb
      go_wp2_with (at_make; refine wpList_make_full _ rfl _ _ 22 rfl w.heap.size 2 i0 (.int .i64 0) 1 Try.underlying22 hi hz0 hz1 .i64 .i64 _ _ K rfl rfl rfl rfl ?c1 ?c2 ?c3 ?_)
      case c1 => omega
      case c2 => unfold maxLen; omega
      intro w1 hown hgrow
      have ho1 := ownI_made hown
      rw [← sharesL_zero] at ho1
      have hB1 : Below w.heap.size w w1 := (Below.refl _ w).grown hgrow (Nat.le_refl _) (by simp)
      clear hown hgrow
      go_wp2
      go_loopw [7] (fun i wr => ∃ k : Nat, k ≤ ts.length ∧ i = .int .i64 k ∧ OwnI w.heap.size wr (.slice (some ⟨w.heap.size, 0, none⟩) K K) (sharesL K (ts.take k)) ∧ Below w.heap.size w wr) (fun i _ => ts.length - (intOf i).toNat)
      case atStart => exact ⟨0, Nat.zero_le _, rfl, by simpa using ho1, hB1⟩
      case round =>
        obtain ⟨k, hk, rfl, ho, hB⟩ := hrel
        clear ho1 hB1
        by_cases hlt : k < ts.length
        · obtain ⟨b, off, rfl, hb, hcl⟩ := (hI.below hB).at_ hlt
          have hcx := hcl k hlt
          have hz := Hall.out k hlt
          have hz2' := most_ge hlt
          rw [Hm.out] at hz2'
          obtain ⟨j, hj⟩ : ∃ j : Nat, nth ts k = (j : Int) := ⟨(nth ts k).toNat, by omega⟩
          have hjl : j < K := by omega
          have hji : (j : Int) < (K : Int) := by omega
          have htl : (ts.take k).length = k := by simp; omega
          have hsn := sharesL_snoc (ts.take k) hjl
          have hts := take_snoc hlt
          rw [hj] at hts hcx
          rw [← hts] at hsn
          have Hsn := Lib.hid hsn
          have hcy := ho.cellAt (j := j) (by rw [sharesL_length]; exact hjl)
          rw [nth_sharesL _ hjl] at hcy
          have hfy := ho.frozen j
          have hcj := cnt_bd (ts.take k) (j : Int)
          rw [htl] at hcj
          obtain ⟨r1, r2⟩ := ho.stored (n := K) j (cnt (ts.take k) (j : Int) + 1)
          have hB2 : Below w.heap.size w (wr.setCell ⟨w.heap.size, j, none⟩ (.int .i64 (cnt (ts.take k) (j : Int) + 1))) := hB.setCell (p := ⟨w.heap.size, j, none⟩) (Nat.le_refl _) _
          rw [← Hsn.out] at r1
          clear hcl hsn hts hj hz hz2' htl r2
          go_wp2
          go_roundw
          case rel => exact ⟨k + 1, by omega, by simp, r1, hB2⟩
          case measure => simp [intOf]; omega
        · obtain rfl : k = ts.length := by omega
          rw [List.take_length] at ho
          go_wp2
          go_loop [46] (fun i => ∃ k : Nat, k ≤ K ∧ i = .int .i64 k ∧ (∀ j : Nat, j < k → ts.contains (j : Int) = true)) (fun i => K - (intOf i).toNat)
          case atStart => exact ⟨0, Nat.zero_le _, rfl, by simp⟩
          case round =>
            obtain ⟨i, hik, rfl, hall2⟩ := hrel
            have Hall2 := Lib.hid hall2
            clear hall2
            by_cases hil : i < K
            · have hci := ho.cellAt (j := i) (by rw [sharesL_length]; exact hil)
              rw [nth_sharesL _ hil] at hci
              have hii : (i : Int) < (K : Int) := by omega
              cases hct : ts.contains (i : Int)
              · have hz := cnt_none hct
                rw [hz] at hci
                have Hs := Lib.hid (show sharedB ts = false by
                  cases h : sharedB ts
                  · rfl
                  · have := (shd Ht.out h).has i (by rw [Hm.out]; omega); rw [hct] at this; cases this)
                clear hct hz
                go_wp2
                go_ret2
                refine ⟨_, ret_vbS Hs.out.symm, ⟨[], ownI_nil _ _, fun h => ?_⟩, hB⟩
                rw [Hs.out] at h; cases h
              · have hp := cnt_pos hct
                have hpz : (cnt ts (i : Int) == 0) = false := by rw [beq_eq_false_iff_ne]; omega
                have Hct := Lib.hid hct
                clear hct
                go_wp2
                exact ⟨⟨i + 1, by omega, by simp, fun j hj => by by_cases e : j = i; (subst e; exact Hct.out); exact Hall2.out j (by omega)⟩, by simp [intOf]; omega⟩
            · obtain rfl : i = K := by omega
              have Hs := Lib.hid (show sharedB ts = decide (ts.length ≤ 60) by
                by_cases h6 : ts.length ≤ 60
                · rw [decide_eq_true h6]
                  exact shd_back h6 Hall.out fun j hj => Hall2.out j (by rw [Hm.out] at hj; omega)
                · rw [decide_eq_false h6]; unfold sharedB; rw [decide_eq_false h6]; rfl)
              go_wp2
              go_ret2
              refine ⟨_, ret_vbS ?_, ⟨_, ho, fun _ => by rw [HK.out]⟩, hB⟩
              rw [Hs.out]; by_cases h6 : ts.length ≤ 60 <;> simp [h6] <;> omega

set_option maxRecDepth 100000 in
set_option maxHeartbeats 8000000 in
theorem l07Given_c (c0 : Value) (ts : List Int) (w : World) (hI : Ints w.heap.size w c0 ts) (hm : ts.length ≤ 1048576) :
    Calls Try.prog 74 #[c0] w (GivesI w (lvS ts) fun v => .tuple #[v, .int .i64 (levC ts)]) := by
  obtain ⟨a, cap, rfl⟩ := hI.shape
  rcases levC_cases ts with ⟨ht, hc⟩ | ⟨ht, hs, hc⟩ | ⟨ht, hs, hc⟩
  · have Hr := Lib.hid (show lvS ts = [] by unfold lvS; rw [hc]; rfl)
    have Ht := Lib.hid ht
    have Hc := Lib.hid hc
    clear ht hc
    go_enter Try.func74, Try.ntmps74
    go_wp2_with fail
    refine (l01Turns_c _ ts 8 _ hI (by omega) (by omega) (by omega)).mono ?_
    rintro e w1 ⟨he, rfl⟩
    rw [Ht.out] at he
    subst he
    go_wp2
    go_ret2
    exact ⟨_, ret_v2 Hc.out.symm, by rw [Hr.out]; exact ownI_nil _ _, Below.refl _ _⟩
  · have Hr := Lib.hid (show lvS ts = [] by unfold lvS; rw [hc]; rfl)
    have Ht := Lib.hid ht
    have Hc := Lib.hid hc
    have Hs := Lib.hid hs
    clear ht hc hs
    go_enter Try.func74, Try.ntmps74
    go_wp2_with fail
    refine (l01Turns_c _ ts 8 _ hI (by omega) (by omega) (by omega)).mono ?_
    rintro e w1 ⟨he, rfl⟩
    rw [Ht.out] at he
    subst he
    go_wp2_with fail
    refine (l07Shares_c _ ts _ hI Ht.out).mono ?_
    rintro e w2 ⟨v, he, ⟨xs, ho, _⟩, hB⟩
    rw [Hs.out] at he
    subst he
    clear ho
    go_wp2
    go_ret2
    exact ⟨_, ret_v2 Hc.out.symm, by rw [Hr.out]; exact ownI_nil _ _, hB⟩
  · have Hr := Lib.hid (show lvS ts = sharesL (lvK ts) ts by unfold lvS; rw [hc]; rfl)
    have Ht := Lib.hid ht
    have Hc := Lib.hid hc
    have Hs := Lib.hid hs
    clear ht hc hs
    go_enter Try.func74, Try.ntmps74
    go_wp2_with fail
    refine (l01Turns_c _ ts 8 _ hI (by omega) (by omega) (by omega)).mono ?_
    rintro e w1 ⟨he, rfl⟩
    rw [Ht.out] at he
    subst he
    go_wp2_with fail
    refine (l07Shares_c _ ts _ hI Ht.out).mono ?_
    rintro e w2 ⟨v, he, ⟨xs, ho, hx⟩, hB⟩
    rw [hx Hs.out] at ho
    rw [Hs.out] at he
    subst he
    clear hx
    go_wp2
    go_ret2
    exact ⟨_, ret_v2 Hc.out.symm, by rw [Hr.out]; exact ho, hB⟩

end Go.Proofs.Ytnhdfpmjebfjmaa
