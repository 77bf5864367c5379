/-
  ClassesOfTurns of the model.
  Conditions: lists of at most 1048576 elements.
-/
import Derived.Test.YtckkhgpciglbmaaCoM
import Derived.Test.YtckkhgpciglbmaaClS
namespace Go.Proofs.Ytckkhgpciglbmaa
open Go.RowKit Go.Shelf
attribute [local go_sem] Oper.semAt_some

theorem slotsTo_none {ts : List Int} {i : Int} {f : Nat} (h : ∀ q, q < f → nth ts q ≠ i) : slotsTo ts i f = [] := by
  induction f with
  | zero => rfl
  | succ f ih => rw [slotsTo_no (h f (by omega)), ih fun q hq => h q (by omega)]
theorem slotN_first {ts : List Int} {i : Int} {f : Nat} (hf : f < ts.length) (h : nth ts f = i) (h0 : ∀ q, q < f → nth ts q ≠ i) : slotN ts i 0 = f := by
  have := slotN_eq hf h
  rwa [slotsTo_none h0] at this
theorem smallG_succ (ts : List Int) (k : Nat) : smallG ts (k + 1) = (smallG ts k && decide (ctG ts (k : Int) ≤ 40)) := by
  cases h : smallG ts k
  · have h2 := of_decide_eq_false h
    rw [Bool.false_and]
    exact decide_eq_false fun h3 => h2 fun i hi => h3 i (by omega)
  · have h2 := of_decide_eq_true h
    rw [Bool.true_and]
    by_cases e : ctG ts (k : Int) ≤ 40
    · rw [decide_eq_true e]
      exact decide_eq_true fun i hi => by by_cases e2 : i = k; exact e2 ▸ e; exact h2 i (by omega)
    · rw [decide_eq_false e]
      exact decide_eq_false fun h3 => e (h3 k (by omega))
theorem ret_ve {v : Value} {a b : Int} (h : a = b) : Ending.returned (.tuple #[v, .int .i64 a]) = .returned (.tuple #[v, .int .i64 b]) := by rw [h]

set_option maxRecDepth 100000 in
set_option maxHeartbeats 8000000 in
theorem s_ClassesOfTurns (c0 : Value) (ts : List Int) (x : Int) (w : World) (hI : Ints w.heap.size w c0 ts) (_hN : I64s ts) (hm : ts.length ≤ 1048576) (_hx : I64 x) :
    Calls Try.prog 61 #[c0, .int .i64 x] w (GivesC w (cotR ts x) fun v => .tuple #[v, .int .i64 (cotC ts x)]) := by
  obtain ⟨i0, hi0, hz0, hz1, hz2⟩ := info_parts2 Try.infoC
  obtain ⟨a, cap, rfl⟩ := hI.shape
  cases hin : inB x 1 8
  · have hc : cotC ts x = 2 := by unfold cotC; rw [hin]; rfl
    have Hr := Lib.hid (cotR_no (ts := ts) (k := x) (by omega))
    have Hc := Lib.hid hc
    have Hin := Lib.hid hin
    clear hc hin
    go_enter Try.func61, Try.ntmps61
    go_wp2_with fail
    refine (l01In_d false _ _ _ _ Hin.out).mono ?_
    rintro e w2 ⟨rfl, rfl⟩
    go_wp2
    go_ret2
    exact ⟨_, ret_ve Hc.out.symm, by rw [Hr.out]; exact ownC_nil _ _, Below.refl _ _⟩
  have hk := inB_true.1 hin
  obtain ⟨K, rfl⟩ := Int.eq_ofNat_of_zero_le (show 0 ≤ x by omega)
  have Hin := Lib.hid hin
  cases ht : turnsOk ts K
  · have hc : cotC ts K = 2 := by unfold cotC; rw [hin, ht]; rfl
    have Hr := Lib.hid (cotR_no (ts := ts) (k := (K : Int)) (by omega))
    have Hc := Lib.hid hc
    have Ht := Lib.hid ht
    clear hc ht hin
    go_enter Try.func61, Try.ntmps61
    go_wp2_with fail
    refine (l01In_d true _ _ _ _ Hin.out).mono ?_
    rintro e w2 ⟨rfl, rfl⟩
    go_wp2_with fail
    refine (l01Turns_c _ ts K _ hI (by omega) (by omega) (by omega)).mono ?_
    rintro e w2 ⟨he, rfl⟩
    rw [Ht.out] at he
    subst he
    go_wp2
    go_ret2
    exact ⟨_, ret_ve Hc.out.symm, by rw [Hr.out]; exact ownC_nil _ _, Below.refl _ _⟩
  have hl := turnsOk_len ht
  have Hu := Lib.hid (show cotC ts K = if allOk ts K then (if smallG ts K then 0 else 3) else 4 by unfold cotC; rw [hin, ht]; rfl)
  have Ht := Lib.hid ht
  clear ht hin
  have hB0 : Below w.heap.size w (w.alloc (.cells #[] 87)) := (Below.refl _ w).alloc (Nat.le_refl _) _
  have ho0 : OwnC w.heap.size (w.alloc (.cells #[] 87)) (.slice (some ⟨w.heap.size, 0, none⟩) 0 0) (ctL ts 0).length (flat (ctL ts 0)) := World.ownsRow_made w #[] 0 (Nat.le_refl _) (by unfold maxLen; omega) rfl
  go_enter Try.func61, Try.ntmps61
  go_wp2_with fail
  refine (l01In_d true _ _ _ _ Hin.out).mono ?_
  rintro e w2 ⟨rfl, rfl⟩
  go_wp2_with fail
  refine (l01Turns_c _ ts K _ hI (by omega) (by omega) (by omega)).mono ?_
  rintro e w2 ⟨he, rfl⟩
  rw [Ht.out] at he
  subst he
  go_wp2
  go_loopw [6, 7, 8] (fun v gr i wr => ∃ (j : Nat) (big : Bool), j ≤ K ∧ i = .int .i64 j ∧ gr = .bool big ∧ smallG ts j = !big ∧ (∀ q : Nat, q < j → okT ts (q : Int) = true) ∧ OwnC w.heap.size wr v (ctL ts j).length (flat (ctL ts j)) ∧ Below w.heap.size w wr) (fun _ _ i _ => K - (intOf i).toNat)
  case atStart => exact ⟨0, false, Nat.zero_le _, rfl, rfl, by simp [smallG], by omega, ho0, hB0⟩
  case round =>
    obtain ⟨j, big, hj, rfl, rfl, hbig, hall, ho, hB⟩ := hrel
    have Hall := Lib.hid hall
    have Hbig := Lib.hid hbig
    have hsz := hB.size
    have hLl := ctL_length ts j
    obtain ⟨L, hL⟩ : ∃ L, ctL ts j = L := ⟨_, rfl⟩
    rw [hL] at ho hLl
    have HL := Lib.hid hL
    have HLl := Lib.hid hLl
    have hL8 : L.length ≤ 8 := by omega
    clear hall hbig hL hLl ho0 hB0
    by_cases hlt : j < K
    · have hlt' : (j : Int) < (K : Int) := by omega
      go_wp2_with fail
      refine (l01Waits_c _ ts j wr (hI.later hB) hm).mono ?_
      rintro e w3 ⟨v, rfl, ho3, hb3⟩
      simp only [id]
      have hB3 := hB.trans (hb3.mono hsz)
      have hoC := ho.below hb3
      obtain ⟨c, hc⟩ : ∃ c, (slotsL ts j).length = c := ⟨_, rfl⟩
      have hwl : (waitsL ts j).length = c := by rw [waitsL_length]; exact hc
      have hcl : c ≤ 120 := by have := slotsL_length ts j; omega
      have Hc := Lib.hid hc
      have Hwl := Lib.hid hwl
      obtain ⟨av, cv, ev⟩ := ho3.ints.shape
      rw [hwl] at ev
      subst ev
      have hs3 := hb3.size
      clear hc hwl hb3 hB ho
      by_cases hc0 : c = 0
      · subst hc0
        have hno : okT ts j = false := decide_eq_false fun h => by have := h.1; have := Hc.out; omega
        have hna : allOk ts K = false := decide_eq_false fun h => by rw [h j hlt] at hno; cases hno
        have hcc : cotC ts K = 4 := by rw [Hu.out, hna]; rfl
        have Hr := Lib.hid (cotR_no (ts := ts) (k := (K : Int)) (by omega))
        have Hcc := Lib.hid hcc
        clear hno hna hcc
        go_wp2
        go_ret2
        exact ⟨_, ret_ve Hcc.out.symm, by rw [Hr.out]; exact ownC_nil _ _, hB3⟩
      · obtain ⟨g, cp, ev, hg1, hg2⟩ := ho3.shape (by rw [Hwl.out]; omega)
        rw [Hwl.out] at ev
        cases ev
        have hcq : ((c : Int) == 0) = false := by rw [beq_eq_false_iff_ne]; omega
        go_wp2
        go_loopw [10] (fun n wr2 => ∃ q : Nat, 1 ≤ q ∧ q ≤ c ∧ n = .int .i64 q ∧ (∀ r, r < q → nth (waitsL ts j) r = nth (waitsL ts j) 0) ∧ OwnI w.heap.size wr2 (.slice (some ⟨g, 0, none⟩) c cv) (waitsL ts j) ∧ OwnC w.heap.size wr2 u6 L.length (flat L) ∧ Below w.heap.size w wr2) (fun n _ => c - (intOf n).toNat)
        case atStart => exact ⟨1, Nat.le_refl _, by omega, rfl, fun r hr => by rw [show r = 0 by omega], ho3.base hsz, hoC, hB3⟩
        case round =>
          obtain ⟨q, hq1, hq, rfl, hsame, ho4, hoC4, hB4⟩ := hrel
          have Hsame := Lib.hid hsame
          have cy0 := ho4.cellAt (j := 0) (by rw [Hwl.out]; omega)
          clear hsame ho3 hoC hB3
          by_cases hqc : q < c
          · have cyq := ho4.cellAt (j := q) (by rw [Hwl.out]; omega)
            have hqc' : (q : Int) < (c : Int) := by omega
            have hc00 : (0 : Int) < (c : Int) := by omega
            by_cases he : nth (waitsL ts j) q = nth (waitsL ts j) 0
            · have hq2 : (nth (waitsL ts j) q != nth (waitsL ts j) 0) = false := by simp [he]
              have He := Lib.hid he
              clear he
              go_wp2
              go_quiet (fail)
              go_wp2
              go_roundw
              case rel => exact ⟨q + 1, by omega, by omega, by simp, fun r hr => by by_cases e : r = q; exact e ▸ He.out; exact Hsame.out r (by omega), ho4.of_block (fun _ _ => rfl), hoC4.of_block (fun _ _ => rfl), below_drewN hB4 _⟩
              case measure => simp [intOf]; omega
            · have hq2 : (nth (waitsL ts j) q != nth (waitsL ts j) 0) = true := by simpa using he
              have hno : okT ts j = false := decide_eq_false fun h => he (h.2 q (by rw [Hc.out]; exact hqc))
              have hna : allOk ts K = false := decide_eq_false fun h => by rw [h j hlt] at hno; cases hno
              have hcc : cotC ts K = 4 := by rw [Hu.out, hna]; rfl
              have Hr := Lib.hid (cotR_no (ts := ts) (k := (K : Int)) (by omega))
              have Hcc := Lib.hid hcc
              clear hno hna hcc he
              go_wp2
              go_quiet (fail)
              go_wp2
              go_ret2
              exact ⟨_, ret_ve Hcc.out.symm, by rw [Hr.out]; exact ownC_nil _ _, below_drewN hB4 _⟩
          · obtain rfl : q = c := by omega
            have hok : okT ts j = true := decide_eq_true ⟨by rw [Hc.out]; omega, fun r hr => Hsame.out r (by rw [Hc.out] at hr; exact hr)⟩
            have Hok := Lib.hid hok
            clear hok
            go_wp2
            go_loopw [11] (fun v wr3 => ∃ f : Nat, f < ts.length ∧ v = .int .i64 f ∧ (∀ r, r < f → nth ts r ≠ j) ∧ wr3 = wr) (fun v _ => ts.length - (intOf v).toNat)
            case atStart => exact ⟨0, by omega, rfl, by omega, rfl⟩
            case round =>
              obtain ⟨f, hf, rfl, hne, rfl⟩ := hrel
              obtain ⟨b, off, rfl, hbb, hcc⟩ := (hI.below hB4).at_ hf
              have cf := hcc f hf
              have hf' : (f : Int) < (ts.length : Int) := by omega
              have Hne := Lib.hid hne
              clear hcc hne
              by_cases he : nth ts f = j
              · have hq2 : (nth ts f != (j : Int)) = false := by simp [he]
                have HF := Lib.hid (show ctF ts j = f by unfold ctF; rw [slotN_first hf he Hne.out])
                obtain ⟨G, hG⟩ : ∃ G, nth (waitsL ts j) 0 = G := ⟨_, rfl⟩
                have HG := Lib.hid (show ctG ts j = G from hG)
                have hGb := ok_bd Hok.out
                rw [HG.out] at hGb
                rw [hG] at cy0
                have Hnx := Lib.hid (show ctL ts (j + 1) = L ++ [((f : Int), G)] by rw [ctL_succ, HL.out, HF.out, HG.out])
                have hrow : wr.ownsRow w.heap.size 87 2 u6 L.length ((flat L).map (.int .i64)) := hoC4
                have hb5 : ∀ j, u6.ownBlock = some j → w.heap.size ≤ j := fun j e => (hoC4.blk j e).1
                have Hb5 := Lib.hid hb5
                have hc00 : (0 : Int) < (q : Int) := by omega
                have hs4 := hB4.size
                clear he hG hb5 hoC4
                cases big
                · by_cases h40 : 40 < G
                  · go_wp2_with (at_builtin; refine wpList_append_own _ rfl _ _ 54 rfl w.heap.size 87 i0 (.agg #[.int .i64 0, .int .i64 0]) 2 16 Try.underlying54 hi0 hz0 hz1 hz2 rfl (by decide) _ _ _ rfl (World.ownsRow.alloc hrow _) ⟨wr.heap.size, 0, none⟩ 1 1 [.int .i64 f, .int .i64 G] rfl rfl (cell_two_new _ _ _ _) (by simp [Value.oneCell']) (by unfold maxLen; omega) (by omega) (by simp; omega) ?_)
                    intro v' w5 hown' hgrow _
                    have ho6 := ownC_snoc hown'
                    rw [← Hnx.out] at ho6
                    have s4 : Below w.heap.size w w5 := (hB4.alloc hB4.size _).grown hgrow (by simp; omega) (fun j e => Hb5.out j e)
                    clear hown' hgrow hrow
                    go_wp2
                    go_roundw
                    case rel => exact ⟨j + 1, true, by omega, by simp, rfl, by rw [smallG_succ, Hbig.out, HG.out]; simp; try omega, fun q hq => by by_cases e : q = j; exact e ▸ Hok.out; exact Hall.out q (by omega), ho6, s4⟩
                    case measure => simp [intOf]; omega
                  · have h40' : G ≤ 40 := by omega
                    go_wp2_with (at_builtin; refine wpList_append_own _ rfl _ _ 54 rfl w.heap.size 87 i0 (.agg #[.int .i64 0, .int .i64 0]) 2 16 Try.underlying54 hi0 hz0 hz1 hz2 rfl (by decide) _ _ _ rfl (World.ownsRow.alloc hrow _) ⟨wr.heap.size, 0, none⟩ 1 1 [.int .i64 f, .int .i64 G] rfl rfl (cell_two_new _ _ _ _) (by simp [Value.oneCell']) (by unfold maxLen; omega) (by omega) (by simp; omega) ?_)
                    intro v' w5 hown' hgrow _
                    have ho6 := ownC_snoc hown'
                    rw [← Hnx.out] at ho6
                    have s4 : Below w.heap.size w w5 := (hB4.alloc hB4.size _).grown hgrow (by simp; omega) (fun j e => Hb5.out j e)
                    clear hown' hgrow hrow
                    go_wp2
                    go_roundw
                    case rel => exact ⟨j + 1, false, by omega, by simp, rfl, by rw [smallG_succ, Hbig.out, HG.out]; simp; try omega, fun q hq => by by_cases e : q = j; exact e ▸ Hok.out; exact Hall.out q (by omega), ho6, s4⟩
                    case measure => simp [intOf]; omega
                · go_wp2_with (at_builtin; refine wpList_append_own _ rfl _ _ 54 rfl w.heap.size 87 i0 (.agg #[.int .i64 0, .int .i64 0]) 2 16 Try.underlying54 hi0 hz0 hz1 hz2 rfl (by decide) _ _ _ rfl (World.ownsRow.alloc hrow _) ⟨wr.heap.size, 0, none⟩ 1 1 [.int .i64 f, .int .i64 G] rfl rfl (cell_two_new _ _ _ _) (by simp [Value.oneCell']) (by unfold maxLen; omega) (by omega) (by simp; omega) ?_)
                  intro v' w5 hown' hgrow _
                  have ho6 := ownC_snoc hown'
                  rw [← Hnx.out] at ho6
                  have s4 : Below w.heap.size w w5 := (hB4.alloc hB4.size _).grown hgrow (by simp; omega) (fun j e => Hb5.out j e)
                  clear hown' hgrow hrow
                  go_wp2
                  go_roundw
                  case rel => exact ⟨j + 1, true, by omega, by simp, rfl, by rw [smallG_succ, Hbig.out, HG.out]; simp; try omega, fun q hq => by by_cases e : q = j; exact e ▸ Hok.out; exact Hall.out q (by omega), ho6, s4⟩
                  case measure => simp [intOf]; omega
              · have hq2 : (nth ts f != (j : Int)) = true := by simpa using he
                have hf1 : f + 1 < ts.length := by
                  by_cases e : f + 1 < ts.length
                  · exact e
                  · exfalso
                    have hz : slotsTo ts j (f + 1) = [] := slotsTo_none fun r hr => by by_cases e2 : r = f; exact e2 ▸ he; exact Hne.out r (by omega)
                    have : ts.length = f + 1 := by omega
                    have h2 := Hc.out
                    unfold slotsL at h2
                    rw [this, hz] at h2
                    simp at h2
                    omega
                have He := Lib.hid he
                clear he
                go_wp2
                go_roundw
                case rel => exact ⟨f + 1, hf1, by simp, fun r hr => by by_cases e : r = f; exact e ▸ He.out; exact Hne.out r (by omega), by first | rfl | trivial⟩
                case measure => simp [intOf]; omega
    · obtain rfl : j = K := by omega
      have hao : allOk ts j = true := decide_eq_true Hall.out
      cases big
      · have hcc : cotC ts j = 0 := by rw [Hu.out, hao, Hbig.out]; rfl
        have Hr := Lib.hid (show cotR ts j = L by unfold cotR; rw [if_pos hcc]; exact HL.out)
        have Hcc := Lib.hid hcc
        clear hcc hao
        go_wp2
        go_ret2
        exact ⟨_, ret_ve Hcc.out.symm, by rw [Hr.out]; exact ho, hB⟩
      · have hcc : cotC ts j = 3 := by rw [Hu.out, hao, Hbig.out]; rfl
        have Hr := Lib.hid (cotR_no (ts := ts) (k := (j : Int)) (by omega))
        have Hcc := Lib.hid hcc
        clear hcc hao
        go_wp2
        go_ret2
        exact ⟨_, ret_ve Hcc.out.symm, by rw [Hr.out]; exact ownC_nil _ _, hB⟩

end Go.Proofs.Ytckkhgpciglbmaa
