/-
  ClassesOfTurns of the program: the loop, the greatest gap.
  Conditions: lists of at most 1048576 elements.
-/
import Derived.Test.YtckkhgpciglbmaaCoI
import Derived.Test.YtckkhgpciglbmaaFld
namespace Go.Proofs.Ytckkhgpciglbmaa
open Go.RowKit Go.Shelf
attribute [local go_sem] Oper.semAt_some

theorem mostTo_ge {ts : List Int} {k j : Nat} (hk : k ≤ ts.length) (h : j < k) : nth ts j ≤ mostTo ts k := by
  induction k with
  | zero => omega
  | succ k ih =>
    rw [mostTo_succ (by omega)]
    by_cases e : j = k
    · subst e; omega
    · have := ih (by omega) (by omega); omega
theorem mostTo_le {ts : List Int} {m : Int} (hm : -1 ≤ m) {k : Nat} (hk : k ≤ ts.length) (h : ∀ j, j < k → nth ts j ≤ m) : mostTo ts k ≤ m := by
  induction k with
  | zero => simpa [mostTo] using hm
  | succ k ih =>
    rw [mostTo_succ (by omega)]
    have := ih (by omega) (fun j hj => h j (by omega))
    have := h k (by omega)
    omega
theorem mostTo_lo (ts : List Int) {k : Nat} (hk : k ≤ ts.length) : -1 ≤ mostTo ts k := by
  induction k with
  | zero => simp [mostTo]
  | succ k ih => rw [mostTo_succ (by omega)]; have := ih (by omega); omega

set_option maxRecDepth 100000 in
set_option maxHeartbeats 8000000 in
theorem maxL_c (sv : Value) (ts : List Int) (w : World) (hI : Ints w.heap.size w sv ts) (hl0 : 0 < ts.length) (hl : ts.length ≤ 1000) (hbd : ∀ k, k < ts.length → 0 ≤ nth ts k ∧ nth ts k ≤ 100000) :
    Calls Try.prog 90 #[sv] w fun e w' => e = .returned (.int .i64 (most ts)) ∧ w = w' := by
  obtain ⟨a, cap, rfl⟩ := hI.shape
  obtain ⟨b, off, rfl, hbb, hc⟩ := hI.at_ hl0
  have h0 : w.cell? ⟨b, off, none⟩ = some (.int .i64 (nth ts 0)) := by simpa using hc 0 (by omega)
  have e1 : mostTo ts 1 = nth ts 0 := by
    have := hbd 0 hl0
    rw [mostTo_succ (by omega)]; simp [mostTo]; omega
  have hn0 := hbd 0 hl0
  go_enter Try.func90, Try.ntmps90
  clear hc
  go_wp2
  rw [← e1]
  clear e1 h0 hbd
  go_loop [4, 3] (fun i m => ∃ k : Nat, 1 ≤ k ∧ k ≤ ts.length ∧ i = .int .i64 k ∧ m = .int .i64 (mostTo ts k)) (fun i _ => ts.length - (intOf i).toNat)
  case atStart => exact ⟨1, Nat.le_refl _, hl0, rfl, rfl⟩
  case round =>
    obtain ⟨k, hk1, hk, rfl, rfl⟩ := hrel
    by_cases hlt : k < ts.length
    · obtain ⟨b2, off2, hs, hb2, hc⟩ := hI.at_ hlt
      cases hs
      have hcx := hc k hlt
      have hs := mostTo_succ hlt
      have Hs := Lib.hid hs
      clear hc hs
      go_wp2
      exact ⟨⟨k + 1, by omega, by omega, by simp, by rw [Hs.out]; congr 1; omega⟩, by simp [intOf]; omega⟩
    · obtain rfl : k = ts.length := by omega
      go_wp2
      go_ret
      exact ⟨ret_int rfl, rfl⟩

theorem gaps_ctL (ts : List Int) (k j : Nat) (h : j < k) : nth (gapsL (ctL ts k)) j = ctG ts (j : Int) := by rw [nth_gapsL, gp_ctL h]
theorem small_most {ts : List Int} {k : Nat} : (40 < most (gapsL (ctL ts k))) ↔ smallG ts k = false := by
  have hl : (gapsL (ctL ts k)).length = k := by rw [gapsL_length, ctL_length]
  unfold most
  rw [hl]
  constructor
  · intro h
    refine decide_eq_false fun hs => ?_
    have := mostTo_le (ts := gapsL (ctL ts k)) (m := 40) (by omega) (k := k) (by omega) (fun j hj => by rw [gaps_ctL _ _ _ hj]; exact hs j hj)
    omega
  · intro h
    have h2 := of_decide_eq_false h
    by_cases h3 : 40 < mostTo (gapsL (ctL ts k)) k
    · exact h3
    · exfalso
      refine h2 fun j hj => ?_
      have := mostTo_ge (ts := gapsL (ctL ts k)) (k := k) (j := j) (by omega) hj
      rw [gaps_ctL _ _ _ hj] at this
      omega
theorem ret_vc {v : Value} {a b : Int} (h : a = b) : Ending.returned (.tuple #[v, .int .i64 a]) = .returned (.tuple #[v, .int .i64 b]) := by rw [h]

set_option maxRecDepth 100000 in
set_option maxHeartbeats 8000000 in
theorem i_ClassesOfTurns (c0 : Value) (ts : List Int) (x : Int) (w : World) (hI : Ints w.heap.size w c0 ts) (_hN : I64s ts) (hm : ts.length ≤ 1048576) (_hx : I64 x) :
    Calls Try.prog 63 #[c0, .int .i64 x] w (GivesC w (cotR ts x) fun v => .tuple #[v, .int .i64 (cotC ts x)]) := by
  obtain ⟨i0, hi0, hz0, hz1, hz2⟩ := info_parts2 Try.infoC
  obtain ⟨a, cap, rfl⟩ := hI.shape
  by_cases k1 : x < 1
  · have hc : cotC ts x = 2 := by unfold cotC; rw [inB_false.2 (.inl k1)]; rfl
    have Hr := Lib.hid (cotR_no (ts := ts) (k := x) (by omega))
    have Hc := Lib.hid hc
    clear hc
    go_enter Try.func63, Try.ntmps63
    go_wp2
    go_ret2
    exact ⟨_, ret_vc Hc.out.symm, by rw [Hr.out]; exact ownC_nil _ _, Below.refl _ _⟩
  by_cases k2 : 8 < x
  · have hc : cotC ts x = 2 := by unfold cotC; rw [inB_false.2 (.inr k2)]; rfl
    have Hr := Lib.hid (cotR_no (ts := ts) (k := x) (by omega))
    have Hc := Lib.hid hc
    clear hc
    go_enter Try.func63, Try.ntmps63
    go_wp2
    go_ret2
    exact ⟨_, ret_vc Hc.out.symm, by rw [Hr.out]; exact ownC_nil _ _, Below.refl _ _⟩
  obtain ⟨K, rfl⟩ := Int.eq_ofNat_of_zero_le (show 0 ≤ x by omega)
  have hin : inB (K : Int) 1 8 = true := inB_true.2 (by omega)
  cases ht : turnsOk ts K
  · have hc : cotC ts K = 2 := by unfold cotC; rw [hin, ht]; rfl
    have Hr := Lib.hid (cotR_no (ts := ts) (k := (K : Int)) (by omega))
    have Hc := Lib.hid hc
    have Ht := Lib.hid ht
    clear hc ht hin
    go_enter Try.func63, Try.ntmps63
    go_wp2_with fail
    refine (areTurns_c _ ts K _ hI (by omega)).mono ?_
    rintro e w1 ⟨he, hb⟩
    rw [Ht.out] at he
    subst he
    go_wp2
    go_ret2
    exact ⟨_, ret_vc Hc.out.symm, by rw [Hr.out]; exact ownC_nil _ _, hb⟩
  have hl := turnsOk_len ht
  have Hu := Lib.hid (show cotC ts K = if allOk ts K then (if smallG ts K then 0 else 3) else 4 by unfold cotC; rw [hin, ht]; rfl)
  have Ht := Lib.hid ht
  clear ht hin
  go_enter Try.func63, Try.ntmps63
  go_wp2_with fail
  refine (areTurns_c _ ts K _ hI (by omega)).mono ?_
  rintro e w1 ⟨he, hb⟩
  rw [Ht.out] at he
  subst he
  go_wp2
  go_loopw [6, 23] (fun v i wr => ∃ j : Nat, j ≤ K ∧ i = .int .i64 j ∧ (∀ q : Nat, q < j → okT ts (q : Int) = true) ∧ OwnC w.heap.size wr v (ctL ts j).length (flat (ctL ts j)) ∧ Below w.heap.size w wr) (fun _ i _ => K - (intOf i).toNat)
  case atStart => exact ⟨0, Nat.zero_le _, rfl, by omega, ownC_nil _ _, hb⟩
  case round =>
    obtain ⟨j, hj, rfl, hall, ho, hB⟩ := hrel
    have Hall := Lib.hid hall
    have hsz := hB.size
    have hLl := ctL_length ts j
    obtain ⟨L, hL⟩ : ∃ L, ctL ts j = L := ⟨_, rfl⟩
    rw [hL] at ho hLl
    have HL := Lib.hid hL
    clear hall hb hL
    by_cases hlt : j < K
    · go_wp2_with fail
      refine (classOfTask_c _ ts j wr (hI.later hB) (by omega) (by omega)).mono ?_
      rintro e w2 ⟨rfl, hb2⟩
      have hB2 := hB.trans (hb2.mono hsz)
      have ho2 := ho.below hb2
      have hs2 := hB2.size
      clear ho hb2 hB
      cases hok : okT ts j
      · have hno : allOk ts K = false := decide_eq_false fun h => by rw [h j hlt] at hok; cases hok
        have hc : cotC ts K = 4 := by rw [Hu.out, hno]; rfl
        have Hr := Lib.hid (cotR_no (ts := ts) (k := (K : Int)) (by omega))
        have Hc := Lib.hid hc
        clear hc hno hok ho2
        go_wp2
        go_ret2
        exact ⟨_, ret_vc Hc.out.symm, by rw [Hr.out]; exact ownC_nil _ _, hB2.alloc hs2 _⟩
      · have HA := Lib.hid (show ctA ts j = ctF ts j by unfold ctA; rw [hok]; rfl)
        have HD := Lib.hid (show ctB ts j = ctG ts j by unfold ctB; rw [hok]; rfl)
        obtain ⟨A, hA⟩ : ∃ A, ctA ts j = A := ⟨_, rfl⟩
        obtain ⟨D, hD⟩ : ∃ D, ctB ts j = D := ⟨_, rfl⟩
        have Hnx := Lib.hid (show ctL ts (j + 1) = L ++ [(A, D)] by rw [ctL_succ, HL.out, ← HA.out, ← HD.out, hA, hD])
        have Hok := Lib.hid hok
        rw [hA, hD]
        have ho3 : (w2.alloc (.cells #[.int .i64 A, .int .i64 D] 87)).ownsRow w.heap.size 87 2 u6 L.length ((flat L).map (.int .i64)) := World.ownsRow.alloc ho2 _
        have hB3 : Below w.heap.size w (w2.alloc (.cells #[.int .i64 A, .int .i64 D] 87)) := hB2.alloc hs2 _
        have hb5 : ∀ j, u6.ownBlock = some j → w.heap.size ≤ j := fun j e => (ho2.blk j e).1
        have Hb5 := Lib.hid hb5
        have hcell : ∀ j u, [Value.int .i64 A, .int .i64 D][j]? = some u → ((w2.alloc (.cells #[.int .i64 A, .int .i64 D] 87)).alloc (.cells #[.int .i64 A, .int .i64 D] 87)).cell? ((⟨w2.heap.size + 1, 0, none⟩ : Addr).add j) = some u := by
          have h := cell_two_new (w2.alloc (.cells #[.int .i64 A, .int .i64 D] 87)) (.int .i64 A) (.int .i64 D) 87
          rwa [World.size_alloc] at h
        have Hcell := Lib.hid hcell
        clear hA hD hok hb5 ho2 hcell
        go_wp2_with (at_builtin; refine wpList_append_own _ rfl _ _ 54 rfl w.heap.size 87 i0 (.agg #[.int .i64 0, .int .i64 0]) 2 16 Try.underlying54 hi0 hz0 hz1 hz2 rfl (by decide) _ _ _ rfl (World.ownsRow.alloc ho3 _) ⟨w2.heap.size + 1, 0, none⟩ 1 1 [.int .i64 A, .int .i64 D] rfl rfl Hcell.out (by simp [Value.oneCell']) (by unfold maxLen; omega) (by omega) (by simp; omega) ?_)
        intro v' w5 hown' hgrow _
        have ho6 := ownC_snoc (by rw [hLl]; exact hown')
        rw [← Hnx.out] at ho6
        have s4 : Below w.heap.size w w5 := (hB3.alloc (by simp; omega) _).grown hgrow (by simp; omega) (fun j e => Hb5.out j e)
        clear hown' hgrow ho3 Hcell
        go_wp2
        go_roundw
        case rel => exact ⟨j + 1, by omega, by simp, fun q hq => by by_cases e : q = j; exact e ▸ Hok.out; exact Hall.out q (by omega), ho6, s4⟩
        case measure => simp [intOf]; omega
    · obtain rfl : j = K := by omega
      have hao : allOk ts j = true := decide_eq_true Hall.out
      have hcls : Cls wr.heap.size wr u6 L := ho.prs
      have hgl : (gapsL L).length = j := by rw [gapsL_length]; exact hLl
      have hgb : ∀ k, k < (gapsL L).length → 0 ≤ nth (gapsL L) k ∧ nth (gapsL L) k ≤ 100000 := fun k hk => by
        rw [hgl] at hk
        have := ok_bd (Hall.out k hk)
        rw [← HL.out, gaps_ctL _ _ _ hk]
        omega
      have Hgb := Lib.hid hgb
      have hsm := small_most (ts := ts) (k := j)
      rw [HL.out] at hsm
      obtain ⟨a6, c6, rfl⟩ := hcls.shape
      have HLl := Lib.hid hLl
      have Hgl := Lib.hid hgl
      have Hsm := Lib.hid hsm
      have hj1 : 1 ≤ j ∧ j ≤ 8 := by omega
      have hL8 : L.length ≤ 8 := by omega
      clear hgb hLl hgl hsm
      go_wp2_with fail
      refine (tasksOfClasses_c _ L _ hcls hL8).mono ?_
      rintro e w3 ⟨v, rfl, ho3, hb3⟩
      have hB3 := hB.trans (hb3.mono hsz)
      have ho4 := ho.below hb3
      obtain ⟨a7, c7, rfl⟩ := ho3.ints.shape
      have hfd := fun W => run_gaps a7 (gapsL L).length c7 W
      clear ho hb3
      go_wp2_with fail
      refine (maxL_c _ (gapsL L) _ ho3.ints (by rw [Hgl.out]; omega) (by rw [Hgl.out]; omega) Hgb.out).mono ?_
      rintro e w4 ⟨rfl, rfl⟩
      by_cases hbig : 40 < most (gapsL L)
      · have hc : cotC ts j = 3 := by rw [Hu.out, hao, Hsm.out.1 hbig]; rfl
        have Hr := Lib.hid (cotR_no (ts := ts) (k := (j : Int)) (by omega))
        have Hc := Lib.hid hc
        clear hc hao
        go_wp2
        go_ret2
        exact ⟨_, ret_vc Hc.out.symm, by rw [Hr.out]; exact ownC_nil _ _, hB3⟩
      · have hs2 : smallG ts j = true := by
          cases e : smallG ts j
          · exact absurd (Hsm.out.2 e) hbig
          · rfl
        have hc : cotC ts j = 0 := by rw [Hu.out, hao, hs2]; rfl
        have Hr := Lib.hid (show cotR ts j = L by unfold cotR; rw [if_pos hc]; exact HL.out)
        have Hc := Lib.hid hc
        clear hc hao hs2
        go_wp2
        go_ret2
        exact ⟨_, ret_vc Hc.out.symm, by rw [Hr.out]; exact ho4, hB3⟩

end Go.Proofs.Ytckkhgpciglbmaa
