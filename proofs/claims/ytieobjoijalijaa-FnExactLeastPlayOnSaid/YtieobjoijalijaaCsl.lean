/-
  The model's list of states that are lasting on m channels.
  Conditions: tasks with at most 4000 states.
-/
import Derived.Test.YtieobjoijalijaaCsf
namespace Go.Proofs.Ytieobjoijalijaa
open Go.RowKit Go.Shelf
attribute [local go_sem] Oper.semAt_some

structure LInvS (zs : List Int) (m : Int) (bs : List Bool) : Prop where
  len : bs.length = cntN zs
  all : ∀ n : Nat, n < cntN zs → LastS zs m (ofL zs n) → bs[n]? = some true
open Classical in
noncomputable def lastSB (zs : List Int) (m : Int) : List Bool := (List.range (cntN zs)).map fun n : Nat => decide (LastS zs m (ofL zs n))
theorem LInvS.suc {zs : List Int} {m : Int} {bs : List Bool} (hp : Pos zs) (h : LInvS zs m bs) {st : List Int} (hs : IsSt zs st) (hl : LastS zs m st) : ∃ s, GoS zs m bs st s := by
  obtain ⟨s, hc, ho, hl2⟩ := lastS_step hl
  obtain ⟨k, h1, h2, h3⟩ := num_nat hp (hs.stepS ho)
  refine ⟨s, hc, ho, ?_⟩
  unfold bAt
  rw [h1]
  rw [← h3] at hl2
  simp [h.all k h2 hl2]
theorem LInvS.set {zs : List Int} {m : Int} {bs : List Bool} (hp : Pos zs) (h : LInvS zs m bs) {n : Nat} (hno : ∀ s, ¬ GoS zs m bs (ofL zs n) s) : LInvS zs m (bs.set n false) where
  len := by rw [List.length_set, h.len]
  all k hk hl := by
    by_cases e : n = k
    · subst e
      obtain ⟨s, hs⟩ := h.suc hp (isSt_ofL hp _) hl
      exact absurd hs (hno s)
    · rw [List.getElem?_set_ne e]; exact h.all k hk hl
open Classical in
theorem LInvS.done {zs : List Int} {m : Int} {bs : List Bool} (hp : Pos zs) (h : LInvS zs m bs) (hc : ∀ n : Nat, n < cntN zs → bs[n]? = some true → ∃ s, GoS zs m bs (ofL zs n) s) : bs = lastSB zs m := by
  refine List.ext_getElem (by simp [lastSB, h.len]) fun n h1 h2 => ?_
  have hn : n < cntN zs := by rw [← h.len]; exact h1
  have e1 : bs[n]? = some bs[n] := List.getElem?_eq_getElem h1
  simp only [lastSB, List.getElem_map, List.getElem_range]
  by_cases hl : LastS zs m (ofL zs n)
  · rw [decide_eq_true hl]
    have := h.all n hn hl
    rw [e1] at this
    simpa using this
  · rw [decide_eq_false hl]
    cases hb : bs[n] with
    | false => rfl
    | true =>
      refine absurd ?_ hl
      refine ⟨fun st => IsSt zs st ∧ bAt bs (numL zs st) = true, ⟨isSt_ofL hp _, ?_⟩, fun x hx => ?_⟩
      · unfold bAt
        rw [numL_ofL hp (by omega) (by rw [cntL_cntN hp]; omega)]
        simp [e1, hb]
      · obtain ⟨hxs, hxb⟩ := hx
        obtain ⟨k, k1, k2, k3⟩ := num_nat hp hxs
        have hm : bs[k]? = some true := by
          unfold bAt at hxb
          rw [k1] at hxb
          cases hv : bs[k]? with
          | none => simp [hv] at hxb
          | some b => simp [hv] at hxb; rw [hxb]
        obtain ⟨s, c1, c2, c3⟩ := hc k k2 hm
        rw [k3] at c2 c3
        exact ⟨s, c1, c2, hxs.stepS c2, c3⟩
theorem linvS_start (zs : List Int) (m : Int) : LInvS zs m (List.replicate (cntN zs) true) := ⟨by simp, fun n hn _ => by simp [hn]⟩
theorem lastSB_at {zs : List Int} {m : Int} {n : Nat} (h : n < cntN zs) : (bAt (lastSB zs m) (n : Int) = true) ↔ LastS zs m (ofL zs n) := by
  unfold bAt lastSB
  simp [h]

theorem ownI_ne_ownB {B B' b n c : Nat} {W : World} {v : Value} {xs : List Int} {bs : List Bool} (h : OwnI B W v xs) (hb : OwnB B' W (.slice (some ⟨b, 0, none⟩) n c) bs) : v.ownBlock ≠ some b := by
  intro e
  obtain ⟨_, h2⟩ := h
  obtain ⟨_, h3⟩ := hb
  rcases h2 with ⟨rfl, _⟩ | ⟨g, cap, cur, rfl, _, hh, _⟩
  · simp [Value.ownBlock] at e
  · obtain rfl : g = b := by simpa [Value.ownBlock] using e
    rcases h3 with ⟨e3, _⟩ | ⟨g3, cap3, cur3, e3, _, hh3, _⟩
    · simp at e3
    · simp only [Value.slice.injEq, Option.some.injEq, Addr.mk.injEq, and_true] at e3
      obtain ⟨rfl, -, rfl⟩ := e3
      have := hh.symm.trans hh3
      simp at this
theorem OwnB.below9 {B : Nat} {W W' : World} {v : Value} {bs : List Bool} (h : OwnB B W v bs) (hb : Below W.heap.size W W') : OwnB B W' v bs := h.below hb
set_option maxRecDepth 100000 in
set_option maxHeartbeats 16000000 in
theorem l08Lasting_c (c0 : Value) (zs : List Int) (m : Int) (w : World) (hI : Ints w.heap.size w c0 zs) (ht : tasksOk zs = true) (h4 : cntL zs ≤ 4000) :
    Calls Try.prog 80 #[.agg #[c0], .int .i64 m] w fun e w' => ∃ b, e = .returned (.slice (some ⟨b, 0, none⟩) (cntN zs) (cntN zs)) ∧ OwnB w.heap.size w' (.slice (some ⟨b, 0, none⟩) (cntN zs) (cntN zs)) (lastSB zs m) ∧ Below w.heap.size w w' := by
  obtain ⟨a, cap, rfl⟩ := hI.shape
  obtain ⟨i0, hi, hz0, hz1, hz2⟩ := info_partsB Try.infoB
  have hp := pos_of ht
  have hcn := cntL_cntN hp
  have hl8 := tasksOk_len ht
  have hfw : Try.prog.follows Departure.mixedOrders = true := by kernel_rfl
  have hB0 : Below w.heap.size w (w.alloc (.cells #[.slice a zs.length cap] 28)) := (Below.refl _ w).alloc (Nat.le_refl _) _
  have bT0 : Boxed (w.alloc (.cells #[.slice a zs.length cap] 28)) w.heap.size 28 (.slice a zs.length cap) := Boxed.new _ _ _
  go_enter Try.func80, Try.ntmps80
  go_wp2_with fail
  obtain ⟨w0, hw0⟩ : ∃ w0, w.alloc (.cells #[.slice a zs.length cap] 28) = w0 := ⟨_, rfl⟩
  rw [hw0] at hB0 bT0 ⊢
  clear hw0
  obtain ⟨N, hN⟩ : ∃ N, cntN zs = N := ⟨_, rfl⟩
  have hN4 : N ≤ 4000 := by omega
  refine wp_region_held_drew (S := fun w' => Boxed w' w.heap.size 28 (.slice a zs.length cap) ∧ Below w.heap.size w w') hfw ⟨bT0, hB0.drew⟩ ?_
  intro hS0
  obtain ⟨W0, hW0⟩ : ∃ W0, w0.drew = W0 := ⟨_, rfl⟩
  rw [hW0] at hS0 ⊢
  clear hW0 bT0 hB0
  refine wpAnyH_take (i := 0) (v := ?vr10) rfl (by kernel_rfl) (by kernel_rfl) (by kernel_rfl) (fun _ _ _ h => h) (.inl ⟨by rfl, ?yr10⟩) hS0 ?_
  case yr10 =>
    intro w' hS
    (have k1 := hS.1.cell; clear hS)
    go_simp
    try with_reducible rfl
  refine wpAnyH_take (i := 1) (v := ?vr11) rfl (by kernel_rfl) (by kernel_rfl) (by kernel_rfl) (fun _ _ _ h => h) (.inl ⟨by rfl, ?yr11⟩) hS0 ?_
  case yr11 =>
    intro w' hS
    (have k1 := hS.1.cell; clear hS)
    go_simp
    try with_reducible rfl
  refine wpAnyH_take (i := 3) (v := ?vr13) rfl (by kernel_rfl) (by kernel_rfl) (by kernel_rfl) (fun _ _ _ h => h) (.inl ⟨by rfl, ?yr13⟩) hS0 ?_
  case yr13 =>
    intro w' hS
    (have k1 := hS.1.cell; clear hS)
    go_simp
    try with_reducible rfl
  refine wpAnyH_ready (rs := [2]) (by kernel_rfl) (by simp) ?_
  refine (AllReadyH.cons rfl (fun K' hK' => ?_) AllReadyH.nil)
  · rw [if_pos (by rfl)]
    go_simp
    refine (l08Sets_c _ zs m W0 (hI.later hS0.2) hl8.2).mono ?_
    rintro e W1 ⟨vs, rfl, hvs, hx⟩
    obtain ⟨av, cv, rfl⟩ := hvs.ints.shape
    simp only [id]
    replace hvs := hvs.base (show w.heap.size + 1 ≤ W0.heap.size from hS0.1.lt)
    refine hK'.out _ _ ⟨boxed_later hS0.1 hx, hS0.2.trans (hx.mono hS0.2.size)⟩ fun hS1 => ?_
    clear hK' hS0 hx
    refine wpAnyH_ready (rs := [4]) (by kernel_rfl) (by simp) ?_
    refine (AllReadyH.cons rfl (fun K' hK' => ?_) AllReadyH.nil)
    · rw [if_pos (by rfl)]
      go_simp
      refine (l02Count_c _ zs W1 (hI.later hS1.2) ht).mono ?_
      rintro e W2 ⟨rfl, hx⟩
      rw [hcn, hN]
      replace hvs := hvs.below hx
      refine hK'.out _ _ ⟨boxed_later hS1.1 hx, hS1.2.trans (hx.mono hS1.2.size)⟩ fun hS2 => ?_
      clear hK' hS1 hx
      refine wpAnyH_take (i := 6) (v := ?vq12b6) rfl (by kernel_rfl) (by kernel_rfl) (by kernel_rfl) (fun _ _ _ h => h) (.inl ⟨by rfl, ?yq12b6⟩) hS2 ?_
      case yq12b6 =>
        intro w' hS
        (clear hS)
        go_simp
        try with_reducible rfl
      refine wpAnyH_ready (rs := [5]) (by kernel_rfl) (by simp) ?_
      refine (AllReadyH.cons rfl (fun K' hK' => ?_) AllReadyH.nil)
      · rw [if_pos (by rfl)]
        obtain ⟨W3, hrun, hoC0, hgr⟩ := run_make_full (P := Try.prog) W2 (w.heap.size + 1) 76 4 i0 (.bool false) 1 Try.underlying76 hi hz0 hz1 .i64 .i64 N (by rw [hz2]; omega) (by unfold maxLen; omega) hS2.1.lt
        have hx : Below W2.heap.size W2 W3 := (Below.refl _ _).grown hgr (Nat.le_refl _) (fun j e => by cases e)
        obtain ⟨g, hg⟩ : ∃ g, W2.heap.size = g := ⟨_, rfl⟩
        rw [hg] at hrun hoC0
        go_simp
        have hob := ownB_made (by rw [Nat.mul_one] at hoC0; exact hoC0)
        clear hrun hoC0 hgr hg
        replace hvs := hvs.below hx
        refine hK'.out _ _ ⟨boxed_later hS2.1 hx, hS2.2.trans (hx.mono hS2.2.size)⟩ fun hS3 => ?_
        clear hK' hS2 hx
        refine wpAnyH_take (i := 7) (v := ?vq224b7) rfl (by kernel_rfl) (by kernel_rfl) (by kernel_rfl) (fun _ _ _ h => h) (.inl ⟨by rfl, ?yq224b7⟩) hS3 ?_
        case yq224b7 =>
          intro w' hS
          (clear hS)
          go_simp
          try with_reducible rfl
        refine wpAnyH_done (by kernel_rfl) ?_ _
        obtain ⟨sl, hsl⟩ : ∃ sl, setsTo m (2 ^ zs.length) = sl := ⟨_, rfl⟩
        rw [hsl] at hvs ⊢
        rw [← fillT_zero] at hob
        obtain ⟨bT3, hB3⟩ := hS3
        have HN := Lib.hid hN
        clear hN hcn
        go_wp2_with fail
        go_loopw [21] (fun i wr => ∃ k : Nat, k ≤ N ∧ i = .int .i64 k ∧ OwnB (w.heap.size + 1) wr (.slice (some ⟨g, 0, none⟩) N N) (fillT N k) ∧ OwnI (w.heap.size + 1) wr (.slice av sl.length cv) sl ∧ Boxed wr w.heap.size 28 (.slice a zs.length cap) ∧ Below w.heap.size w wr) (fun i _ => N - (intOf i).toNat)
        case atStart => exact ⟨0, Nat.zero_le _, rfl, hob, hvs, bT3, hB3⟩
        case round =>
          obtain ⟨k, hk, rfl, ho, hv, hb0, hB⟩ := hrel
          by_cases hlt : k < N
          · have hc := ho.cellAt (fillT_at hlt)
            have hf := ho.frozen k
            have hgl := (ho.blk g rfl).1
            have hne := ownI_ne_ownB hv ho
            have Hs := Lib.hid (fillT_succ (n := N) (k := k))
            have hki : (k : Int) < (N : Int) := by omega
            have hk4 : (k : Int) < 4000 := by omega
            clear hob hvs bT3 hB3
            go_wp2_with fail
            go_roundw
            case rel => exact ⟨k + 1, by omega, by simp, by rw [Hs.out]; exact ho.stored k true, hv.kept (grownBy_setCell2 _ _ _ _) (.inr hne), boxed_setFar hb0 (by omega), hB.setCell (p := ⟨g, k, none⟩) (by show w.heap.size ≤ g; omega) _⟩
            case measure => simp [intOf]; omega
          · have hkN : k = N := by omega
            rw [hkN, fillT_all] at ho
            have hL : LInvS zs m (List.replicate N true) := by have := linvS_start zs m; rwa [HN.out] at this
            obtain ⟨bs0, hbs0⟩ : ∃ bs, List.replicate N true = bs := ⟨_, rfl⟩
            rw [hbs0] at ho hL
            clear hbs0 hob hvs bT3 hB3 hkN
            have hvx := hv
            clear hv
            have hv := hvx
            clear hvx
            go_wp2_with fail
            go_loopw [8] (fun mo wr => ∃ (bs : List Bool) (more : Bool), mo = .bool more ∧ OwnB (w.heap.size + 1) wr (.slice (some ⟨g, 0, none⟩) N N) bs ∧ OwnI (w.heap.size + 1) wr (.slice av sl.length cv) sl ∧ LInvS zs m bs ∧ (more = false → ∀ n : Nat, n < N → bs[n]? = some true → ∃ s, GoS zs m bs (ofL zs n) s) ∧ Boxed wr w.heap.size 28 (.slice a zs.length cap) ∧ Below w.heap.size w wr)
              (fun mo wr => 2 * trueN wr g N + (match mo with | .bool true => 1 | _ => 0))
            case atStart => exact ⟨bs0, true, rfl, ho, hv, hL, (fun e => by cases e), hb0, hB⟩
            case round =>
              clear ho hL hb0 hB hv
              obtain ⟨bsA, more, rfl, hoA, hvA, hLA, hcA, hbA, hBA⟩ := hrel
              cases more
              · have hd := hLA.done hp (fun n hn => hcA rfl n (by rw [← HN.out]; exact hn))
                subst hd
                go_wp2_with fail
                go_ret
                exact ⟨g, by rw [HN.out]; rfl, by rw [HN.out]; exact hoA.base (by omega), hBA⟩
              · go_wp2_with fail
                go_loopw [8, 31] (fun mo i wr => ∃ (bs : List Bool) (more : Bool) (n : Nat), n ≤ N ∧ i = .int .i64 n ∧ mo = .bool more ∧ OwnB (w.heap.size + 1) wr (.slice (some ⟨g, 0, none⟩) N N) bs ∧ OwnI (w.heap.size + 1) wr (.slice av sl.length cv) sl ∧ LInvS zs m bs ∧ (more = false → bs = bsA ∧ ∀ k : Nat, k < n → bs[k]? = some true → ∃ s, GoS zs m bs (ofL zs k) s) ∧ (more = true → cntT bs < cntT bsA) ∧ Boxed wr w.heap.size 28 (.slice a zs.length cap) ∧ Below w.heap.size w wr)
                  (fun _ i _ => N - (intOf i).toNat)
                case atStart => exact ⟨bsA, false, 0, Nat.zero_le _, rfl, rfl, hoA, hvA, hLA, fun _ => ⟨rfl, by simp⟩, (fun e => by cases e), hbA, hBA⟩
                case round =>
                  obtain ⟨bs, more, n, hn, rfl, rfl, hoB, hvB, hLB, hcB, hmB, hbB, hBB⟩ := hrel
                  have hlenB : bs.length = N := by rw [hLB.len, HN.out]
                  have hlenA : bsA.length = N := by rw [hLA.len, HN.out]
                  by_cases hlt : n < N
                  · have hcell := ho_cell hoB hlenB hlt
                    have hnc : (n : Int) < cntL zs := by rw [cntL_cntN hp, HN.out]; omega
                    have hni : (n : Int) < (N : Int) := by omega
                    have hn4 : (n : Int) < 4000 := by omega
                    cases hbn : bAt bs n
                    · rw [hbn] at hcell
                      have hnb : bs[n]? ≠ some true := by rw [bAt_nat bs (by omega), hbn]; simp
                      clear hnc
                      go_wp2_with fail
                      go_roundw
                      case rel => exact ⟨bs, more, n + 1, by omega, by simp, rfl, hoB, hvB, hLB, (fun e => ⟨(hcB e).1, fun k hk h => by by_cases e2 : k = n; exact absurd (e2 ▸ h) hnb; exact (hcB e).2 k (by omega) h⟩), hmB, hbB, hBB⟩
                      case measure => simp [intOf]; omega
                    · rw [hbn] at hcell
                      have hbt : bs[n]? = some true := by rw [bAt_nat bs (by omega), hbn]
                      have Hnc := Lib.hid hnc
                      have HcB := Lib.hid hcB
                      have HmB := Lib.hid hmB
                      have HLB := Lib.hid hLB
                      clear hnc hcB hmB hLB
                      go_wp2_with fail
                      refine wp_region_held_drew (S := fun w' => Boxed w' w.heap.size 28 (.slice a zs.length cap) ∧ Below w.heap.size w w') hfw ⟨hbB, hBB.drew⟩ ?_
                      intro hS0
                      have hoD : OwnB (w.heap.size + 1) wr.drew (.slice (some ⟨g, 0, none⟩) N N) bs := hoB.below9 (Below.refl _ _).drew
                      have hvD : OwnI (w.heap.size + 1) wr.drew (.slice av sl.length cv) sl := hvB.below (Below.refl _ _).drew
                      obtain ⟨Wd, hWd⟩ : ∃ Wd, wr.drew = Wd := ⟨_, rfl⟩
                      rw [hWd] at hS0 hoD hvD ⊢
                      clear hWd hbB hBB hoB hvB hcell hlt
                      refine wpAnyH_take (i := 0) (v := ?vr40) rfl (by kernel_rfl) (by kernel_rfl) (by kernel_rfl) (fun _ _ _ h => h) (.inl ⟨by rfl, ?yr40⟩) hS0 ?_
                      case yr40 =>
                        intro w' hS
                        (have k1 := hS.1.cell; clear hS)
                        go_simp
                        try with_reducible rfl
                      refine wpAnyH_take (i := 1) (v := ?vr41) rfl (by kernel_rfl) (by kernel_rfl) (by kernel_rfl) (fun _ _ _ h => h) (.inl ⟨by rfl, ?yr41⟩) hS0 ?_
                      case yr41 =>
                        intro w' hS
                        (have k1 := hS.1.cell; clear hS)
                        go_simp
                        try with_reducible rfl
                      refine wpAnyH_take (i := 2) (v := ?vr42) rfl (by kernel_rfl) (by kernel_rfl) (by kernel_rfl) (fun _ _ _ h => h) (.inl ⟨by rfl, ?yr42⟩) hS0 ?_
                      case yr42 =>
                        intro w' hS
                        (have k1 := hS.1.cell; clear hS)
                        go_simp
                        try with_reducible rfl
                      refine wpAnyH_take (i := 3) (v := ?vr43) rfl (by kernel_rfl) (by kernel_rfl) (by kernel_rfl) (fun _ _ _ h => h) (.inl ⟨by rfl, ?yr43⟩) hS0 ?_
                      case yr43 =>
                        intro w' hS
                        (have k1 := hS.1.cell; clear hS)
                        go_simp
                        try with_reducible rfl
                      refine wpAnyH_take (i := 4) (v := ?vr44) rfl (by kernel_rfl) (by kernel_rfl) (by kernel_rfl) (fun _ _ _ h => h) (.inl ⟨by rfl, ?yr44⟩) hS0 ?_
                      case yr44 =>
                        intro w' hS
                        (have k1 := hS.1.cell; clear hS)
                        go_simp
                        try with_reducible rfl
                      refine wpAnyH_ready (rs := [5]) (by kernel_rfl) (by simp) ?_
                      refine AllReadyH.cons rfl (fun K' hK' => ?_) AllReadyH.nil
                      rw [if_pos (by rfl)]
                      go_simp
                      refine (l02Of_c _ zs n _ (hI.later hS0.2) ht (by omega) Hnc.out).mono ?_
                      rintro e W5 ⟨sv, rfl, hoS, hb5⟩
                      have hst := isSt_ofL hp (n : Int)
                      obtain ⟨st, hstn⟩ : ∃ st, ofL zs (n : Int) = st := ⟨_, rfl⟩
                      rw [hstn] at hoS hst
                      have Hst := Lib.hid hstn
                      obtain ⟨aS, cS, rfl⟩ := hoS.ints.shape
                      simp only [id]
                      have hS5 : Boxed W5 w.heap.size 28 (.slice a zs.length cap) ∧ Below w.heap.size w W5 := ⟨boxed_later hS0.1 hb5, hS0.2.trans (hb5.mono hS0.2.size)⟩
                      have hoE := hoD.below9 hb5
                      have hvE := hvD.below hb5
                      refine hK'.out _ _ hS5 fun hS1 => ?_
                      clear hK' hS1 hS0 hb5 hoD hvD hstn
                      refine wpAnyH_ready (rs := [6]) (by kernel_rfl) (by simp) ?_
                      refine AllReadyH.cons rfl (fun K' hK' => ?_) AllReadyH.nil
                      rw [if_pos (by rfl)]
                      go_simp
                      refine (l08First_c _ zs _ sl m g N bs _ st W5 (hI.later hS5.2) ht hsl hvE.ints (hoE.base (Nat.zero_le _)) hlenB HN.out hoS.ints hst).mono ?_
                      rintro e W6 ⟨hb6, hres⟩
                      have hS6 : Boxed W6 w.heap.size 28 (.slice a zs.length cap) ∧ Below w.heap.size w W6 := ⟨boxed_later hS5.1 hb6, hS5.2.trans (hb6.mono hS5.2.size)⟩
                      have hoF := hoE.below9 hb6
                      have hvF := hvE.below hb6
                      rcases hres with ⟨s, hgo, _, rfl⟩ | ⟨hno, rfl⟩
                      · refine hK'.out _ _ hS6 fun hS1 => ?_
                        have hsuc : ∃ s, GoS zs m bs (ofL zs n) s := ⟨s, by rw [Hst.out]; exact hgo⟩
                        clear hK' hS1 hS5 hb6 hoE hvE hoS hgo
                        refine wpAnyH_take (i := 7) (v := ?vr57) rfl (by kernel_rfl) (by kernel_rfl) (by kernel_rfl) (fun _ _ _ h => h) (.inl ⟨by rfl, ?yr57⟩) hS6 ?_
                        case yr57 =>
                          intro w' hS
                          (clear hS)
                          go_simp
                          try with_reducible rfl
                        refine wpAnyH_take (i := 8) (v := ?vr58) rfl (by kernel_rfl) (by kernel_rfl) (by kernel_rfl) (fun _ _ _ h => h) (.inl ⟨by rfl, ?yr58⟩) hS6 ?_
                        case yr58 =>
                          intro w' hS
                          (clear hS)
                          go_simp
                          try with_reducible rfl
                        refine wpAnyH_take (i := 9) (v := ?vr59) rfl (by kernel_rfl) (by kernel_rfl) (by kernel_rfl) (fun _ _ _ h => h) (.inl ⟨by rfl, ?yr59⟩) hS6 ?_
                        case yr59 =>
                          intro w' hS
                          (clear hS)
                          go_simp
                          try with_reducible rfl
                        refine wpAnyH_take (i := 10) (v := ?vr510) rfl (by kernel_rfl) (by kernel_rfl) (by kernel_rfl) (fun _ _ _ h => h) (.inl ⟨by rfl, ?yr510⟩) hS6 ?_
                        case yr510 =>
                          intro w' hS
                          (clear hS)
                          go_simp
                          try with_reducible rfl
                        refine wpAnyH_take (i := 11) (v := ?vr511) rfl (by kernel_rfl) (by kernel_rfl) (by kernel_rfl) (fun _ _ _ h => h) (.inl ⟨by rfl, ?yr511⟩) hS6 ?_
                        case yr511 =>
                          intro w' hS
                          (clear hS)
                          go_simp
                          try with_reducible rfl
                        refine wpAnyH_take (i := 12) (v := ?vr512) rfl (by kernel_rfl) (by kernel_rfl) (by kernel_rfl) (fun _ _ _ h => h) (.inl ⟨by rfl, ?yr512⟩) hS6 ?_
                        case yr512 =>
                          intro w' hS
                          (clear hS)
                          go_simp
                          try with_reducible rfl
                        refine wpAnyH_take (i := 13) (v := ?vr513) rfl (by kernel_rfl) (by kernel_rfl) (by kernel_rfl) (fun _ _ _ h => h) (.inl ⟨by rfl, ?yr513⟩) hS6 ?_
                        case yr513 =>
                          intro w' hS
                          (clear hS)
                          go_simp
                          try with_reducible rfl
                        refine wpAnyH_done (by kernel_rfl) ?_ _
                        have Hsuc := Lib.hid hsuc
                        clear hsuc
                        go_wp2_with fail
                        go_roundw
                        case rel => exact ⟨bs, more, n + 1, by omega, by simp, rfl, hoF, hvF, HLB.out, (fun e => ⟨(HcB.out e).1, fun k hk h => by by_cases e2 : k = n; exact e2 ▸ Hsuc.out; exact (HcB.out e).2 k (by omega) h⟩), HmB.out, hS6.1, hS6.2⟩
                        case measure => simp [intOf]; omega
                      · refine hK'.out _ _ hS6 fun hS1 => ?_
                        have hLn : LInvS zs m (bs.set n false) := HLB.out.set hp (by rw [Hst.out]; exact hno)
                        have hct := cntT_set hbt
                        have hcA : cntT bs ≤ cntT bsA := by
                          cases more
                          · rw [(HcB.out rfl).1]; exact Nat.le_refl _
                          · exact Nat.le_of_lt (HmB.out rfl)
                        have hfz := hoF.frozen n
                        have hcn2 : W6.cell? ⟨g, n, none⟩ = some (.bool (bAt bs n)) := ho_cell hoF hlenB (by omega)
                        have hne := ownI_ne_ownB hvF hoF
                        have hgl := (hoF.blk g rfl).1
                        clear hK' hS1 hS5 hb6 hoE hvE hoS hno
                        refine wpAnyH_take (i := 7) (v := ?vr67) rfl (by kernel_rfl) (by kernel_rfl) (by kernel_rfl) (fun _ _ _ h => h) (.inl ⟨by rfl, ?yr67⟩) hS6 ?_
                        case yr67 =>
                          intro w' hS
                          (clear hS)
                          go_simp
                          try with_reducible rfl
                        refine wpAnyH_take (i := 8) (v := ?vr68) rfl (by kernel_rfl) (by kernel_rfl) (by kernel_rfl) (fun _ _ _ h => h) (.inl ⟨by rfl, ?yr68⟩) hS6 ?_
                        case yr68 =>
                          intro w' hS
                          (clear hS)
                          go_simp
                          try with_reducible rfl
                        refine wpAnyH_take (i := 9) (v := ?vr69) rfl (by kernel_rfl) (by kernel_rfl) (by kernel_rfl) (fun _ _ _ h => h) (.inl ⟨by rfl, ?yr69⟩) hS6 ?_
                        case yr69 =>
                          intro w' hS
                          (clear hS)
                          go_simp
                          try with_reducible rfl
                        refine wpAnyH_take (i := 10) (v := ?vr610) rfl (by kernel_rfl) (by kernel_rfl) (by kernel_rfl) (fun _ _ _ h => h) (.inl ⟨by rfl, ?yr610⟩) hS6 ?_
                        case yr610 =>
                          intro w' hS
                          (clear hS)
                          go_simp
                          try with_reducible rfl
                        refine wpAnyH_take (i := 11) (v := ?vr611) rfl (by kernel_rfl) (by kernel_rfl) (by kernel_rfl) (fun _ _ _ h => h) (.inl ⟨by rfl, ?yr611⟩) hS6 ?_
                        case yr611 =>
                          intro w' hS
                          (clear hS)
                          go_simp
                          try with_reducible rfl
                        refine wpAnyH_take (i := 12) (v := ?vr612) rfl (by kernel_rfl) (by kernel_rfl) (by kernel_rfl) (fun _ _ _ h => h) (.inl ⟨by rfl, ?yr612⟩) hS6 ?_
                        case yr612 =>
                          intro w' hS
                          (clear hS)
                          go_simp
                          try with_reducible rfl
                        refine wpAnyH_take (i := 13) (v := ?vr613) rfl (by kernel_rfl) (by kernel_rfl) (by kernel_rfl) (fun _ _ _ h => h) (.inl ⟨by rfl, ?yr613⟩) hS6 ?_
                        case yr613 =>
                          intro w' hS
                          (clear hS)
                          go_simp
                          try with_reducible rfl
                        refine wpAnyH_done (by kernel_rfl) ?_ _
                        go_wp2_with fail
                        go_roundw
                        case rel => exact ⟨bs.set n false, true, n + 1, by omega, by simp, rfl, hoF.stored n false, hvF.kept (grownBy_setCell2 _ _ _ _) (.inr hne), hLn, (fun e => by cases e), (fun _ => by omega), boxed_setFar hS6.1 (by omega), hS6.2.setCell (p := ⟨g, n, none⟩) (by show w.heap.size ≤ g; omega) _⟩
                        case measure => simp [intOf]; omega
                  · have hnN : n = N := by omega
                    go_wp2_with fail
                    go_roundw
                    case rel => exact ⟨bs, more, rfl, hoB, hvB, hLB, fun e k hk h => (hcB e).2 k (by omega) h, hbB, hBB⟩
                    case measure =>
                      rw [trueN_eq hoB hlenB, trueN_eq hoA hlenA]
                      cases more
                      · rw [(hcB rfl).1]; simp
                      · have := hmB rfl
                        simp only; omega

end Go.Proofs.Ytieobjoijalijaa
