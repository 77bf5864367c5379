/-
  TurnsOfClasses of both.
  Conditions: lists of at most 1048576 elements.
-/
import Derived.Test.YtckkhgpciglbmaaClH
import Derived.Test.YtckkhgpciglbmaaRep
namespace Go.Proofs.Ytckkhgpciglbmaa
open Go.RowKit Go.Shelf
attribute [local go_sem] Oper.semAt_some

def tcC (cs : List (Int × Int)) : Int := if clsOk cs then (if apartB cs then (if 120 < spanN cs then 3 else 0) else 5) else 1
def tcR (cs : List (Int × Int)) : List Int := if tcC cs = 0 then turnsC cs (spanN cs) else []
theorem tcC_zero {cs : List (Int × Int)} (h : tcC cs = 0) : clsOk cs = true ∧ apartB cs = true ∧ spanN cs ≤ 120 := by
  unfold tcC at h
  cases h1 : clsOk cs
  · rw [h1] at h; simp at h
  · cases h2 : apartB cs
    · rw [h1, h2] at h; simp at h
    · rw [h1, h2] at h
      by_cases hs : 120 < spanN cs
      · rw [if_pos rfl, if_pos rfl, if_pos hs] at h; simp at h
      · exact ⟨rfl, rfl, by omega⟩
theorem tcR_len (cs : List (Int × Int)) : (tcR cs).length * 8 ≤ 140737488351232 := by
  unfold tcR
  split
  · rename_i h
    have := (tcC_zero h).2.2
    rw [turnsC_length]; omega
  · simp
theorem tcR_no {cs : List (Int × Int)} (h : tcC cs ≠ 0) : tcR cs = [] := by unfold tcR; rw [if_neg h]
theorem ret_vi {v : Value} {a b : Int} (h : a = b) : Ending.returned (.tuple #[v, .int .i64 a]) = .returned (.tuple #[v, .int .i64 b]) := by rw [h]
theorem nth_turnsC {cs : List (Int × Int)} {N n : Nat} (h : n < N) : nth (turnsC cs N) n = inC cs n := by simp [nth, turnsC, h]
theorem turnsC_take {cs : List (Int × Int)} {N n : Nat} (h : n < N) : (turnsC cs N).take (n + 1) = (turnsC cs N).take n ++ [inC cs n] := by
  rw [take_snoc (by rw [turnsC_length]; exact h), nth_turnsC h]

set_option maxRecDepth 100000 in
set_option maxHeartbeats 8000000 in
theorem s_TurnsOfClasses (c0 : Value) (cs : List (Int × Int)) (w : World) (hI : Cls w.heap.size w c0 cs) (_hN : C64 cs) (hm : cs.length ≤ 1048576) (_hcp : CapOk c0 cs.length) :
    Calls Try.prog 58 #[c0] w (GivesI w (tcR cs) fun v => .tuple #[v, .int .i64 (tcC cs)]) := by
  obtain ⟨i0, hi, hz0, hz1, hz2⟩ := info_parts Try.infoI
  obtain ⟨a, cap, rfl⟩ := hI.shape
  cases h1 : clsOk cs
  · have hc : tcC cs = 1 := by unfold tcC; rw [h1]; rfl
    have Hr := Lib.hid (tcR_no (cs := cs) (by omega))
    have Hc := Lib.hid hc
    have H := Lib.hid h1
    clear h1 hc
    go_enter Try.func58, Try.ntmps58
    go_wp2_with fail
    refine (l05Are_c _ cs _ hI hm).mono ?_
    rintro e w1 ⟨he, hb⟩
    rw [H.out] at he
    subst he
    go_wp2
    go_ret2
    exact ⟨_, by rw [Hc.out]; rfl, by rw [Hr.out]; exact ownI_nil _ _, hb⟩
  have hl := clsOk_len h1
  obtain ⟨hs1, hs2⟩ := spanN_bd h1
  have H := Lib.hid h1
  cases h2 : apartB cs
  · have hc : tcC cs = 5 := by unfold tcC; rw [h1, h2]; rfl
    have Hr := Lib.hid (tcR_no (cs := cs) (by omega))
    have Hc := Lib.hid hc
    have H2 := Lib.hid h2
    clear h1 h2 hc
    go_enter Try.func58, Try.ntmps58
    go_wp2_with fail
    refine (l05Are_c _ cs _ hI hm).mono ?_
    rintro e w1 ⟨he, hb⟩
    rw [H.out] at he
    subst he
    go_wp2_with fail
    refine (l05Apart_c _ cs _ (hI.later hb) (clss_of H.out) hl.2).mono ?_
    rintro e w2 ⟨he, hb2⟩
    rw [H2.out] at he
    subst he
    go_wp2
    go_ret2
    exact ⟨_, by rw [Hc.out]; rfl, by rw [Hr.out]; exact ownI_nil _ _, hb.trans (hb2.mono hb.size)⟩
  have H2 := Lib.hid h2
  obtain ⟨N, hN2⟩ : ∃ N, spanN cs = N := ⟨_, rfl⟩
  have HN := Lib.hid hN2
  by_cases hs : 120 < spanN cs
  · have hc : tcC cs = 3 := by unfold tcC; rw [h1, h2, if_pos rfl, if_pos rfl, if_pos hs]
    have Hr := Lib.hid (tcR_no (cs := cs) (by omega))
    have Hc := Lib.hid hc
    rw [hN2] at hs1 hs2 hs
    clear h1 h2 hc hN2
    go_enter Try.func58, Try.ntmps58
    go_wp2_with fail
    refine (l05Are_c _ cs _ hI hm).mono ?_
    rintro e w1 ⟨he, hb⟩
    rw [H.out] at he
    subst he
    go_wp2_with fail
    refine (l05Apart_c _ cs _ (hI.later hb) (clss_of H.out) hl.2).mono ?_
    rintro e w2 ⟨he, hb2⟩
    rw [H2.out] at he
    subst he
    have hB2 := hb.trans (hb2.mono hb.size)
    go_wp2_with fail
    refine (l05Span_c _ cs _ (hI.later hB2) H.out).mono ?_
    rintro e w3 ⟨he, hb3⟩
    rw [HN.out] at he
    subst he
    go_wp2
    go_ret2
    exact ⟨_, by rw [Hc.out]; rfl, by rw [Hr.out]; exact ownI_nil _ _, hB2.trans (hb3.mono hB2.size)⟩
  have hc : tcC cs = 0 := by unfold tcC; rw [h1, h2, if_pos rfl, if_pos rfl, if_neg hs]
  have Hr := Lib.hid (show tcR cs = turnsC cs N by unfold tcR; rw [if_pos hc, hN2])
  have Hc := Lib.hid hc
  rw [hN2] at hs1 hs2 hs
  clear h1 h2 hc hN2
  go_enter Try.func58, Try.ntmps58
  go_wp2_with fail
  refine (l05Are_c _ cs _ hI hm).mono ?_
  rintro e w1 ⟨he, hb⟩
  rw [H.out] at he
  subst he
  go_wp2_with fail
  refine (l05Apart_c _ cs _ (hI.later hb) (clss_of H.out) hl.2).mono ?_
  rintro e w2 ⟨he, hb2⟩
  rw [H2.out] at he
  subst he
  have hB2 := hb.trans (hb2.mono hb.size)
  clear hb hb2
  go_wp2_with fail
  refine (l05Span_c _ cs _ (hI.later hB2) H.out).mono ?_
  rintro e w3 ⟨he, hb3⟩
  rw [HN.out] at he
  subst he
  have hB3 := hB2.trans (hb3.mono hB2.size)
  clear hb3 hB2
  go_wp2
  have hB4 : Below w.heap.size w (w3.alloc (.cells #[] 2)) := hB3.alloc hB3.size _
  have ho4 : OwnI w.heap.size (w3.alloc (.cells #[] 2)) (.slice (some ⟨w3.heap.size, 0, none⟩) 0 0) [] := World.ownsRow_made w3 #[] 0 hB3.size (by unfold maxLen; omega) rfl
  go_loopw [4, 5] (fun v i wr => ∃ n : Nat, n ≤ N ∧ i = .int .i64 n ∧ OwnI w.heap.size wr v ((turnsC cs N).take n) ∧ Below w.heap.size w wr) (fun _ i _ => N - (intOf i).toNat)
  case atStart => exact ⟨0, Nat.zero_le _, rfl, by simpa using ho4, hB4⟩
  case round =>
    obtain ⟨n, hn, rfl, ho, hB⟩ := hrel
    have hlen : ((turnsC cs N).take n).length ≤ 120 := by rw [List.length_take, turnsC_length]; omega
    obtain ⟨xs, hxs⟩ : ∃ xs, (turnsC cs N).take n = xs := ⟨_, rfl⟩
    rw [hxs] at ho hlen
    have Hx := Lib.hid hxs
    clear hxs ho4 hB4
    go_wp2_with fail
    refine (l05Span_c _ cs _ (hI.later hB) H.out).mono ?_
    rintro e w5 ⟨he, hb5⟩
    rw [HN.out] at he
    subst he
    have ho5 := ho.below hb5
    have hB5 := hB.trans (hb5.mono hB.size)
    clear hb5 ho hB
    by_cases hlt : n < N
    · have ht := turnsC_take (cs := cs) hlt
      rw [Hx.out] at ht
      have Ht := Lib.hid ht
      clear ht
      go_wp2_with fail
      refine (l05In_c _ cs n _ (hI.later hB5) H.out (by omega)).mono ?_
      rintro e w6 ⟨rfl, hb6⟩
      have ho6 := ho5.below hb6
      have hB6 := hB5.trans (hb6.mono hB5.size)
      have hs6 := hB6.size
      clear hb6 ho5 hB5
      go_wp2_with (at_builtin; refine wpList_append_own _ rfl _ _ 22 rfl w.heap.size 2 i0 (.int .i64 0) 1 8 Try.underlying22 hi hz0 hz1 hz2 rfl (by decide) _ _ _ rfl (World.ownsRow.alloc ho6 _) ⟨w6.heap.size, 0, none⟩ 1 1 [.int .i64 (inC cs n)] rfl rfl (Go.cell_one_new _ _ _) (by simp [Value.oneCell']) (by unfold maxLen; omega) (by omega) (by simp; omega) ?_)
      intro v' w1 hown' hgrow _
      have ho2 := ownI_snoc hown'
      have hB2 : Below w.heap.size w w1 := (hB6.alloc hs6 _).grown hgrow (by simp; omega) (fun j e => by have := (ho6.blk j e).1; omega)
      have hgr : w6.grownBy w1 _ := (World.grownBy_alloc _ _ _).trans hgrow
      clear hown' hgrow
      clear hgr
      go_wp2
      go_roundw
      case rel => exact ⟨n + 1, by omega, by simp, by rw [Ht.out]; exact ho2, hB2⟩
      case measure => simp [intOf]; omega
    · obtain rfl : n = N := by omega
      have hx := Hx.out
      rw [show (turnsC cs n).take n = turnsC cs n from by rw [List.take_of_length_le (by rw [turnsC_length]; exact Nat.le_refl _)]] at hx
      subst hx
      go_wp2
      go_ret2
      exact ⟨_, ret_vi Hc.out.symm, by rw [Hr.out]; exact ho5, hB5⟩

/-! ### the program -/
theorem repL_one (N : Nat) : repL [(-1 : Int)] N = List.replicate N (-1) := by
  have hl : (repL [(-1 : Int)] N).length = N := by rw [repL_length]; simp
  refine ext_nth (by rw [hl, List.length_replicate]) fun k hk => ?_
  rw [hl] at hk
  rw [nth_repL _ _ (by simp; exact hk)]
  simp [nth, hk, Nat.mod_one]

set_option maxRecDepth 100000 in
set_option maxHeartbeats 8000000 in
theorem i_TurnsOfClasses (c0 : Value) (cs : List (Int × Int)) (w : World) (hI : Cls w.heap.size w c0 cs) (hN : C64 cs) (hm : cs.length ≤ 1048576) (hcp : CapOk c0 cs.length) :
    Calls Try.prog 59 #[c0] w (GivesI w (tcR cs) fun v => .tuple #[v, .int .i64 (tcC cs)]) := by
  obtain ⟨a, cap, rfl⟩ := hI.shape
  cases h1 : clsOk cs
  · have hc : tcC cs = 1 := by unfold tcC; rw [h1]; rfl
    have Hr := Lib.hid (tcR_no (cs := cs) (by omega))
    have Hc := Lib.hid hc
    have H := Lib.hid h1
    clear h1 hc
    go_enter Try.func59, Try.ntmps59
    go_wp2_with fail
    refine (i_AreClasses _ cs _ hI hN hm).mono ?_
    rintro e w1 ⟨he, hb⟩
    rw [H.out] at he
    subst he
    go_wp2
    go_ret2
    exact ⟨_, by rw [Hc.out]; rfl, by rw [Hr.out]; exact ownI_nil _ _, hb⟩
  have hl := clsOk_len h1
  obtain ⟨hs1, hs2⟩ := spanN_bd h1
  have H := Lib.hid h1
  have Hcl := Lib.hid (clss_of h1)
  cases h2 : apartB cs
  · have hc : tcC cs = 5 := by unfold tcC; rw [h1, h2]; rfl
    have Hr := Lib.hid (tcR_no (cs := cs) (by omega))
    have Hc := Lib.hid hc
    have H2 := Lib.hid h2
    clear h1 h2 hc
    go_enter Try.func59, Try.ntmps59
    go_wp2_with fail
    refine (i_AreClasses _ cs _ hI hN hm).mono ?_
    rintro e w1 ⟨he, hb⟩
    rw [H.out] at he
    subst he
    go_wp2_with fail
    refine (areApart_c _ cs _ (hI.later hb) (clss_of H.out) hl.2 hcp).mono ?_
    rintro e w2 ⟨he, hb2⟩
    rw [H2.out] at he
    subst he
    go_wp2
    go_ret2
    exact ⟨_, by rw [Hc.out]; rfl, by rw [Hr.out]; exact ownI_nil _ _, hb.trans (hb2.mono hb.size)⟩
  have H2 := Lib.hid h2
  obtain ⟨N, hN2⟩ : ∃ N, spanN cs = N := ⟨_, rfl⟩
  have HN := Lib.hid hN2
  by_cases hs : 120 < spanN cs
  · have hc : tcC cs = 3 := by unfold tcC; rw [h1, h2, if_pos rfl, if_pos rfl, if_pos hs]
    have Hr := Lib.hid (tcR_no (cs := cs) (by omega))
    have Hc := Lib.hid hc
    rw [hN2] at hs1 hs2 hs
    clear h1 h2 hc hN2
    go_enter Try.func59, Try.ntmps59
    go_wp2_with fail
    refine (i_AreClasses _ cs _ hI hN hm).mono ?_
    rintro e w1 ⟨he, hb⟩
    rw [H.out] at he
    subst he
    go_wp2_with fail
    refine (areApart_c _ cs _ (hI.later hb) (clss_of H.out) hl.2 hcp).mono ?_
    rintro e w2 ⟨he, hb2⟩
    rw [H2.out] at he
    subst he
    have hB2 := hb.trans (hb2.mono hb.size)
    go_wp2_with fail
    refine (spanOf_c _ cs _ (hI.later hB2) hN H.out).mono ?_
    rintro e w3 ⟨he, hb3⟩
    rw [HN.out] at he
    subst he
    go_wp2
    go_ret2
    exact ⟨_, by rw [Hc.out]; rfl, by rw [Hr.out]; exact ownI_nil _ _, hB2.trans (hb3.mono hB2.size)⟩
  have hc : tcC cs = 0 := by unfold tcC; rw [h1, h2, if_pos rfl, if_pos rfl, if_neg hs]
  have Hr := Lib.hid (show tcR cs = turnsC cs N by unfold tcR; rw [if_pos hc, hN2])
  have Hc := Lib.hid hc
  rw [hN2] at hs1 hs2 hs
  clear h1 h2 hc hN2
  go_enter Try.func59, Try.ntmps59
  go_wp2_with fail
  refine (i_AreClasses _ cs _ hI hN hm).mono ?_
  rintro e w1 ⟨he, hb⟩
  rw [H.out] at he
  subst he
  go_wp2_with fail
  refine (areApart_c _ cs _ (hI.later hb) (clss_of H.out) hl.2 hcp).mono ?_
  rintro e w2 ⟨he, hb2⟩
  rw [H2.out] at he
  subst he
  have hB2 := hb.trans (hb2.mono hb.size)
  clear hb hb2
  go_wp2_with fail
  refine (spanOf_c _ cs _ (hI.later hB2) hN H.out).mono ?_
  rintro e w3 ⟨he, hb3⟩
  rw [HN.out] at he
  subst he
  have hB3 := hB2.trans (hb3.mono hB2.size)
  clear hb3 hB2
  go_wp2_with fail
  have hB4 : Below w.heap.size w (w3.alloc (.cells #[.int .i64 (-1)] 2)) := hB3.alloc hB3.size _
  have hI4 : Ints (w3.alloc (.cells #[.int .i64 (-1)] 2)).heap.size (w3.alloc (.cells #[.int .i64 (-1)] 2)) (.slice (some ⟨w3.heap.size, 0, none⟩) 1 1) [-1] := by
    refine ⟨_, 1, rfl, .inr ⟨w3.heap.size, 0, rfl, by simp, fun j hj => ?_⟩⟩
    have : j = 0 := by simpa using hj
    subst this
    simp [go_sem, nth]
  refine (repeat_c _ [-1] N _ hI4 (by simp) (by simp) hs1 (by omega)).mono ?_
  rintro e w5 ⟨v, rfl, ho5, hb5⟩
  rw [repL_one, ← midL_start (cs := cs)] at ho5
  have ho5' : OwnI w.heap.size w5 v (midL cs N 0 0) := ho5.base hB4.size
  have hB5 := hB4.trans (hb5.mono hB4.size)
  obtain ⟨g, cap5, ev, hg1, hg2⟩ := ho5'.shape (by rw [midL_length]; exact hs1)
  rw [midL_length] at ev
  have ev2 : id v = .slice (some ⟨g, 0, none⟩) N cap5 := ev
  rw [ev] at ho5'
  rw [ev2]
  clear hI4 hB4 hb5 ho5 hB3 ev ev2
  go_wp2
  go_loopw [24] (fun i wr => ∃ k : Nat, k ≤ cs.length ∧ i = .int .i64 k ∧ OwnI w.heap.size wr (.slice (some ⟨g, 0, none⟩) N cap5) (midL cs N k 0) ∧ Below w.heap.size w wr) (fun i _ => cs.length - (intOf i).toNat)
  case atStart => exact ⟨0, Nat.zero_le _, rfl, ho5', hB5⟩
  case round =>
    obtain ⟨k, hk, rfl, ho, hB⟩ := hrel
    clear ho5' hB5
    by_cases hlt : k < cs.length
    · obtain ⟨b, off, rfl, hbb, hcc⟩ := (hI.below hB).at_ hlt
      obtain ⟨e1, e2⟩ := hcc k hlt
      have hgk := Hcl.out k hlt
      obtain ⟨r, hrq⟩ : ∃ r : Nat, rst cs k = r := ⟨(rst cs k).toNat, by omega⟩
      obtain ⟨q, hqq⟩ : ∃ q : Nat, gp cs k = q := ⟨(gp cs k).toNat, by omega⟩
      have Hrq := Lib.hid hrq
      have Hqq := Lib.hid hqq
      rw [hrq] at e1 hgk
      rw [hqq] at e2 hgk
      have hs0 := hB.size
      have hgl : g < wr.heap.size := (ho.blk g rfl).2
      have hBa : Below w.heap.size w (wr.alloc (.cells #[.int .i64 r, .int .i64 q] 87)) := hB.alloc hs0 _
      have hoa : OwnI w.heap.size (wr.alloc (.cells #[.int .i64 r, .int .i64 q] 87)) (.slice (some ⟨g, 0, none⟩) N cap5) (midL cs N k 0) := World.ownsRow.alloc ho _
      have bxa : Box2 (wr.alloc (.cells #[.int .i64 r, .int .i64 q] 87)) wr.heap.size 87 (.int .i64 r) (.int .i64 q) := Box2.new _ _ _ _
      clear hcc hrq hqq ho hB
      go_wp2_with fail
      refine (rest_c _ _ _).mono ?_
      rintro e w6 ⟨rfl, hb6⟩
      have ho6 := hoa.below hb6
      have bx6 := bxa.later hb6
      have hB6 := hBa.trans (hb6.mono (by simp; omega))
      have hs6 := hb6.size
      simp only [World.size_alloc] at hs6
      clear hoa bxa hBa hb6
      go_wp2
      go_loopw [8] (fun v wr2 => ∃ s : Nat, v = .int .i64 s ∧ s ≤ N + 80 ∧ hasB cs k s = true ∧ OwnI w.heap.size wr2 (.slice (some ⟨g, 0, none⟩) N cap5) (midL cs N k s) ∧ Box2 wr2 wr.heap.size 87 (.int .i64 r) (.int .i64 q) ∧ Below w.heap.size w wr2) (fun v _ => N + 200 - (intOf v).toNat)
      case atStart =>
        refine ⟨r, rfl, by omega, ?_, ?_, bx6, hB6⟩
        · have := has_rst Hcl.out hlt
          rwa [Hrq.out] at this
        · have := midL_first Hcl.out (N := N) hlt
          rw [Hrq.out] at this
          rw [← show ((r : Nat) : Int).toNat = r by omega, ← this]
          exact ho6
      case round =>
        obtain ⟨s, rfl, hsb, hhas, hos, bxs, hBs⟩ := hrel
        have Hhas := Lib.hid hhas
        clear hhas ho6 bx6 hB6
        by_cases hsl : s < N
        · have cy := hos.cellAt (j := s) (by rw [midL_length]; exact hsl)
          have fy := hos.frozen s
          have hsl2 : (s : Int) < (N : Int) := by omega
          have bx7 := bxs.other (b' := g) (i := s) (by omega) (.int .i64 k)
          have x0 := bx7.c0
          have x1 := bx7.c1
          have hos2 := (hos.stored s (k : Int)).1
          have hBs2 := hBs.setCell (p := ⟨g, s, none⟩) hg1 (.int .i64 k)
          have hss := hBs2.size
          have Hset := Lib.hid (midL_set Hcl.out (N := N) hlt Hhas.out)
          have Hnx := Lib.hid (has_next Hcl.out hlt Hhas.out)
          clear hos hBs bxs
          go_wp2_with fail
          refine (gap_c _ _ _).mono ?_
          rintro e w7 ⟨rfl, hb7⟩
          have ho7 := hos2.below hb7
          have bx8 := bx7.later hb7
          have hB7 := hBs2.trans (hb7.mono hss)
          clear hos2 bx7 hBs2 hb7
          go_wp2
          go_roundw
          case rel =>
            refine ⟨s + q, by simp, by omega, ?_, ?_, bx8, hB7⟩
            · have := Hnx.out
              rwa [Hqq.out, show ((q : Nat) : Int).toNat = q by omega] at this
            · have := Hset.out
              rw [Hqq.out, show ((q : Nat) : Int).toNat = q by omega] at this
              rw [this]; exact ho7
          case measure => simp [intOf]; omega
        · have Hend := Lib.hid (midL_end Hcl.out H2.out (N := N) (s := s) hlt (by omega))
          go_wp2
          go_roundw
          case rel => exact ⟨k + 1, by omega, by simp, by rw [← Hend.out]; exact hos, hBs⟩
          case measure => simp [intOf]; omega
    · obtain rfl : k = cs.length := by omega
      have Hall := Lib.hid (midL_all cs N)
      go_wp2
      go_ret2
      exact ⟨_, ret_vi Hc.out.symm, by rw [Hr.out, ← Hall.out]; exact ho, hB⟩

end Go.Proofs.Ytckkhgpciglbmaa
