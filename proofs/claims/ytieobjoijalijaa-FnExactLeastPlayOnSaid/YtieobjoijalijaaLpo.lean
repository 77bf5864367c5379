/-
  LeastPlayOn of the program.
  Conditions: at most 1048576 gaps.
-/
import Derived.Test.YtieobjoijalijaaPlm
import Derived.Test.YtieobjoijalijaaPli
import Derived.Test.YtieobjoijalijaaShift
import Derived.Test.YtieobjoijalijaaSort
namespace Go.Proofs.Ytieobjoijalijaa
open Go.RowKit Go.Shelf
attribute [local go_sem] Oper.semAt_some

set_option maxRecDepth 100000 in
set_option maxHeartbeats 8000000 in
/-- slices.Clone of a part that may be empty -/
theorem clonePart8_c (b off cap : Nat) (zs : List Int) (w : World) (hI : Ints w.heap.size w (.slice (some ⟨b, off, none⟩) zs.length cap) zs) (hl : zs.length ≤ 1048576) :
    Calls Try.prog 87 #[.slice (some ⟨b, off, none⟩) zs.length cap] w (GivesI w zs id) := by
  obtain ⟨i0, hi, hz0, hz1, hz2⟩ := info_parts Try.infoI
  have hB0 : Below w.heap.size w (w.alloc (.cells #[] 2)) := (Below.refl _ w).alloc (Nat.le_refl _) _
  have hnil : ∀ W, (binOp .eql 22 (.slice (some ⟨b, off, none⟩) zs.length cap) (.slice none 0 0)).run Try.prog W = .ok (.bool false) W := fun W => Lib.run_eql_slice_nil W _ _ _ _ _ _ _ Try.underlying22
  go_enter Try.func87, Try.ntmps87
  go_wp2_with (at_builtin; refine wpList_append_own _ rfl _ _ 22 rfl w.heap.size 2 i0 (.int .i64 0) 1 8 Try.underlying22 hi hz0 hz1 hz2 rfl (by decide) _ _ _ rfl (ownI_empty w) ⟨b, off, none⟩ zs.length cap (zs.map (.int .i64)) rfl (by simp) (cells_src (hI.below hB0)) (cells_one zs) (by unfold maxLen; simp; omega) (by simp; omega) (by simp) ?_)
  intro v' w1 hown' hgrow _
  have ho : OwnI w.heap.size w1 v' zs := by have := ownI_app (xs := []) (ys := zs) (by simpa using hown'); simpa using this
  have hB : Below w.heap.size w w1 := hB0.grown hgrow (by simp) (fun j e => by simp [Value.ownBlock] at e; omega)
  clear hown' hgrow
  go_wp2
  go_ret
  exact ⟨_, rfl, ho, hB⟩

set_option maxRecDepth 100000 in
set_option maxHeartbeats 8000000 in
theorem i_LeastPlayOn (c0 : Value) (zs : List Int) (m : Int) (w : World) (hI : Ints w.heap.size w c0 zs) (hN : I64s zs) (hm0 : zs.length ≤ 1048576) (_hm : I64 m) :
    Calls Try.prog 29 #[.agg #[c0], .int .i64 m] w (GivesII w (lpR zs m) (lpH zs m) fun v u => .tuple #[u, v, .int .i64 (lpC zs m)]) := by
  obtain ⟨a, cap, rfl⟩ := hI.shape
  have nil2 : ∀ (W : World) (c : Int), Below w.heap.size w W → lpC zs m = c → lpR zs m = [] → lpH zs m = [] → GivesII w (lpR zs m) (lpH zs m) (fun v u => .tuple #[u, v, .int .i64 (lpC zs m)]) (.returned (.tuple #[.slice none 0 0, .slice none 0 0, .int .i64 c])) W := fun W c hB h1 h2 h3 => by
    refine ⟨.slice none 0 0, .slice none 0 0, w.heap.size, by rw [h1], ?_, ?_, Nat.le_refl _, hB⟩
    · rw [h2]; exact seg_nil _ _ _ (Nat.le_refl _)
    · rw [h3]; exact seg_nil _ _ _ hB.size
  have Hnil := Lib.hid nil2
  clear nil2
  have hfw : Try.prog.follows Departure.mixedOrders = true := by kernel_rfl
  have hB0 : Below w.heap.size w (w.alloc (.cells #[.slice a zs.length cap] 28)) := (Below.refl _ w).alloc (Nat.le_refl _) _
  have bT0 : Boxed (w.alloc (.cells #[.slice a zs.length cap] 28)) w.heap.size 28 (.slice a zs.length cap) := Boxed.new _ _ _
  have hbd := onC_bd zs m
  go_enter Try.func29, Try.ntmps29
  go_wp2_with fail
  refine (checkTasksOn_c _ zs m _ (hI.later hB0) hN hm0).mono ?_
  rintro e w1 ⟨rfl, hb1⟩
  have bT1 := boxed_later bT0 hb1
  have hB1 := hB0.trans (hb1.mono hB0.size)
  by_cases hc : onC zs m = 0
  · obtain ⟨ht, hmb, h4⟩ := onC_ok hc
    have Hc := Lib.hid hc
    rw [hc]
    have k1 := bT1.cell
    clear hc hbd bT0 hB0 hb1
    go_wp2_with fail
    refine (leastPlayOn_c _ zs m w1 (hI.later hB1) ht h4).mono ?_
    rintro e w2 ⟨hb2, v, ps, ho, ⟨p, rfl, hf, hl⟩ | ⟨rfl, hn⟩⟩
    · have hlast : LastS zs m zs := hf.last (i := 0) (Nat.zero_le _)
      obtain ⟨hag, hps⟩ := hf.again
      have hok := lpC_yes Hc.out hlast
      obtain ⟨e1, e2⟩ := lp_again hok hag
      rw [← hps] at e1 e2
      have Hok := Lib.hid hok
      have He1 := Lib.hid e1
      have He2 := Lib.hid e2
      have hpl := hf.lt
      have hB2 := hB1.trans (hb2.mono hB1.size)
      obtain ⟨g, c, rfl, hg1, hg2⟩ := ho.shape (by omega)
      obtain ⟨n, hn⟩ : ∃ n, ps.length = n := ⟨_, rfl⟩
      have hI3 : Ints w2.heap.size w2 (.slice (some ⟨g, 0, none⟩) ps.length c) ps := ho.ints
      have hcc : n ≤ c := by
        obtain ⟨_, c2, e3, h5, _⟩ := ho.capOk
        injection e3 with e4 e5 e6
        omega
      have htk : Ints w2.heap.size w2 (.slice (some ⟨g, 0, none⟩) (ps.take p).length c) (ps.take p) := by
        have := ints_take hI3 (n := p) (by omega)
        rwa [show (ps.take p).length = p by simp; omega]
      have hdr : Ints w2.heap.size w2 (.slice (some ⟨g, p, none⟩) (ps.drop p).length (c - p)) (ps.drop p) := by
        have := ints_drop hI3 (n := p) (by omega)
        simpa using this
      have l1 : (ps.take p).length = p := by simp; omega
      have l2 : (ps.drop p).length = n - p := by simp [hn]
      rw [hn] at hpl hl ⊢
      have hpc : p ≤ c := by omega
      have hpn : p ≤ n := by omega
      have hca : ¬ c = p := by omega
      have hb4 : n ≤ 1048576 := by omega
      have hsB := hB2.size
      clear hn hI3 e1 e2 hag hps hok hf ho hb2 k1 bT1 hB1
      go_wp2_with fail
      refine wp_region_held_drew (S := fun w' => Below w2.heap.size w2 w') hfw (Below.refl _ _).drew ?_
      intro hS0
      refine wpAnyH_take (i := 0) (v := ?v0) rfl (by kernel_rfl) (by kernel_rfl) (by kernel_rfl) (fun _ _ _ h => h) (.inl ⟨by rfl, ?y0⟩) hS0 ?_
      case y0 =>
        intro w' hS
        (clear hS)
        go_simp
        try with_reducible rfl
      refine wpAnyH_take (i := 1) (v := ?v1) rfl (by kernel_rfl) (by kernel_rfl) (by kernel_rfl) (fun _ _ _ h => h) (.inl ⟨by rfl, ?y1⟩) hS0 ?_
      case y1 =>
        intro w' hS
        (clear hS)
        go_simp
        try with_reducible rfl
      refine wpAnyH_take (i := 2) (v := ?v2) rfl (by kernel_rfl) (by kernel_rfl) (by kernel_rfl) (fun _ _ _ h => h) (.inl ⟨by rfl, ?y2⟩) hS0 ?_
      case y2 =>
        intro w' hS
        (clear hS)
        go_simp
        try with_reducible rfl
      refine wpAnyH_take (i := 4) (v := ?v4) rfl (by kernel_rfl) (by kernel_rfl) (by kernel_rfl) (fun _ _ _ h => h) (.inl ⟨by rfl, ?y4⟩) hS0 ?_
      case y4 =>
        intro w' hS
        (clear hS)
        go_simp
        try with_reducible rfl
      refine wpAnyH_take (i := 5) (v := ?v5) rfl (by kernel_rfl) (by kernel_rfl) (by kernel_rfl) (fun _ _ _ h => h) (.inl ⟨by rfl, ?y5⟩) hS0 ?_
      case y5 =>
        intro w' hS
        (clear hS)
        go_simp
        try with_reducible rfl
      refine wpAnyH_take (i := 6) (v := ?v6) rfl (by kernel_rfl) (by kernel_rfl) (by kernel_rfl) (fun _ _ _ h => h) (.inl ⟨by rfl, ?y6⟩) hS0 ?_
      case y6 =>
        intro w' hS
        (clear hS)
        go_simp
        try with_reducible rfl
      refine wpAnyH_ready (rs := [3]) (by kernel_rfl) (by simp) ?_
      refine AllReadyH.cons rfl (fun K' hK' => ?_) AllReadyH.nil
      rw [if_pos (by rfl)]
      go_simp
      have hc1 := clonePart8_c g 0 c (ps.take p) w2.drew htk (by omega)
      rw [l1] at hc1
      refine hc1.mono ?_
      rintro e w5 ⟨v1, rfl, ho1, hb5⟩
      simp only [id]
      have hB8 : Below w2.heap.size w2 w5 := hS0.trans (hb5.mono hS0.size)
      refine hK'.out _ _ hB8 fun hS1 => ?_
      clear hK' hc1
      refine wpAnyH_ready (rs := [7]) (by kernel_rfl) (by simp) ?_
      refine AllReadyH.cons rfl (fun K' hK' => ?_) AllReadyH.nil
      rw [if_pos (by rfl)]
      go_simp
      have hc2 := clonePart8_c g p (c - p) (ps.drop p) w5 (hdr.later hB8) (by omega)
      rw [l2] at hc2
      refine hc2.mono ?_
      rintro e w6 ⟨v2, rfl, ho2, hb6⟩
      simp only [id]
      have hB9 : Below w2.heap.size w2 w6 := hB8.trans (hb6.mono hB8.size)
      refine hK'.out _ _ hB9 fun hS2 => ?_
      clear hK' hc2
      refine wpAnyH_take (i := 8) (v := ?vz8) rfl (by kernel_rfl) (by kernel_rfl) (by kernel_rfl) (fun _ _ _ h => h) (.inl ⟨by rfl, ?yz8⟩) hS2 ?_
      case yz8 =>
        intro w' hS
        (clear hS)
        go_simp
        try with_reducible rfl
      refine wpAnyH_take (i := 9) (v := ?vz9) rfl (by kernel_rfl) (by kernel_rfl) (by kernel_rfl) (fun _ _ _ h => h) (.inl ⟨by rfl, ?yz9⟩) hS2 ?_
      case yz9 =>
        intro w' hS
        (clear hS)
        go_simp
        try with_reducible rfl
      refine wpAnyH_take (i := 10) (v := ?vz10) rfl (by kernel_rfl) (by kernel_rfl) (by kernel_rfl) (fun _ _ _ h => h) (.inl ⟨by rfl, ?yz10⟩) hS2 ?_
      case yz10 =>
        intro w' hS
        (clear hS)
        go_simp
        try with_reducible rfl
      refine wpAnyH_done (by kernel_rfl) ?_ _
      have g2 := Seg.new ho2
      have g1 := (Seg.new ho1).below hb6
      have h5s := hB8.size
      have hBf : Below w.heap.size w w6 := hB2.trans (hB9.mono hB2.size)
      clear hb5 hb6 ho1 ho2 hS0 hS1 hS2 htk hdr
      go_wp2
      go_ret3
      exact ⟨v2, v1, w5.heap.size, by rw [Hok.out]; rfl, by rw [He2.out]; exact g2, by rw [He1.out]; exact ⟨g1.own.base (by show w.heap.size ≤ w2.heap.size; omega), g1.top, g1.le⟩, by omega, hBf⟩
    · have hB2 := hB1.trans (hb2.mono hB1.size)
      obtain ⟨k1', k2', k3'⟩ := lpC_no Hc.out hn
      have h9 := Lib.hid (Hnil.out w2 4 hB2 k1' k3' k2')
      clear k1' k2' k3' hn hb2 ho hB1 hB2
      go_wp2_with fail
      go_ret3
      exact h9.out
  · obtain ⟨h1, h2, h3⟩ := lpC_few hc
    have h9 := Lib.hid (Hnil.out w1 (onC zs m) hB1 h1 h3 h2)
    have hq : (onC zs m != 0) = true := by simpa using hc
    clear h1 h2 h3 hc
    go_wp2_with fail
    go_ret3
    exact h9.out

end Go.Proofs.Ytieobjoijalijaa
