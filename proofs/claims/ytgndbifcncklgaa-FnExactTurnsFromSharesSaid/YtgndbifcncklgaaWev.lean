/-
  EvenMean of both.
  Conditions: lists of at most 1048576 elements.
-/
import Derived.Sort.QuietIn
import Derived.Test.YtgndbifcncklgaaWsh
namespace Go.Proofs.Ytgndbifcncklgaa
open Go.RowKit Go.Shelf
attribute [local go_sem] Oper.semAt_some

def evC (ds : List Int) : Int := if shOk ds then 0 else 2
def evN (ds : List Int) : Int := if shOk ds then (meN (evA ds (shR ds).toNat) (evB ds) (fun _ => 1) ds.length : Nat) else 0
def evD (ds : List Int) : Int := if shOk ds then (meD (evA ds (shR ds).toNat) (evB ds) (fun _ => 1) ds.length : Nat) else 0

set_option maxRecDepth 100000 in
set_option maxHeartbeats 4000000 in
theorem evenMean1_c (k x : Int) (s N : Nat) (bI : Nat) (w : World) (hb : Boxed w bI 2 (.int .i64 (N : Int))) (hx : x = s) (h1 : s ≤ N) (h2 : N ≤ 120) :
    Calls Try.prog 88 #[.int .i64 k, .int .i64 x, .pointer (some ⟨bI, 0, none⟩)] w fun e w' => e = .returned (.tuple #[.agg #[.int .i64 (N - s : Nat), .int .i64 (2 * s : Nat)], .int .i64 ((1 : Nat) : Int)]) ∧ Below w.heap.size w w' := by
  subst hx
  have c0 := hb.cell
  have hlt := hb.lt
  have m1 : (N : Int) - (s : Int) = ((N - s : Nat) : Int) := by omega
  have m2 : 2 * (s : Int) = ((2 * s : Nat) : Int) := by simp
  obtain ⟨u, hu⟩ : ∃ u, N - s = u := ⟨_, rfl⟩
  obtain ⟨v, hv⟩ : ∃ v, 2 * s = v := ⟨_, rfl⟩
  rw [hu] at m1
  rw [hv] at m2
  have hub : u ≤ 120 := by omega
  have hvb : v ≤ 240 := by omega
  rw [hu, hv]
  clear hu hv
  go_enter Try.func88, Try.ntmps88
  go_wp2_with fail
  have b3 := Box2.new w 76 (.int .i64 (u : Int)) (.int .i64 (v : Int))
  have e0 := b3.c0
  have e1 := b3.c1
  refine bodyPost_ret (v := .tuple #[.agg #[.int .i64 (u : Int), .int .i64 (v : Int)], .int .i64 1]) (by simp [results, Try.results88, go_sem, e0, e1]) rfl ⟨rfl, ?_⟩
  exact (Below.refl _ w).alloc (Nat.le_refl _) _

set_option maxRecDepth 100000 in
set_option maxHeartbeats 4000000 in
theorem i_EvenMean (c0 : Value) (ds : List Int) (w : World) (hI : Ints w.heap.size w c0 ds) (_hN : I64s ds) (hm : ds.length ≤ 1048576) :
    Calls Try.prog 49 #[c0] w fun e w' => e = .returned (.tuple #[.int .i64 (evN ds), .int .i64 (evD ds), .int .i64 (evC ds)]) ∧ Below w.heap.size w w' := by
  obtain ⟨a, cap, rfl⟩ := hI.shape
  cases ho : shOk ds
  · have H0 := Lib.hid (show evN ds = 0 by unfold evN; rw [ho]; rfl)
    have H1 := Lib.hid (show evD ds = 0 by unfold evD; rw [ho]; rfl)
    have Hc := Lib.hid (show evC ds = 2 by unfold evC; rw [ho]; rfl)
    have Ho := Lib.hid ho
    clear ho
    go_enter Try.func49, Try.ntmps49
    go_wp2_with fail
    refine (areSharesT_c _ ds _ hI hm).mono ?_
    rintro e w1 ⟨he, hb⟩
    rw [Ho.out] at he
    subst he
    go_wp2
    go_ret3
    exact ⟨ret_i3d H0.out.symm H1.out.symm Hc.out.symm, hb⟩
  · obtain ⟨N, hS⟩ := sho ho
    have hsr := hS.shR ho
    have H0 := Lib.hid (show evN ds = (meN (evA ds N) (evB ds) (fun _ => 1) ds.length : Nat) by unfold evN; rw [ho, hsr]; rfl)
    have H1 := Lib.hid (show evD ds = (meD (evA ds N) (evB ds) (fun _ => 1) ds.length : Nat) by unfold evD; rw [ho, hsr]; rfl)
    have Hc := Lib.hid (show evC ds = 0 by unfold evC; rw [ho]; rfl)
    have Ho := Lib.hid ho
    have hl := hS.len
    have hn := hS.n
    have HS := Lib.hid hS
    have Hsum := Lib.hid hS.sum
    clear ho hsr hS
    go_enter Try.func49, Try.ntmps49
    go_wp2_with fail
    refine (areSharesT_c _ ds _ hI hm).mono ?_
    rintro e w1 ⟨he, hb⟩
    rw [Ho.out] at he
    subst he
    go_wp2_with fail
    refine (unitsT_c _ ds _ (hI.later hb) (by omega) HS.out.el).mono ?_
    rintro e w2 ⟨he, hb2⟩
    rw [Hsum.out] at he
    subst he
    have hB2 := hb.trans (hb2.mono hb.size)
    clear hb hb2
    go_wp2_with fail
    have hB3 : Below w2.heap.size w2 (w2.alloc (.cells #[.int .i64 (N : Int)] 2)) := (Below.refl _ w2).alloc (Nat.le_refl _) _
    have bN := Boxed.new w2 2 (.int .i64 (N : Int))
    obtain ⟨W3, hW3⟩ : ∃ W3, w2.alloc (.cells #[.int .i64 (N : Int)] 2) = W3 := ⟨_, rfl⟩
    rw [hW3] at hB3 bN ⊢
    have hB4 := hB2.trans (hB3.mono hB2.size)
    clear hW3 hB3
    refine (numbered_c _ _ _ _).mono ?_
    rintro e w4 ⟨rfl, rfl⟩
    have hB5 : Below W3.heap.size W3 (W3.alloc (.cells #[.slice a ds.length cap] 24)) := (Below.refl _ W3).alloc (Nat.le_refl _) _
    have bL := Boxed.new W3 24 (.slice a ds.length cap)
    have bN1 := boxed_later bN hB5
    obtain ⟨W5, hW5⟩ : ∃ W5, W3.alloc (.cells #[.slice a ds.length cap] 24) = W5 := ⟨_, rfl⟩
    rw [hW5] at hB5 bL bN1 ⊢
    have hB6 := hB4.trans (hB5.mono hB4.size)
    have hI6 := hI.below hB6
    have hs6 := hB6.size
    have hnl := bN1.lt
    have hll := bL.lt
    clear hW5 hB5 bN hB4
    go_wp2_with fail
    refine (meanShares_c #[.pointer (some ⟨W3.heap.size, 0, none⟩)] w2.heap.size (fun k => .int .i64 (nth ds k)) (fun b => b < w.heap.size) 0 ds.length (evA ds N) (evB ds) (fun _ => 1) W5
      (fun W hW => numbered_at Fence.wide 8 trivial rfl (by omega) W3.heap.size w.heap.size _ ds (by omega) W (boxed_later bL hW) (by have := hW.size; omega) (hI6.below (hW.mono hs6))) (fun b hb => by omega) HS.out.frBd.1
      (fun k W hk hW => by
        have h1 := HS.out.nat k hk
        exact evenMean1_c (k : Int) (nth ds k) (shN ds k) N w2.heap.size W (boxed_later bN1 hW) h1.2.2.symm (HS.out.le hk) hn.2)).mono ?_
    rintro e w6 ⟨rfl, hb6⟩
    have hB7 := hB6.trans (hb6.mono hs6)
    obtain ⟨p, hp⟩ : ∃ p, meN (evA ds N) (evB ds) (fun _ => 1) ds.length = p := ⟨_, rfl⟩
    obtain ⟨q, hq⟩ : ∃ q, meD (evA ds N) (evB ds) (fun _ => 1) ds.length = q := ⟨_, rfl⟩
    have Hp := Lib.hid hp
    have Hq := Lib.hid hq
    rw [hp, hq]
    clear hp hq hb6 hB6
    go_wp2_with fail
    obtain ⟨W7, hW7⟩ : ∃ W7, w6.alloc (.cells #[.int .i64 (p : Int), .int .i64 (q : Int)] 76) = W7 := ⟨_, rfl⟩
    have b3 : Box2 W7 w6.heap.size 76 (.int .i64 (p : Int)) (.int .i64 (q : Int)) := by rw [← hW7]; exact Box2.new _ _ _ _
    have hB8 : Below w.heap.size w W7 := by rw [← hW7]; exact hB7.alloc hB7.size _
    have d0 := b3.c0
    have d1 := b3.c1
    rw [hW7]
    clear hW7 hB7
    go_region
    go_wp2
    go_ret3
    exact ⟨ret_i3d (by rw [H0.out, Hp.out]) (by rw [H1.out, Hq.out]) Hc.out.symm, hB8.drew⟩

set_option maxRecDepth 100000 in
set_option maxHeartbeats 4000000 in
theorem s_EvenMean (c0 : Value) (ds : List Int) (w : World) (hI : Ints w.heap.size w c0 ds) (_hN : I64s ds) (hm : ds.length ≤ 1048576) :
    Calls Try.prog 48 #[c0] w fun e w' => e = .returned (.tuple #[.int .i64 (evN ds), .int .i64 (evD ds), .int .i64 (evC ds)]) ∧ Below w.heap.size w w' := by
  obtain ⟨a, cap, rfl⟩ := hI.shape
  cases ho : shOk ds
  · have H0 := Lib.hid (show evN ds = 0 by unfold evN; rw [ho]; rfl)
    have H1 := Lib.hid (show evD ds = 0 by unfold evD; rw [ho]; rfl)
    have Hc := Lib.hid (show evC ds = 2 by unfold evC; rw [ho]; rfl)
    have Hs := Lib.hid (shR_no ho)
    clear ho
    go_enter Try.func48, Try.ntmps48
    go_wp2_with fail
    refine (l10Shares_c _ ds _ hI hm).mono ?_
    rintro e w' ⟨he, rfl⟩
    rw [Hs.out] at he
    subst he
    go_wp2
    go_ret3
    exact ⟨ret_i3d H0.out.symm H1.out.symm Hc.out.symm, Below.refl _ _⟩
  · obtain ⟨N, hS⟩ := sho ho
    have hsr := hS.shR ho
    have H0 := Lib.hid (show evN ds = (meN (evA ds N) (evB ds) (fun _ => 1) ds.length : Nat) by unfold evN; rw [ho, hsr]; rfl)
    have H1 := Lib.hid (show evD ds = (meD (evA ds N) (evB ds) (fun _ => 1) ds.length : Nat) by unfold evD; rw [ho, hsr]; rfl)
    have Hc := Lib.hid (show evC ds = 0 by unfold evC; rw [ho]; rfl)
    have Hs := Lib.hid hsr
    have hl := hS.len
    have hn := hS.n
    have HS := Lib.hid hS
    have HF := Lib.hid hS.frBd.2
    have HB := Lib.hid hS.frBd.1
    have hnz : ((N : Int) == 0) = false := by simp; omega
    clear ho hsr hS
    go_enter Try.func48, Try.ntmps48
    go_wp2_with fail
    refine (l10Shares_c _ ds _ hI hm).mono ?_
    rintro e w' ⟨he, rfl⟩
    rw [Hs.out] at he
    subst he
    go_wp2
    go_loopw [6, 7, 8] (fun p q i wr => ∃ k : Nat, k ≤ ds.length ∧ i = .int .i64 k ∧ p = .int .i64 ((fr (evA ds N) (evB ds) (fun _ => 1) k).1 : Nat) ∧ q = .int .i64 ((fr (evA ds N) (evB ds) (fun _ => 1) k).2 : Nat) ∧ Below w.heap.size w wr) (fun _ _ i _ => ds.length - (intOf i).toNat)
    case atStart => exact ⟨0, Nat.zero_le _, rfl, rfl, rfl, Below.refl _ _⟩
    case round =>
      obtain ⟨k, hk, rfl, rfl, rfl, hB⟩ := hrel
      have hf := HF.out k hk
      by_cases hlt : k < ds.length
      · obtain ⟨b, off, rfl, hb, hc⟩ := hI.at_ hlt
        have hcx := (hI.below hB).at_ hlt
        obtain ⟨b2, off2, hq2, hb2, hcx⟩ := hcx
        cases hq2
        replace hcx := hcx k hlt
        have hsn := HS.out.nat k hlt
        have hsl := HS.out.le hlt
        have hsum := HB.out.sum k hlt
        have hprod := HB.out.prod k hlt
        have hpos := fr_pos (A := evA ds N) (Q := fun _ => 1) HB.out.pos (k := k) hk
        have Hf := Lib.hid (show fr (evA ds N) (evB ds) (fun _ => 1) (k + 1) = (lowN ((fr (evA ds N) (evB ds) (fun _ => 1) k).1 * (2 * shN ds k) + (N - shN ds k) * 1 * (fr (evA ds N) (evB ds) (fun _ => 1) k).2) ((fr (evA ds N) (evB ds) (fun _ => 1) k).2 * (2 * shN ds k)), lowD ((fr (evA ds N) (evB ds) (fun _ => 1) k).1 * (2 * shN ds k) + (N - shN ds k) * 1 * (fr (evA ds N) (evB ds) (fun _ => 1) k).2) ((fr (evA ds N) (evB ds) (fun _ => 1) k).2 * (2 * shN ds k))) from rfl)
        rw [← hsn.2.2] at hcx
        unfold evA evB at hsum hprod
        obtain ⟨x, hx⟩ : ∃ x, (fr (evA ds N) (evB ds) (fun _ => 1) k).1 = x := ⟨_, rfl⟩
        obtain ⟨y, hy⟩ : ∃ y, (fr (evA ds N) (evB ds) (fun _ => 1) k).2 = y := ⟨_, rfl⟩
        obtain ⟨s, hss⟩ : ∃ s, shN ds k = s := ⟨_, rfl⟩
        change (fr (evA ds N) (evB ds) (fun _ => 1) k).1 * (2 * shN ds k) + (N - shN ds k) * 1 * (fr (evA ds N) (evB ds) (fun _ => 1) k).2 ≤ _ at hsum
        change (fr (evA ds N) (evB ds) (fun _ => 1) k).2 * (2 * shN ds k) ≤ _ at hprod
        rw [hx, hy, hss] at hsum
        rw [hy, hss] at hprod
        rw [hy] at hpos
        rw [hx, hy] at hf ⊢
        rw [hss] at hsn hsl hcx
        have Hx := Lib.hid hx
        have Hy := Lib.hid hy
        have Hss := Lib.hid hss
        obtain ⟨hs1, hs2, -⟩ := hsn
        clear hx hy hss hc
        obtain ⟨t, ht⟩ : ∃ t, x * 2 = t := ⟨_, rfl⟩
        obtain ⟨u, hu⟩ : ∃ u, t * s = u := ⟨_, rfl⟩
        obtain ⟨v, hv⟩ : ∃ v, N - s = v := ⟨_, rfl⟩
        obtain ⟨z, hz⟩ : ∃ z, v * y = z := ⟨_, rfl⟩
        obtain ⟨r, hr⟩ : ∃ r, u + z = r := ⟨_, rfl⟩
        obtain ⟨y2, hy2⟩ : ∃ y2, y * 2 = y2 := ⟨_, rfl⟩
        obtain ⟨q, hq⟩ : ∃ q, y2 * s = q := ⟨_, rfl⟩
        have er : x * (2 * s) + (N - s) * 1 * y = r := by rw [← hr, ← hu, ← ht, ← hz, ← hv, Nat.mul_one, Nat.mul_assoc]
        have eq : y * (2 * s) = q := by rw [← hq, ← hy2, Nat.mul_assoc]
        have m1 : (x : Int) * 2 = (t : Int) := by rw [← ht]; simp
        have m2 : (t : Int) * (s : Int) = (u : Int) := by rw [← hu]; simp
        have m3 : (N : Int) - (s : Int) = (v : Int) := by omega
        have m4 : (v : Int) * (y : Int) = (z : Int) := by rw [← hz]; simp
        have m5 : (u : Int) + (z : Int) = (r : Int) := by rw [← hr]; simp
        have m6 : (y : Int) * 2 = (y2 : Int) := by rw [← hy2]; simp
        have m7 : (y2 : Int) * (s : Int) = (q : Int) := by rw [← hq]; simp
        rw [er] at hsum
        rw [eq] at hprod
        have htb : t ≤ 8444249301319680 := by omega
        have hvb : v ≤ 120 := by omega
        have hub : u ≤ r := by omega
        have hzb : z ≤ r := by omega
        have hyb : y2 ≤ 17592186044416 := by omega
        have hqp : 0 < q := by rw [← eq]; exact Nat.mul_pos hpos (by omega)
        have Er := Lib.hid er
        have Eq := Lib.hid eq
        have hfw : Try.prog.follows Departure.mixedOrders = true := by kernel_rfl
        clear er eq ht hu hv hz hr hy2 hq hpos hsl
        go_wp2_with fail
        have hcx' : wr.cell? ⟨b, off + k, none⟩ = some (.int .i64 (s : Int)) := hcx
        have hki : (k : Int) < (ds.length : Int) := by omega
        refine wp_region_held_drew (S := fun w' => w'.cell? ⟨b, off + k, none⟩ = some (.int .i64 (s : Int)) ∧ Below w.heap.size w w') hfw ⟨hcx', hB.drew⟩ ?_
        intro hS0
        refine wpAnyH_take (i := 0) (v := ?vr10) rfl (by kernel_rfl) (by kernel_rfl) (by kernel_rfl) (fun _ _ _ h => h) (.inl ⟨by first | kernel_rfl | rfl, ?yr10⟩) hS0 ?_
        case yr10 =>
          intro w' hS
          (clear hS)
          go_simp
          try with_reducible rfl
        refine wpAnyH_take (i := 2) (v := ?vr12) rfl (by kernel_rfl) (by kernel_rfl) (by kernel_rfl) (fun _ _ _ h => h) (.inl ⟨by first | kernel_rfl | rfl, ?yr12⟩) hS0 ?_
        case yr12 =>
          intro w' hS
          (clear hS)
          go_simp
          try with_reducible rfl
        refine wpAnyH_take (i := 3) (v := ?vr13) rfl (by kernel_rfl) (by kernel_rfl) (by kernel_rfl) (fun _ _ _ h => h) (.inl ⟨by first | kernel_rfl | rfl, ?yr13⟩) hS0 ?_
        case yr13 =>
          intro w' hS
          (clear hS)
          go_simp
          try with_reducible rfl
        refine wpAnyH_take (i := 7) (v := ?vr17) rfl (by kernel_rfl) (by kernel_rfl) (by kernel_rfl) (fun _ _ _ h => h) (.inl ⟨by first | kernel_rfl | rfl, ?yr17⟩) hS0 ?_
        case yr17 =>
          intro w' hS
          (clear hS)
          go_simp
          try with_reducible rfl
        refine wpAnyH_take (i := 8) (v := ?vr18) rfl (by kernel_rfl) (by kernel_rfl) (by kernel_rfl) (fun _ _ _ h => h) (.inl ⟨by first | kernel_rfl | rfl, ?yr18⟩) hS0 ?_
        case yr18 =>
          intro w' hS
          (clear hS)
          go_simp
          try with_reducible rfl
        refine wpAnyH_take (i := 9) (v := ?vr19) rfl (by kernel_rfl) (by kernel_rfl) (by kernel_rfl) (fun _ _ _ h => h) (.inl ⟨by first | kernel_rfl | rfl, ?yr19⟩) hS0 ?_
        case yr19 =>
          intro w' hS
          (clear hS)
          go_simp
          try with_reducible rfl
        refine wpAnyH_take (i := 13) (v := ?vr113) rfl (by kernel_rfl) (by kernel_rfl) (by kernel_rfl) (fun _ _ _ h => h) (.inl ⟨by first | kernel_rfl | rfl, ?yr113⟩) hS0 ?_
        case yr113 =>
          intro w' hS
          (clear hS)
          go_simp
          try with_reducible rfl
        refine wpAnyH_take (i := 16) (v := ?vr116) rfl (by kernel_rfl) (by kernel_rfl) (by kernel_rfl) (fun _ _ _ h => h) (.inl ⟨by first | kernel_rfl | rfl, ?yr116⟩) hS0 ?_
        case yr116 =>
          intro w' hS
          (clear hS)
          go_simp
          try with_reducible rfl
        refine wpAnyH_take (i := 18) (v := ?vr118) rfl (by kernel_rfl) (by kernel_rfl) (by kernel_rfl) (fun _ _ _ h => h) (.inl ⟨by first | kernel_rfl | rfl, ?yr118⟩) hS0 ?_
        case yr118 =>
          intro w' hS
          (clear hS)
          go_simp
          try with_reducible rfl
        refine wpAnyH_take (i := 19) (v := ?vr119) rfl (by kernel_rfl) (by kernel_rfl) (by kernel_rfl) (fun _ _ _ h => h) (.inl ⟨by first | kernel_rfl | rfl, ?yr119⟩) hS0 ?_
        case yr119 =>
          intro w' hS
          (clear hS)
          go_simp
          try with_reducible rfl
        try simp only [Act.put, List.getElem_toArray, List.getElem_cons_zero, List.getElem_cons_succ, List.setIfInBounds_toArray, List.set_cons_zero, List.set_cons_succ]
        refine wpAnyH_take (i := 4) (v := ?vr24) rfl (by kernel_rfl) (by kernel_rfl) (by kernel_rfl) (fun _ _ _ h => h) (.inl ⟨by first | kernel_rfl | rfl, ?yr24⟩) hS0 ?_
        case yr24 =>
          intro w' hS
          (clear hS)
          go_simp
          try with_reducible rfl
        refine wpAnyH_take (i := 10) (v := ?vr210) rfl (by kernel_rfl) (by kernel_rfl) (by kernel_rfl) (fun _ _ _ h => h) (.inl ⟨by first | kernel_rfl | rfl, ?yr210⟩) hS0 ?_
        case yr210 =>
          intro w' hS
          (clear hS)
          go_simp
          try with_reducible rfl
        refine wpAnyH_take (i := 20) (v := ?vr220) rfl (by kernel_rfl) (by kernel_rfl) (by kernel_rfl) (fun _ _ _ h => h) (.inl ⟨by first | kernel_rfl | rfl, ?yr220⟩) hS0 ?_
        case yr220 =>
          intro w' hS
          (clear hS)
          go_simp
          try with_reducible rfl
        try simp only [Act.put, List.getElem_toArray, List.getElem_cons_zero, List.getElem_cons_succ, List.setIfInBounds_toArray, List.set_cons_zero, List.set_cons_succ]
        refine wpAnyH_take (i := 5) (v := ?vr35) rfl (by kernel_rfl) (by kernel_rfl) (by kernel_rfl) (fun _ _ _ h => h) (.inl ⟨by first | kernel_rfl | rfl, ?yr35⟩) hS0 ?_
        case yr35 =>
          intro w' hS
          (have k1 := hS.1; clear hS)
          go_simp
          try with_reducible rfl
        refine wpAnyH_take (i := 11) (v := ?vr311) rfl (by kernel_rfl) (by kernel_rfl) (by kernel_rfl) (fun _ _ _ h => h) (.inl ⟨by first | kernel_rfl | rfl, ?yr311⟩) hS0 ?_
        case yr311 =>
          intro w' hS
          (have k1 := hS.1; clear hS)
          go_simp
          try with_reducible rfl
        refine wpAnyH_take (i := 21) (v := ?vr321) rfl (by kernel_rfl) (by kernel_rfl) (by kernel_rfl) (fun _ _ _ h => h) (.inl ⟨by first | kernel_rfl | rfl, ?yr321⟩) hS0 ?_
        case yr321 =>
          intro w' hS
          (have k1 := hS.1; clear hS)
          go_simp
          try with_reducible rfl
        try simp only [Act.put, List.getElem_toArray, List.getElem_cons_zero, List.getElem_cons_succ, List.setIfInBounds_toArray, List.set_cons_zero, List.set_cons_succ]
        refine wpAnyH_take (i := 1) (v := (.int .i64 (t : Int))) rfl (by kernel_rfl) (by kernel_rfl) (by kernel_rfl) (fun _ _ _ h => h) (.inl ⟨by first | kernel_rfl | rfl, ?yr41⟩) hS0 ?_
        case yr41 =>
          intro w' hS
          (clear hS)
          go_simp
          (rw [IntKind.wrap_i64]; omega)
          first | done | (simp; done) | (simp; omega) | omega | (simp [*]; done)
        refine wpAnyH_take (i := 6) (v := (.int .i64 (u : Int))) rfl (by kernel_rfl) (by kernel_rfl) (by kernel_rfl) (fun _ _ _ h => h) (.inl ⟨by first | kernel_rfl | rfl, ?yr56⟩) hS0 ?_
        case yr56 =>
          intro w' hS
          (clear hS)
          go_simp
          (rw [IntKind.wrap_i64]; omega)
          first | done | (simp; done) | (simp; omega) | omega | (simp [*]; done)
        refine wpAnyH_take (i := 12) (v := (.int .i64 (v : Int))) rfl (by kernel_rfl) (by kernel_rfl) (by kernel_rfl) (fun _ _ _ h => h) (.inl ⟨by first | kernel_rfl | rfl, ?yr612⟩) hS0 ?_
        case yr612 =>
          intro w' hS
          (clear hS)
          go_simp
          (rw [IntKind.wrap_i64]; omega)
          first | done | (simp; done) | (simp; omega) | omega | (simp [*]; done)
        refine wpAnyH_take (i := 14) (v := (.int .i64 (z : Int))) rfl (by kernel_rfl) (by kernel_rfl) (by kernel_rfl) (fun _ _ _ h => h) (.inl ⟨by first | kernel_rfl | rfl, ?yr714⟩) hS0 ?_
        case yr714 =>
          intro w' hS
          (clear hS)
          go_simp
          (rw [IntKind.wrap_i64]; omega)
          first | done | (simp; done) | (simp; omega) | omega | (simp [*]; done)
        refine wpAnyH_take (i := 15) (v := (.int .i64 (r : Int))) rfl (by kernel_rfl) (by kernel_rfl) (by kernel_rfl) (fun _ _ _ h => h) (.inl ⟨by first | kernel_rfl | rfl, ?yr815⟩) hS0 ?_
        case yr815 =>
          intro w' hS
          (clear hS)
          go_simp
          (rw [IntKind.wrap_i64]; omega)
          first | done | (simp; done) | (simp; omega) | omega | (simp [*]; done)
        refine wpAnyH_take (i := 17) (v := (.int .i64 (y2 : Int))) rfl (by kernel_rfl) (by kernel_rfl) (by kernel_rfl) (fun _ _ _ h => h) (.inl ⟨by first | kernel_rfl | rfl, ?yr917⟩) hS0 ?_
        case yr917 =>
          intro w' hS
          (clear hS)
          go_simp
          (rw [IntKind.wrap_i64]; omega)
          first | done | (simp; done) | (simp; omega) | omega | (simp [*]; done)
        refine wpAnyH_take (i := 22) (v := (.int .i64 (q : Int))) rfl (by kernel_rfl) (by kernel_rfl) (by kernel_rfl) (fun _ _ _ h => h) (.inl ⟨by first | kernel_rfl | rfl, ?yr1022⟩) hS0 ?_
        case yr1022 =>
          intro w' hS
          (clear hS)
          go_simp
          (rw [IntKind.wrap_i64]; omega)
          first | done | (simp; done) | (simp; omega) | omega | (simp [*]; done)
        refine wpAnyH_ready (rs := [23]) (by kernel_rfl) (by simp) ?_
        refine AllReadyH.cons rfl (fun K' hK' => ?_) AllReadyH.nil
        rw [if_pos (by first | kernel_rfl | rfl)]
        go_simp
        refine (l01Lowest_c r q _ hsum hprod hqp).mono ?_
        rintro e w9 ⟨rfl, hb9⟩
        have hB9 := hS0.2.trans (hb9.mono hS0.2.size)
        refine hK'.out _ _ ⟨(hb9.cell (p := ⟨b, off + k, none⟩) (by show b < wr.heap.size; have := hB.size; omega)).trans hS0.1, hB9⟩ fun hS1 => ?_
        clear hK' hS0 hb9
        have E1 := Lib.hid (show (fr (evA ds N) (evB ds) (fun _ => 1) (k + 1)).1 = lowN r q by rw [Hf.out]; show lowN _ _ = _; rw [Hx.out, Hy.out, Hss.out, Er.out, Eq.out])
        have E2 := Lib.hid (show (fr (evA ds N) (evB ds) (fun _ => 1) (k + 1)).2 = lowD r q by rw [Hf.out]; show lowD _ _ = _; rw [Hx.out, Hy.out, Hss.out, Er.out, Eq.out])
        refine wpAnyH_take (i := 24) (v := ?vr1124) rfl (by kernel_rfl) (by kernel_rfl) (by kernel_rfl) (fun _ _ _ h => h) (.inl ⟨by first | kernel_rfl | rfl, ?yr1124⟩) hS1 ?_
        case yr1124 =>
          intro w' hS
          (clear hS)
          go_simp
          try with_reducible rfl
        refine wpAnyH_take (i := 25) (v := ?vr1125) rfl (by kernel_rfl) (by kernel_rfl) (by kernel_rfl) (fun _ _ _ h => h) (.inl ⟨by first | kernel_rfl | rfl, ?yr1125⟩) hS1 ?_
        case yr1125 =>
          intro w' hS
          (clear hS)
          go_simp
          try with_reducible rfl
        refine wpAnyH_take (i := 26) (v := ?vr1126) rfl (by kernel_rfl) (by kernel_rfl) (by kernel_rfl) (fun _ _ _ h => h) (.inl ⟨by first | kernel_rfl | rfl, ?yr1126⟩) hS1 ?_
        case yr1126 =>
          intro w' hS
          (clear hS)
          go_simp
          try with_reducible rfl
        refine wpAnyH_take (i := 27) (v := ?vr1127) rfl (by kernel_rfl) (by kernel_rfl) (by kernel_rfl) (fun _ _ _ h => h) (.inl ⟨by first | kernel_rfl | rfl, ?yr1127⟩) hS1 ?_
        case yr1127 =>
          intro w' hS
          (clear hS)
          go_simp
          try with_reducible rfl
        refine wpAnyH_take (i := 28) (v := ?vr1128) rfl (by kernel_rfl) (by kernel_rfl) (by kernel_rfl) (fun _ _ _ h => h) (.inl ⟨by first | kernel_rfl | rfl, ?yr1128⟩) hS1 ?_
        case yr1128 =>
          intro w' hS
          (clear hS)
          go_simp
          try with_reducible rfl
        try simp only [Act.put, List.getElem_toArray, List.getElem_cons_zero, List.getElem_cons_succ, List.setIfInBounds_toArray, List.set_cons_zero, List.set_cons_succ]
        refine wpAnyH_done (by kernel_rfl) ?_ _
        clear m1 m2 m3 m4 m5 m6 m7
        go_wp2
        go_roundw
        case rel => exact ⟨k + 1, by omega, by simp, by rw [E1.out], by rw [E2.out], hB9⟩
        case measure => simp [intOf]; omega
      · obtain rfl : k = ds.length := by omega
        have hal := HB.out.all
        rw [wtTo_one] at hal
        have hpos := fr_pos (A := evA ds N) (Q := fun _ => 1) HB.out.pos (k := ds.length) (Nat.le_refl _)
        have E1 := Lib.hid (show meN (evA ds N) (evB ds) (fun _ => 1) ds.length = lowN (fr (evA ds N) (evB ds) (fun _ => 1) ds.length).1 ((fr (evA ds N) (evB ds) (fun _ => 1) ds.length).2 * ds.length) by unfold meN; rw [wtTo_one])
        have E2 := Lib.hid (show meD (evA ds N) (evB ds) (fun _ => 1) ds.length = lowD (fr (evA ds N) (evB ds) (fun _ => 1) ds.length).1 ((fr (evA ds N) (evB ds) (fun _ => 1) ds.length).2 * ds.length) by unfold meD; rw [wtTo_one])
        obtain ⟨x, hx⟩ : ∃ x, (fr (evA ds N) (evB ds) (fun _ => 1) ds.length).1 = x := ⟨_, rfl⟩
        obtain ⟨y, hy⟩ : ∃ y, (fr (evA ds N) (evB ds) (fun _ => 1) ds.length).2 = y := ⟨_, rfl⟩
        have Hx := Lib.hid hx
        have Hy := Lib.hid hy
        rw [hx, hy] at hf ⊢
        rw [hy] at hal hpos
        obtain ⟨q, hq⟩ : ∃ q, y * ds.length = q := ⟨_, rfl⟩
        have hqp : 0 < q := by rw [← hq]; exact Nat.mul_pos hpos (by omega)
        have m1 : (y : Int) * (ds.length : Int) = (q : Int) := by rw [← hq]; simp
        have Hq := Lib.hid hq
        rw [hq] at hal
        clear hx hy hq
        go_wp2_with fail
        refine (l01Lowest_c x q _ (by omega) hal hqp).mono ?_
        rintro e w9 ⟨rfl, hb9⟩
        clear m1
        go_wp2
        go_ret3
        exact ⟨ret_i3d (by rw [H0.out, E1.out, Hx.out, Hy.out, Hq.out]) (by rw [H1.out, E2.out, Hx.out, Hy.out, Hq.out]) Hc.out.symm, hB.trans (hb9.mono hB.size)⟩

end Go.Proofs.Ytgndbifcncklgaa
