/-
  TurnsFromShares of the program.
  Conditions: lists of at most 1048576 elements.
-/
import Derived.Maps.AppendAt
import Derived.Test.YtgndbifcncklgaaWts
import Derived.Test.YtgndbifcncklgaaWev
namespace Go.Proofs.Ytgndbifcncklgaa
open Go.RowKit Go.Shelf
attribute [local go_sem] Oper.semAt_some

def pickS (ds h : List Int) (_n : Nat) : Option Nat := pkTo (shN ds) (shN h) ds.length
def tsR (ds : List Int) : List Int := if shOk ds then runL (pickS ds) ds.length (shR ds).toNat else []
theorem fairS (ds : List Int) : Fair ds (pickS ds) := fun h n i hp => by
  have := pkTo_some hp
  unfold shN at this
  exact ⟨this.1, by omega⟩
theorem runS_next {ds ts h : List Int} {N k : Nat} (hS : Sho ds N) (hk : k < N) (hr : runTo (pickS ds) ds.length k = some (ts, h)) : ∃ m, pkTo (shN ds) (shN h) ds.length = some m ∧ m < ds.length ∧ nth h m < nth ds m ∧ runTo (pickS ds) ds.length (k + 1) = some (ts ++ [(m : Int)], h.set m (nth h m + 1)) := by
  have hH := run_had hS.zero (fairS ds) hr
  cases hp : pkTo (shN ds) (shN h) ds.length with
  | none =>
    have hn := pkTo_none hp
    have : sumN (nth ds) ds.length ≤ sumN (nth h) ds.length := sumN_le fun i hi => by
      have h1 := hn i hi
      have h2 := hS.el i hi
      have h3 := hH.bd i hi
      unfold shN at h1
      omega
    have h4 := hS.sum
    have h5 := hH.sum
    simp only at h5
    omega
  | some m =>
    have hf := fairS ds h k m hp
    exact ⟨m, rfl, hf.1, hf.2, runTo_next hr hp⟩
theorem runS_L {ds ts h : List Int} {k : Nat} (hr : runTo (pickS ds) ds.length k = some (ts, h)) : runL (pickS ds) ds.length k = ts := by unfold runL; rw [hr]
theorem tsR_len (ds : List Int) : (tsR ds).length * 8 ≤ 140737488351232 := by
  unfold tsR
  split
  · rename_i h
    obtain ⟨N, hS⟩ := sho h
    rw [hS.shR h, Int.toNat_natCast]
    cases hr : runTo (pickS ds) ds.length N with
    | none => unfold runL; rw [hr]; simp
    | some s =>
      have := (run_had hS.zero (fairS ds) hr).len
      have hn := hS.n
      unfold runL; rw [hr]; simp only; omega
  · simp

set_option maxRecDepth 100000 in
set_option maxHeartbeats 16000000 in
theorem i_TurnsFromShares (c0 : Value) (ds : List Int) (w : World) (hI : Ints w.heap.size w c0 ds) (_hN : I64s ds) (hm : ds.length ≤ 1048576) :
    Calls Try.prog 47 #[c0] w (GivesI w (tsR ds) fun v => .tuple #[v, .int .i64 (evC ds)]) := by
  obtain ⟨a, cap, rfl⟩ := hI.shape
  obtain ⟨i0, hi, hz0, hz1, hz2⟩ := info_parts Try.infoI2
  cases hok : shOk ds
  · have Hr := Lib.hid (show tsR ds = [] by unfold tsR; rw [hok]; rfl)
    have Hc := Lib.hid (show evC ds = 2 by unfold evC; rw [hok]; rfl)
    have Ho := Lib.hid hok
    clear hok
    go_enter Try.func47, Try.ntmps47
    go_wp2_with fail
    refine (areSharesT_c _ ds _ hI hm).mono ?_
    rintro e w1 ⟨he, hb⟩
    rw [Ho.out] at he
    subst he
    go_wp2
    go_ret2
    exact ⟨_, ret_v2 Hc.out.symm, by rw [Hr.out]; exact ownI_nil _ _, hb⟩
  · obtain ⟨N, hS⟩ := sho hok
    have Hr := Lib.hid (show tsR ds = runL (pickS ds) ds.length N by unfold tsR; rw [hok, hS.shR hok, Int.toNat_natCast]; rfl)
    have Hc := Lib.hid (show evC ds = 0 by unfold evC; rw [hok]; rfl)
    have Ho := Lib.hid hok
    have HS := Lib.hid hS
    have hlen := hS.len
    have hn := hS.n
    have Hsum := Lib.hid hS.sum
    obtain ⟨K, hK⟩ : ∃ K, ds.length = K := ⟨_, rfl⟩
    clear hok hS
    rw [hK] at hlen hI hm ⊢
    have HK := Lib.hid hK
    clear hK
    go_enter Try.func47, Try.ntmps47
    go_wp2_with fail
    refine (areSharesT_c _ ds _ hI (by rw [HK.out]; exact hm)).mono ?_
    rintro e w1 ⟨he, hb⟩
    rw [Ho.out] at he
    subst he
    have hsw := hb.size
    go_wp2_with (at_make; refine wpList_make_full _ rfl _ _ 24 rfl w.heap.size 2 i0 (.int .i64 0) 1 Try.underlying24 hi hz0 hz1 .i64 .i64 _ _ K rfl rfl rfl rfl ?c1 ?c2 ?c3 ?_)
    case c1 => rw [hz2]; omega
    case c2 => unfold maxLen; omega
    case c3 => exact hsw
    intro w2 hown hgrow
    have hoH := ownI_made hown
    have hB2 : Below w.heap.size w w2 := hb.grown hgrow hsw (by simp)
    have hgh : w.heap.size ≤ w1.heap.size := hsw
    obtain ⟨gh, hgq⟩ : ∃ gh, w1.heap.size = gh := ⟨_, rfl⟩
    rw [hgq] at hoH hgh ⊢
    clear hown hgrow hb hsw hgq
    go_wp2_with fail
    refine (unitsT_c _ ds _ (hI.later hB2) (by rw [HK.out]; omega) HS.out.el).mono ?_
    rintro e w3 ⟨he, hb3⟩
    rw [Hsum.out] at he
    subst he
    have hB3 := hB2.trans (hb3.mono hB2.size)
    replace hoH := hoH.below hb3
    clear hb3 hB2
    go_wp2
    go_loopw [5, 15] (fun v n wr => ∃ (k : Nat) (ts h : List Int) (u : Value), (k ≤ N ∧ n = .int .i64 k ∧ u = v ∧ runTo (pickS ds) K k = some (ts, h)) ∧ OwnI w.heap.size wr u ts ∧ OwnI w.heap.size wr (.slice (some ⟨gh, 0, none⟩) K K) h ∧ u.ownBlock ≠ some gh ∧ Below w.heap.size w wr) (fun _ n _ => N - (intOf n).toNat)
    case atStart => exact ⟨0, [], List.replicate K 0, _, ⟨Nat.zero_le _, rfl, rfl, rfl⟩, ownI_nil _ _, hoH, by simp [Value.ownBlock], hB3⟩
    case round =>
      obtain ⟨k, ts, h, u, ⟨hk, rfl, rfl, hrun⟩, hoT, hoh, hnb, hB⟩ := hrel
      clear hoH hB3
      have hHad : Had ds k ts h := by have hr2 := hrun; rw [← HK.out] at hr2; exact run_had HS.out.zero (fairS ds) hr2
      have hsw := hB.size
      by_cases hlt : k < N
      · obtain ⟨m, hpk, hml, hlm, hnx⟩ := runS_next HS.out hlt (by rw [HK.out]; exact hrun)
        rw [HK.out] at hml hnx
        have Hnx := Lib.hid hnx
        have Hpk := Lib.hid hpk
        have hhl : h.length = K := by rw [hHad.hl]; exact HK.out
        have Hhl := Lib.hid hhl
        have htl : ts.length ≤ 120 := by have := hHad.len; omega
        have HH := Lib.hid hHad
        have hbm := hHad.bd m (by rw [HK.out]; exact hml)
        have hem := HS.out.el m (by rw [HK.out]; exact hml)
        clear hrun hpk hnx hHad hhl
        go_wp2_with fail
        refine (nextByShares_c _ _ ds h N _ (hI.later hB) hoh.ints HS.out HH.out.hl HH.out.bd).mono ?_
        rintro e w4 ⟨he, hb4⟩
        rw [Hpk.out] at he
        simp only [opI] at he
        subst he
        have hB4 := hB.trans (hb4.mono hB.size)
        have hoT4 := hoT.below hb4
        have hoh4 := hoh.below hb4
        have hsz4 := hB4.size
        clear hb4 hB hoT hoh
        go_wp2_with (at_builtin; refine wpList_append_own_at _ rfl _ _ 24 rfl w.heap.size 2 i0 (.int .i64 0) 1 8 Try.underlying24 hi hz0 hz1 hz2 rfl (by decide) _ _ _ rfl (World.ownsRow.alloc hoT4 _) ⟨w4.heap.size, 0, none⟩ 1 1 [.int .i64 ((m : Int))] rfl rfl (Go.cell_one_new _ _ _) (by simp [Value.oneCell']) (by unfold maxLen; omega) (by omega) (by simp; omega) ?_)
        intro v' w1 hown' hgrow _ hat
        have ho2 := ownI_snoc hown'
        have hB2 : Below w.heap.size w w1 := (hB4.alloc hsz4 _).grown hgrow (by simp; omega) (fun j e => by have := (hoT4.blk j e).1; omega)
        have hgr : w4.grownBy w1 _ := (World.grownBy_alloc _ _ _).trans hgrow
        have hat2 : v'.ownBlock = u.ownBlock ∨ ∀ j, v'.ownBlock = some j → w4.heap.size ≤ j := by rcases hat with h | h; (first | exact .inl h); exact .inr fun j e => by rw [h] at e; simp at e; omega
        clear hown' hgrow hat
        have hoh5 := hoh4.kept hgr (.inr fun e => hnb e.symm)
        have hnb2 : v'.ownBlock ≠ some gh := fun e => by
          rcases hat2 with h1 | h1
          · exact hnb (h1 ▸ e)
          · have := h1 gh e; have := (hoh4.blk gh rfl).2; omega
        clear hgr hat2 hoh4 hoT4 hB4
        have hmi : (m : Int) < (K : Int) := by omega
        have c4 := hoh5.cellAt (j := m) (by rw [Hhl.out]; exact hml)
        have f4 := hoh5.frozen m
        obtain ⟨r1, r2⟩ := hoh5.stored m (nth h m + 1)
        have hwb := (hoh5.blk gh rfl).1
        go_wp2
        go_roundw
        case rel => exact ⟨k + 1, _, _, _, ⟨by omega, by simp, rfl, Hnx.out⟩, ho2.kept r2 (.inr hnb2), r1, hnb2, hB2.setCell (p := ⟨gh, m, none⟩) hwb _⟩
        case measure => simp [intOf]; omega
      · obtain rfl : k = N := by omega
        have Hf := Lib.hid (runS_L (by rw [HK.out]; exact hrun))
        clear hrun hHad
        go_wp2
        go_ret2
        exact ⟨_, ret_v2 Hc.out.symm, by rw [Hr.out, Hf.out]; exact hoT, hB⟩

end Go.Proofs.Ytgndbifcncklgaa
