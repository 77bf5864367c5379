/-
  l03Turns of the model: the harmonic turns, if there are any.
  Conditions: tasks.
-/
import Derived.Test.YtahleajedgehlaaHtM
import Derived.Test.YtahleajedgehlaaHar
import Derived.Test.YtahleajedgehlaaSort
namespace Go.Proofs.Ytahleajedgehlaa
open Go.RowKit Go.Shelf
attribute [local go_sem] Oper.semAt_some

set_option maxRecDepth 100000 in
set_option maxHeartbeats 8000000 in
theorem l03Turns_c (c0 : Value) (zs : List Int) (w : World) (hI : Ints w.heap.size w c0 zs) (ht : tasksOk zs = true) :
    Calls Try.prog 17 #[.agg #[c0]] w fun e w' => ∃ v, e = .returned (.tuple #[v, .bool (harmT zs).isSome]) ∧ OwnI w.heap.size w' v ((harmT zs).getD []) ∧ Below w.heap.size w w' := by
  obtain ⟨i0, hi, hz0, hz1, hz2⟩ := info_parts Try.infoI2
  obtain ⟨a, cap, rfl⟩ := hI.shape
  have hl := tasksOk_len ht
  have Ht := Lib.hid ht
  clear ht
  go_enter Try.func17, Try.ntmps17
  go_wp2_with fail
  obtain ⟨W0, hW0⟩ : ∃ W0, (w.alloc (.cells #[.slice a zs.length cap] 24)) = W0 := ⟨_, rfl⟩
  have hB0 : Below w.heap.size w W0 := by rw [← hW0]; exact ((Below.refl _ w).alloc (Nat.le_refl _) _)
  have hs0 : w.heap.size + 1 ≤ W0.heap.size := by rw [← hW0]; simp
  have bT : Boxed W0 (w.heap.size) 24 (.slice a zs.length cap) := by rw [← hW0]; repeat first | (refine boxed_at ?_; (simp; done)) | refine Boxed.alloc ?_ _
  rw [hW0]
  clear hW0
  refine (l01Sorted_c _ zs _ (hI.later hB0) (by omega)).mono ?_
  rintro e w1 ⟨u, v, mid, rfl, hu, hv, hmid, hb⟩
  have hsl := sortV_length zs
  have hol := ordTo_length zs zs.length
  obtain ⟨au, cu, eu⟩ := hu.own.ints.shape
  obtain ⟨gv, cv, ev, hgv, hgv'⟩ := hv.own.shape (by omega)
  rw [gapsBy_length] at eu
  rw [hol] at ev
  subst eu ev
  have hB1 := hB0.trans (hb.mono hB0.size)
  have hui := hu.own.ints
  have hvi := hv.own.ints
  have hLb := sortV_pos (zs := zs) (fun k hk => tasksOk_nth Ht.out hk) (m := zs.length - 1) (by omega)
  obtain ⟨L, hL⟩ : ∃ L : Nat, nth (sortV zs) (zs.length - 1) = (L : Int) := ⟨(nth (sortV zs) (zs.length - 1)).toNat, by omega⟩
  have hL1 : 1 ≤ L ∧ L ≤ 40 := by omega
  have hht : harmT zs = harmTo zs (ordTo zs zs.length) L zs.length := by unfold harmT; rw [hL]; rfl
  have Hht := Lib.hid hht
  obtain ⟨bu, ou, rfl, hbu, hcu⟩ := hui.at_ (k := zs.length - 1) (by rw [gapsBy_length]; omega)
  obtain ⟨n1, hn1⟩ : ∃ n1 : Nat, zs.length - 1 = n1 := ⟨_, rfl⟩
  rw [hn1] at hL hLb
  have hwr : IntKind.i64.wrap ((zs.length : Int) - 1) = (n1 : Int) := by rw [IntKind.wrap_i64]; omega
  have hn2 : n1 < zs.length := by omega
  have hcv : ∀ m, m < zs.length → w1.cell? ⟨gv, m, none⟩ = some (.int .i64 (nth (ordTo zs zs.length) m)) := fun m hm => hv.own.cellAt (by omega)
  have Hcv := Lib.hid hcv
  have Hcu := Lib.hid hcu
  have hgv1 : gv < w1.heap.size := hgv'
  have hcL : w1.cell? ⟨bu, ou + n1, none⟩ = some (.int .i64 (L : Int)) := by rw [hcu n1 (by rw [gapsBy_length]; omega)]; exact congrArg _ (congrArg _ hL)
  clear hht hL hLb hcu hcv hb hB0 bT hu hv hgv hgv' hol hsl hmid hui hvi
  go_wp2_with fail
  have ho0 := (ownI_empty (w1.alloc (.cells #[.slice (some ⟨bu, ou, none⟩) zs.length cu] 24)))
  have hBz : Below w1.heap.size w1 ((w1.alloc (.cells #[.slice (some ⟨bu, ou, none⟩) zs.length cu] 24)).alloc (.cells #[] 2)) := ((Below.refl _ w1).alloc (Nat.le_refl _) _).alloc (by simp) _
  have bS := (Boxed.new w1 24 (.slice (some ⟨bu, ou, none⟩) zs.length cu)).alloc (.cells #[] 2)
  simp only [World.size_alloc] at ho0
  go_loopw [6, 7] (fun v i wr => ∃ k : Nat, k ≤ L ∧ i = .int .i64 k ∧ OwnI (w1.heap.size + 1) wr v (List.replicate k (-1)) ∧ Boxed wr w1.heap.size 24 (.slice (some ⟨bu, ou, none⟩) zs.length cu) ∧ Below w1.heap.size w1 wr) (fun _ i _ => L - (intOf i).toNat)
  case atStart => exact ⟨0, Nat.zero_le _, rfl, ho0, bS, hBz⟩
  case round =>
    obtain ⟨k, hk, rfl, ho, bSk, hB⟩ := hrel
    have cS := bSk.cell
    have cL := (hB.cell (p := ⟨bu, ou + n1, none⟩) hbu).trans hcL
    clear ho0 bS hBz
    by_cases hlt : k < L
    · have hrow : wr.ownsRow (w1.heap.size + 1) 2 1 u6 k ((List.replicate k (-1)).map (.int .i64)) := by have h := ho; unfold OwnI at h; rwa [List.length_replicate] at h
      have hbk := ho.blk
      have hsz := hB.size
      go_wp2_with (at_builtin; refine wpList_append_own _ rfl _ _ 22 rfl (w1.heap.size + 1) 2 i0 (.int .i64 0) 1 8 Try.underlying22 hi hz0 hz1 hz2 rfl (by decide) _ _ _ rfl (World.ownsRow.alloc hrow _) ⟨wr.heap.size, 0, none⟩ 1 1 [.int .i64 (-1)] rfl rfl (Go.cell_one_new _ _ _) (by simp [Value.oneCell']) (by unfold maxLen; omega) (by omega) (by simp; omega) ?_)
      intro v' w4 hown' hgrow _
      have ho4 := ownI_snoc (xs := List.replicate k (-1)) (x := -1) (by rw [List.length_replicate]; simpa using hown')
      rw [← List.replicate_succ'] at ho4
      have b4 := (bSk.alloc (.cells #[.int .i64 (-1)] 2)).kept hgrow (fun e => by have := (hbk _ e.symm).1; omega)
      have hB4 : Below w1.heap.size w1 w4 := (hB.alloc hB.size _).grown hgrow (by simp; omega) (fun j e => by have := (hbk j e).1; omega)
      clear hown' hgrow hrow cS cL
      go_wp2
      go_roundw
      case rel => exact ⟨k + 1, by omega, by simp, ho4, b4, hB4⟩
      case measure => simp [intOf]; omega
    · obtain rfl : k = L := by omega
      obtain ⟨g, cg, eg, hg1, hg2⟩ := ho.shape (by simp; omega)
      rw [List.length_replicate] at eg
      subst eg
      have hsg : w1.heap.size < g := by omega
      go_wp2_with fail
      clear cL hcL hg1 hg2 cS hk
      go_loopw [8] (fun i wr => ∃ m : Nat, m ≤ zs.length ∧ i = .int .i64 m ∧ harmIs zs (ordTo zs zs.length) k m ∧ OwnI (w1.heap.size + 1) wr (.slice (some ⟨g, 0, none⟩) k cg) (harmF zs (ordTo zs zs.length) k m) ∧ Boxed wr w1.heap.size 24 (.slice (some ⟨bu, ou, none⟩) zs.length cu) ∧ Below w1.heap.size w1 wr) (fun i _ => zs.length - (intOf i).toNat)
      case atStart => exact ⟨0, Nat.zero_le _, rfl, harmIs_zero _ _ _, ho, bSk, hB⟩
      case round =>
        obtain ⟨m, hm, rfl, his, hoW, bS, hBW⟩ := hrel
        clear ho bSk hB
        have hlc := harmIs_length his
        have hge := harmF_ge his
        have His := Lib.hid his
        obtain ⟨cur, hcur⟩ : ∃ cur, harmF zs (ordTo zs zs.length) k m = cur := ⟨_, rfl⟩
        rw [hcur] at hlc hge hoW
        have Hcur := Lib.hid hcur
        have Hge := Lib.hid hge
        clear his hcur hge
        by_cases hlt2 : m < zs.length
        · go_wp2_with fail
          go_loop [9] (fun i => ∃ j : Nat, j ≤ k ∧ i = .int .i64 j ∧ ∀ q, q < j → nth cur q ≠ -1) (fun i => k - (intOf i).toNat)
          case atStart => exact ⟨0, Nat.zero_le _, rfl, fun q h => by omega⟩
          case round =>
            obtain ⟨j, hj, rfl, hall⟩ := hrel
            have Hall := Lib.hid hall
            clear hall
            by_cases hjk : j < k
            · have hcj := hoW.cellAt (j := j) (by omega)
              have hgj := Hge.out (nth cur j) (nth_mem (by omega))
              obtain ⟨x, hx⟩ : ∃ x, nth cur j = x := ⟨_, rfl⟩
              have Hx := Lib.hid hx
              rw [hx] at hcj hgj
              clear hx
              by_cases hx1 : x = -1
              · have hf := freeF_at (l := cur) (by omega) (by rw [Hx.out]; exact hx1) Hall.out
                have Hf := Lib.hid hf
                subst hx1
                clear hf
                have hgk := sortV_pos (zs := zs) (fun k hk => tasksOk_nth Ht.out hk) hlt2
                obtain ⟨gp, hgp⟩ : ∃ gp : Nat, nth (sortV zs) m = (gp : Int) := ⟨(nth (sortV zs) m).toNat, by omega⟩
                have hgp2 : (gapAt zs (ordTo zs zs.length) m).toNat = gp := by rw [← nth_sortV hlt2, hgp]; rfl
                have hcu1 : w1.cell? ⟨bu, ou + m, none⟩ = some (.int .i64 (gp : Int)) := by rw [Hcu.out m (by rw [gapsBy_length]; exact hlt2)]; exact congrArg _ (congrArg _ hgp)
                have hcv1 := Hcv.out m hlt2
                obtain ⟨io, hio⟩ : ∃ io, nth (ordTo zs zs.length) m = io := ⟨_, rfl⟩
                rw [hio] at hcv1
                rw [hgp] at hgk
                have hiss := harmIs_succ His.out (by rw [Hcur.out, Hf.out]; omega)
                have hsuc := harmF_succ His.out (by rw [Hcur.out, Hf.out]; omega)
                rw [Hcur.out, hgp2, hio] at hsuc
                have Hiss := Lib.hid hiss
                have Hsuc := Lib.hid hsuc
                have htk : takeL cur io gp = putF k cur io gp j := by unfold takeL; rw [Hf.out, hlc]
                have Htk := Lib.hid htk
                clear hgp hgp2 hio hiss hsuc htk
                go_wp2_with fail
                clear hcj hgj
                go_loopw [9] (fun q wr => ∃ (s n : Nat) (c2 : List Int), q = .int .i64 s ∧ s ≤ 100 ∧ OwnI (w1.heap.size + 1) wr (.slice (some ⟨g, 0, none⟩) k cg) c2 ∧ Hid (c2.length = k) ∧ Hid (takeL cur io gp = putF n c2 io gp s) ∧ k - s ≤ n ∧ Boxed wr w1.heap.size 24 (.slice (some ⟨bu, ou, none⟩) zs.length cu) ∧ Below w1.heap.size w1 wr) (fun q _ => k - (intOf q).toNat)
                case atStart => exact ⟨j, k, cur, rfl, by omega, hoW, Lib.hid hlc, Htk, by omega, bS, hBW⟩
                case round =>
                  obtain ⟨s, n, c2, rfl, hs, hok, hcl, hput, hn, bS2, hB2⟩ := hrel
                  clear hoW bS hBW
                  have cS := bS2.cell
                  have cu1 := (hB2.cell (p := ⟨bu, ou + m, none⟩) hbu).trans hcu1
                  have cv1 := (hB2.cell (p := ⟨gv, m, none⟩) hgv1).trans hcv1
                  by_cases hlt3 : s < k
                  · have hc := hok.cellAt (j := s) (by have := hcl.out; omega)
                    have hz := hok.frozen s
                    have hst := hok.stored s io
                    obtain ⟨n, rfl⟩ : ∃ n', n = n' + 1 := ⟨n - 1, by omega⟩
                    have hst2 := putF_step (n := n) (i := io) (gap := gp) (l := c2) (s := s) (by have := hcl.out; omega)
                    have Hst := Lib.hid hst
                    have Hst2 := Lib.hid hst2
                    have bS3 := bS2.kept (row := some g) hst.2 (by simp; omega)
                    have hB3 := hB2.setCell (p := ⟨g, s, none⟩) (by show w1.heap.size ≤ g; omega) (.int .i64 io)
                    have cS3 := bS3.cell
                    have cu3 := (hB3.cell (p := ⟨bu, ou + m, none⟩) hbu).trans hcu1
                    clear hst hst2
                    go_wp2
                    exact ⟨⟨s + gp, n, c2.set s io, by simp, by omega, Hst.out.1, Lib.hid (by rw [List.length_set]; exact hcl.out), Lib.hid (by rw [hput.out]; exact Hst2.out), by omega, bS3, hB3⟩, by simp [intOf]; omega⟩
                  · have hst2 := putF_stop (n := n) (i := io) (gap := gp) (l := c2) (s := s) (by have := hcl.out; omega)
                    have Hst2 := Lib.hid hst2
                    clear hst2
                    go_wp2
                    go_roundw
                    case rel => exact ⟨m + 1, by omega, by simp, Hiss.out, by rw [Hsuc.out, hput.out, Hst2.out]; exact hok, bS2, hB2⟩
                    case measure => simp [intOf]; omega
              · have hx0 : 0 ≤ x := by omega
                go_wp2
                refine ⟨⟨j + 1, hjk, by simp, fun q hq => ?_⟩, by simp [intOf]; omega⟩
                rcases Nat.lt_succ_iff_lt_or_eq.mp hq with h | rfl
                · exact Hall.out q h
                · rw [Hx.out]; exact hx1
            · obtain rfl : j = k := by omega
              have hf := freeF_none (l := cur) (fun q hq => Hall.out q (by omega))
              have hnn := harmTo_none (n := zs.length) (k := m + 1) (by omega) (harmTo_stop (l := cur) (by rw [← Hcur.out]; exact His.out) (by omega))
              have Hnn := Lib.hid (show harmT zs = none by rw [Hht.out]; exact hnn)
              clear hf hnn
              go_wp2
              go_ret2
              exact ⟨_, by rw [Hnn.out]; rfl, by rw [Hnn.out]; exact ownI_nil _ _, hB1.trans (hBW.mono hB1.size)⟩
        · obtain rfl : m = zs.length := by omega
          go_wp2
          go_ret2
          exact ⟨_, by rw [Hht.out, His.out]; rfl, by rw [Hht.out, His.out]; show OwnI _ _ _ (harmF _ _ _ _); rw [Hcur.out]; exact hoW.base (by have := hB1.size; omega), hB1.trans (hBW.mono hB1.size)⟩

end Go.Proofs.Ytahleajedgehlaa
