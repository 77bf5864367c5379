/-
  The model's number of lists of rests: l05Number.
-/
import Derived.Test.YtnhdfpmjebfjmaaClS
import Derived.Test.YtnhdfpmjebfjmaaShift
import Derived.Test.YtnhdfpmjebfjmaaRst
namespace Go.Proofs.Ytnhdfpmjebfjmaa
open Go.RowKit Go.Shelf

theorem cnt_le : ∀ {gs : List Int} {p : List (Int × Int)}, (∀ g ∈ gs, 1 ≤ g ∧ g ≤ 40) → Rst.cnt p gs ≤ 40 ^ gs.length
  | [], _, _ => by simp [Rst.cnt]
  | g :: gs, p, h => by
    have hg := h g (by simp)
    have ih := fun q => cnt_le (gs := gs) (p := q) fun x hx => h x (by simp [hx])
    rw [Rst.cnt, List.length_cons, Nat.pow_succ]
    have h1 := Rst.sumTo_le (f := fun r => if Rst.fit p ((r : Int), g) then Rst.cnt (p ++ [((r : Int), g)]) gs else 0) (g := fun _ => 40 ^ gs.length) (n := g.toNat) fun r => by
      split
      · exact ih _
      · exact Nat.zero_le _
    rw [Rst.sumTo_const] at h1
    have h2 : g.toNat * 40 ^ gs.length ≤ 40 * 40 ^ gs.length := Nat.mul_le_mul_right _ (by omega)
    rw [Nat.mul_comm]
    omega
theorem pow8 {n : Nat} (h : n ≤ 8) : 40 ^ n ≤ 6553600000000 := Nat.le_trans (Nat.pow_le_pow_right (by omega) h) (by decide)

/-- the number of the first k rests -/
def cntTo (p : List (Int × Int)) (g : Int) (gs : List Int) (k : Nat) : Nat := Rst.sumTo (fun r => if Rst.fit p ((r : Int), g) then Rst.cnt (p ++ [((r : Int), g)]) gs else 0) k
theorem cntTo_yes {p : List (Int × Int)} {g : Int} {gs : List Int} {k : Nat} (h : Rst.fit p ((k : Int), g) = true) : cntTo p g gs (k + 1) = cntTo p g gs k + Rst.cnt (p ++ [((k : Int), g)]) gs := by
  unfold cntTo; rw [Rst.sumTo, if_pos h]
theorem cntTo_no {p : List (Int × Int)} {g : Int} {gs : List Int} {k : Nat} (h : Rst.fit p ((k : Int), g) = false) : cntTo p g gs (k + 1) = cntTo p g gs k := by
  unfold cntTo; rw [Rst.sumTo, if_neg (by rw [h]; simp)]; simp
theorem cntTo_le {p : List (Int × Int)} {g : Int} {gs : List Int} (h : ∀ x ∈ gs, 1 ≤ x ∧ x ≤ 40) (h8 : gs.length ≤ 7) (k : Nat) : cntTo p g gs k ≤ k * 163840000000 := by
  have h1 := Rst.sumTo_le (f := fun r => if Rst.fit p ((r : Int), g) then Rst.cnt (p ++ [((r : Int), g)]) gs else 0) (g := fun _ => 163840000000) (n := k) fun r => by
    split
    · exact Nat.le_trans (cnt_le h) (Nat.le_trans (Nat.pow_le_pow_right (by omega) h8) (by decide))
    · exact Nat.zero_le _
  rw [Rst.sumTo_const] at h1
  exact h1
theorem cnt_drop {p : List (Int × Int)} {zs : List Int} (h : p.length < zs.length) : Rst.cnt p (zs.drop p.length) = cntTo p (nth zs p.length) (zs.drop (p.length + 1)) (nth zs p.length).toNat := by
  have : zs.drop p.length = nth zs p.length :: zs.drop (p.length + 1) := by
    rw [List.drop_eq_getElem_cons h]; simp [nth, List.getElem?_eq_getElem h]
  rw [this, Rst.cnt]; rfl

theorem box2_src {W : World} {b : Nat} {t : TypeId} {x y : Value} (h : Box2 W b t x y) : ∀ j u, [x, y][j]? = some u → W.cell? ((⟨b, 0, none⟩ : Addr).add j) = some u := by
  intro j u hj
  match j, hj with
  | 0, hj => simp at hj; subst hj; simpa [Addr.add] using h.c0
  | 1, hj => simp at hj; subst hj; simpa [Addr.add] using h.c1
  | j + 2, hj => simp at hj
theorem clss_snoc {p : List (Int × Int)} {k g : Int} (h : Clss p) (hk : 0 ≤ k ∧ k < g) (hg : g ≤ 40) : Clss (p ++ [(k, g)]) := by
  intro j hj
  rw [List.length_append, List.length_singleton] at hj
  by_cases e : j < p.length
  · have := h j e
    unfold rst gp at *
    rw [List.getElem?_append_left e]
    exact this
  · obtain rfl : j = p.length := by omega
    simp [rst, gp]
    omega
theorem rowC_later {B : Nat} {W W' : World} {v : Value} {n : Nat} {xs : List Value} (h : W.ownsRow B 73 2 v n xs) (hb : Below W.heap.size W W') : W'.ownsRow B 73 2 v n xs := by
  obtain ⟨h1, h2⟩ := h
  refine ⟨h1, ?_⟩
  rcases h2 with h2 | ⟨g, cap, cur, e, hg, hh, h3⟩
  · exact .inl h2
  · exact .inr ⟨g, cap, cur, e, hg, (hb.block g (Array.getElem?_eq_some_iff.1 hh).1).trans hh, h3⟩

set_option maxRecDepth 100000 in
set_option maxHeartbeats 16000000 in
theorem l05Number_c (zs : List Int) (h8 : zs.length ≤ 8) (hz : ∀ k, k < zs.length → 1 ≤ nth zs k ∧ nth zs k ≤ 40) (n : Nat) : ∀ (c0 cl : Value) (p : List (Int × Int)) (w : World), Ints w.heap.size w c0 zs → Cls w.heap.size w cl p → (∃ b2 off2 cap2, cl = .slice (some ⟨b2, off2, none⟩) p.length cap2) → p.length + n = zs.length → Clss p →
    Calls Try.prog 58 #[.agg #[c0], cl] w fun e w' => e = .returned (.int .i64 (Rst.cnt p (zs.drop p.length))) ∧ Below w.heap.size w w' := by
  obtain ⟨i0, hi0, hz0, hz1, hz2⟩ := info_parts2 Try.infoC
  induction n with
  | zero =>
    intro c0 cl p w hI hC _ hn _
    obtain ⟨a, cap, rfl⟩ := hI.shape
    obtain ⟨a2, cap2, rfl⟩ := hC.shape
    have hr : Rst.cnt p (zs.drop p.length) = 1 := by rw [List.drop_eq_nil_of_le (by omega)]; rfl
    have Hr := Lib.hid hr
    have hln : (p.length : Int) = (zs.length : Int) := by omega
    clear hr
    go_enter Try.func58, Try.ntmps58
    go_wp2
    go_ret
    exact ⟨by rw [Hr.out]; rfl, (Below.refl _ w).alloc (Nat.le_refl _) _⟩
  | succ n ih =>
    intro c0 cl p w hI hC hcp hn hcl
    obtain ⟨a, cap, rfl⟩ := hI.shape
    obtain ⟨b2, off2, cap2, rfl⟩ := hcp
    have hfw : Try.prog.follows Departure.mixedOrders = true := by kernel_rfl
    have hlt : p.length < zs.length := by omega
    have hr := cnt_drop hlt
    have Hr := Lib.hid hr
    have hgb := hz _ hlt
    obtain ⟨b, off, rfl, hb, hc⟩ := hI.at_ (show 0 < zs.length by omega)
    have cg := hc _ hlt
    obtain ⟨gN, hgN⟩ : ∃ gN : Nat, nth zs p.length = (gN : Int) := ⟨(nth zs p.length).toNat, by omega⟩
    rw [hgN] at hgb cg hr
    rw [Int.toNat_natCast] at hr
    obtain ⟨gs, hgs⟩ : ∃ gs, zs.drop (p.length + 1) = gs := ⟨_, rfl⟩
    have hgl : gs.length = n := by rw [← hgs, List.length_drop]; omega
    have hgb2 : ∀ x ∈ gs, 1 ≤ x ∧ x ≤ 40 := fun x hx => by
      rw [← hgs] at hx
      obtain ⟨j, hj, rfl⟩ := List.getElem_of_mem (List.mem_of_mem_drop hx)
      have := hz j hj
      simpa [nth, List.getElem?_eq_getElem hj] using this
    rw [hgs] at hr
    have hcb := fun k => cntTo_le (p := p) (g := (gN : Int)) hgb2 (by omega) k
    have Hcb := Lib.hid hcb
    have Hr := Lib.hid hr
    have Hgs := Lib.hid hgs
    have hgi : (gN : Int) ≤ 40 := hgb.2
    have hlti : (p.length : Int) < (zs.length : Int) := by omega
    have hlne : ¬ (p.length : Int) = (zs.length : Int) := by omega
    have hbe : ((p.length : Int) == (zs.length : Int)) = false := by simpa using hlne
    have Hih := Lib.hid ih
    have Hz := Lib.hid hz
    have Hcl := Lib.hid hcl
    have Hgl := Lib.hid hgl
    have HI := Lib.hid hI
    have hB0 : Below w.heap.size w (w.alloc (.cells #[.slice (some ⟨b, off, none⟩) zs.length cap] 29)) := (Below.refl _ w).alloc (Nat.le_refl _) _
    have bT0 : Boxed (w.alloc (.cells #[.slice (some ⟨b, off, none⟩) zs.length cap] 29)) w.heap.size 29 (.slice (some ⟨b, off, none⟩) zs.length cap) := Boxed.new _ _ _
    clear hc ih hz hcl hgN hgs hgb2 hcb hgl hr hI
    go_enter Try.func58, Try.ntmps58
    go_wp2
    go_loopw [6, 7] (fun cc kk wr => ∃ k : Nat, k ≤ gN ∧ kk = .int .i64 k ∧ cc = .int .i64 (cntTo p (gN : Int) gs k : Nat) ∧ Boxed wr w.heap.size 29 (.slice (some ⟨b, off, none⟩) zs.length cap) ∧ Below w.heap.size w wr) (fun _ kk _ => gN - (intOf kk).toNat)
    case atStart => exact ⟨0, Nat.zero_le _, rfl, rfl, bT0, hB0⟩
    case round =>
      obtain ⟨k, hk, rfl, rfl, bT, hB⟩ := hrel
      clear bT0 hB0
      have hsz := hB.size
      by_cases hkg : k < gN
      · have hkgi : (k : Int) < (gN : Int) := by omega
        obtain ⟨cv, hcv⟩ : ∃ cv, cntTo p (gN : Int) gs k = cv := ⟨_, rfl⟩
        have hcvb : cv ≤ 6553600000000 := by have := Hcb.out k; rw [hcv] at this; omega
        rw [hcv]
        have Hcv := Lib.hid hcv
        have HbT := Lib.hid bT
        clear hcv bT
        go_wp2
        go_loopw [8, 9] (fun gd i wr2 => ∃ m : Nat, m ≤ p.length ∧ i = .int .i64 m ∧ gd = .bool (fitTo p ((k : Int), (gN : Int)) m) ∧ Below wr.heap.size wr wr2) (fun _ i _ => p.length - (intOf i).toNat)
        case atStart => exact ⟨0, Nat.zero_le _, rfl, rfl, Below.refl _ _⟩
        case round =>
          obtain ⟨m, hm, rfl, rfl, hB2⟩ := hrel
          have hs2 := hB2.size
          cases hgd : fitTo p ((k : Int), (gN : Int)) m
          · have Hgd := Lib.hid (fitTo_false hgd)
            clear hgd
            have hcn := Lib.hid ((cntTo_no (gs := gs) Hgd.out).trans Hcv.out)
            by_cases hml : m < p.length
            · have hmli : (m : Int) < (p.length : Int) := by omega
              go_wp2
              go_roundw
              case rel => exact ⟨k + 1, by omega, by simp, by rw [hcn.out], boxed_later HbT.out hB2, hB.trans (hB2.mono hsz)⟩
              case measure => simp [intOf]; omega
            · have hmli : ¬ (m : Int) < (p.length : Int) := by omega
              go_wp2
              go_roundw
              case rel => exact ⟨k + 1, by omega, by simp, by rw [hcn.out], boxed_later HbT.out hB2, hB.trans (hB2.mono hsz)⟩
              case measure => simp [intOf]; omega
          · by_cases hml : m < p.length
            · have hmli : (m : Int) < (p.length : Int) := by omega
              have hfs := fitTo_succ (c := ((k : Int), (gN : Int))) hml
              rw [hgd] at hfs
              obtain ⟨b2', off2', e2, hb2, hc2⟩ := (hC.below (hB.trans (hB2.mono hsz))).at_ hml
              cases e2
              obtain ⟨x0, x1⟩ := hc2 m hml
              have hcm := Hcl.out m hml
              cases he : meet2 (rst p m) (gp p m) (k : Int) (gN : Int)
              · have Hfs := Lib.hid (show fitTo p ((k : Int), (gN : Int)) (m + 1) = true by rw [hfs, he]; rfl)
                have Hq := Lib.hid (And.intro hcm he)
                clear hfs he hc2 hcm hgd
                go_wp2_with fail
                refine (l05Meet_d false _ _ _ _ _ (by have := Hq.out.1; omega) (by omega) (by have := Hq.out.1; omega) (by omega) Hq.out.2).mono ?_
                rintro e w5 ⟨rfl, hb5⟩
                go_wp2
                go_roundw
                case rel => exact ⟨m + 1, by omega, by simp, by rw [Hfs.out]; try rfl, hB2.trans (hb5.mono hs2)⟩
                case measure => simp [intOf]; omega
              · have Hfs := Lib.hid (show fitTo p ((k : Int), (gN : Int)) (m + 1) = false by rw [hfs, he]; rfl)
                have Hq := Lib.hid (And.intro hcm he)
                clear hfs he hc2 hcm hgd
                go_wp2_with fail
                refine (l05Meet_d true _ _ _ _ _ (by have := Hq.out.1; omega) (by omega) (by have := Hq.out.1; omega) (by omega) Hq.out.2).mono ?_
                rintro e w5 ⟨rfl, hb5⟩
                go_wp2
                go_roundw
                case rel => exact ⟨m + 1, by omega, by simp, by rw [Hfs.out]; try rfl, hB2.trans (hb5.mono hs2)⟩
                case measure => simp [intOf]; omega
            · obtain rfl : m = p.length := by omega
              rw [fitTo_all] at hgd
              have Hgd := Lib.hid hgd
              clear hgd
              have hnl : ¬ (p.length : Int) < (p.length : Int) := by omega
              have hB3 := hB.trans (hB2.mono hsz)
              have bT3 := boxed_later HbT.out hB2
              have Hyes := Lib.hid (cntTo_yes (gs := gs) Hgd.out)
              have hpl : p.length ≤ 7 := by omega
              have hcvb2 : cntTo p (gN : Int) gs (k + 1) ≤ 6717440000000 := by have := Hcb.out (k + 1); omega
              clear hB2 hB hs2
              go_wp2_with fail
              refine wp_region_held_drew (S := fun w' => Boxed w' w.heap.size 29 (.slice (some ⟨b, off, none⟩) zs.length cap) ∧ Below w.heap.size w w' ∧ Below wr.heap.size wr w') hfw ⟨bT3, hB3.drew, (Below.refl _ _).drew⟩ ?_
              intro hS0
              refine wpAnyH_take (i := 0) (v := ?vn1q0) rfl (by kernel_rfl) (by kernel_rfl) (by kernel_rfl) (fun _ _ _ h => h) (.inl ⟨by first | kernel_rfl | rfl, ?yn1q0⟩) hS0 ?_
              case yn1q0 =>
                intro w' hS
                (have k1 := hS.1.cell; clear hS)
                go_simp
                try with_reducible rfl
              refine wpAnyH_take (i := 1) (v := ?vn1q1) rfl (by kernel_rfl) (by kernel_rfl) (by kernel_rfl) (fun _ _ _ h => h) (.inl ⟨by first | kernel_rfl | rfl, ?yn1q1⟩) hS0 ?_
              case yn1q1 =>
                intro w' hS
                (have k1 := hS.1.cell; clear hS)
                go_simp
                try with_reducible rfl
              refine wpAnyH_take (i := 3) (v := ?vn1q3) rfl (by kernel_rfl) (by kernel_rfl) (by kernel_rfl) (fun _ _ _ h => h) (.inl ⟨by first | kernel_rfl | rfl, ?yn1q3⟩) hS0 ?_
              case yn1q3 =>
                intro w' hS
                (have k1 := hS.1.cell; clear hS)
                go_simp
                try with_reducible rfl
              refine wpAnyH_take (i := 5) (v := ?vn1q5) rfl (by kernel_rfl) (by kernel_rfl) (by kernel_rfl) (fun _ _ _ h => h) (.inl ⟨by first | kernel_rfl | rfl, ?yn1q5⟩) hS0 ?_
              case yn1q5 =>
                intro w' hS
                (have k1 := hS.1.cell; clear hS)
                go_simp
                try with_reducible rfl
              refine wpAnyH_take (i := 6) (v := ?vn1q6) rfl (by kernel_rfl) (by kernel_rfl) (by kernel_rfl) (fun _ _ _ h => h) (.inl ⟨by first | kernel_rfl | rfl, ?yn1q6⟩) hS0 ?_
              case yn1q6 =>
                intro w' hS
                (have k1 := hS.1.cell; clear hS)
                go_simp
                try with_reducible rfl
              refine wpAnyH_take (i := 7) (v := ?vn1q7) rfl (by kernel_rfl) (by kernel_rfl) (by kernel_rfl) (fun _ _ _ h => h) (.inl ⟨by first | kernel_rfl | rfl, ?yn1q7⟩) hS0 ?_
              case yn1q7 =>
                intro w' hS
                (have k1 := hS.1.cell; clear hS)
                go_simp
                try with_reducible rfl
              obtain ⟨wd, hwd⟩ : ∃ wd, wr.drew = wd := ⟨_, rfl⟩
              rw [hwd] at hS0 ⊢
              clear hwd
              refine wpAnyH_ready (rs := [2, 8]) (by kernel_rfl) (by simp) ?_
              refine AllReadyH.cons rfl (fun K' hK' => ?_) (AllReadyH.cons rfl (fun K' hK' => ?_) AllReadyH.nil)
              · rw [if_pos (by rfl)]
                go_simp
                obtain ⟨xwa, hxwa⟩ : ∃ x, wd.heap.size = x := ⟨_, rfl⟩
                obtain ⟨wa, hwwa⟩ : ∃ W, wd.alloc (.cells #[] 73) = W := ⟨_, rfl⟩
                have hbwa : Below wd.heap.size wd wa := by rw [← hwwa]; exact (Below.refl _ _).alloc (Nat.le_refl _) _
                have howa : wa.ownsRow wr.heap.size 73 2 (.slice (some ⟨xwa, 0, none⟩) 0 0) 0 ((flat []).map (.int .i64)) := by rw [← hwwa, ← hxwa]; exact World.ownsRow_made wd #[] 0 hS0.2.2.size (by unfold maxLen; omega) rfl
                have hlwa : wr.heap.size ≤ xwa ∧ xwa < wa.heap.size := by rw [← hwwa, ← hxwa, World.size_alloc]; have := hS0.2.2.size; omega
                rw [hwwa, hxwa]
                refine hK'.out _ _ ⟨boxed_later hS0.1 hbwa, hS0.2.1.trans (hbwa.mono hS0.2.1.size), hS0.2.2.trans (hbwa.mono hS0.2.2.size)⟩ fun hSa => ?_
                clear hwwa hK'
                refine wpAnyH_ready (rs := [4, 8]) (by kernel_rfl) (by simp) ?_
                refine AllReadyH.cons rfl (fun K' hK' => ?_) (AllReadyH.cons rfl (fun K' hK' => ?_) AllReadyH.nil)
                · rw [if_pos (by rfl)]
                  have hC4 := hC.below hSa.2.1
                  refine wp_append_own _ (.tmp 48) (.tmp 49) 26 rfl wr.heap.size 73 i0 (.agg #[.int .i64 0, .int .i64 0]) 2 16 Try.underlying26 hi0 hz0 hz1 hz2 rfl (by decide) _ _ _ rfl howa ⟨b2, off2, none⟩ p.length cap2 ((flat p).map (.int .i64)) rfl (by rw [List.length_map, flat_length]) (cls_src hC4 rfl) (cells_one _) (by unfold maxLen; omega) (by omega) hSa.2.2.size ?_
                  intro uwb wb hown' hgrow hfar
                  have howb : OwnC wr.heap.size wb uwb p.length (flat p) := by simpa [flat] using ownC_app (n := 0) (m := p.length) (xs := flat []) (ys := flat p) (by simpa using hown')
                  have hbwb : Below wr.heap.size wa wb := (Below.refl _ _).grown hgrow (by have := hSa.2.2.size; omega) (fun j e => by have := (World.ownsRow.lt howa j e).1; have := hB3.size; omega)
                  refine hK'.out _ _ ⟨hSa.1.kept hgrow (fun e => by have := (World.ownsRow.lt howa _ e.symm).1; have := bT3.lt; omega), hSa.2.1.grown hgrow hSa.2.1.size (fun j e => by have := (World.ownsRow.lt howa j e).1; have := hB3.size; omega), hSa.2.2.trans hbwb⟩ fun hSb => ?_
                  clear hown' hgrow hfar hbwb hK' hC4
                  refine wpAnyH_ready (rs := [8]) (by kernel_rfl) (by simp) ?_
                  refine AllReadyH.cons rfl (fun K' hK' => ?_) AllReadyH.nil
                  rw [if_pos (by first | kernel_rfl | rfl)]
                  go_simp
                  obtain ⟨xwc, hxwc⟩ : ∃ x, wb.heap.size = x := ⟨_, rfl⟩
                  obtain ⟨wc, hwwc⟩ : ∃ W, wb.alloc (.cells #[.int .i64 (k : Int), .int .i64 (gN : Int)] 73) = W := ⟨_, rfl⟩
                  have hbwc : Below wb.heap.size wb wc := by rw [← hwwc]; exact (Below.refl _ _).alloc (Nat.le_refl _) _
                  have bxwc : Box2 wc xwc 73 (.int .i64 (k : Int)) (.int .i64 (gN : Int)) := by rw [← hwwc, ← hxwc]; exact Box2.new _ _ _ _
                  have hlwc : wr.heap.size ≤ xwc ∧ xwc < wc.heap.size := by rw [← hwwc, ← hxwc, World.size_alloc]; have := hSb.2.2.size; omega
                  rw [hwwc, hxwc]
                  refine hK'.out _ _ ⟨boxed_later hSb.1 hbwc, hSb.2.1.trans (hbwc.mono hSb.2.1.size), hSb.2.2.trans (hbwc.mono hSb.2.2.size)⟩ fun hSc => ?_
                  clear hwwc hK'
                  have ho50 := howb.below hbwc
                  refine wpAnyH_ready (rs := [9]) (by kernel_rfl) (by simp) ?_
                  refine AllReadyH.cons rfl (fun K' hK' => ?_) AllReadyH.nil
                  rw [if_pos (by first | kernel_rfl | rfl)]
                  refine wp_append_own _ (.tmp 50) (.tmp 54) 26 rfl wr.heap.size 73 i0 (.agg #[.int .i64 0, .int .i64 0]) 2 16 Try.underlying26 hi0 hz0 hz1 hz2 rfl (by decide) _ _ _ rfl ho50 ⟨xwc, 0, none⟩ 1 1 [.int .i64 (k : Int), .int .i64 (gN : Int)] rfl rfl (box2_src bxwc) (by simp [Value.oneCell']) (by unfold maxLen; omega) (by omega) hSc.2.2.size ?_
                  intro v9 w9 hown' hgrow hfar
                  have ho9 := ownC_snoc hown'
                  have hob := OwnC.blk ho50
                  have s9 : Below wr.heap.size wr w9 := hSc.2.2.grown hgrow hSc.2.2.size (fun j e => (hob j e).1)
                  have s9w : Below w.heap.size w w9 := hSc.2.1.grown hgrow hSc.2.1.size (fun j e => by have := (hob j e).1; have := hB3.size; omega)
                  have bT9 := boxed_later bT3 s9
                  clear hown' hgrow hfar hob
                  refine hK'.out _ _ ⟨bT9, s9w, s9⟩ fun hS9 => ?_
                  clear hSc
                  obtain ⟨g9, cap9, hv9, _, _⟩ := ho9.shape (by simp)
                  rw [List.length_append, List.length_singleton] at hv9
                  subst hv9
                  have hc10 := Lib.hid (Hih.out (.slice (some ⟨b, off, none⟩) zs.length cap) (.slice (some ⟨g9, 0, none⟩) (p.length + 1) cap9) (p ++ [((k : Int), (gN : Int))]) w9 ((HI.out.below s9w).mono s9w.size) ho9.prs ⟨g9, 0, cap9, by rw [List.length_append, List.length_singleton]⟩ (by rw [List.length_append, List.length_singleton]; omega) (clss_snoc Hcl.out (by omega) (by omega)))
                  clear ho9
                  refine wpAnyH_ready (rs := [10]) (by kernel_rfl) (by simp) ?_
                  refine AllReadyH.cons rfl (fun K' hK' => ?_) AllReadyH.nil
                  rw [if_pos (by first | kernel_rfl | rfl)]
                  go_simp
                  refine hc10.out.mono ?_
                  rintro e w10 ⟨rfl, hb10⟩
                  rw [List.length_append, List.length_singleton, Hgs.out]
                  have s10w := s9w.trans (hb10.mono s9w.size)
                  have bT10 := boxed_later bT9 hb10
                  refine hK'.out _ _ ⟨bT10, s10w, s9.trans (hb10.mono s9.size)⟩ fun hS10 => ?_
                  clear hS9
                  refine wpAnyH_take (i := 11) (v := (.int .i64 (cntTo p (gN : Int) gs (k + 1) : Nat))) rfl (by kernel_rfl) (by kernel_rfl) (by kernel_rfl) (fun _ _ _ h => h) (.inl ⟨by first | kernel_rfl | rfl, ?yn2a11⟩) hS10 ?_
                  case yn2a11 =>
                    intro w' hS
                    (clear hS)
                    go_simp
                    try (have h1 := Hyes.out; have h2 := Hcv.out; have h3 := Hcb.out (k + 1); rw [IntKind.wrap_i64] <;> omega)
                    first | done | (simp; done) | (simp; omega) | omega | (simp [*]; done)
                  refine wpAnyH_take (i := 12) (v := ?vn2b12) rfl (by kernel_rfl) (by kernel_rfl) (by kernel_rfl) (fun _ _ _ h => h) (.inl ⟨by first | kernel_rfl | rfl, ?yn2b12⟩) hS10 ?_
                  case yn2b12 =>
                    intro w' hS
                    (clear hS)
                    go_simp
                    try with_reducible rfl
                  refine wpAnyH_done (by kernel_rfl) ?_ _
                  clear hS10
                  go_wp2
                  go_roundw
                  case rel => exact ⟨k + 1, by omega, by simp, rfl, bT10, s10w⟩
                  case measure => simp [intOf]; omega
                · rw [if_pos (by rfl)]
                  go_simp
                  obtain ⟨xwb, hxwb⟩ : ∃ x, wa.heap.size = x := ⟨_, rfl⟩
                  obtain ⟨wb, hwwb⟩ : ∃ W, wa.alloc (.cells #[.int .i64 (k : Int), .int .i64 (gN : Int)] 73) = W := ⟨_, rfl⟩
                  have hbwb : Below wa.heap.size wa wb := by rw [← hwwb]; exact (Below.refl _ _).alloc (Nat.le_refl _) _
                  have bxwb : Box2 wb xwb 73 (.int .i64 (k : Int)) (.int .i64 (gN : Int)) := by rw [← hwwb, ← hxwb]; exact Box2.new _ _ _ _
                  have hlwb : wr.heap.size ≤ xwb ∧ xwb < wb.heap.size := by rw [← hwwb, ← hxwb, World.size_alloc]; have := hSa.2.2.size; omega
                  rw [hwwb, hxwb]
                  refine hK'.out _ _ ⟨boxed_later hSa.1 hbwb, hSa.2.1.trans (hbwb.mono hSa.2.1.size), hSa.2.2.trans (hbwb.mono hSa.2.2.size)⟩ fun hSb => ?_
                  clear hwwb hK'
                  have how4 := rowC_later howa hbwb
                  have hne4 : xwb ≠ xwa := by have := hlwa.2; omega
                  refine wpAnyH_ready (rs := [4]) (by kernel_rfl) (by simp) ?_
                  refine AllReadyH.cons rfl (fun K' hK' => ?_) AllReadyH.nil
                  rw [if_pos (by first | kernel_rfl | rfl)]
                  have hC4 := hC.below hSb.2.1
                  refine wp_append_own _ (.tmp 48) (.tmp 49) 26 rfl wr.heap.size 73 i0 (.agg #[.int .i64 0, .int .i64 0]) 2 16 Try.underlying26 hi0 hz0 hz1 hz2 rfl (by decide) _ _ _ rfl how4 ⟨b2, off2, none⟩ p.length cap2 ((flat p).map (.int .i64)) rfl (by rw [List.length_map, flat_length]) (cls_src hC4 rfl) (cells_one _) (by unfold maxLen; omega) (by omega) hSb.2.2.size ?_
                  intro uwc wc hown' hgrow hfar
                  have howc : OwnC wr.heap.size wc uwc p.length (flat p) := by simpa [flat] using ownC_app (n := 0) (m := p.length) (xs := flat []) (ys := flat p) (by simpa using hown')
                  have hbwc : Below wr.heap.size wb wc := (Below.refl _ _).grown hgrow (by have := hSb.2.2.size; omega) (fun j e => by have := (World.ownsRow.lt how4 j e).1; have := hB3.size; omega)
                  have bxwc : Box2 wc xwb 73 (.int .i64 (k : Int)) (.int .i64 (gN : Int)) := bxwb.kept hgrow (fun e => hne4 (Option.some.inj (show some xwb = some xwa from e)))
                  refine hK'.out _ _ ⟨hSb.1.kept hgrow (fun e => by have := (World.ownsRow.lt how4 _ e.symm).1; have := bT3.lt; omega), hSb.2.1.grown hgrow hSb.2.1.size (fun j e => by have := (World.ownsRow.lt how4 j e).1; have := hB3.size; omega), hSb.2.2.trans hbwc⟩ fun hSc => ?_
                  clear hown' hgrow hfar hbwc hK' hC4
                  refine wpAnyH_ready (rs := [9]) (by kernel_rfl) (by simp) ?_
                  refine AllReadyH.cons rfl (fun K' hK' => ?_) AllReadyH.nil
                  rw [if_pos (by first | kernel_rfl | rfl)]
                  refine wp_append_own _ (.tmp 50) (.tmp 54) 26 rfl wr.heap.size 73 i0 (.agg #[.int .i64 0, .int .i64 0]) 2 16 Try.underlying26 hi0 hz0 hz1 hz2 rfl (by decide) _ _ _ rfl howc ⟨xwb, 0, none⟩ 1 1 [.int .i64 (k : Int), .int .i64 (gN : Int)] rfl rfl (box2_src bxwc) (by simp [Value.oneCell']) (by unfold maxLen; omega) (by omega) hSc.2.2.size ?_
                  intro v9 w9 hown' hgrow hfar
                  have ho9 := ownC_snoc hown'
                  have hob := OwnC.blk howc
                  have s9 : Below wr.heap.size wr w9 := hSc.2.2.grown hgrow hSc.2.2.size (fun j e => (hob j e).1)
                  have s9w : Below w.heap.size w w9 := hSc.2.1.grown hgrow hSc.2.1.size (fun j e => by have := (hob j e).1; have := hB3.size; omega)
                  have bT9 := boxed_later bT3 s9
                  clear hown' hgrow hfar hob
                  refine hK'.out _ _ ⟨bT9, s9w, s9⟩ fun hS9 => ?_
                  clear hSc
                  obtain ⟨g9, cap9, hv9, _, _⟩ := ho9.shape (by simp)
                  rw [List.length_append, List.length_singleton] at hv9
                  subst hv9
                  have hc10 := Lib.hid (Hih.out (.slice (some ⟨b, off, none⟩) zs.length cap) (.slice (some ⟨g9, 0, none⟩) (p.length + 1) cap9) (p ++ [((k : Int), (gN : Int))]) w9 ((HI.out.below s9w).mono s9w.size) ho9.prs ⟨g9, 0, cap9, by rw [List.length_append, List.length_singleton]⟩ (by rw [List.length_append, List.length_singleton]; omega) (clss_snoc Hcl.out (by omega) (by omega)))
                  clear ho9
                  refine wpAnyH_ready (rs := [10]) (by kernel_rfl) (by simp) ?_
                  refine AllReadyH.cons rfl (fun K' hK' => ?_) AllReadyH.nil
                  rw [if_pos (by first | kernel_rfl | rfl)]
                  go_simp
                  refine hc10.out.mono ?_
                  rintro e w10 ⟨rfl, hb10⟩
                  rw [List.length_append, List.length_singleton, Hgs.out]
                  have s10w := s9w.trans (hb10.mono s9w.size)
                  have bT10 := boxed_later bT9 hb10
                  refine hK'.out _ _ ⟨bT10, s10w, s9.trans (hb10.mono s9.size)⟩ fun hS10 => ?_
                  clear hS9
                  refine wpAnyH_take (i := 11) (v := (.int .i64 (cntTo p (gN : Int) gs (k + 1) : Nat))) rfl (by kernel_rfl) (by kernel_rfl) (by kernel_rfl) (fun _ _ _ h => h) (.inl ⟨by first | kernel_rfl | rfl, ?yn3a11⟩) hS10 ?_
                  case yn3a11 =>
                    intro w' hS
                    (clear hS)
                    go_simp
                    try (have h1 := Hyes.out; have h2 := Hcv.out; have h3 := Hcb.out (k + 1); rw [IntKind.wrap_i64] <;> omega)
                    first | done | (simp; done) | (simp; omega) | omega | (simp [*]; done)
                  refine wpAnyH_take (i := 12) (v := ?vn3b12) rfl (by kernel_rfl) (by kernel_rfl) (by kernel_rfl) (fun _ _ _ h => h) (.inl ⟨by first | kernel_rfl | rfl, ?yn3b12⟩) hS10 ?_
                  case yn3b12 =>
                    intro w' hS
                    (clear hS)
                    go_simp
                    try with_reducible rfl
                  refine wpAnyH_done (by kernel_rfl) ?_ _
                  clear hS10
                  go_wp2
                  go_roundw
                  case rel => exact ⟨k + 1, by omega, by simp, rfl, bT10, s10w⟩
                  case measure => simp [intOf]; omega
              · rw [if_pos (by rfl)]
                go_simp
                obtain ⟨xwa, hxwa⟩ : ∃ x, wd.heap.size = x := ⟨_, rfl⟩
                obtain ⟨wa, hwwa⟩ : ∃ W, wd.alloc (.cells #[.int .i64 (k : Int), .int .i64 (gN : Int)] 73) = W := ⟨_, rfl⟩
                have hbwa : Below wd.heap.size wd wa := by rw [← hwwa]; exact (Below.refl _ _).alloc (Nat.le_refl _) _
                have bxwa : Box2 wa xwa 73 (.int .i64 (k : Int)) (.int .i64 (gN : Int)) := by rw [← hwwa, ← hxwa]; exact Box2.new _ _ _ _
                have hlwa : wr.heap.size ≤ xwa ∧ xwa < wa.heap.size := by rw [← hwwa, ← hxwa, World.size_alloc]; have := hS0.2.2.size; omega
                rw [hwwa, hxwa]
                refine hK'.out _ _ ⟨boxed_later hS0.1 hbwa, hS0.2.1.trans (hbwa.mono hS0.2.1.size), hS0.2.2.trans (hbwa.mono hS0.2.2.size)⟩ fun hSa => ?_
                clear hwwa hK'
                refine wpAnyH_ready (rs := [2]) (by kernel_rfl) (by simp) ?_
                refine AllReadyH.cons rfl (fun K' hK' => ?_) AllReadyH.nil
                rw [if_pos (by first | kernel_rfl | rfl)]
                go_simp
                obtain ⟨xwb, hxwb⟩ : ∃ x, wa.heap.size = x := ⟨_, rfl⟩
                obtain ⟨wb, hwwb⟩ : ∃ W, wa.alloc (.cells #[] 73) = W := ⟨_, rfl⟩
                have hbwb : Below wa.heap.size wa wb := by rw [← hwwb]; exact (Below.refl _ _).alloc (Nat.le_refl _) _
                have howb : wb.ownsRow wr.heap.size 73 2 (.slice (some ⟨xwb, 0, none⟩) 0 0) 0 ((flat []).map (.int .i64)) := by rw [← hwwb, ← hxwb]; exact World.ownsRow_made wa #[] 0 hSa.2.2.size (by unfold maxLen; omega) rfl
                have hlwb : wr.heap.size ≤ xwb ∧ xwb < wb.heap.size := by rw [← hwwb, ← hxwb, World.size_alloc]; have := hSa.2.2.size; omega
                rw [hwwb, hxwb]
                refine hK'.out _ _ ⟨boxed_later hSa.1 hbwb, hSa.2.1.trans (hbwb.mono hSa.2.1.size), hSa.2.2.trans (hbwb.mono hSa.2.2.size)⟩ fun hSb => ?_
                clear hwwb hK'
                have bx4 := bxwa.later hbwb
                have hne4 : xwa ≠ xwb := by have := hlwa.2; omega
                refine wpAnyH_ready (rs := [4]) (by kernel_rfl) (by simp) ?_
                refine AllReadyH.cons rfl (fun K' hK' => ?_) AllReadyH.nil
                rw [if_pos (by first | kernel_rfl | rfl)]
                have hC4 := hC.below hSb.2.1
                refine wp_append_own _ (.tmp 48) (.tmp 49) 26 rfl wr.heap.size 73 i0 (.agg #[.int .i64 0, .int .i64 0]) 2 16 Try.underlying26 hi0 hz0 hz1 hz2 rfl (by decide) _ _ _ rfl howb ⟨b2, off2, none⟩ p.length cap2 ((flat p).map (.int .i64)) rfl (by rw [List.length_map, flat_length]) (cls_src hC4 rfl) (cells_one _) (by unfold maxLen; omega) (by omega) hSb.2.2.size ?_
                intro uwc wc hown' hgrow hfar
                have howc : OwnC wr.heap.size wc uwc p.length (flat p) := by simpa [flat] using ownC_app (n := 0) (m := p.length) (xs := flat []) (ys := flat p) (by simpa using hown')
                have hbwc : Below wr.heap.size wb wc := (Below.refl _ _).grown hgrow (by have := hSb.2.2.size; omega) (fun j e => by have := (World.ownsRow.lt howb j e).1; have := hB3.size; omega)
                have bxwc : Box2 wc xwa 73 (.int .i64 (k : Int)) (.int .i64 (gN : Int)) := bx4.kept hgrow (fun e => hne4 (Option.some.inj (show some xwa = some xwb from e)))
                refine hK'.out _ _ ⟨hSb.1.kept hgrow (fun e => by have := (World.ownsRow.lt howb _ e.symm).1; have := bT3.lt; omega), hSb.2.1.grown hgrow hSb.2.1.size (fun j e => by have := (World.ownsRow.lt howb j e).1; have := hB3.size; omega), hSb.2.2.trans hbwc⟩ fun hSc => ?_
                clear hown' hgrow hfar hbwc hK' hC4
                refine wpAnyH_ready (rs := [9]) (by kernel_rfl) (by simp) ?_
                refine AllReadyH.cons rfl (fun K' hK' => ?_) AllReadyH.nil
                rw [if_pos (by first | kernel_rfl | rfl)]
                refine wp_append_own _ (.tmp 50) (.tmp 54) 26 rfl wr.heap.size 73 i0 (.agg #[.int .i64 0, .int .i64 0]) 2 16 Try.underlying26 hi0 hz0 hz1 hz2 rfl (by decide) _ _ _ rfl howc ⟨xwa, 0, none⟩ 1 1 [.int .i64 (k : Int), .int .i64 (gN : Int)] rfl rfl (box2_src bxwc) (by simp [Value.oneCell']) (by unfold maxLen; omega) (by omega) hSc.2.2.size ?_
                intro v9 w9 hown' hgrow hfar
                have ho9 := ownC_snoc hown'
                have hob := OwnC.blk howc
                have s9 : Below wr.heap.size wr w9 := hSc.2.2.grown hgrow hSc.2.2.size (fun j e => (hob j e).1)
                have s9w : Below w.heap.size w w9 := hSc.2.1.grown hgrow hSc.2.1.size (fun j e => by have := (hob j e).1; have := hB3.size; omega)
                have bT9 := boxed_later bT3 s9
                clear hown' hgrow hfar hob
                refine hK'.out _ _ ⟨bT9, s9w, s9⟩ fun hS9 => ?_
                clear hSc
                obtain ⟨g9, cap9, hv9, _, _⟩ := ho9.shape (by simp)
                rw [List.length_append, List.length_singleton] at hv9
                subst hv9
                have hc10 := Lib.hid (Hih.out (.slice (some ⟨b, off, none⟩) zs.length cap) (.slice (some ⟨g9, 0, none⟩) (p.length + 1) cap9) (p ++ [((k : Int), (gN : Int))]) w9 ((HI.out.below s9w).mono s9w.size) ho9.prs ⟨g9, 0, cap9, by rw [List.length_append, List.length_singleton]⟩ (by rw [List.length_append, List.length_singleton]; omega) (clss_snoc Hcl.out (by omega) (by omega)))
                clear ho9
                refine wpAnyH_ready (rs := [10]) (by kernel_rfl) (by simp) ?_
                refine AllReadyH.cons rfl (fun K' hK' => ?_) AllReadyH.nil
                rw [if_pos (by first | kernel_rfl | rfl)]
                go_simp
                refine hc10.out.mono ?_
                rintro e w10 ⟨rfl, hb10⟩
                rw [List.length_append, List.length_singleton, Hgs.out]
                have s10w := s9w.trans (hb10.mono s9w.size)
                have bT10 := boxed_later bT9 hb10
                refine hK'.out _ _ ⟨bT10, s10w, s9.trans (hb10.mono s9.size)⟩ fun hS10 => ?_
                clear hS9
                refine wpAnyH_take (i := 11) (v := (.int .i64 (cntTo p (gN : Int) gs (k + 1) : Nat))) rfl (by kernel_rfl) (by kernel_rfl) (by kernel_rfl) (fun _ _ _ h => h) (.inl ⟨by first | kernel_rfl | rfl, ?yn4a11⟩) hS10 ?_
                case yn4a11 =>
                  intro w' hS
                  (clear hS)
                  go_simp
                  try (have h1 := Hyes.out; have h2 := Hcv.out; have h3 := Hcb.out (k + 1); rw [IntKind.wrap_i64] <;> omega)
                  first | done | (simp; done) | (simp; omega) | omega | (simp [*]; done)
                refine wpAnyH_take (i := 12) (v := ?vn4b12) rfl (by kernel_rfl) (by kernel_rfl) (by kernel_rfl) (fun _ _ _ h => h) (.inl ⟨by first | kernel_rfl | rfl, ?yn4b12⟩) hS10 ?_
                case yn4b12 =>
                  intro w' hS
                  (clear hS)
                  go_simp
                  try with_reducible rfl
                refine wpAnyH_done (by kernel_rfl) ?_ _
                clear hS10
                go_wp2
                go_roundw
                case rel => exact ⟨k + 1, by omega, by simp, rfl, bT10, s10w⟩
                case measure => simp [intOf]; omega
      · obtain rfl : k = gN := by omega
        go_wp2
        go_ret
        exact ⟨by rw [Hr.out]; rfl, hB⟩

end Go.Proofs.Ytnhdfpmjebfjmaa
