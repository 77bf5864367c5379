/-
  WaitsTogether of the model: l08Has, l08Wait.
  Conditions: at most 1048576 lists, of at most 1048576 elements each.
-/
import Derived.Test.YtlgjnceedjbakaaChA
import Derived.Test.YtlgjnceedjbakaaGreat
namespace Go.Proofs.Ytlgjnceedjbakaa
open Go.RowKit Go.Shelf
attribute [local go_sem] Oper.semAt_some

set_option maxRecDepth 100000 in
set_option maxHeartbeats 4000000 in
theorem l08Has_c (c0 : Value) (xss : List (List Int)) (s : Nat) (i : Int) (k : Int) (w : World) (hX : Lsts w.heap.size w c0 xss) (hC : Chans k xss) (hs : s < chN xss) :
    Calls Try.prog 97 #[c0, .int .i64 s, .int .i64 i] w fun e w' => e = .returned (.int .i64 ((chL xss s i).length : Nat)) ∧ w = w' := by
  obtain ⟨u, hU⟩ := hX
  obtain ⟨a, cap, rfl⟩ := hU.shape
  have hm4 := hC.m4
  have hn120 := hC.n
  have HU := Lib.hid hU
  have HC := Lib.hid hC
  have Hn := Lib.hid hs
  clear hU hC hs
  have hs120 : s ≤ 120 := by have := Hn.out; omega
  clear hn120
  go_enter Try.func97, Try.ntmps97
  go_wp2
  go_loop [7, 8] (fun q v => ∃ c : Nat, c ≤ xss.length ∧ v = .int .i64 c ∧ q = .int .i64 ((chTo xss s i c).length : Nat)) (fun _ v => xss.length - (intOf v).toNat)
  case atStart => exact ⟨0, Nat.zero_le _, rfl, rfl⟩
  case round =>
    obtain ⟨c, hc, rfl, rfl⟩ := hrel
    have hcl := chTo_len xss s i c
    by_cases hlt : c < xss.length
    · obtain ⟨b, off, a3, c3, rfl, hb, k1, i1⟩ := HU.out.read hlt
      have hlr := HC.out.at_ hlt
      have hsr : s < (lst xss c).length := by rw [hlr]; exact Hn.out
      obtain ⟨b2, off2, rfl, hb2, hc2⟩ := i1.at_ hsr
      have k2 := hc2 s hsr
      have hki : (c : Int) < (xss.length : Int) := by omega
      have hsi : (s : Int) < ((lst xss c).length : Int) := by omega
      have Hlr := Lib.hid hlr
      clear hc2 i1 hlr
      by_cases he : nth (lst xss c) s = i
      · have hq : (nth (lst xss c) s == i) = true := by simp [he]
        have Hy := Lib.hid (chTo_yes he)
        clear he
        go_wp2
        exact ⟨⟨c + 1, by omega, by simp, by rw [Hy.out]; simp⟩, by simp [intOf]; omega⟩
      · have hq : (nth (lst xss c) s == i) = false := by simpa using he
        have Hy := Lib.hid (chTo_no he)
        clear he
        go_wp2
        exact ⟨⟨c + 1, by omega, by simp, by rw [Hy.out]⟩, by simp [intOf]; omega⟩
    · obtain rfl : c = xss.length := by omega
      go_wp2
      go_ret
      exact ⟨rfl, rfl⟩

theorem togTo_succ {xss : List (List Int)} {i : Int} {s : Nat} (h : s < chN xss) : (togL xss i).take (s + 1) = (togL xss i).take s ++ [togA xss i s] := by
  rw [take_snoc (by rw [togL_length]; exact h), nth_togL h]

set_option maxRecDepth 100000 in
set_option maxHeartbeats 8000000 in
theorem l08Wait_c (c0 : Value) (xss : List (List Int)) (i : Int) (k : Int) (w : World) (hX : Lsts w.heap.size w c0 xss) (hC : Chans k xss) :
    Calls Try.prog 63 #[c0, .int .i64 i] w fun e w' => e = .returned (.int .i64 (greatW (togL xss i) i)) ∧ Below w.heap.size w w' := by
  obtain ⟨i0, hi, hz0, hz1, hz2⟩ := info_parts Try.infoI
  obtain ⟨u, hU⟩ := hX
  obtain ⟨a, cap, rfl⟩ := hU.shape
  have hn := hC.n
  obtain ⟨N, hN⟩ : ∃ N, chN xss = N := ⟨_, rfl⟩
  rw [hN] at hn
  have HN := Lib.hid hN
  have HU := Lib.hid hU
  have HC := Lib.hid hC
  have hm0 := hC.m0
  clear hU hC hN
  go_enter Try.func63, Try.ntmps63
  go_wp2
  have hB0 : Below w.heap.size w (w.alloc (.cells #[] 2)) := (Below.refl _ _).alloc (Nat.le_refl _) _
  have ho0 : OwnI w.heap.size (w.alloc (.cells #[] 2)) (.slice (some ⟨w.heap.size, 0, none⟩) 0 0) [] := World.ownsRow_made w #[] 0 (Nat.le_refl _) (by unfold maxLen; omega) rfl
  go_loopw [5, 6] (fun v q wr => ∃ s : Nat, s ≤ N ∧ q = .int .i64 s ∧ OwnI w.heap.size wr v ((togL xss i).take s) ∧ Below w.heap.size w wr) (fun _ q _ => N - (intOf q).toNat)
  case atStart => exact ⟨0, Nat.zero_le _, rfl, by simpa using ho0, hB0⟩
  case round =>
    obtain ⟨s, hs, rfl, ho, hB⟩ := hrel
    clear ho0 hB0
    have hU1 := HU.out.later hB
    obtain ⟨b, off, a3, c3, rfl, hb, k1, _⟩ := hU1.read (show 0 < xss.length by omega)
    rw [Nat.add_zero] at k1
    rw [show (lst xss 0).length = N from HN.out] at k1
    have hl0 : 0 < xss.length := by omega
    have HU1 := Lib.hid hU1
    clear hU1
    by_cases hlt : s < N
    · have hlen : ((togL xss i).take s).length = s := by rw [List.length_take, togL_length, HN.out]; omega
      obtain ⟨xs, hxs⟩ : ∃ xs, (togL xss i).take s = xs := ⟨_, rfl⟩
      rw [hxs] at ho hlen
      have hlen2 : xs.length ≤ 120 := by omega
      have Ht := Lib.hid (show (togL xss i).take (s + 1) = xs ++ [togA xss i s] by rw [togTo_succ (by rw [HN.out]; exact hlt), hxs])
      have hki : (s : Int) < (N : Int) := by omega
      have hsw := hB.size
      clear hxs hlen
      go_wp2_with fail
      refine (l08Has_c _ xss s i k _ ⟨u, HU1.out⟩ HC.out (by rw [HN.out]; exact hlt)).mono ?_
      rintro e w5 ⟨rfl, rfl⟩
      by_cases hp : 0 < (chL xss s i).length
      · have Hx := Lib.hid (show togA xss i s = i from if_pos hp)
        have hpi : (0 : Int) < (((chL xss s i).length : Nat) : Int) := by omega
        clear hp
        go_wp2_with (at_builtin; refine wpList_append_own _ rfl _ _ 37 rfl w.heap.size 2 i0 (.int .i64 0) 1 8 Try.underlying37 hi hz0 hz1 hz2 rfl (by decide) _ _ _ rfl (World.ownsRow.alloc ho _) ⟨wr.heap.size, 0, none⟩ 1 1 [.int .i64 (i)] rfl rfl (Go.cell_one_new _ _ _) (by simp [Value.oneCell']) (by unfold maxLen; omega) (by omega) (by simp; omega) ?_)
        intro v' w1 hown' hgrow _
        have ho2 := ownI_snoc hown'
        have hB2 : Below w.heap.size w w1 := (hB.alloc hsw _).grown hgrow (by simp; omega) (fun j e => by have := (ho.blk j e).1; omega)
        have hgr : wr.grownBy w1 _ := (World.grownBy_alloc _ _ _).trans hgrow
        clear hown' hgrow
        clear hgr
        go_wp2
        go_roundw
        case rel => exact ⟨s + 1, by omega, by simp, by rw [Ht.out, Hx.out]; exact ho2, hB2⟩
        case measure => simp [intOf]; omega
      · have Hx := Lib.hid (show togA xss i s = -1 from if_neg hp)
        have hpi : ¬ (0 : Int) < (((chL xss s i).length : Nat) : Int) := by omega
        clear hp
        go_wp2_with (at_builtin; refine wpList_append_own _ rfl _ _ 37 rfl w.heap.size 2 i0 (.int .i64 0) 1 8 Try.underlying37 hi hz0 hz1 hz2 rfl (by decide) _ _ _ rfl (World.ownsRow.alloc ho _) ⟨wr.heap.size, 0, none⟩ 1 1 [.int .i64 (-1)] rfl rfl (Go.cell_one_new _ _ _) (by simp [Value.oneCell']) (by unfold maxLen; omega) (by omega) (by simp; omega) ?_)
        intro v' w1 hown' hgrow _
        have ho2 := ownI_snoc hown'
        have hB2 : Below w.heap.size w w1 := (hB.alloc hsw _).grown hgrow (by simp; omega) (fun j e => by have := (ho.blk j e).1; omega)
        have hgr : wr.grownBy w1 _ := (World.grownBy_alloc _ _ _).trans hgrow
        clear hown' hgrow
        clear hgr
        go_wp2
        go_roundw
        case rel => exact ⟨s + 1, by omega, by simp, by rw [Ht.out, Hx.out]; exact ho2, hB2⟩
        case measure => simp [intOf]; omega
    · obtain rfl : s = N := by omega
      rw [List.take_of_length_le (by rw [togL_length, HN.out]; exact Nat.le_refl _)] at ho
      have hlt2 := togL_length xss i
      obtain ⟨T, hT⟩ : ∃ T, togL xss i = T := ⟨_, rfl⟩
      rw [hT] at ho hlt2 ⊢
      have hTl : T.length ≤ 120 := by rw [hlt2, HN.out]; omega
      have HT := Lib.hid hT
      clear hT hlt2
      obtain ⟨a5, c5, rfl⟩ := ho.ints.shape
      go_wp2_with fail
      refine (l01Greatest_c _ T i _ ho.ints (by omega)).mono ?_
      rintro e w5 ⟨rfl, hb5⟩
      have hB5 := hB.trans (hb5.mono hB.size)
      go_wp2
      go_ret
      exact ⟨ret_int (by rw [HT.out]), hB5⟩

/-! ### WaitsTogether -/
def wtB (k : Int) (xss : List (List Int)) (i : Int) : Bool := chOk k xss && inB i 0 (k - 1)
def wtR (k : Int) (xss : List (List Int)) (i : Int) : Int := if wtB k xss i then greatW (togL xss i) i else 0
def wtC (k : Int) (xss : List (List Int)) (i : Int) : Int := if wtB k xss i then 0 else 2
theorem ret_i2w {a b c d : Int} (h : a = b) (h2 : c = d) : Ending.returned (.tuple #[.int .i64 a, .int .i64 c]) = .returned (.tuple #[.int .i64 b, .int .i64 d]) := by rw [h, h2]

set_option maxRecDepth 100000 in
set_option maxHeartbeats 4000000 in
theorem s_WaitsTogether (k : Int) (c1 : Value) (xss : List (List Int)) (i : Int) (w : World) (hk : I64 k) (hX : Lsts w.heap.size w c1 xss) (hm : xss.length ≤ 1048576) (hm2 : ∀ c, c < xss.length → (lst xss c).length ≤ 1048576) (_hi : I64 i) :
    Calls Try.prog 32 #[.int .i64 k, c1, .int .i64 i] w fun e w' => e = .returned (.tuple #[.int .i64 (wtR k xss i), .int .i64 (wtC k xss i)]) ∧ Below w.heap.size w w' := by
  obtain ⟨a, cap, rfl⟩ := hX.shape
  have HX := Lib.hid hX
  have Hm2 := Lib.hid hm2
  clear hX hm2
  cases hc : chOk k xss
  · have Hf := Lib.hid (show wtB k xss i = false by unfold wtB; rw [hc]; rfl)
    have Hc := Lib.hid hc
    clear hc
    go_enter Try.func32, Try.ntmps32
    go_wp2_with fail
    refine (l08Are_c k _ xss _ hk HX.out hm Hm2.out).mono ?_
    rintro e w1 ⟨he, hb⟩
    rw [Hc.out] at he
    subst he
    go_wp2
    go_ret2
    exact ⟨ret_i2w (by unfold wtR; rw [Hf.out]; rfl) (by unfold wtC; rw [Hf.out]; rfl), hb⟩
  have hC := chOk_iff.1 hc
  have hk0 := hC.k0
  have hk8 := hC.k8
  have Hc := Lib.hid hc
  have HC := Lib.hid hC
  clear hc hC
  cases hi : inB i 0 (k - 1)
  · have Hf := Lib.hid (show wtB k xss i = false by unfold wtB; rw [hi, Bool.and_false])
    have Hi := Lib.hid hi
    clear hi
    go_enter Try.func32, Try.ntmps32
    go_wp2_with fail
    refine (l08Are_c k _ xss _ hk HX.out hm Hm2.out).mono ?_
    rintro e w1 ⟨he, hb⟩
    rw [Hc.out] at he
    subst he
    go_wp2_with fail
    refine (l01In_d false _ _ _ _ Hi.out).mono ?_
    rintro e w' ⟨rfl, rfl⟩
    go_wp2
    go_ret2
    exact ⟨ret_i2w (by unfold wtR; rw [Hf.out]; rfl) (by unfold wtC; rw [Hf.out]; rfl), hb⟩
  · have Hf := Lib.hid (show wtB k xss i = true by unfold wtB; rw [Hc.out, hi]; rfl)
    have Hi := Lib.hid hi
    clear hi
    go_enter Try.func32, Try.ntmps32
    go_wp2_with fail
    refine (l08Are_c k _ xss _ hk HX.out hm Hm2.out).mono ?_
    rintro e w1 ⟨he, hb⟩
    rw [Hc.out] at he
    subst he
    go_wp2_with fail
    refine (l01In_d true _ _ _ _ Hi.out).mono ?_
    rintro e w' ⟨rfl, rfl⟩
    go_wp2_with fail
    refine (l08Wait_c _ xss i k _ (HX.out.later hb) HC.out).mono ?_
    rintro e w2 ⟨rfl, hb2⟩
    go_wp2
    go_ret2
    exact ⟨ret_i2w (by unfold wtR; rw [Hf.out]; rfl) (by unfold wtC; rw [Hf.out]; rfl), hb.trans (hb2.mono hb.size)⟩

end Go.Proofs.Ytlgjnceedjbakaa
