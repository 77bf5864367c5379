/-
  DoubledTurns and ExchangeSlots of both; lists one behind the other, some of which may be nil.
  Conditions: lists of at most 1048576 elements.
-/
import Derived.Laws.AppendOwnNone
import Derived.Test.YtnhdfpmjebfjmaaShift
import Derived.Test.YtnhdfpmjebfjmaaCls
namespace Go.Proofs.Ytnhdfpmjebfjmaa
open Go.RowKit Go.Shelf
attribute [local go_sem] Oper.semAt_some

/-! ### lists, one behind the other -/
def catL (ls : Nat → List Int) : Nat → List Int
  | 0 => []
  | k + 1 => catL ls k ++ ls k

set_option maxRecDepth 100000 in
set_option maxHeartbeats 8000000 in
theorem concatL_c (N : Nat) (ls : Nat → List Int) (ad : Nat → Option Addr) (cp : Nat → Nat) (w : World) (bk : Nat) (hbk : bk < w.heap.size)
    (hc : ∀ k, k < N → w.cell? ⟨bk, k, none⟩ = some (.slice (ad k) (ls k).length (cp k))) (hI : ∀ k, k < N → Ints w.heap.size w (.slice (ad k) (ls k).length (cp k)) (ls k))
    (hnil : ∀ k, k < N → ad k = none → ls k = [] ∧ cp k = 0)
    (hN : N ≤ 1000) (h0 : 0 < (catL ls N).length) (hb : ∀ k, k ≤ N → (catL ls k).length ≤ 1000) :
    Calls Try.prog 73 #[.slice (some ⟨bk, 0, none⟩) N N] w (GivesI w (catL ls N) id) := by
  obtain ⟨i0, hi0, hz0, hz1, hz2⟩ := info_parts Try.infoI
  have Hc := Lib.hid hc
  have HI := Lib.hid hI
  have Hb := Lib.hid hb
  have Hnil := Lib.hid hnil
  clear hc hI hb hnil
  go_enter Try.func73, Try.ntmps73
  go_wp2_with fail
  go_loop [3, 11] (fun s i => ∃ k : Nat, k ≤ N ∧ i = .int .i64 k ∧ s = .int .i64 ((catL ls k).length : Nat)) (fun _ i => N - (intOf i).toNat)
  case atStart => exact ⟨0, by omega, rfl, rfl⟩
  case round =>
    obtain ⟨k, hk, rfl, rfl⟩ := hrel
    have hbk2 := Hb.out k hk
    obtain ⟨q, hq⟩ : ∃ q, (catL ls k).length = q := ⟨_, rfl⟩
    have Hq := Lib.hid hq
    rw [hq] at hbk2 ⊢
    clear hq
    by_cases hlt : k < N
    · have hck := Hc.out k hlt
      have hk1 := Hb.out (k + 1) (by omega)
      have hkl : (catL ls (k + 1)).length = q + (ls k).length := by rw [← Hq.out]; simp [catL]
      rw [hkl] at hk1
      have Hkl := Lib.hid hkl
      have hltI : (k : Int) < (N : Int) := by omega
      have hw : IntKind.i64.wrap ((q : Int) + ((ls k).length : Int)) = ((q + (ls k).length : Nat) : Int) := by rw [IntKind.wrap_i64]; omega
      clear hkl
      go_wp2
      exact ⟨⟨k + 1, by omega, by simp, by rw [Hkl.out]; simp⟩, by simp [intOf]; omega⟩
    · obtain rfl : k = N := by omega
      have hq0 : 0 < q := by rw [← Hq.out]; exact h0
      go_wp2_with fail
      refine (growNil_c q w hq0 (by omega)).mono ?_
      rintro e w1 ⟨v, rfl, ho, hB⟩
      simp only [id]
      go_wp2
      go_loopw [6, 27] (fun v i wr => ∃ j : Nat, j ≤ k ∧ i = .int .i64 j ∧ OwnI w.heap.size wr v (catL ls j) ∧ Below w.heap.size w wr) (fun _ i _ => k - (intOf i).toNat)
      case atStart => exact ⟨0, by omega, rfl, ho, hB⟩
      case round =>
        obtain ⟨j, hj, rfl, hoj, hBj⟩ := hrel
        clear ho hB
        have hsw := hBj.size
        have hbj := Hb.out j hj
        by_cases hlj : j < k
        · have hcj := (hBj.cell (p := ⟨bk, j, none⟩) hbk).trans (Hc.out j hlj)
          have hIj := (HI.out j hlj).below hBj
          have hbj1 := Hb.out (j + 1) (by omega)
          have hkl : (catL ls (j + 1)).length = (catL ls j).length + (ls j).length := by simp [catL]
          rw [hkl] at hbj1
          have hltJ : (j : Int) < (k : Int) := by omega
          have Hnx := Lib.hid (show catL ls (j + 1) = catL ls j ++ ls j from rfl)
          have hb5 : ∀ j, u6.ownBlock = some j → w.heap.size ≤ j := fun j e => (hoj.blk j e).1
          have Hb5 := Lib.hid hb5
          have hnl := Hnil.out j hlj
          clear hkl hb5
          cases had : ad j with
          | none =>
            obtain ⟨h1, h2⟩ := hnl had
            rw [had, h1, h2] at hcj
            have hoj2 : OwnI w.heap.size wr u6 (catL ls (j + 1)) := by rw [Hnx.out, h1, List.append_nil]; exact hoj
            simp only [List.length_nil] at hcj
            clear hIj had h1 hnl
            go_wp2_with (at_builtin; refine wpList_append_own_none rfl _ _ 22 rfl w.heap.size 2 i0 1 Try.underlying22 hi0 _ _ _ rfl hoj rfl ?_)
            go_wp2
            go_roundw
            case rel => exact ⟨j + 1, by omega, by simp, hoj2, hBj⟩
            case measure => simp [intOf]; omega
          | some aj =>
            rw [had] at hcj hIj
            clear hnl had
            obtain ⟨b, off, sp⟩ := aj
            have hsrc : ∀ q u, ((ls j).map (Value.int .i64))[q]? = some u → wr.cell? ((⟨b, off, sp⟩ : Addr).add q) = some u := fun q u hq => by
              obtain ⟨a', c', e, h2⟩ := hIj
              cases e
              rcases h2 with h2 | ⟨b2, off2, e, _, hc⟩
              · rw [h2] at hq; simp at hq
              · cases e
                have hql : q < (ls j).length := by
                  have := (List.getElem?_eq_some_iff.1 hq).1
                  simpa using this
                rw [Go.WideShapes.add_plain, hc q hql]
                rw [List.getElem?_map, getElem?_nth hql] at hq
                exact hq
            have Hsrc := Lib.hid hsrc
            clear hIj hsrc
            go_wp2_with (at_builtin; refine wpList_append_own _ rfl _ _ 22 rfl w.heap.size 2 i0 (.int .i64 0) 1 8 Try.underlying22 hi0 hz0 hz1 hz2 rfl (by decide) _ _ _ rfl hoj ⟨b, off, sp⟩ (ls j).length (cp j) ((ls j).map (.int .i64)) rfl (by simp) Hsrc.out (cells_one _) (by unfold maxLen; omega) (by omega) hsw ?_)
            intro v' w3 hown' hgrow _
            have ho3 := ownI_app hown'
            rw [← Hnx.out] at ho3
            have hB3 : Below w.heap.size w w3 := hBj.grown hgrow hsw (fun j e => Hb5.out j e)
            clear hown' hgrow
            go_wp2
            go_roundw
            case rel => exact ⟨j + 1, by omega, by simp, ho3, hB3⟩
            case measure => simp [intOf]; omega
        · obtain rfl : j = k := by omega
          go_wp2
          go_ret
          exact ⟨_, rfl, hoj, hBj⟩

/-! ### doubled turns -/
def dbl : Nat → List Int
  | 0 => []
  | k + 1 => dbl k ++ [(k : Int)] ++ dbl k
theorem dbl_len : ∀ k : Nat, k ≤ 5 → (dbl k).length ≤ 31
  | 0, _ => by simp [dbl]
  | 1, _ => by simp [dbl]
  | 2, _ => by simp [dbl]
  | 3, _ => by simp [dbl]
  | 4, _ => by simp [dbl]
  | 5, _ => by simp [dbl]
  | k + 6, h => by omega
def dbR (k : Int) : List Int := if inB k 1 5 then dbl k.toNat else []
def dbC (k : Int) : Int := if inB k 1 5 then 0 else 2
theorem dbR_len (k : Int) : (dbR k).length * 8 ≤ 140737488351232 := by
  unfold dbR
  split
  · rename_i h
    have := inB_true.1 h
    have := dbl_len k.toNat (by omega)
    omega
  · simp

set_option maxRecDepth 100000 in
set_option maxHeartbeats 8000000 in
theorem l07Doubled_c (k : Nat) (hk : k ≤ 5) : ∀ w : World, Calls Try.prog 72 #[.int .i64 k] w fun e w' => ∃ g cap, e = .returned (.slice (some ⟨g, 0, none⟩) (dbl k).length cap) ∧ OwnI w.heap.size w' (.slice (some ⟨g, 0, none⟩) (dbl k).length cap) (dbl k) ∧ Below w.heap.size w w' := by
  obtain ⟨i0, hi, hz0, hz1, hz2⟩ := info_parts Try.infoI2
  induction k with
  | zero =>
    intro w
    have hB0 : Below w.heap.size w (w.alloc (.cells #[] 2)) := (Below.refl _ w).alloc (Nat.le_refl _) _
    have ho := ownI_empty w
    go_enter Try.func72, Try.ntmps72
    go_wp2
    go_ret
    exact ⟨_, _, rfl, ho, hB0⟩
  | succ k ih =>
    intro w
    have ih := ih (by omega)
    have hlk := dbl_len k (by omega)
    have hk0 : (((k + 1 : Nat) : Int) == 0) = false := by rw [beq_eq_false_iff_ne]; omega
    have hk1 : ((k + 1 : Nat) : Int) - 1 = (k : Int) := by omega
    obtain ⟨q, hq⟩ : ∃ q : Int, ((k + 1 : Nat) : Int) = q := ⟨_, rfl⟩
    have hqb : 1 ≤ q ∧ q ≤ 5 := by omega
    rw [hq] at hk0 hk1 ⊢
    have Hstep := Lib.hid (show dbl (k + 1) = dbl k ++ [(k : Int)] ++ dbl k from rfl)
    have Ih := Lib.hid ih
    clear hq ih
    go_enter Try.func72, Try.ntmps72
    go_wp2_with fail
    refine (Ih.out w).mono ?_
    rintro e w1 ⟨g, c, rfl, ho, hB⟩
    have hI1 := ho.ints
    go_wp2_with fail
    refine (l01OwnS_c g 0 c (dbl k) w1 hI1 (by omega)).mono ?_
    rintro e w2 ⟨v, rfl, ho2, hB2⟩
    simp only [id]
    have hBw2 := hB.trans (hB2.mono hB.size)
    have ho2b := ho2.base hB.size
    have hoB := ho.below hB2
    have hgb := (ho.blk g rfl).1
    have hgl := (ho.blk g rfl).2
    have hnv : v.ownBlock ≠ some g := fun e => by have := (ho2.blk g e).1; omega
    have hs2 := hBw2.size
    have hs12 := hB2.size
    clear ho2 hB2 hB hI1 ho
    go_wp2_with (at_builtin; refine wpList_append_own_at _ rfl _ _ 22 rfl w.heap.size 2 i0 (.int .i64 0) 1 8 Try.underlying22 hi hz0 hz1 hz2 rfl (by decide) _ _ _ rfl (World.ownsRow.alloc ho2b _) ⟨w2.heap.size, 0, none⟩ 1 1 [.int .i64 k] rfl rfl (Go.cell_one_new _ _ _) (by simp [Value.oneCell']) (by unfold maxLen; omega) (by omega) (by simp; omega) ?_)
    intro v3 w3 hown' hgrow _ hat
    have ho3 := ownI_snoc hown'
    have hgr : w2.grownBy w3 v.ownBlock := (World.grownBy_alloc _ _ _).trans hgrow
    have hB3 : Below w.heap.size w w3 := hBw2.grown hgr hs2 (fun j e => (ho2b.blk j e).1)
    have hoB3 := hoB.kept hgr (.inr fun e => hnv e.symm)
    have hI3 := hoB3.ints
    have hs3 := hB3.size
    have h23 := hgr.size
    obtain ⟨g3, c3, e3, hg3, hg3l⟩ := ho3.shape (by simp)
    clear hown' hgrow hat hgr hoB ho2b hnv hBw2
    have hl3 : (dbl k ++ [(k : Int)]).length ≤ 32 := by simp; omega
    obtain ⟨d1, hd1⟩ : ∃ d1, dbl k ++ [(k : Int)] = d1 := ⟨_, rfl⟩
    rw [hd1] at ho3 hl3 e3
    have Hd1 := Lib.hid hd1
    subst e3
    clear hd1
    go_wp2_with (at_builtin; refine wpList_append_own _ rfl _ _ 22 rfl w.heap.size 2 i0 (.int .i64 0) 1 8 Try.underlying22 hi hz0 hz1 hz2 rfl (by decide) _ _ _ rfl ho3 ⟨g, 0, none⟩ (dbl k).length c ((dbl k).map (.int .i64)) rfl (by simp) (cells_src hI3) (cells_one _) (by unfold maxLen; omega) (by omega) hs3 ?_)
    intro v4 w4 hown4 hgrow4 _
    have ho4 := ownI_app hown4
    rw [← Hd1.out, ← Hstep.out] at ho4
    have hB4 : Below w.heap.size w w4 := hB3.grown hgrow4 hs3 (fun j e => (ho3.blk j e).1)
    obtain ⟨g4, c4, rfl, hg4, hg4l⟩ := ho4.shape (by rw [Hstep.out]; simp; omega)
    clear hown4 hgrow4
    go_wp2
    go_ret
    exact ⟨_, _, rfl, ho4, hB4⟩

set_option maxRecDepth 100000 in
set_option maxHeartbeats 8000000 in
theorem s_DoubledTurns (x : Int) (w : World) (_hx : I64 x) :
    Calls Try.prog 38 #[.int .i64 x] w (GivesI w (dbR x) fun v => .tuple #[v, .int .i64 (dbC x)]) := by
  cases hib : inB x 1 5
  · have Hr := Lib.hid (show dbR x = [] by unfold dbR; rw [hib]; rfl)
    have Hc := Lib.hid (show dbC x = 2 by unfold dbC; rw [hib]; rfl)
    have Hib := Lib.hid hib
    clear hib
    go_enter Try.func38, Try.ntmps38
    go_wp2_with fail
    refine (l01In_d false _ _ _ _ Hib.out).mono ?_
    rintro e w' ⟨rfl, rfl⟩
    go_wp2
    go_ret2
    exact ⟨_, ret_v2 Hc.out.symm, by rw [Hr.out]; exact ownI_nil _ _, Below.refl _ _⟩
  · have hb := inB_true.1 hib
    obtain ⟨k, rfl⟩ : ∃ k : Nat, x = k := ⟨x.toNat, by omega⟩
    have Hr := Lib.hid (show dbR k = dbl k by unfold dbR; rw [hib, Int.toNat_natCast]; rfl)
    have Hc := Lib.hid (show dbC k = 0 by unfold dbC; rw [hib]; rfl)
    have Hib := Lib.hid hib
    clear hib
    go_enter Try.func38, Try.ntmps38
    go_wp2_with fail
    refine (l01In_d true _ _ _ _ Hib.out).mono ?_
    rintro e w' ⟨rfl, rfl⟩
    go_wp2_with fail
    refine (l07Doubled_c k (by omega) _).mono ?_
    rintro e w1 ⟨g, c, rfl, ho, hB⟩
    go_wp2
    go_ret2
    exact ⟨_, ret_v2 Hc.out.symm, by rw [Hr.out]; exact ho, hB⟩

theorem cell3_new (w : World) (t : TypeId) (x y z : Value) : ∀ k, k < 3 → (w.alloc (.cells #[x, y, z] t)).cell? ⟨w.heap.size, k, none⟩ = some (match k with | 0 => x | 1 => y | _ => z) := fun k hk => by
  match k, hk with
  | 0, _ => simp
  | 1, _ => simp
  | 2, _ => simp

set_option maxRecDepth 100000 in
set_option maxHeartbeats 8000000 in
theorem i_DoubledTurns (x : Int) (w : World) (_hx : I64 x) :
    Calls Try.prog 39 #[.int .i64 x] w (GivesI w (dbR x) fun v => .tuple #[v, .int .i64 (dbC x)]) := by
  by_cases h1 : x < 1
  · have hib : inB x 1 5 = false := inB_false.2 (by omega)
    have Hr := Lib.hid (show dbR x = [] by unfold dbR; rw [hib]; rfl)
    have Hc := Lib.hid (show dbC x = 2 by unfold dbC; rw [hib]; rfl)
    clear hib
    go_enter Try.func39, Try.ntmps39
    go_wp2
    go_ret2
    exact ⟨_, ret_v2 Hc.out.symm, by rw [Hr.out]; exact ownI_nil _ _, Below.refl _ _⟩
  by_cases h5 : 5 < x
  · have hib : inB x 1 5 = false := inB_false.2 (by omega)
    have Hr := Lib.hid (show dbR x = [] by unfold dbR; rw [hib]; rfl)
    have Hc := Lib.hid (show dbC x = 2 by unfold dbC; rw [hib]; rfl)
    clear hib
    go_enter Try.func39, Try.ntmps39
    go_wp2
    go_ret2
    exact ⟨_, ret_v2 Hc.out.symm, by rw [Hr.out]; exact ownI_nil _ _, Below.refl _ _⟩
  · have hib : inB x 1 5 = true := inB_true.2 (by omega)
    obtain ⟨m, rfl⟩ : ∃ k : Nat, x = k := ⟨x.toNat, by omega⟩
    have Hr := Lib.hid (show dbR m = dbl m by unfold dbR; rw [hib, Int.toNat_natCast]; rfl)
    have Hc := Lib.hid (show dbC m = 0 by unfold dbC; rw [hib]; rfl)
    have hm5 : m ≤ 5 := by omega
    clear hib
    go_enter Try.func39, Try.ntmps39
    go_wp2
    go_loopw [4, 13] (fun v i wr => ∃ (k : Nat) (a : Option Addr) (c : Nat), (k ≤ m ∧ i = .int .i64 k ∧ .slice a (dbl k).length c = v ∧ (a = none → dbl k = [] ∧ c = 0)) ∧ OwnI w.heap.size wr (.slice a (dbl k).length c) (dbl k) ∧ Below w.heap.size w wr) (fun _ i _ => m - (intOf i).toNat)
    case atStart => exact ⟨0, none, 0, ⟨Nat.zero_le _, rfl, rfl, fun _ => ⟨rfl, rfl⟩⟩, ownI_nil _ _, Below.refl _ _⟩
    case round =>
      obtain ⟨k, a, c, ⟨hk, rfl, rfl, hnil⟩, ho, hB⟩ := hrel
      have Hnil := Lib.hid hnil
      have hsw := hB.size
      have hlk := dbl_len k (by omega)
      obtain ⟨L, hL⟩ : ∃ L, (dbl k).length = L := ⟨_, rfl⟩
      have HL := Lib.hid hL
      rw [hL] at ho hlk ⊢
      clear hnil hL
      by_cases hlt : k < m
      · obtain ⟨Wa, hWa⟩ : ∃ Wa, wr.alloc (.cells #[.int .i64 k] 2) = Wa := ⟨_, rfl⟩
        have hba : Below wr.heap.size wr Wa := by rw [← hWa]; exact (Below.refl _ _).alloc (Nat.le_refl _) _
        have ba : Boxed Wa wr.heap.size 2 (.int .i64 k) := by rw [← hWa]; exact Boxed.new _ _ _
        obtain ⟨Wb, hWb⟩ : ∃ Wb, Wa.alloc (.cells #[.slice a L c, .slice (some ⟨wr.heap.size, 0, none⟩) 1 1, .slice a L c] 22) = Wb := ⟨_, rfl⟩
        have hbb : Below Wa.heap.size Wa Wb := by rw [← hWb]; exact (Below.refl _ _).alloc (Nat.le_refl _) _
        have hsa : wr.heap.size + 1 = Wa.heap.size := by rw [← hWa]; simp
        have hsb : Wa.heap.size + 1 = Wb.heap.size := by rw [← hWb]; simp
        have hBb := (hB.trans (hba.mono hB.size)).trans (hbb.mono (by omega))
        have bab := boxed_later ba hbb
        have hob := (ho.below hba).below hbb
        have hone : Ints Wb.heap.size Wb (.slice (some ⟨wr.heap.size, 0, none⟩) 1 1) [(k : Int)] := ⟨_, 1, rfl, .inr ⟨wr.heap.size, 0, rfl, by omega, fun j hj => by
          obtain rfl : j = 0 := by simpa using hj
          simpa [nth] using bab.cell⟩⟩
        have hcl := cell3_new Wa 22 (.slice a L c) (.slice (some ⟨wr.heap.size, 0, none⟩) 1 1) (.slice a L c)
        rw [hWb, ← hsa] at hcl
        have HC := Lib.hid hcl
        have hstep : catL (fun j => if j = 1 then [(k : Int)] else dbl k) 3 = dbl (k + 1) := by simp [catL, dbl]
        have Hst := Lib.hid hstep
        have hI0 : Ints Wb.heap.size Wb (.slice a L c) (dbl k) := by have := hob.ints; rwa [← HL.out] at this ⊢
        have HI0 := Lib.hid hI0
        have Hone := Lib.hid hone
        have hwl2 : wr.heap.size + 1 < Wb.heap.size := by omega
        have HWa := Lib.hid hWa
        have HWb := Lib.hid hWb
        clear hob bab ba hba hbb hcl hstep hI0 hone hsa hWa
        go_wp2_with fail
        rw [HWa.out, HWb.out]
        refine (concatL_c 3 (fun j => if j = 1 then [(k : Int)] else dbl k) (fun j => if j = 1 then some ⟨wr.heap.size, 0, none⟩ else a) (fun j => if j = 1 then 1 else c) Wb (wr.heap.size + 1) hwl2 ?q1 ?q2 ?q3 (by omega) ?q4 ?q5).mono ?_
        case q1 =>
          intro j hj
          have h := HC.out j hj
          rw [← HL.out] at h
          match j, hj with
          | 0, _ => exact h
          | 1, _ => exact h
          | 2, _ => exact h
        case q2 =>
          intro j hj
          have h1 := HI0.out
          rw [← HL.out] at h1
          match j, hj with
          | 0, _ => exact h1
          | 1, _ => exact Hone.out
          | 2, _ => exact h1
        case q3 =>
          intro j hj hn
          match j, hj with
          | 0, _ => exact Hnil.out hn
          | 1, _ => cases hn
          | 2, _ => exact Hnil.out hn
        case q4 => rw [Hst.out]; simp [dbl]; omega
        case q5 =>
          intro j hj
          have h3 : (catL (fun j => if j = 1 then [(k : Int)] else dbl k) 3).length ≤ 1000 := by rw [Hst.out]; have := dbl_len (k + 1) (by omega); omega
          match j, hj with
          | 0, _ => simp [catL]
          | 1, _ => simp [catL, HL.out]; omega
          | 2, _ => simp [catL, HL.out]; omega
          | 3, _ => exact h3
        rintro e w5 ⟨v, rfl, ho5, hB5⟩
        simp only [id]
        rw [Hst.out] at ho5
        have hB6 := hBb.trans (hB5.mono hBb.size)
        have ho6 := ho5.base hBb.size
        obtain ⟨g6, c6, rfl, _, _⟩ := ho6.shape (by simp [dbl]; omega)
        clear ho5 hB5 ho
        obtain ⟨d2, hd2⟩ : ∃ d2, dbl (k + 1) = d2 := ⟨_, rfl⟩
        have Hd2 := Lib.hid hd2
        rw [hd2] at ho6 ⊢
        clear hd2
        go_wp2
        go_roundw
        case rel => exact ⟨k + 1, some ⟨g6, 0, none⟩, c6, ⟨by omega, by simp, by rw [Hd2.out], fun h => (by cases h)⟩, by rw [Hd2.out]; exact ho6, hB6⟩
        case measure => simp [intOf]; omega
      · obtain rfl : k = m := by omega
        go_wp2
        go_ret2
        exact ⟨_, ret_v2 Hc.out.symm, by rw [Hr.out]; exact ho, hB⟩

end Go.Proofs.Ytnhdfpmjebfjmaa
