/-
  The model's list of lasting states.
  Conditions: tasks with at most 4000 states.
-/
import Derived.Test.YtieobjoijalijaaNumS
namespace Go.Proofs.Ytieobjoijalijaa
open Go.RowKit Go.Shelf
attribute [local go_sem] Oper.semAt_some

/-! ### the mathematics -/
def bAt (bs : List Bool) (n : Int) : Bool := bs[n.toNat]?.getD false
/-- a choice leads to a state that is left -/
def SucB (zs : List Int) (bs : List Bool) (st : List Int) : Prop := ∃ c, IsCh zs.length c ∧ Opn st c ∧ bAt bs (numL zs (stepL zs st c)) = true
structure LInv (zs : List Int) (bs : List Bool) : Prop where
  len : bs.length = cntN zs
  all : ∀ n : Nat, n < cntN zs → Lasting zs (ofL zs n) → bs[n]? = some true
open Classical in
noncomputable def lastB (zs : List Int) : List Bool := (List.range (cntN zs)).map fun n : Nat => decide (Lasting zs (ofL zs n))
theorem num_nat {zs st : List Int} (hp : Pos zs) (hs : IsSt zs st) : ∃ m : Nat, numL zs st = m ∧ m < cntN zs ∧ ofL zs (m : Int) = st := by
  have h1 := numL_bd hs
  have h2 := cntL_cntN hp
  exact ⟨(numL zs st).toNat, by omega, by omega, by rw [show (((numL zs st).toNat : Nat) : Int) = numL zs st by omega, ofL_numL hs]⟩
theorem LInv.suc {zs : List Int} {bs : List Bool} (hp : Pos zs) (h : LInv zs bs) {st : List Int} (hs : IsSt zs st) (hl : Lasting zs st) : SucB zs bs st := by
  obtain ⟨c, hc, ho, hl2⟩ := lasting_step hl
  obtain ⟨m, h1, h2, h3⟩ := num_nat hp (hs.step ho)
  refine ⟨c, hc, ho, ?_⟩
  unfold bAt
  rw [h1]
  rw [← h3] at hl2
  simp [h.all m h2 hl2]
theorem LInv.set {zs : List Int} {bs : List Bool} (hp : Pos zs) (h : LInv zs bs) {n : Nat} (_hn : n < cntN zs) (hno : ¬ SucB zs bs (ofL zs n)) : LInv zs (bs.set n false) where
  len := by rw [List.length_set, h.len]
  all m hm hl := by
    by_cases e : n = m
    · subst e; exact absurd (h.suc hp (isSt_ofL hp _) hl) hno
    · rw [List.getElem?_set_ne e]; exact h.all m hm hl
open Classical in
theorem LInv.done {zs : List Int} {bs : List Bool} (hp : Pos zs) (h : LInv zs bs) (hc : ∀ n : Nat, n < cntN zs → bs[n]? = some true → SucB zs bs (ofL zs n)) : bs = lastB zs := by
  refine List.ext_getElem (by simp [lastB, h.len]) fun n h1 h2 => ?_
  have hn : n < cntN zs := by rw [← h.len]; exact h1
  have e1 : bs[n]? = some bs[n] := List.getElem?_eq_getElem h1
  simp only [lastB, List.getElem_map, List.getElem_range]
  by_cases hl : Lasting zs (ofL zs n)
  · rw [decide_eq_true hl]
    have := h.all n hn hl
    rw [e1] at this
    simpa using this
  · rw [decide_eq_false hl]
    cases hb : bs[n] with
    | false => rfl
    | true =>
      refine absurd ?_ hl
      refine lasting_of (fun st => IsSt zs st ∧ bAt bs (numL zs st) = true) ⟨isSt_ofL hp _, ?_⟩ fun x hx => ?_
      · unfold bAt
        rw [numL_ofL hp (by omega) (by rw [cntL_cntN hp]; omega)]
        simp [e1, hb]
      · obtain ⟨hxs, hxb⟩ := hx
        obtain ⟨m, k1, k2, k3⟩ := num_nat hp hxs
        have hm : bs[m]? = some true := by
          unfold bAt at hxb
          rw [k1] at hxb
          cases hv : bs[m]? with
          | none => simp [hv] at hxb
          | some b => simp [hv] at hxb; rw [hxb]
        obtain ⟨c, c1, c2, c3⟩ := hc m k2 hm
        rw [k3] at c2 c3
        exact ⟨c, c1, c2, .inl ⟨hxs.step c2, c3⟩⟩
def cntT (bs : List Bool) : Nat := bs.countP id
theorem cntT_set {bs : List Bool} {n : Nat} (h : bs[n]? = some true) : cntT (bs.set n false) < cntT bs := by
  unfold cntT
  induction bs generalizing n with
  | nil => simp at h
  | cons b bs ih =>
    cases n with
    | zero => simp at h; subst h; simp
    | succ n =>
      simp only [List.set_cons_succ, List.countP_cons]
      have := ih (n := n) (by simpa using h)
      omega
/-- how many cells of the block b, below n, are true -/
def trueN (W : World) (b n : Nat) : Nat := (List.range n).countP fun i => match W.cell? ⟨b, i, none⟩ with | some (.bool true) => true | _ => false
theorem trueN_of {B b cap : Nat} {W : World} {bs : List Bool} (h : OwnB B W (.slice (some ⟨b, 0, none⟩) bs.length cap) bs) : trueN W b bs.length = cntT bs := by
  unfold trueN cntT
  have h1 : ∀ i ∈ List.range bs.length, (match W.cell? ⟨b, i, none⟩ with | some (.bool true) => true | _ => false) = (bs[i]?.getD false) := fun i hi => by
    have hi' := List.mem_range.1 hi
    have e := List.getElem?_eq_getElem hi'
    rw [h.cellAt e, e]
    cases bs[i] <;> rfl
  rw [List.countP_congr (q := fun i => bs[i]?.getD false) (fun i hi => by rw [h1 i hi])]
  have h2 : bs = (List.range bs.length).map fun i => bs[i]?.getD false := List.ext_getElem (by simp) fun i k1 k2 => by simp [List.getElem?_eq_getElem k1]
  conv => rhs; rw [h2, List.countP_map]
  rfl

theorem OwnB.base {B B' : Nat} {W : World} {v : Value} {bs : List Bool} (h : OwnB B W v bs) (hB : B' ≤ B) : OwnB B' W v bs := by
  obtain ⟨h1, h2⟩ := h
  refine ⟨h1, ?_⟩
  rcases h2 with h0 | ⟨g, cap, cur, e, hg, r⟩
  · exact .inl h0
  · exact .inr ⟨g, cap, cur, e, by omega, r⟩
theorem trueN_eq {B b cap N : Nat} {W : World} {bs : List Bool} (h : OwnB B W (.slice (some ⟨b, 0, none⟩) N cap) bs) (hl : bs.length = N) : trueN W b N = cntT bs := by subst hl; exact trueN_of h
theorem bAt_nat (bs : List Bool) {m : Nat} (h : m < bs.length) : bs[m]? = some (bAt bs (m : Int)) := by
  unfold bAt
  rw [Int.toNat_natCast, List.getElem?_eq_getElem h]
  rfl
theorem ho_cell {B b cap N n : Nat} {W : World} {bs : List Bool} (h : OwnB B W (.slice (some ⟨b, 0, none⟩) N cap) bs) (hl : bs.length = N) (hn : n < N) : W.cell? ⟨b, n, none⟩ = some (.bool (bAt bs n)) := h.cellAt (bAt_nat bs (by omega))
theorem not_suc {zs : List Int} {bs : List Bool} {st : List Int} (h : ∀ i : Nat, i < zs.length + 1 → Opn st ((i : Int) - 1) → bAt bs (numL zs (stepL zs st ((i : Int) - 1))) = false) : ¬ SucB zs bs st := by
  rintro ⟨c, ⟨h1, h2⟩, ho, hb⟩
  have hc : (((c + 1).toNat : Nat) : Int) - 1 = c := by omega
  have := h (c + 1).toNat (by omega) (by rw [hc]; exact ho)
  rw [hc, hb] at this
  cases this
/-- the first k of n are true -/
def fillT (n k : Nat) : List Bool := (List.range n).map fun i => decide (i < k)
theorem fillT_length (n k : Nat) : (fillT n k).length = n := by simp [fillT]
theorem fillT_zero (n : Nat) : fillT n 0 = List.replicate n false := List.ext_getElem (by simp [fillT]) fun i h1 h2 => by simp [fillT]
theorem fillT_all (n : Nat) : fillT n n = List.replicate n true := List.ext_getElem (by simp [fillT]) fun i h1 h2 => by simp [fillT] at h1 ⊢; exact h1
theorem fillT_at {n k i : Nat} (h : i < n) : (fillT n k)[i]? = some (decide (i < k)) := by simp [fillT, h]
theorem fillT_succ {n k : Nat} : fillT n (k + 1) = (fillT n k).set k true := List.ext_getElem (by simp [fillT]) fun i h1 h2 => by
  simp only [fillT, List.getElem_map, List.getElem_range, List.getElem_set]
  by_cases e : k = i
  · rw [if_pos e, decide_eq_true (by omega)]
  · rw [if_neg e]; congr 1; apply propext; omega
theorem linv_start (zs : List Int) : LInv zs (List.replicate (cntN zs) true) := ⟨by simp, fun n hn _ => by simp [hn]⟩

set_option maxRecDepth 100000 in
set_option maxHeartbeats 8000000 in
theorem l02Lasting_c (c0 : Value) (zs : List Int) (w : World) (hI : Ints w.heap.size w c0 zs) (ht : tasksOk zs = true) (h4 : cntL zs ≤ 4000) :
    Calls Try.prog 66 #[.agg #[c0]] w fun e w' => ∃ b, e = .returned (.slice (some ⟨b, 0, none⟩) (cntN zs) (cntN zs)) ∧ OwnB w.heap.size w' (.slice (some ⟨b, 0, none⟩) (cntN zs) (cntN zs)) (lastB zs) ∧ Below w.heap.size w w' := by
  obtain ⟨a, cap, rfl⟩ := hI.shape
  obtain ⟨i0, hi, hz0, hz1, hz2⟩ := info_partsB Try.infoB
  have hp := pos_of ht
  have hcn := cntL_cntN hp
  have hl8 := tasksOk_len ht
  have hB0 : Below w.heap.size w (w.alloc (.cells #[.slice a zs.length cap] 28)) := (Below.refl _ w).alloc (Nat.le_refl _) _
  go_enter Try.func66, Try.ntmps66
  go_wp2_with fail
  refine (l02Count_c _ zs _ (hI.later hB0) ht).mono ?_
  rintro e w1 ⟨rfl, hb⟩
  have b1 : Boxed w1 w.heap.size 28 (.slice a zs.length cap) := boxed_later (Boxed.new _ _ _) hb
  have hB1 := hB0.trans (hb.mono (by simp))
  have hs1 := b1.lt
  rw [hcn]
  obtain ⟨N, hN⟩ : ∃ N, cntN zs = N := ⟨_, rfl⟩
  have HN := Lib.hid hN
  have hN4 : N ≤ 4000 := by omega
  rw [hN]
  clear hb hN hcn
  go_wp2_with (at_make; refine wpList_make_full _ rfl _ _ 76 rfl (w.heap.size + 1) 4 i0 (.bool false) 1 Try.underlying76 hi hz0 hz1 .i64 .i64 _ _ N rfl rfl rfl rfl ?c1 ?c2 ?c3 ?_)
  case c1 => rw [hz2]; omega
  case c2 => unfold maxLen; omega
  case c3 => omega
  intro w2 hown hgrow
  have ho1 := ownB_made hown
  have hB2 : Below w.heap.size w w2 := hB1.grown hgrow (by omega) (by simp)
  have b2 := b1.kept hgrow (by simp)
  obtain ⟨g, hg⟩ : ∃ g, w1.heap.size = g := ⟨_, rfl⟩
  rw [hg] at ho1 hs1 ⊢
  clear hown hgrow b1 hg
  rw [← fillT_zero] at ho1
  go_wp2_with fail
  go_loopw [19] (fun i wr => ∃ k : Nat, k ≤ N ∧ i = .int .i64 k ∧ OwnB (w.heap.size + 1) wr (.slice (some ⟨g, 0, none⟩) N N) (fillT N k) ∧ Boxed wr w.heap.size 28 (.slice a zs.length cap) ∧ Below w.heap.size w wr) (fun i _ => N - (intOf i).toNat)
  case atStart => exact ⟨0, Nat.zero_le _, rfl, ho1, b2, hB2⟩
  case round =>
    obtain ⟨k, hk, rfl, ho, hb0, hB⟩ := hrel
    by_cases hlt : k < N
    · have hc := ho.cellAt (fillT_at hlt)
      have hf := ho.frozen k
      have hgl := (ho.blk g rfl).1
      have Hs := Lib.hid (fillT_succ (n := N) (k := k))
      go_wp2_with fail
      go_roundw
      case rel => exact ⟨k + 1, by omega, by simp, by rw [Hs.out]; exact ho.stored k true, boxed_setFar hb0 (by omega), hB.setCell (p := ⟨g, k, none⟩) (by show w.heap.size ≤ g; omega) _⟩
      case measure => simp [intOf]; omega
    · have hkN : k = N := by omega
      rw [hkN, fillT_all] at ho
      have hL : LInv zs (List.replicate N true) := by have := linv_start zs; rwa [HN.out] at this
      obtain ⟨bs0, hbs0⟩ : ∃ bs, List.replicate N true = bs := ⟨_, rfl⟩
      rw [hbs0] at ho hL
      clear hbs0 ho1 b2 hB2 hkN
      go_wp2_with fail
      go_loopw [6] (fun mo wr => ∃ (bs : List Bool) (more : Bool), mo = .bool more ∧ OwnB (w.heap.size + 1) wr (.slice (some ⟨g, 0, none⟩) N N) bs ∧ LInv zs bs ∧ (more = false → ∀ n : Nat, n < N → bs[n]? = some true → SucB zs bs (ofL zs n)) ∧ Boxed wr w.heap.size 28 (.slice a zs.length cap) ∧ Below w.heap.size w wr)
        (fun mo wr => 2 * trueN wr g N + (match mo with | .bool true => 1 | _ => 0))
      case atStart => exact ⟨bs0, true, rfl, ho, hL, (fun e => by cases e), hb0, hB⟩
      case round =>
        clear ho hL hb0 hB
        obtain ⟨bsA, more, rfl, hoA, hLA, hcA, hbA, hBA⟩ := hrel
        cases more
        · have hd := hLA.done hp (fun n hn => hcA rfl n (by rw [← HN.out]; exact hn))
          subst hd
          go_wp2_with fail
          go_ret
          exact ⟨g, by rw [HN.out]; rfl, by rw [HN.out]; exact hoA.base (by omega), hBA⟩
        · go_wp2_with fail
          go_loopw [6, 7] (fun mo i wr => ∃ (bs : List Bool) (more : Bool) (k : Nat), k ≤ N ∧ i = .int .i64 k ∧ mo = .bool more ∧ OwnB (w.heap.size + 1) wr (.slice (some ⟨g, 0, none⟩) N N) bs ∧ LInv zs bs ∧ (more = false → bs = bsA ∧ ∀ n : Nat, n < k → bs[n]? = some true → SucB zs bs (ofL zs n)) ∧ (more = true → cntT bs < cntT bsA) ∧ Boxed wr w.heap.size 28 (.slice a zs.length cap) ∧ Below w.heap.size w wr)
            (fun _ i _ => N - (intOf i).toNat)
          case atStart => exact ⟨bsA, false, 0, Nat.zero_le _, rfl, rfl, hoA, hLA, fun _ => ⟨rfl, by simp⟩, (fun e => by cases e), hbA, hBA⟩
          case round =>
            obtain ⟨bs, more, n, hn, rfl, rfl, hoB, hLB, hcB, hmB, hbB, hBB⟩ := hrel
            have hlenB : bs.length = N := by rw [hLB.len, HN.out]
            have hlenA : bsA.length = N := by rw [hLA.len, HN.out]
            have kB := hbB.cell
            by_cases hlt : n < N
            · have hcell := ho_cell hoB hlenB hlt
              have hnc : (n : Int) < cntL zs := by rw [cntL_cntN hp, HN.out]; omega
              cases hbn : bAt bs n
              · rw [hbn] at hcell
                have hnb : bs[n]? ≠ some true := by rw [bAt_nat bs (by omega), hbn]; simp
                go_wp2_with fail
                go_roundw
                case rel => exact ⟨bs, more, n + 1, by omega, by simp, rfl, hoB, hLB, (fun e => ⟨(hcB e).1, fun m hm h => by by_cases e2 : m = n; exact absurd (e2 ▸ h) hnb; exact (hcB e).2 m (by omega) h⟩), hmB, hbB, hBB⟩
                case measure => simp [intOf]; omega
              · rw [hbn] at hcell
                have hbt : bs[n]? = some true := by rw [bAt_nat bs (by omega), hbn]
                go_wp2_with fail
                refine (l02Of_c _ zs n _ (hI.later hBB) ht (by omega) hnc).mono ?_
                rintro e w3 ⟨sv, rfl, hoS, hb3⟩
                have hsN := hBB.size
                have hst := isSt_ofL hp (n : Int)
                obtain ⟨st, hstn⟩ : ∃ st, ofL zs (n : Int) = st := ⟨_, rfl⟩
                rw [hstn] at hoS hst
                have Hst := Lib.hid hstn
                have hoB3 := hoB.below hb3
                have hbB3 := boxed_later hbB hb3
                have hBB3 := hBB.trans (hb3.mono hsN)
                obtain ⟨aS, cS, hsv⟩ := hoS.ints.shape
                simp only [id]
                subst hsv
                clear hstn hb3
                replace hoS := hoS.base (Nat.zero_le _)
                go_wp2_with fail
                go_loopw [9, 10] (fun gd c wr => ∃ (good : Bool) (j : Nat), gd = .bool good ∧ j ≤ zs.length + 1 ∧ c = .int .i64 ((j : Int) - 1) ∧ (good = true → SucB zs bs st) ∧ (good = false → ∀ i : Nat, i < j → Opn st ((i : Int) - 1) → bAt bs (numL zs (stepL zs st ((i : Int) - 1))) = false) ∧
                    OwnB (w.heap.size + 1) wr (.slice (some ⟨g, 0, none⟩) N N) bs ∧ OwnI 0 wr (.slice aS st.length cS) st ∧ Boxed wr w.heap.size 28 (.slice a zs.length cap) ∧ Below w.heap.size w wr)
                  (fun _ c _ => zs.length + 1 - (intOf c + 1).toNat)
                case atStart => exact ⟨false, 0, rfl, Nat.zero_le _, rfl, (fun e => by cases e), (fun _ i hi => by omega), hoB3, hoS, hbB3, hBB3⟩
                case round =>
                  clear hoB hbB hBB hoB3 hoS hbB3 hBB3 kB hcell
                  obtain ⟨good, j, rfl, hj, rfl, hgt, hgf, hoC, hoS, hbC, hBC⟩ := hrel
                  have kC := hbC.cell
                  have hsC := hBC.size
                  have hfz := hoC.frozen n
                  have hcn := ho_cell hoC hlenB hlt
                  cases good
                  · by_cases hjl : j < zs.length + 1
                    · go_wp2_with fail
                      refine (l01K_c _ _ _ _).mono ?_
                      rintro e w4 ⟨rfl, rfl⟩
                      have hBD := hBC.alloc hsC (.cells #[.slice a zs.length cap] 28)
                      have hoD : OwnB (w.heap.size + 1) (wr.alloc (.cells #[.slice a zs.length cap] 28)) (.slice (some ⟨g, 0, none⟩) N N) bs := hoC.below ((Below.refl _ wr).alloc (Nat.le_refl _) _)
                      have hoS4 : OwnI 0 (wr.alloc (.cells #[.slice a zs.length cap] 28)) (.slice aS st.length cS) st := hoS.below ((Below.refl _ wr).alloc (Nat.le_refl _) _)
                      have hbD := hbC.alloc (.cells #[.slice a zs.length cap] 28)
                      have kD := hbD.cell
                      clear hoC hoS hbC hBC hcn hfz kC
                      go_wp2_with fail
                      refine (l02Step_c _ zs _ st _ _ (hI.later hBD) ht (by exact hoS4.ints) hst).mono ?_
                      rintro e w5 (⟨hop, v, rfl, hoV, hb5⟩ | ⟨hop, rfl, hb5⟩)
                      · obtain ⟨aV, cV, rfl⟩ := hoV.ints.shape
                        have hss := hst.step hop
                        obtain ⟨mm, hm1, hm2, hm3⟩ := num_nat hp hss
                        rw [HN.out] at hm2
                        obtain ⟨ys, hys⟩ : ∃ ys, stepL zs st ((j : Int) - 1) = ys := ⟨_, rfl⟩
                        have hyl : ys.length ≤ 8 := by rw [← hys, stepL_length, hst.1]; omega
                        rw [hys] at hoV hss hm1
                        rw [hys]
                        have Hys := Lib.hid hys
                        have hoE := hoD.below hb5
                        have hoS5 := hoS4.below hb5
                        have hbE := boxed_later hbD hb5
                        have hBE := hBD.trans (hb5.mono hBD.size)
                        have kE := hbE.cell
                        clear hoD hoS4 hbD kD hys hm3
                        go_wp2_with fail
                        refine (l02Number_c _ zs _ ys _ (hI.later hBE) ht (by exact hoV.ints) hss).mono ?_
                        rintro e w6 ⟨rfl, hb6⟩
                        have hoF := hoE.below hb6
                        have hoS6 := hoS5.below hb6
                        have hbF := boxed_later hbE hb6
                        have hBF := hBE.trans (hb6.mono hBE.size)
                        have hcm := ho_cell hoF hlenB hm2
                        rw [hm1]
                        have hgb : bAt bs (numL zs (stepL zs st ((j : Int) - 1))) = bAt bs (mm : Int) := by rw [Hys.out, hm1]
                        have Hgb := Lib.hid hgb
                        clear hb5 hb6 hoE hoS5 hbE kE hgb hm1
                        go_wp2_with fail
                        go_roundw
                        case rel =>
                          refine ⟨bAt bs (mm : Int), j + 1, rfl, by omega, by congr 1; omega, fun e => ⟨(j : Int) - 1, ⟨by omega, by omega⟩, hop, by rw [Hgb.out, e]⟩, fun e i hi ho => ?_, hoF, hoS6, hbF, hBF⟩
                          rcases Nat.lt_succ_iff_lt_or_eq.1 hi with h1 | h1
                          · exact hgf (by first | rfl | trivial) i h1 ho
                          · subst h1; rw [Hgb.out, e]
                        case measure => simp [intOf]; omega
                      · have hoE := hoD.below hb5
                        have hoS5 := hoS4.below hb5
                        have hbE := boxed_later hbD hb5
                        have hBE := hBD.trans (hb5.mono hBD.size)
                        clear hoD hoS4 hbD kD hb5
                        go_wp2_with fail
                        go_roundw
                        case rel =>
                          refine ⟨false, j + 1, rfl, by omega, by congr 1; omega, (fun e => by cases e), fun e i hi ho => ?_, hoE, hoS5, hbE, hBE⟩
                          rcases Nat.lt_succ_iff_lt_or_eq.1 hi with h1 | h1
                          · exact hgf (by first | rfl | trivial) i h1 ho
                          · subst h1; exact absurd ho hop
                        case measure => simp [intOf]; omega
                    · have hje : zs.length + 1 ≤ j := by omega
                      have hno := not_suc (zs := zs) (bs := bs) (st := st) fun i hi ho => hgf rfl i (by omega) ho
                      have hLn : LInv zs (bs.set n false) := hLB.set hp (by rw [HN.out]; exact hlt) (by rw [Hst.out]; exact hno)
                      have hct := cntT_set hbt
                      have hcA : cntT bs ≤ cntT bsA := by
                        cases more
                        · rw [(hcB rfl).1]; exact Nat.le_refl _
                        · exact Nat.le_of_lt (hmB rfl)
                      go_wp2_with fail
                      refine (l01K_c _ _ _ _).mono ?_
                      rintro e w4 ⟨rfl, rfl⟩
                      have hBD := hBC.alloc hsC (.cells #[.slice a zs.length cap] 28)
                      have hoD : OwnB (w.heap.size + 1) (wr.alloc (.cells #[.slice a zs.length cap] 28)) (.slice (some ⟨g, 0, none⟩) N N) bs := hoC.below ((Below.refl _ wr).alloc (Nat.le_refl _) _)
                      have hbD := hbC.alloc (.cells #[.slice a zs.length cap] 28)
                      have hfD := hoD.frozen n
                      have hcD := ho_cell hoD hlenB hlt
                      clear hoC hoS hbC hBC hcn hfz kC
                      go_wp2_with fail
                      go_roundw
                      case rel => exact ⟨bs.set n false, true, n + 1, by omega, by simp, rfl, hoD.stored n false, hLn, (fun e => by cases e), (fun _ => by omega), boxed_setFar hbD (by omega), hBD.setCell (p := ⟨g, n, none⟩) (by show w.heap.size ≤ g; omega) _⟩
                      case measure => simp [intOf]; omega
                  · have hsuc := hgt rfl
                    rw [← Hst.out] at hsuc
                    have Hsuc := Lib.hid hsuc
                    clear hsuc
                    by_cases hjl : (j : Int) - 1 < zs.length
                    · go_wp2_with fail
                      refine (l01K_c _ _ _ _).mono ?_
                      rintro e w4 ⟨rfl, rfl⟩
                      have hBD := hBC.alloc hsC (.cells #[.slice a zs.length cap] 28)
                      have hoD : OwnB (w.heap.size + 1) (wr.alloc (.cells #[.slice a zs.length cap] 28)) (.slice (some ⟨g, 0, none⟩) N N) bs := hoC.below ((Below.refl _ wr).alloc (Nat.le_refl _) _)
                      have hbD := hbC.alloc (.cells #[.slice a zs.length cap] 28)
                      clear hoC hoS hbC hBC hcn hfz kC
                      go_wp2_with fail
                      go_roundw
                      case rel => exact ⟨bs, more, n + 1, by omega, by simp, rfl, hoD, hLB, (fun e => ⟨(hcB e).1, fun m hm h => by by_cases e2 : m = n; exact e2 ▸ Hsuc.out; exact (hcB e).2 m (by omega) h⟩), hmB, hbD, hBD⟩
                      case measure => simp [intOf]; omega
                    · go_wp2_with fail
                      refine (l01K_c _ _ _ _).mono ?_
                      rintro e w4 ⟨rfl, rfl⟩
                      have hBD := hBC.alloc hsC (.cells #[.slice a zs.length cap] 28)
                      have hoD : OwnB (w.heap.size + 1) (wr.alloc (.cells #[.slice a zs.length cap] 28)) (.slice (some ⟨g, 0, none⟩) N N) bs := hoC.below ((Below.refl _ wr).alloc (Nat.le_refl _) _)
                      have hbD := hbC.alloc (.cells #[.slice a zs.length cap] 28)
                      clear hoC hoS hbC hBC hcn hfz kC
                      go_wp2_with fail
                      go_roundw
                      case rel => exact ⟨bs, more, n + 1, by omega, by simp, rfl, hoD, hLB, (fun e => ⟨(hcB e).1, fun m hm h => by by_cases e2 : m = n; exact e2 ▸ Hsuc.out; exact (hcB e).2 m (by omega) h⟩), hmB, hbD, hBD⟩
                      case measure => simp [intOf]; omega
            · have hnN : n = N := by omega
              go_wp2_with fail
              go_roundw
              case rel => exact ⟨bs, more, rfl, hoB, hLB, fun e m hm h => (hcB e).2 m (by omega) h, hbB, hBB⟩
              case measure =>
                rw [trueN_eq hoB hlenB, trueN_eq hoA hlenA]
                cases more
                · rw [(hcB rfl).1]; simp
                · have := hmB rfl
                  simp only; omega

end Go.Proofs.Ytieobjoijalijaa
