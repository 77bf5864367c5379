/-
  HandOvers of both; channelsOfTurns.
  Conditions: at most 1048576 lists, of at most 1048576 elements each.
-/
import Derived.Test.YtlgjnceedjbakaaClc
import Derived.Test.YtlgjnceedjbakaaWtI
import Derived.Laws.AppendOwnNone
namespace Go.Proofs.Ytlgjnceedjbakaa
open Go.RowKit Go.Shelf
attribute [local go_sem] Oper.semAt_some

/-! ### mathematics -/
/-- the channels of the turns of i in the first s slots -/
def hoTo (xss : List (List Int)) (i : Int) (s : Nat) : List Int := (List.range s).flatMap fun t => asI (chL xss t i)
theorem hoTo_succ (xss : List (List Int)) (i : Int) (s : Nat) : hoTo xss i (s + 1) = hoTo xss i s ++ asI (chL xss s i) := by simp [hoTo, List.range_succ]
theorem hoTo_len (xss : List (List Int)) (i : Int) (s : Nat) : (hoTo xss i s).length ≤ s * xss.length := by
  induction s with
  | zero => simp [hoTo]
  | succ s ih =>
    have h := chTo_len xss s i xss.length
    rw [hoTo_succ, List.length_append, asI_length, Nat.succ_mul]
    unfold chL; omega
def hoL (xss : List (List Int)) (i : Int) : List Int := hoTo xss i (chN xss)
/-- how many of the first j differ from the one ahead of them, round the end · .. from the one behind them -/
def preN (ps : List Int) (j : Nat) : Nat := ((List.range j).filter fun a => nth ps a != nth ps ((a + ps.length - 1) % ps.length)).length
def sucN (ps : List Int) (j : Nat) : Nat := ((List.range j).filter fun a => nth ps a != nth ps ((a + 1) % ps.length)).length
theorem preN_yes {ps : List Int} {j : Nat} (h : nth ps j ≠ nth ps ((j + ps.length - 1) % ps.length)) : preN ps (j + 1) = preN ps j + 1 := by simp [preN, List.range_succ, h]
theorem preN_no {ps : List Int} {j : Nat} (h : nth ps j = nth ps ((j + ps.length - 1) % ps.length)) : preN ps (j + 1) = preN ps j := by simp [preN, List.range_succ, h]
theorem sucN_yes {ps : List Int} {j : Nat} (h : nth ps j ≠ nth ps ((j + 1) % ps.length)) : sucN ps (j + 1) = sucN ps j + 1 := by simp [sucN, List.range_succ, h]
theorem sucN_no {ps : List Int} {j : Nat} (h : nth ps j = nth ps ((j + 1) % ps.length)) : sucN ps (j + 1) = sucN ps j := by simp [sucN, List.range_succ, h]
theorem preN_le (ps : List Int) (j : Nat) : preN ps j ≤ j := by
  have := List.length_filter_le (fun a => nth ps a != nth ps ((a + ps.length - 1) % ps.length)) (List.range j)
  simpa [preN] using this
theorem sucN_le (ps : List Int) (j : Nat) : sucN ps j ≤ j := by
  have := List.length_filter_le (fun a => nth ps a != nth ps ((a + 1) % ps.length)) (List.range j)
  simpa [sucN] using this
theorem pre_suc (ps : List Int) : preN ps ps.length = sucN ps ps.length := by
  obtain ⟨n, hn⟩ : ∃ n, ps.length = n := ⟨_, rfl⟩
  cases n with
  | zero => rw [hn]; rfl
  | succ m =>
    have key : ∀ j, j ≤ m → preN ps (j + 1) = (if nth ps 0 ≠ nth ps m then 1 else 0) + sucN ps j := by
      intro j
      induction j with
      | zero =>
        intro _
        have e : (0 + ps.length - 1) % ps.length = m := by rw [hn, show 0 + (m + 1) - 1 = m by omega, Nat.mod_eq_of_lt (by omega)]
        by_cases h : nth ps 0 = nth ps m
        · rw [preN_no (by rw [e]; exact h)]; simp [h, preN, sucN]
        · rw [preN_yes (by rw [e]; exact h)]; simp [h, preN, sucN]
      | succ j ih =>
        intro hj
        have h1 := ih (by omega)
        have e : (j + 1 + ps.length - 1) % ps.length = j := by rw [hn, show j + 1 + (m + 1) - 1 = j + (m + 1) by omega, Nat.add_mod_right, Nat.mod_eq_of_lt (by omega)]
        have e2 : (j + 1) % ps.length = j + 1 := by rw [hn, Nat.mod_eq_of_lt (by omega)]
        by_cases h : nth ps (j + 1) = nth ps j
        · rw [preN_no (by rw [e]; exact h), sucN_no (by rw [e2]; exact h.symm), h1]
        · rw [preN_yes (by rw [e]; exact h), sucN_yes (by rw [e2]; exact Ne.symm h), h1]; omega
    rw [hn, key m (Nat.le_refl _)]
    have e : (m + 1) % ps.length = 0 := by rw [hn, Nat.mod_self]
    by_cases h : nth ps m = nth ps 0
    · rw [sucN_no (by rw [e]; exact h)]; simp [h]
    · rw [sucN_yes (by rw [e]; exact h)]; rw [if_pos (Ne.symm h)]; omega

def hoC (k : Int) (xss : List (List Int)) (i : Int) : Int := if wtB k xss i then (if 0 < (clL k.toNat xss).length then 5 else 0) else 2
def hoR (k : Int) (xss : List (List Int)) (i : Int) : Int := if hoC k xss i = 0 then (preN (hoL xss i) (hoL xss i).length : Nat) else 0
theorem hoR_no {k : Int} {xss : List (List Int)} {i : Int} (h : hoC k xss i ≠ 0) : hoR k xss i = 0 := if_neg h

/-! ### the program -/
theorem wp_append_rows {o : Oper} {a : Act} {K : Act → World → Prop} {Q : Exit → Act → World → Prop} {w : World} (s x : Operand) (ho : o.op = .call { callee := .builtin .append, args := #[s, x], argTypes := #[37, 37] })
    (B : Nat) (v : Value) (xs : List Int) (hs : a.eval s = v) (hown : OwnI B w v xs) (B' : Nat) (y : Value) (ys : List Int) (hx : a.eval x = y) (hy : OwnI B' w y ys) (hl : xs.length + ys.length ≤ 1048576) (hbase : B ≤ w.heap.size)
    (h : ∀ v' w', OwnI B w' v' (xs ++ ys) → w.grownBy w' v.ownBlock → K (a.put o.dst v') w') : o.wp Try.prog a w K Q := by
  obtain ⟨i0, hi, hz0, hz1, hz2⟩ := info_parts Try.infoI
  by_cases h0 : y = .slice none 0 0
  · subst h0
    have hyl : ys = [] := by obtain ⟨_, _, e, _⟩ := hy.ints; simp at e; exact List.length_eq_zero_iff.1 e.2.1.symm
    subst hyl
    have hrun := run_append_owned_none (P := Try.prog) (w := w) B 37 o.type 2 i0 1 Try.underlying37 hi v xs.length _ hown
    unfold Oper.wp execOp
    simp only [ho, resolve, invoke, builtin, Sem.run_bind, Sem.run_pure, Result.andThen_ok, List.map_toArray, List.map_cons, List.map_nil, hs, hx, hrun]
    exact h v w (by simpa using hown) ⟨rfl, rfl, rfl, Nat.le_refl _, fun _ _ _ => rfl⟩
  · have hy' := hy
    obtain ⟨_, h2⟩ := hy'
    rcases h2 with ⟨e, _⟩ | ⟨g, cap, cur, rfl, hg, hh, _⟩
    · exact absurd e h0
    · refine wp_append_own _ s x 37 ho B 2 i0 (.int .i64 0) 1 8 Try.underlying37 hi hz0 hz1 hz2 rfl (by decide) v xs.length _ hs hown ⟨g, 0, none⟩ ys.length cap (ys.map (.int .i64)) hx (by simp) (fun j u hu => ?_) (fun u hu => ?_) (by unfold maxLen; omega) (by omega) hbase (fun v' w' h1 h2 _ => h v' w' ?_ h2)
      · rw [List.getElem?_map] at hu
        obtain ⟨z, hz, rfl⟩ := Option.map_eq_some_iff.1 hu
        have hj := (List.getElem?_eq_some_iff.1 hz).1
        have := hy.cellAt hj
        rw [getElem?_nth hj] at hz
        cases hz
        rw [Go.WideShapes.add_plain, Nat.zero_add]; exact this
      · obtain ⟨z, _, rfl⟩ := List.mem_map.1 hu
        rfl
      · unfold OwnI
        rw [List.length_append, List.map_append]
        exact h1

set_option maxRecDepth 100000 in
set_option maxHeartbeats 16000000 in
theorem channelsOfTurns_c (c0 : Value) (xss : List (List Int)) (i : Int) (k : Int) (w : World) (hX : Lsts w.heap.size w c0 xss) (hC : Chans k xss) :
    Calls Try.prog 69 #[c0, .int .i64 i] w (GivesI w (hoL xss i) id) := by
  obtain ⟨u, hU⟩ := hX
  obtain ⟨a, cap, rfl⟩ := hU.shape
  have hn := hC.n
  have hm0 := hC.m0
  have hm4 := hC.m4
  have hfw : Try.prog.follows Departure.mixedOrders = true := by kernel_rfl
  obtain ⟨b, off, a0, c0, ha, hb, k0, i1⟩ := hU.read (show 0 < xss.length by omega)
  subst ha
  rw [Nat.add_zero] at k0
  have hl0 : (lst xss 0).length = chN xss := rfl
  rw [hl0] at k0 i1
  obtain ⟨zs, hzs⟩ : ∃ zs, lst xss 0 = zs := ⟨_, rfl⟩
  obtain ⟨N, hNN⟩ : ∃ N, chN xss = N := ⟨_, rfl⟩
  rw [hzs] at i1 hl0
  rw [hNN] at k0 i1 hl0 hn
  have hl1 : 0 < xss.length := by omega
  have HU := Lib.hid hU
  have HC := Lib.hid hC
  have HN := Lib.hid hNN
  have I1 := Lib.hid i1
  have Hzl := Lib.hid hl0
  have kW : ((w.alloc (.cells #[.slice (some ⟨b, off, none⟩) xss.length cap] 30)).alloc (.cells #[.int .i64 i] 2)).cell? ⟨b, off, none⟩ = some (.slice a0 N c0) := ((((Below.refl _ w).alloc (Nat.le_refl _) _).alloc (by simp) _).cell (p := ⟨b, off, none⟩) hb).trans k0
  have kW3 : (((w.alloc (.cells #[.slice (some ⟨b, off, none⟩) xss.length cap] 30)).alloc (.cells #[.int .i64 i] 2)).alloc (.cells #[.slice none 0 0] 37)).cell? ⟨b, off, none⟩ = some (.slice a0 N c0) := ((((Below.refl _ w).alloc (Nat.le_refl _) _).alloc (by simp) _).alloc (by simp; omega) _ |>.cell (p := ⟨b, off, none⟩) hb).trans k0
  clear hU hC hNN hzs k0 i1 hl0
  refine (callsIn_wide (n := 9)).1 ?_
  refine callsIn_of_wp_marks Try.func69 rfl trivial ?_ rfl
  simp only [Try.ntmps69, List.size_toArray, List.length_cons, List.length_nil, Nat.reduceAdd, Nat.reduceSub, Array.replicate_succ, Array.replicate_zero, List.push_toArray, List.append_toArray, List.nil_append, List.cons_append]
  gi_wp2_with (first | (gi_at_call 66; refine (callsIn_wide.2 (numbered_c _ _ _ _)).mono ?_; rintro e w' ⟨rfl, rfl⟩) | (refine ⟨trivial, ?_⟩; gi_at_call 66; refine (callsIn_wide.2 (numbered_c _ _ _ _)).mono ?_; rintro e w' ⟨rfl, rfl⟩))
  clear kW kW3
  obtain ⟨W0, hW0⟩ : ∃ W0, ((((w.alloc (.cells #[.slice (some ⟨b, off, none⟩) xss.length cap] 30)).alloc (.cells #[.int .i64 i] 2)).alloc (.cells #[.slice none 0 0] 37)).alloc (.cells #[.slice a0 N c0] 37)) = W0 := ⟨_, rfl⟩
  have hB0 : Below w.heap.size w W0 := by rw [← hW0]; exact (((((Below.refl _ w).alloc (Nat.le_refl _) _).alloc (by simp; try omega) _).alloc (by simp; try omega) _).alloc (by simp; try omega) _)
  have hs0 : w.heap.size + 4 ≤ W0.heap.size := by rw [← hW0]; simp
  have bL : Boxed W0 (w.heap.size) 30 (.slice (some ⟨b, off, none⟩) xss.length cap) := by rw [← hW0]; repeat first | (refine boxed_at ?_; (simp; done)) | refine Boxed.alloc ?_ _
  have bI : Boxed W0 (w.heap.size + 1) 2 (.int .i64 i) := by rw [← hW0]; repeat first | (refine boxed_at ?_; (simp; done)) | refine Boxed.alloc ?_ _
  have bO : Boxed W0 (w.heap.size + 1 + 1) 37 (.slice none 0 0) := by rw [← hW0]; repeat first | (refine boxed_at ?_; (simp; done)) | refine Boxed.alloc ?_ _
  have bN : Boxed W0 (w.heap.size + 1 + 1 + 1) 37 (.slice a0 N c0) := by rw [← hW0]; repeat first | (refine boxed_at ?_; (simp; done)) | refine Boxed.alloc ?_ _
  rw [hW0]
  clear hW0
  obtain ⟨top, htop⟩ : ∃ top, W0.heap.size + 2 = top := ⟨_, rfl⟩
  have Htop := Lib.hid htop
  have htop1 : w.heap.size + 6 ≤ top := by omega
  refine range_outA (Keep := fun b => b < w.heap.size) (c := 0) rfl (by omega) rfl trivial (enters_of Try.func101 (by kernel_rfl) rfl) (numbered_at Fence.wide 8 trivial rfl (by omega) _ w.heap.size _ zs (by rw [Hzl.out]; omega) W0 bN (by omega) (I1.out.below hB0)) (fun b hb => by omega) (fun _ => rfl)
    (fun s W => ((∃ v, Boxed W (w.heap.size + 1 + 1) 37 v ∧ OwnI top W v (hoTo xss i s)) ∧ Boxed W w.heap.size 30 (.slice (some ⟨b, off, none⟩) xss.length cap) ∧ Boxed W (w.heap.size + 1) 2 (.int .i64 i)) ∧ Below w.heap.size w W ∧ (s = 0 ∨ top ≤ W.heap.size))
    (fun _ _ _ => False)
    (OwnFrom.and (OwnFrom.and (Own.from (boxRow_Own _ _ _ _) _) (OwnFrom.and (Own.from (boxed_own _ _ _) _) (Own.from (boxed_own _ _ _) _))) (OwnFrom.and (ownFrom_below (Nat.le_refl _) (by omega)) (ownFrom_size _ _)))
    (fun _ _ _ _ _ hs _ _ => hs)
    ⟨⟨⟨_, bO, ownI_nil _ _⟩, bL, bI⟩, hB0, .inl rfl⟩ ?a1 ?assign ?body ?done ?stop
  case assign =>
    intro l s W K hk hK
    simp only [numAt]
    gi_wp2
    exact hK
  case body =>
    rintro l s W hl hr ⟨⟨⟨v, bO1, ho1⟩, bL1, bI1⟩, hB1, _⟩ hs hsW
    clear htop
    have htop := Htop.out
    have hsT : top ≤ W.heap.size := by omega
    have hsN : s < chN xss := by rw [HN.out, ← Hzl.out]; exact hs
    have hband : ∀ z, Band (fun b => b < w.heap.size) W0.heap.size (W0.heap.size + 2 + 0) z → ¬ (z = w.heap.size + 1 + 1 ∨ top ≤ z) := fun z hz => by
      rcases hz with hz | hz <;> omega
    have Hband := Lib.hid hband
    have Hsucc := Lib.hid (hoTo_succ xss i s)
    have Hs := Lib.hid hsN
    have hN120 : s ≤ 120 := by have := HN.out; omega
    have hlen1 : (hoTo xss i s).length ≤ 480 := by have h1 := hoTo_len xss i s; have h2 : s * xss.length ≤ 120 * 4 := Nat.mul_le_mul hN120 hm4; omega
    have hlen2 : (asI (chL xss s i)).length ≤ 4 := by rw [asI_length]; have := chTo_len xss s i xss.length; unfold chL; omega
    obtain ⟨xs, hxs⟩ : ∃ xs, hoTo xss i s = xs := ⟨_, rfl⟩
    obtain ⟨ys, hys⟩ : ∃ ys, asI (chL xss s i) = ys := ⟨_, rfl⟩
    rw [hxs, hys] at Hsucc
    rw [hxs] at ho1 hlen1
    rw [hys] at hlen2
    have Hys := Lib.hid hys
    have hvb : ∀ j, v.ownBlock = some j → top ≤ j := fun j e => (ho1.blk j e).1
    have Hvb := Lib.hid hvb
    clear htop hband hs hsN hsW hxs hys hvb bL bI bO bN hB0
    gi_wp2_with fail
    refine wpIn_region_held (S := fun w' => Boxed w' w.heap.size 30 (.slice (some ⟨b, off, none⟩) xss.length cap) ∧ Boxed w' (w.heap.size + 1) 2 (.int .i64 i) ∧ Below w.heap.size w w' ∧ Kps (Band (fun b => b < w.heap.size) W0.heap.size (W0.heap.size + 2 + 0)) W w') hfw (by kernel_rfl) (fun ⟨_, _, h⟩ => h) ⟨bL1, bI1, hB1.drew, Kps.below (Below.refl _ _).drew⟩ ?_
    intro hS0
    refine wpAnyH_take (i := 1) (v := ?vr11) rfl (by kernel_rfl) (by kernel_rfl) (by kernel_rfl) (fun _ _ _ h => h) (.inl ⟨by rfl, ?yr11⟩) hS0 ?_
    case yr11 =>
      intro w' hS
      (have k1 := hS.1.cell; have k2 := hS.2.1.cell; clear hS)
      go_simp
      try with_reducible rfl
    refine wpAnyH_take (i := 2) (v := ?vr12) rfl (by kernel_rfl) (by kernel_rfl) (by kernel_rfl) (fun _ _ _ h => h) (.inl ⟨by rfl, ?yr12⟩) hS0 ?_
    case yr12 =>
      intro w' hS
      (have k1 := hS.1.cell; have k2 := hS.2.1.cell; clear hS)
      go_simp
      try with_reducible rfl
    refine wpAnyH_take (i := 3) (v := ?vr13) rfl (by kernel_rfl) (by kernel_rfl) (by kernel_rfl) (fun _ _ _ h => h) (.inl ⟨by rfl, ?yr13⟩) hS0 ?_
    case yr13 =>
      intro w' hS
      (have k1 := hS.1.cell; have k2 := hS.2.1.cell; clear hS)
      go_simp
      try with_reducible rfl
    obtain ⟨Wd, hWd⟩ : ∃ Wd, W.drew = Wd := ⟨_, rfl⟩
    have bOd : Boxed Wd (w.heap.size + 1 + 1) 37 v := by rw [← hWd]; exact bO1
    have hod : OwnI top Wd v xs := by rw [← hWd]; exact World.ownsRow.drew ho1
    have hsd : top ≤ Wd.heap.size := by rw [← hWd]; exact hsT
    rw [hWd] at hS0 ⊢
    clear hWd bO1 ho1 hsT hB1 bL1 bI1
    refine wpAnyH_ready (rs := [0, 4]) (by kernel_rfl) (by simp) ?_
    refine AllReadyH.cons rfl (fun K' hK' => ?_) (AllReadyH.cons rfl (fun K' hK' => ?_) AllReadyH.nil)
    · rw [if_pos (by rfl)]
      have cO := bOd.cell
      go_simp
      refine hK'.out _ _ hS0 fun hS1 => ?_
      clear hK' hS1 cO
      refine wpAnyH_ready (rs := [4]) (by kernel_rfl) (by simp) ?_
      refine AllReadyH.cons rfl (fun K' hK' => ?_) AllReadyH.nil
      rw [if_pos (by rfl)]
      go_simp
      refine (channelsWith_c _ xss s i k Wd ⟨u, HU.out.later hS0.2.2.1⟩ HC.out Hs.out).mono ?_
      rintro e w5 ⟨vy, rfl, hoy, hb5⟩
      simp only [id]
      rw [Hys.out] at hoy
      have hS5 : Boxed w5 w.heap.size 30 (.slice (some ⟨b, off, none⟩) xss.length cap) ∧ Boxed w5 (w.heap.size + 1) 2 (.int .i64 i) ∧ Below w.heap.size w w5 ∧ Kps (Band (fun b => b < w.heap.size) W0.heap.size (W0.heap.size + 2 + 0)) W w5 := ⟨boxed_later hS0.1 hb5, boxed_later hS0.2.1 hb5, hS0.2.2.1.trans (hb5.mono hS0.2.2.1.size), hS0.2.2.2.trans (Kps.below hb5)⟩
      have bO5 := boxed_later bOd hb5
      have ho5 := hod.below hb5
      have hs5 := Nat.le_trans hsd hb5.size
      refine hK'.out _ _ hS5 fun hS1 => ?_
      clear hK' hS1 hb5 hS0 bOd hod
      refine wpAnyH_ready (rs := [5]) (by kernel_rfl) (by simp) ?_
      refine AllReadyH.cons rfl (fun K' hK' => ?_) AllReadyH.nil
      rw [if_pos (by rfl)]
      refine wp_append_rows (.tmp 13) (.tmp 17) rfl top v xs rfl ho5 _ vy ys rfl hoy (by omega) hs5 ?_
      intro v' w6 ho6 hgrow
      rw [← Hsucc.out] at ho6
      have hS6 : Boxed w6 w.heap.size 30 (.slice (some ⟨b, off, none⟩) xss.length cap) ∧ Boxed w6 (w.heap.size + 1) 2 (.int .i64 i) ∧ Below w.heap.size w w6 ∧ Kps (Band (fun b => b < w.heap.size) W0.heap.size (W0.heap.size + 2 + 0)) W w6 :=
        ⟨hS5.1.kept hgrow (fun e => by have := Hvb.out _ e.symm; omega), hS5.2.1.kept hgrow (fun e => by have := Hvb.out _ e.symm; omega), hS5.2.2.1.grown hgrow hS5.2.2.1.size (fun j e => by have := Hvb.out j e; omega), hS5.2.2.2.trans (Kps.grown hgrow (fun j e h => Hband.out j h (.inr (Hvb.out j e))))⟩
      have bO6 : Boxed w6 (w.heap.size + 1 + 1) 37 v := bO5.kept hgrow (fun e => by have := Hvb.out _ e.symm; omega)
      have hs6 := Nat.le_trans hs5 hgrow.size
      refine hK'.out _ _ hS6 fun hS1 => ?_
      clear hK' hS1 hgrow hS5 ho5 bO5
      have c6 := bO6.cell
      have f6 := bO6.frozen
      have Ho6 := Lib.hid ho6
      obtain ⟨av, cv, ev⟩ := ho6.ints.shape
      rw [Hsucc.out, List.length_append] at ev
      subst ev
      clear ho6
      refine wpAnyH_ready (rs := [6]) (by kernel_rfl) (by simp) ?_
      refine AllReadyH.cons rfl (fun K' hK' => ?_) AllReadyH.nil
      rw [if_pos (by rfl)]
      go_simp
      have hS7 : Boxed (w6.setCell ⟨w.heap.size + 1 + 1, 0, none⟩ (.slice av (xs.length + ys.length) cv)) w.heap.size 30 (.slice (some ⟨b, off, none⟩) xss.length cap) ∧ Boxed (w6.setCell ⟨w.heap.size + 1 + 1, 0, none⟩ (.slice av (xs.length + ys.length) cv)) (w.heap.size + 1) 2 (.int .i64 i) ∧ Below w.heap.size w (w6.setCell ⟨w.heap.size + 1 + 1, 0, none⟩ (.slice av (xs.length + ys.length) cv)) ∧ Kps (Band (fun b => b < w.heap.size) W0.heap.size (W0.heap.size + 2 + 0)) W (w6.setCell ⟨w.heap.size + 1 + 1, 0, none⟩ (.slice av (xs.length + ys.length) cv)) :=
        ⟨hS6.1.other (by omega) _, hS6.2.1.other (by omega) _, hS6.2.2.1.setCell (p := ⟨w.heap.size + 1 + 1, 0, none⟩) (by simp; omega) _, hS6.2.2.2.trans (Kps.setCell _ _ _ _ (fun h => Hband.out _ h (.inl rfl)))⟩
      refine hK'.out _ _ hS7 fun hS1 => wpAnyH_done (by kernel_rfl) ?_ _
      exact ⟨hS7.2.2.2, ⟨⟨_, bO6.set _, Ho6.out.kept (grownBy_setCell' _ _ _) (.inr fun e => by have := (Ho6.out.blk _ e).1; omega)⟩, hS7.1, hS7.2.1⟩, hS7.2.2.1, .inr (by simpa using hs6)⟩
    · rw [if_pos (by rfl)]
      go_simp
      refine (channelsWith_c _ xss s i k Wd ⟨u, HU.out.later hS0.2.2.1⟩ HC.out Hs.out).mono ?_
      rintro e w5 ⟨vy, rfl, hoy, hb5⟩
      simp only [id]
      rw [Hys.out] at hoy
      have hS5 : Boxed w5 w.heap.size 30 (.slice (some ⟨b, off, none⟩) xss.length cap) ∧ Boxed w5 (w.heap.size + 1) 2 (.int .i64 i) ∧ Below w.heap.size w w5 ∧ Kps (Band (fun b => b < w.heap.size) W0.heap.size (W0.heap.size + 2 + 0)) W w5 := ⟨boxed_later hS0.1 hb5, boxed_later hS0.2.1 hb5, hS0.2.2.1.trans (hb5.mono hS0.2.2.1.size), hS0.2.2.2.trans (Kps.below hb5)⟩
      have bO5 := boxed_later bOd hb5
      have ho5 := hod.below hb5
      have hs5 := Nat.le_trans hsd hb5.size
      refine hK'.out _ _ hS5 fun hS1 => ?_
      clear hK' hS1 hb5 hS0 bOd hod
      have cO := bO5.cell
      refine wpAnyH_ready (rs := [0]) (by kernel_rfl) (by simp) ?_
      refine AllReadyH.cons rfl (fun K' hK' => ?_) AllReadyH.nil
      rw [if_pos (by rfl)]
      go_simp
      refine hK'.out _ _ hS5 fun hS1 => ?_
      clear hK' hS1 cO
      refine wpAnyH_ready (rs := [5]) (by kernel_rfl) (by simp) ?_
      refine AllReadyH.cons rfl (fun K' hK' => ?_) AllReadyH.nil
      rw [if_pos (by rfl)]
      refine wp_append_rows (.tmp 13) (.tmp 17) rfl top v xs rfl ho5 _ vy ys rfl hoy (by omega) hs5 ?_
      intro v' w6 ho6 hgrow
      rw [← Hsucc.out] at ho6
      have hS6 : Boxed w6 w.heap.size 30 (.slice (some ⟨b, off, none⟩) xss.length cap) ∧ Boxed w6 (w.heap.size + 1) 2 (.int .i64 i) ∧ Below w.heap.size w w6 ∧ Kps (Band (fun b => b < w.heap.size) W0.heap.size (W0.heap.size + 2 + 0)) W w6 :=
        ⟨hS5.1.kept hgrow (fun e => by have := Hvb.out _ e.symm; omega), hS5.2.1.kept hgrow (fun e => by have := Hvb.out _ e.symm; omega), hS5.2.2.1.grown hgrow hS5.2.2.1.size (fun j e => by have := Hvb.out j e; omega), hS5.2.2.2.trans (Kps.grown hgrow (fun j e h => Hband.out j h (.inr (Hvb.out j e))))⟩
      have bO6 : Boxed w6 (w.heap.size + 1 + 1) 37 v := bO5.kept hgrow (fun e => by have := Hvb.out _ e.symm; omega)
      have hs6 := Nat.le_trans hs5 hgrow.size
      refine hK'.out _ _ hS6 fun hS1 => ?_
      clear hK' hS1 hgrow hS5 ho5 bO5
      have c6 := bO6.cell
      have f6 := bO6.frozen
      have Ho6 := Lib.hid ho6
      obtain ⟨av, cv, ev⟩ := ho6.ints.shape
      rw [Hsucc.out, List.length_append] at ev
      subst ev
      clear ho6
      refine wpAnyH_ready (rs := [6]) (by kernel_rfl) (by simp) ?_
      refine AllReadyH.cons rfl (fun K' hK' => ?_) AllReadyH.nil
      rw [if_pos (by rfl)]
      go_simp
      have hS7 : Boxed (w6.setCell ⟨w.heap.size + 1 + 1, 0, none⟩ (.slice av (xs.length + ys.length) cv)) w.heap.size 30 (.slice (some ⟨b, off, none⟩) xss.length cap) ∧ Boxed (w6.setCell ⟨w.heap.size + 1 + 1, 0, none⟩ (.slice av (xs.length + ys.length) cv)) (w.heap.size + 1) 2 (.int .i64 i) ∧ Below w.heap.size w (w6.setCell ⟨w.heap.size + 1 + 1, 0, none⟩ (.slice av (xs.length + ys.length) cv)) ∧ Kps (Band (fun b => b < w.heap.size) W0.heap.size (W0.heap.size + 2 + 0)) W (w6.setCell ⟨w.heap.size + 1 + 1, 0, none⟩ (.slice av (xs.length + ys.length) cv)) :=
        ⟨hS6.1.other (by omega) _, hS6.2.1.other (by omega) _, hS6.2.2.1.setCell (p := ⟨w.heap.size + 1 + 1, 0, none⟩) (by simp; omega) _, hS6.2.2.2.trans (Kps.setCell _ _ _ _ (fun h => Hband.out _ h (.inl rfl)))⟩
      refine hK'.out _ _ hS7 fun hS1 => wpAnyH_done (by kernel_rfl) ?_ _
      exact ⟨hS7.2.2.2, ⟨⟨_, bO6.set _, Ho6.out.kept (grownBy_setCell' _ _ _) (.inr fun e => by have := (Ho6.out.blk _ e).1; omega)⟩, hS7.1, hS7.2.1⟩, hS7.2.2.1, .inr (by simpa using hs6)⟩
  case done =>
    rintro D W hD ⟨⟨⟨v, bO1, ho1⟩, bL1, bI1⟩, hB1, _⟩ hK
    have cO := bO1.cell
    rw [Hzl.out] at ho1
    have Hres := Lib.hid (show hoL xss i = hoTo xss i N by unfold hoL; rw [HN.out])
    have Ho := Lib.hid ho1
    obtain ⟨av, cv, rfl⟩ := ho1.ints.shape
    clear ho1
    gi_wp2
    refine retM1 hK ⟨_, results_tmp rfl _ _ _, ?_⟩
    exact ⟨_, rfl, by rw [Hres.out]; exact (Ho.out.base (by omega)).shut hK, below_shut hB1 (by omega)⟩
  case stop =>
    rintro D c' k' W' hD hk h
    exact h.elim

end Go.Proofs.Ytlgjnceedjbakaa
