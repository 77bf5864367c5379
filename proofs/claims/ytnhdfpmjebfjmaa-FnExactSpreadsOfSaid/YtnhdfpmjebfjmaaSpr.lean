/-
  SpreadsOf of both.
  Conditions: lists of at most 1048576 elements.
-/
import Derived.Maps.AppendAt
import Derived.Test.YtnhdfpmjebfjmaaLol
import Derived.Test.YtnhdfpmjebfjmaaLsh
import Derived.Test.YtnhdfpmjebfjmaaLog
namespace Go.Proofs.Ytnhdfpmjebfjmaa
open Go.RowKit Go.Shelf
attribute [local go_sem] Oper.semAt_some

/-- the greatest of the first k numbers (and of the first one) -/
def hiTo (zs : List Int) (k : Nat) : Int := (zs.take k).foldl max (nth zs 0)
theorem hiTo_zero (zs : List Int) : hiTo zs 0 = nth zs 0 := by simp [hiTo]
theorem hiTo_succ {zs : List Int} {k : Nat} (h : k < zs.length) : hiTo zs (k + 1) = max (hiTo zs k) (nth zs k) := by
  unfold hiTo; rw [take_snoc h]; simp
theorem hiTo_one {zs : List Int} (h : 0 < zs.length) : hiTo zs 1 = nth zs 0 := by rw [hiTo_succ h, hiTo_zero]; omega
def hiL (zs : List Int) : Int := hiTo zs zs.length

set_option maxRecDepth 100000 in
set_option maxHeartbeats 8000000 in
theorem maxS_c (sv : Value) (ts : List Int) (w : World) (hI : Ints w.heap.size w sv ts) (hp : 0 < ts.length) (hl : ts.length ≤ 1048576) :
    Calls Try.prog 76 #[sv] w fun e w' => e = .returned (.int .i64 (hiL ts)) ∧ w = w' := by
  obtain ⟨a, cap, rfl⟩ := hI.shape
  obtain ⟨b, off, rfl, hbb, hc⟩ := hI.at_ hp
  have h0 : w.cell? ⟨b, off, none⟩ = some (.int .i64 (nth ts 0)) := by simpa using hc 0 (by omega)
  have e1 := hiTo_one hp
  go_enter Try.func76, Try.ntmps76
  clear hc
  go_wp2
  rw [← e1]
  clear e1 h0
  go_loop [4, 3] (fun i m => ∃ k : Nat, 1 ≤ k ∧ k ≤ ts.length ∧ i = .int .i64 k ∧ m = .int .i64 (hiTo ts k)) (fun i _ => ts.length - (intOf i).toNat)
  case atStart => exact ⟨1, Nat.le_refl _, hp, rfl, rfl⟩
  case round =>
    obtain ⟨k, hk1, hk, rfl, rfl⟩ := hrel
    by_cases hlt : k < ts.length
    · obtain ⟨b2, off2, hs, hb2, hc⟩ := hI.at_ hlt
      cases hs
      have hcx := hc k hlt
      have hs := hiTo_succ hlt
      have Hs := Lib.hid hs
      clear hc hs
      go_wp2
      exact ⟨⟨k + 1, by omega, by omega, by simp, by rw [Hs.out]; congr 1; omega⟩, by simp [intOf]; omega⟩
    · obtain rfl : k = ts.length := by omega
      go_wp2
      go_ret
      exact ⟨ret_int rfl, rfl⟩

/-! ### spreads -/
def spOf (ts : List Int) (i : Nat) : List Int := [leastL (waitsL ts (i : Int)), hiL (waitsL ts (i : Int))]
def spTo (ts : List Int) (k : Nat) : List (List Int) := (List.range k).map (spOf ts)
theorem spTo_length (ts : List Int) (k : Nat) : (spTo ts k).length = k := by simp [spTo]
theorem spTo_succ (ts : List Int) (k : Nat) : spTo ts (k + 1) = spTo ts k ++ [spOf ts k] := by simp [spTo, List.range_succ]
def spR (ts : List Int) : List (List Int) := if levC ts = 0 then spTo ts (lvK ts) else []
theorem spR_len (ts : List Int) : (spR ts).length ≤ 8 := by
  unfold spR
  split
  · rename_i h
    rw [spTo_length]
    rcases levC_cases ts with ⟨ht, hc⟩ | ⟨ht, hs, hc⟩ | ⟨ht, hs, hc⟩
    · omega
    · omega
    · have := most_bd ht; unfold lvK; omega
  · simp
theorem spR_each (ts : List Int) {k : Nat} (h : k < (spR ts).length) : (lst (spR ts) k).length = 2 := by
  unfold spR at h ⊢
  split at h
  · rename_i hc
    rw [spTo_length] at h
    rw [if_pos hc]
    simp [lst, spTo, h, spOf]
  · simp at h
theorem spR_offs (ts : List Int) : (1 : Int) + offs (spR ts) (spR ts).length ≤ 1099511627776 := by
  have h1 := offs_bd (xss := spR ts) (B := 2) (i := (spR ts).length) (fun k hk => by rw [spR_each ts hk]; exact Nat.le_refl _) (Nat.le_refl _)
  have h2 := spR_len ts
  omega
theorem waits_pos {ts : List Int} (h : Shd ts) {i : Nat} (hi : (i : Int) ≤ most ts) : 0 < (waitsL ts (i : Int)).length := by
  have hc := h.has i hi
  rw [List.contains_iff_mem] at hc
  obtain ⟨k, hk, hm⟩ := List.getElem_of_mem hc
  rw [waitsL_length]
  have := slotsTo_at hk (show nth ts k = (i : Int) by rw [nth_lt hk]; exact hm)
  have h2 := (List.getElem?_eq_some_iff.1 this).1
  unfold slotsL
  omega
theorem Try.infoSl : (Try.prog.info? 22).map (fun i => (i.zero, i.size, i.bytes)) = some (some (.slice none 0 0), 1, 24) := by kernel_rfl
theorem ownI_two (w : World) (x y : Int) : OwnI w.heap.size (w.alloc (.cells #[.int .i64 x, .int .i64 y] 2)) (.slice (some ⟨w.heap.size, 0, none⟩) 2 2) [x, y] :=
  ⟨rfl, .inr ⟨w.heap.size, 2, _, rfl, Nat.le_refl _, World.alloc_heap_new w _, Nat.le_refl _, by unfold maxLen; omega, rfl, rfl⟩⟩
/-- a pair more, in a row of its own -/
theorem spread_snoc {lo : Nat} {W w1 : World} {v v' : Value} {xss : List (List Int)} {u : Nat → Value} {x y : Int} (h : OwnU lo W v xss u) (hlo : lo ≤ W.heap.size)
    (hown' : w1.ownsRow lo 22 1 v' (xss.length + 1) ((List.range xss.length).map u ++ [.slice (some ⟨W.heap.size, 0, none⟩) 2 2]))
    (hgrow : ((W.alloc (.cells #[.int .i64 x, .int .i64 y] 2)).alloc (.cells #[.slice (some ⟨W.heap.size, 0, none⟩) 2 2] 22)).grownBy w1 v.ownBlock)
    (hat : v'.ownBlock = v.ownBlock ∨ v'.ownBlock = some (W.heap.size + 1 + 1)) : OwnLL lo w1 v' (xss ++ [[x, y]]) := by
  have h1 : OwnU lo (W.alloc (.cells #[.int .i64 x, .int .i64 y] 2)) v xss u := h.of_blocks fun b hb => Below.heap_alloc _ _ _ (h.blks hb).2
  refine h1.snoc ((ownI_two W x y).base hlo) (fun b e hb => ?_) ((World.grownBy_alloc _ _ _).trans hgrow) hown' (fun b e => ?_)
  · simp [Value.ownBlock] at e
    subst e
    have := (h.blks hb).2; omega
  · rcases hat with h2 | h2
    · exact .inl (h2 ▸ e)
    · rw [h2] at e
      simp at e
      right; simp; omega

set_option maxRecDepth 100000 in
set_option maxHeartbeats 16000000 in
theorem i_SpreadsOf (c0 : Value) (ts : List Int) (w : World) (hI : Ints w.heap.size w c0 ts) (_hN : I64s ts) (hm : ts.length ≤ 1048576) :
    Calls Try.prog 43 #[c0] w (GivesLL w (spR ts) fun v => .tuple #[v, .int .i64 (levC ts)]) := by
  obtain ⟨a, cap, rfl⟩ := hI.shape
  obtain ⟨il, hl0, hl1, hl2, hl3⟩ := info_parts Try.infoSl
  by_cases hc : levC ts = 0
  · obtain ⟨ht, hs⟩ : turnsOk ts 8 = true ∧ sharedB ts = true := by
      rcases levC_cases ts with ⟨ht, hc'⟩ | ⟨ht, hs, hc'⟩ | ⟨ht, hs, hc'⟩
      · omega
      · omega
      · exact ⟨ht, hs⟩
    have hsh := shd ht hs
    have HS := Lib.hid hsh
    have Hr := Lib.hid (show spR ts = spTo ts (lvK ts) by unfold spR; rw [if_pos hc])
    obtain ⟨M, hM⟩ : ∃ M : Nat, most ts = M := ⟨(most ts).toNat, by have := hsh.top; omega⟩
    have hM7 : M ≤ 7 := by have := hsh.top; omega
    have HM := Lib.hid hM
    have HK := Lib.hid (show lvK ts = M + 1 by unfold lvK; rw [hM]; omega)
    have hlen := hsh.len
    have Ht := Lib.hid ht
    have Hc := Lib.hid hc
    clear ht hs hsh hM hc
    go_enter Try.func43, Try.ntmps43
    go_wp2_with fail
    refine (checkShared_c _ ts _ hI hm).mono ?_
    rintro e w1 ⟨he, hB1⟩
    rw [Hc.out] at he
    subst he
    go_wp2
    go_loopw [5, 6] (fun v i wr => ∃ (k : Nat) (q : Value), (k ≤ M + 1 ∧ i = .int .i64 k ∧ q = v) ∧ OwnLL w.heap.size wr q (spTo ts k) ∧ Below w.heap.size w wr) (fun _ i _ => M + 2 - (intOf i).toNat)
    case atStart => exact ⟨0, _, ⟨Nat.zero_le _, rfl, rfl⟩, ownLL_nil _ _, hB1⟩
    case round =>
      obtain ⟨k, q, ⟨hk, rfl, rfl⟩, hO, hB⟩ := hrel
      clear hB1
      have hsw := hB.size
      by_cases hkM : k ≤ M
      · have hwp := waits_pos HS.out (i := k) (by rw [HM.out]; omega)
        have hwl := waitsL_le ts (k : Int)
        have hki : (k : Int) ≤ (M : Int) := by omega
        go_wp2_with fail
        refine (max_c _ ts _ (hI.later hB) Ht.out).mono ?_
        rintro e w2 ⟨he, rfl⟩
        rw [HM.out] at he
        subst he
        go_wp2_with fail
        refine (waitsOfTask_c _ ts (k : Int) _ (hI.later hB) hm).mono ?_
        rintro e w3 ⟨vw, rfl, how, hb3⟩
        simp only [id]
        have hO3 := hO.below hb3
        have hB3 := hB.trans (hb3.mono hsw)
        have hIw := how.ints
        have hs3 := hB3.size
        clear hO hB hb3 how
        go_wp2_with fail
        refine (min_c _ _ _ hIw hwp (by omega)).mono ?_
        rintro e w4 ⟨rfl, rfl⟩
        go_wp2_with fail
        refine (maxS_c _ _ _ hIw hwp (by omega)).mono ?_
        rintro e w5 ⟨rfl, rfl⟩
        obtain ⟨x, hx⟩ : ∃ x, leastL (waitsL ts (k : Int)) = x := ⟨_, rfl⟩
        obtain ⟨y, hy⟩ : ∃ y, hiL (waitsL ts (k : Int)) = y := ⟨_, rfl⟩
        have Hst := Lib.hid (show spTo ts (k + 1) = spTo ts k ++ [[x, y]] by rw [spTo_succ, ← hx, ← hy]; rfl)
        obtain ⟨u, hU⟩ := hO3
        have hspl := spTo_length ts k
        obtain ⟨xss, hxs⟩ : ∃ xss, spTo ts k = xss := ⟨_, rfl⟩
        rw [hxs] at hU hspl
        have Hxs := Lib.hid hxs
        have hxl : xss.length ≤ 8 := by omega
        have hrow := ((hU.list.alloc (.cells #[.int .i64 x, .int .i64 y] 2)).alloc (.cells #[.slice (some ⟨w3.heap.size, 0, none⟩) 2 2] 22))
        rw [hx, hy]
        clear hx hy hspl hxs hIw
        go_wp2_with (at_builtin; refine wpList_append_own_at _ rfl _ _ 57 rfl w.heap.size 22 il (.slice none 0 0) 1 24 Try.underlying57 hl0 hl1 hl2 hl3 rfl (by decide) _ _ _ rfl hrow ⟨w3.heap.size + 1, 0, none⟩ 1 1 [.slice (some ⟨w3.heap.size, 0, none⟩) 2 2] rfl rfl (by have := Go.cell_one_new (w3.alloc (.cells #[.int .i64 x, .int .i64 y] 2)) (.slice (some ⟨w3.heap.size, 0, none⟩) 2 2) 22; simpa using this) (by simp [Value.oneCell']) (by unfold maxLen; omega) (by omega) (by simp; omega) ?_)
        intro v' w6 hown' hgrow _ hat
        have hO6 := spread_snoc hU hs3 hown' hgrow hat
        rw [← Hxs.out, ← Hst.out] at hO6
        have hB6 : Below w.heap.size w w6 := ((hB3.alloc hs3 _).alloc (by simp; omega) _).grown hgrow (by simp; omega) (fun j e => (hU.lblk j e).1)
        obtain ⟨a6, c6, rfl⟩ := hO6.shape
        clear hown' hgrow hat hU hrow hB3
        go_wp2
        go_roundw
        case rel => exact ⟨k + 1, _, ⟨by omega, by simp, rfl⟩, hO6, hB6⟩
        case measure => simp [intOf]; omega
      · obtain rfl : k = M + 1 := by omega
        have hki : ¬ ((M + 1 : Nat) : Int) ≤ (M : Int) := by omega
        obtain ⟨x, hx⟩ : ∃ x : Int, ((M + 1 : Nat) : Int) = x := ⟨_, rfl⟩
        rw [hx] at hki ⊢
        go_wp2_with fail
        refine (max_c _ ts _ (hI.later hB) Ht.out).mono ?_
        rintro e w2 ⟨he, rfl⟩
        rw [HM.out] at he
        subst he
        go_wp2
        go_ret2
        exact ⟨_, ret_v2 Hc.out.symm, by rw [Hr.out, HK.out]; exact hO, hB⟩
  · have Hr := Lib.hid (show spR ts = [] by unfold spR; rw [if_neg hc])
    obtain ⟨c, hcc⟩ : ∃ c, levC ts = c := ⟨_, rfl⟩
    rw [hcc] at hc
    have hq : (c != 0) = true := by simpa using hc
    have Hc := Lib.hid hcc
    clear hcc
    go_enter Try.func43, Try.ntmps43
    go_wp2_with fail
    refine (checkShared_c _ ts _ hI hm).mono ?_
    rintro e w1 ⟨he, hB1⟩
    rw [Hc.out] at he
    subst he
    go_wp2
    go_ret2
    exact ⟨_, ret_v2 Hc.out.symm, by rw [Hr.out]; exact ownLL_nil _ _, hB1⟩

set_option maxRecDepth 100000 in
set_option maxHeartbeats 16000000 in
theorem s_SpreadsOf (c0 : Value) (ts : List Int) (w : World) (hI : Ints w.heap.size w c0 ts) (_hN : I64s ts) (hm : ts.length ≤ 1048576) :
    Calls Try.prog 42 #[c0] w (GivesLL w (spR ts) fun v => .tuple #[v, .int .i64 (levC ts)]) := by
  obtain ⟨a, cap, rfl⟩ := hI.shape
  obtain ⟨il, hl0, hl1, hl2, hl3⟩ := info_parts Try.infoSl
  by_cases hc : levC ts = 0
  · obtain ⟨ht, hs⟩ : turnsOk ts 8 = true ∧ sharedB ts = true := by
      rcases levC_cases ts with ⟨ht, hc'⟩ | ⟨ht, hs, hc'⟩ | ⟨ht, hs, hc'⟩
      · omega
      · omega
      · exact ⟨ht, hs⟩
    have hsh := shd ht hs
    have HS := Lib.hid hsh
    have Hr := Lib.hid (show spR ts = spTo ts (lvK ts) by unfold spR; rw [if_pos hc])
    have Hvs := Lib.hid (show lvS ts = sharesL (lvK ts) ts by unfold lvS; rw [if_pos hc])
    obtain ⟨K, hK⟩ : ∃ K, lvK ts = K := ⟨_, rfl⟩
    have hK8 : (K : Int) = most ts + 1 ∧ K ≤ 8 := by have := hsh.top; rw [← hK]; unfold lvK; omega
    have HK8 := Lib.hid hK8.1
    have hK9 := hK8.2
    have HK := Lib.hid hK
    have hlen := hsh.len
    have Hc := Lib.hid hc
    clear ht hs hsh hK8 hK hc
    go_enter Try.func42, Try.ntmps42
    go_wp2_with fail
    refine (l07Given_c _ ts _ hI hm).mono ?_
    rintro e w1 ⟨vs, he, hos, hB1⟩
    rw [Hc.out] at he
    rw [Hvs.out, HK.out] at hos
    subst he
    obtain ⟨avs, cvs, rfl⟩ := hos.ints.shape
    rw [sharesL_length]
    clear hos
    obtain ⟨Wq, hWq⟩ : ∃ Wq, w1.alloc (.cells #[] 22) = Wq := ⟨_, rfl⟩
    have hBq : Below w.heap.size w Wq := by rw [← hWq]; exact hB1.alloc hB1.size _
    have hO0 : OwnLL w.heap.size Wq (.slice (some ⟨w1.heap.size, 0, none⟩) 0 0) (spTo ts 0) := by
      rw [← hWq]
      exact ⟨fun _ => .slice none 0 0, World.ownsRow_made w1 #[] 0 hB1.size (by unfold maxLen; omega) rfl, fun k hk => by simp [spTo] at hk, ⟨fun i j hi => by simp [spTo] at hi, fun i hi => by simp [spTo] at hi⟩⟩
    clear hB1
    go_wp2
    try rw [hWq]
    clear hWq
    go_loopw [6, 23] (fun v i wr => ∃ (k : Nat) (q : Value), (k ≤ K ∧ i = .int .i64 k ∧ q = v) ∧ OwnLL w.heap.size wr q (spTo ts k) ∧ Below w.heap.size w wr) (fun _ i _ => K - (intOf i).toNat)
    case atStart => exact ⟨0, _, ⟨Nat.zero_le _, rfl, rfl⟩, hO0, hBq⟩
    case round =>
      obtain ⟨k, q, ⟨hk, rfl, rfl⟩, hO, hB⟩ := hrel
      clear hO0 hBq
      have hsw := hB.size
      by_cases hkK : k < K
      · have hwp := waits_pos HS.out (i := k) (by have := HK8.out; omega)
        have hwl := waitsL_le ts (k : Int)
        have hki : (k : Int) < (K : Int) := by omega
        go_wp2_with fail
        refine (l01Waits_c _ ts (k : Int) _ (hI.later hB) hm).mono ?_
        rintro e w3 ⟨vw, rfl, how, hb3⟩
        simp only [id]
        have hO3 := hO.below hb3
        have hB3 := hB.trans (hb3.mono hsw)
        have hIw := how.ints
        have hs3 := hB3.size
        clear hO hB hb3 how
        obtain ⟨L, hL⟩ : ∃ L, waitsL ts (k : Int) = L := ⟨_, rfl⟩
        rw [hL] at hIw hwp hwl
        have HL := Lib.hid hL
        clear hL
        obtain ⟨aw, cw, rfl⟩ := hIw.shape
        obtain ⟨bw, ow, rfl, hbw, hcw⟩ := hIw.at_ hwp
        have c0' : w3.cell? ⟨bw, ow, none⟩ = some (.int .i64 (nth L 0)) := by simpa using hcw 0 hwp
        have Hcw := Lib.hid hcw
        have hLi : (0 : Int) < (L.length : Int) := by omega
        clear hcw
        go_wp2_with fail
        go_quiet (fail)
        have hbq : Below w3.heap.size w3 (w3.drewN nq) := below_drewN (Below.refl _ _) _
        have hO4 := hO3.below hbq
        have hB4 := hB3.trans (hbq.mono hs3)
        obtain ⟨w4, hw4⟩ : ∃ w4, w3.drewN nq = w4 := ⟨_, rfl⟩
        rw [hw4] at hbq hO4 hB4 ⊢
        clear hw4 hO3 hB3 c0' hIw
        have hs4 := hbq.size
        go_wp2
        go_loop [9, 10, 37] (fun l h i => ∃ j : Nat, j ≤ L.length ∧ i = .int .i64 j ∧ l = .int .i64 (leastTo L j) ∧ h = .int .i64 (hiTo L j)) (fun _ _ i => L.length - (intOf i).toNat)
        case atStart => exact ⟨0, Nat.zero_le _, rfl, by rw [leastTo_zero], by rw [hiTo_zero]⟩
        case round =>
          obtain ⟨j, hj, rfl, rfl, rfl⟩ := hrel
          by_cases hjl : j < L.length
          · have hcx := (hbq.cell (p := ⟨bw, ow + j, none⟩) hbw).trans (Hcw.out j hjl)
            have h1 := leastTo_succ hjl
            have h2 := hiTo_succ hjl
            obtain ⟨p, hp⟩ : ∃ p, leastTo L j = p := ⟨_, rfl⟩
            obtain ⟨r, hr⟩ : ∃ r, hiTo L j = r := ⟨_, rfl⟩
            obtain ⟨z, hz⟩ : ∃ z, nth L j = z := ⟨_, rfl⟩
            rw [hp, hz] at h1
            rw [hr, hz] at h2
            rw [hz] at hcx
            rw [hp, hr]
            have H1 := Lib.hid h1
            have H2 := Lib.hid h2
            have hji : (j : Int) < (L.length : Int) := by omega
            clear h1 h2 hp hr hz
            by_cases e1 : z < p
            · by_cases e2 : r < z
              · go_wp2
                exact ⟨⟨j + 1, by omega, by simp, by rw [H1.out]; congr 1; omega, by rw [H2.out]; congr 1; omega⟩, by simp [intOf]; omega⟩
              · go_wp2
                exact ⟨⟨j + 1, by omega, by simp, by rw [H1.out]; congr 1; omega, by rw [H2.out]; congr 1; omega⟩, by simp [intOf]; omega⟩
            · by_cases e2 : r < z
              · go_wp2
                exact ⟨⟨j + 1, by omega, by simp, by rw [H1.out]; congr 1; omega, by rw [H2.out]; congr 1; omega⟩, by simp [intOf]; omega⟩
              · go_wp2
                exact ⟨⟨j + 1, by omega, by simp, by rw [H1.out]; congr 1; omega, by rw [H2.out]; congr 1; omega⟩, by simp [intOf]; omega⟩
          · obtain rfl : j = L.length := by omega
            obtain ⟨x, hx⟩ : ∃ x, leastTo L L.length = x := ⟨_, rfl⟩
            obtain ⟨y, hy⟩ : ∃ y, hiTo L L.length = y := ⟨_, rfl⟩
            have Hst := Lib.hid (show spTo ts (k + 1) = spTo ts k ++ [[x, y]] by rw [spTo_succ, ← hx, ← hy]; unfold spOf leastL hiL; rw [HL.out])
            obtain ⟨u, hU⟩ := hO4
            have hspl := spTo_length ts k
            obtain ⟨xss, hxs⟩ : ∃ xss, spTo ts k = xss := ⟨_, rfl⟩
            rw [hxs] at hU hspl
            have Hxs := Lib.hid hxs
            have hxl : xss.length ≤ 8 := by omega
            have hrow := ((hU.list.alloc (.cells #[.int .i64 x, .int .i64 y] 2)).alloc (.cells #[.slice (some ⟨w4.heap.size, 0, none⟩) 2 2] 22))
            have hs5 := hB4.size
            rw [hx, hy]
            clear hx hy hspl hxs
            go_wp2_with (at_builtin; refine wpList_append_own_at _ rfl _ _ 57 rfl w.heap.size 22 il (.slice none 0 0) 1 24 Try.underlying57 hl0 hl1 hl2 hl3 rfl (by decide) _ _ _ rfl hrow ⟨w4.heap.size + 1, 0, none⟩ 1 1 [.slice (some ⟨w4.heap.size, 0, none⟩) 2 2] rfl rfl (by have := Go.cell_one_new (w4.alloc (.cells #[.int .i64 x, .int .i64 y] 2)) (.slice (some ⟨w4.heap.size, 0, none⟩) 2 2) 22; simpa using this) (by simp [Value.oneCell']) (by unfold maxLen; omega) (by omega) (by simp; omega) ?_)
            intro v' w6 hown' hgrow _ hat
            have hO6 := spread_snoc hU hs5 hown' hgrow hat
            rw [← Hxs.out, ← Hst.out] at hO6
            have hB6 : Below w.heap.size w w6 := ((hB4.alloc hs5 _).alloc (by simp; omega) _).grown hgrow (by simp; omega) (fun j e => (hU.lblk j e).1)
            obtain ⟨a6, c6, rfl⟩ := hO6.shape
            clear hown' hgrow hat hU hrow hB4 hbq
            go_wp2
            go_roundw
            case rel => exact ⟨k + 1, _, ⟨by omega, by simp, rfl⟩, hO6, hB6⟩
            case measure => simp [intOf]; omega
      · obtain rfl : k = K := by omega
        go_wp2
        go_ret2
        exact ⟨_, ret_v2 Hc.out.symm, by rw [Hr.out, HK.out]; exact hO, hB⟩
  · have Hr := Lib.hid (show spR ts = [] by unfold spR; rw [if_neg hc])
    have Hvs := Lib.hid (show lvS ts = [] by unfold lvS; rw [if_neg hc])
    obtain ⟨c, hcc⟩ : ∃ c, levC ts = c := ⟨_, rfl⟩
    rw [hcc] at hc
    have hq : (c != 0) = true := by simpa using hc
    have Hc := Lib.hid hcc
    clear hcc
    go_enter Try.func42, Try.ntmps42
    go_wp2_with fail
    refine (l07Given_c _ ts _ hI hm).mono ?_
    rintro e w1 ⟨vs, he, hos, hB1⟩
    rw [Hc.out] at he
    subst he
    clear hos
    go_wp2
    go_ret2
    exact ⟨_, ret_v2 Hc.out.symm, by rw [Hr.out]; exact ownLL_nil _ _, hB1⟩

end Go.Proofs.Ytnhdfpmjebfjmaa
