/-
  Distances on a ground: fewestSteps and DistancesFrom of the program, DistancesFrom of the model.
  Conditions: none.
-/
import Derived.Test.YtieobjoijalijaaGnM
import Derived.Test.YtieobjoijalijaaGnD
import Derived.Test.YtieobjoijalijaaGnN
namespace Go.Proofs.Ytieobjoijalijaa
open Go.RowKit Go.Shelf Go.Maps
attribute [local go_sem] Oper.semAt_some

def drC (p r i : Int) : Int := plcC p r [i]
def drR (p r i : Int) : List Int := if drC p r i = 0 then dL r.toNat p.toNat i.toNat else []
theorem plc_in {p r : Int} {zs : List Int} (h : plcC p r zs = 0) : gOk p r = true := by
  unfold plcC at h
  cases hg : gOk p r
  · rw [hg] at h; simp at h
  · rfl
theorem drR_len (p r i : Int) : (drR p r i).length * 8 ≤ 140737488351232 := by
  unfold drR
  split
  · rename_i h
    obtain ⟨n, m, rfl, _, _, h2, _⟩ := gOk_nat (plc_in h)
    rw [dL_len, Int.toNat_natCast]
    omega
  · simp

theorem BInv.lst {n : Nat} (f : Int) (t : Nat) : ∀ (xs : List Nat) (s : List Int × List Int), (∀ x ∈ xs, x < n) → BInv n s → t < s.2.length → f = nth s.2 t → BInv n (bLst f xs s) ∧ s.2.length ≤ (bLst f xs s).2.length ∧ nth (bLst f xs s).2 t = nth s.2 t
  | [], s, _, h, _, _ => ⟨h, Nat.le_refl _, rfl⟩
  | x :: xs, s, hx, h, ht, hf => by
    simp only [bLst]
    split
    · rename_i h0
      obtain ⟨ds, qs⟩ := s
      have h1 := BInv.put h (hx x (by simp)) ht hf h0
      have h2 := BInv.lst f t xs (ds.set x (nth ds f.toNat + 1), qs ++ [(x : Int)]) (fun y hy => hx y (by simp [hy])) h1 (by simp only [List.length_append] at ht ⊢; omega) (by rw [nth_app_lo _ ht]; exact hf)
      refine ⟨h2.1, ?_, ?_⟩
      · have := h2.2.1
        simp at this ⊢
        omega
      · rw [h2.2.2]; exact nth_app_lo _ ht
    · exact BInv.lst f t xs s (fun y hy => hx y (by simp [hy])) h ht hf
theorem nearL_lt {m f n : Nat} : ∀ x ∈ nearL m f n, x < n := fun x hx => by
  unfold nearL at hx
  simp at hx
  exact hx.1
theorem nth_near {m f n j : Nat} (h : j < (nearL m f n).length) : nth (nearI m f n) j = ((nearL m f n)[j] : Int) := by simp [nearI, nth, h]

set_option maxRecDepth 100000 in
set_option maxHeartbeats 4000000 in
theorem nearby_c (p m f b : Nat) (w : World) (bG : Box2 w b 56 (.int .i64 (p : Int)) (.int .i64 (m : Int))) (hp : p ≤ 6) (hm : m < 32768) (hf : f < 6) :
    Calls Try.prog 108 #[.int .i64 (f : Int), .pointer (some ⟨b, 0, none⟩)] w (GivesI w (nearI m f p) id) := by
  have c0 := bG.c0
  have c1 := bG.c1
  go_enter Try.func108, Try.ntmps108
  go_wp2_with fail
  refine (placesNear_c p m f _ hp hm hf).mono ?_
  rintro e w1 ⟨v, rfl, ho, hb⟩
  go_wp2
  go_ret
  exact ⟨v, rfl, ho, hb⟩

set_option maxRecDepth 100000 in
set_option maxHeartbeats 16000000 in
theorem fewest_c (p m i b : Nat) (w : World) (bG0 : Box2 w b 56 (.int .i64 (p : Int)) (.int .i64 (m : Int))) (hp : p ≤ 6) (hm : m < 32768) (hip : i < p) :
    Calls Try.prog 107 #[.int .i64 (i : Int), (.func (Fn.func 108) #[] #[.pointer (some ⟨b, 0, none⟩)])] w fun e w' => ∃ M, e = .returned (.map (some M)) ∧ w.heap.size ≤ M ∧ DMap w' M p (dL m p i) ∧ (∀ j, j < p → -1 ≤ nth (dL m p i) j) ∧ Below w.heap.size w w' := by
  obtain ⟨i0, hi, hz0, hz1, hz2⟩ := info_parts Try.infoI
  obtain ⟨M, hM⟩ : ∃ M, w.heap.size = M := ⟨_, rfl⟩
  have hb0 := bG0.lt
  have hD0 := DMap.new (n := p) (World.alloc_heap_new w (.map #[] 0))
  have hB0 : Below w.heap.size w (w.alloc (.map #[] 0)) := (Below.refl _ w).alloc (Nat.le_refl _) _
  have bG1 := bG0.alloc (.map #[] 0)
  obtain ⟨w1, hw1⟩ : ∃ w1, w.alloc (.map #[] 0) = w1 := ⟨_, rfl⟩
  rw [hw1] at hD0 hB0 bG1
  obtain ⟨w2, hrun, hD1, hg1⟩ := hD0.put (j := i) (v := 0) hip hp (by simp) (by rw [nth_rep _ _ hip]; omega) (by omega)
  have hB1 := hB0.grown hg1 hB0.size (fun j e => by have : w.heap.size = j := (by simpa using e); omega)
  have bG2 := bG1.kept hg1 (by simp; omega)
  have hs2 : w.heap.size < w2.heap.size := Nat.lt_of_lt_of_le hD1.lt (Nat.le_refl _)
  obtain ⟨B1, hB1e⟩ : ∃ B1, w2.heap.size = B1 := ⟨_, rfl⟩
  have hL0 : OwnI B1 (w2.alloc (.cells #[.int .i64 (i : Int)] 2)) (.slice (some ⟨B1, 0, none⟩) 1 1) [(i : Int)] := by
    have := World.ownsRow_lit (base := B1) (e := 2) (size := 1) w2 #[.int .i64 (i : Int)] 1 (by omega) (by unfold maxLen; omega) rfl
    rw [hB1e] at this
    exact this
  have hb2 : Below w2.heap.size w2 (w2.alloc (.cells #[.int .i64 (i : Int)] 2)) := (Below.refl _ _).alloc (Nat.le_refl _) _
  have hD2 := hD1.later hb2
  have bG3 := bG2.later hb2
  have hB2 := hB1.trans (hb2.mono hB1.size)
  obtain ⟨W3, hW3⟩ : ∃ W3, w2.alloc (.cells #[.int .i64 (i : Int)] 2) = W3 := ⟨_, rfl⟩
  rw [hW3] at hL0 hD2 bG3 hB2
  clear hb2 hD1 bG2 hB1 bG1 hB0 hD0 hg1
  have HD := Lib.hid hD2
  have HB := Lib.hid hB2
  clear hD2 hB2
  have hmk : (Instr.makeMap 112 none).run Try.prog w = .ok (.map (some w.heap.size)) w1 := by rw [← hw1]; rfl
  have hBM : w.heap.size < B1 := by omega
  rw [hM] at hmk hrun HD
  go_enter Try.func107, Try.ntmps107
  go_wp2
  first | rw [hB1e] | skip
  clear hmk hrun hw1 hW3 hB1e hs2
  go_loopw [6, 7] (fun v q wr => ∃ t : Nat, t ≤ (bOut m p i t).2.length ∧ q = .int .i64 t ∧ (∀ t', t' < t → t' < (bOut m p i t').2.length) ∧ DMap wr M p (bOut m p i t).1 ∧ OwnI B1 wr v (bOut m p i t).2 ∧ Box2 wr b 56 (.int .i64 (p : Int)) (.int .i64 (m : Int)) ∧ Below w.heap.size w wr) (fun _ q _ => p + 1 - (intOf q).toNat)
  case atStart => exact ⟨0, Nat.zero_le _, rfl, fun t' h => by omega, HD.out, hL0, bG3, HB.out⟩
  case round =>
    obtain ⟨t, ht, rfl, hall, hD, hL, bG, hB⟩ := hrel
    clear hL0 bG3 HB HD
    have hinv := bOut_inv m hip t hall
    have hle := hinv.le
    by_cases htl : t < (bOut m p i t).2.length
    · have Hall := Lib.hid hall
      have hft := hinv.at_ t htl
      obtain ⟨f, hf⟩ : ∃ f : Nat, nth (bOut m p i t).2 t = f := ⟨(nth (bOut m p i t).2 t).toNat, by omega⟩
      have HN := Lib.hid (show bOut m p i (t + 1) = bLst (f : Int) (nearL m f p) (bOut m p i t) by have h := bIn_lst m (f : Int) (bOut m p i t) p; rw [Int.toNat_natCast] at h; rw [← h, ← hf]; rfl)
      have Htl := Lib.hid htl
      obtain ⟨s, hs⟩ : ∃ s, bOut m p i t = s := ⟨_, rfl⟩
      rw [hs] at hD hL hinv hf htl ht HN hft hle
      clear hall hs
      obtain ⟨gl, cl, rfl, hgl, hgl2⟩ := hL.shape (by omega)
      have cT := hL.cellAt htl
      rw [hf] at cT
      have hti : (t : Int) < (s.2.length : Int) := by omega
      have hfp : f < p := by omega
      have Hinv := Lib.hid hinv
      have HF := Lib.hid hf
      clear hinv hft hf
      go_wp2_with fail
      refine (nearby_c p m f b _ bG hp hm (by omega)).mono ?_
      rintro e wq ⟨nv, rfl, hnv, hbq⟩
      have hD1 := hD.later hbq
      have hL1 := hL.below hbq
      have bG1 := bG.later hbq
      have hB1 := hB.trans (hbq.mono hB.size)
      have hnl := nearI_len m f p
      have hnll : (nearI m f p).length = (nearL m f p).length := by simp [nearI]
      have hqq := hbq.size
      obtain ⟨an, cn, rfl⟩ := hnv.ints.shape
      have hne0 : ∀ x, (Value.slice (some ⟨gl, 0, none⟩) s.2.length cl).ownBlock = some x → (Value.slice an (nearI m f p).length cn).ownBlock ≠ some x := fun x hx he => by
        have h1 := (hnv.blk x he).1
        have h2 : gl = x := by simpa [Value.ownBlock] using hx
        omega
      obtain ⟨js, hjs⟩ : ∃ js, nearI m f p = js := ⟨_, rfl⟩
      have Hjs := Lib.hid hjs
      rw [hjs] at hnv hnl hnll hne0
      have hnll' : js.length ≤ 6 := by omega
      have Hnll := Lib.hid hnll
      clear hnll hD hL bG hB hbq cT
      try rw [hjs]
      clear hjs
      go_wp2
      go_loopw [6, 32] (fun v q wi => ∃ j : Nat, j ≤ js.length ∧ q = .int .i64 j ∧ DMap wi M p (bLst (f : Int) ((nearL m f p).take j) s).1 ∧ OwnI B1 wi v (bLst (f : Int) ((nearL m f p).take j) s).2 ∧ OwnI wr.heap.size wi (.slice an js.length cn) js ∧ (∀ x, v.ownBlock = some x → (Value.slice an js.length cn).ownBlock ≠ some x) ∧ Box2 wi b 56 (.int .i64 (p : Int)) (.int .i64 (m : Int)) ∧ Below w.heap.size w wi) (fun _ q _ => js.length - (intOf q).toNat)
      case atStart => exact ⟨0, Nat.zero_le _, rfl, hD1, hL1, hnv, hne0, bG1, hB1⟩
      case round =>
        obtain ⟨j, hj, rfl, hDi, hLi, hnvi, hnei, bGi, hBi⟩ := hrel
        clear hD1 hL1 hnv hne0 bG1 hB1
        have hin := BInv.lst (n := p) (f : Int) t ((nearL m f p).take j) s (fun x hx => nearL_lt x (List.mem_of_mem_take hx)) Hinv.out htl HF.out.symm
        by_cases hlt : j < js.length
        · have hji : (j : Int) < (js.length : Int) := by omega
          have hjl : j < (nearL m f p).length := by rw [← Hnll.out]; exact hlt
          obtain ⟨x, hx⟩ : ∃ x, (nearL m f p)[j] = x := ⟨_, rfl⟩
          have hxp : x < p := by rw [← hx]; exact nearL_lt _ (List.getElem_mem hjl)
          have Hst := Lib.hid (show bLst (f : Int) ((nearL m f p).take (j + 1)) s = bLst (f : Int) [x] (bLst (f : Int) ((nearL m f p).take j) s) by rw [← bLst_append, ← hx, ← List.take_append_getElem hjl])
          have hnx : nth js j = (x : Int) := by rw [← Hjs.out, nth_near hjl, hx]
          obtain ⟨ds, qs, hdq⟩ : ∃ ds qs, bLst (f : Int) ((nearL m f p).take j) s = (ds, qs) := ⟨_, _, rfl⟩
          rw [hdq] at hDi hLi hin Hst
          simp only at hDi hLi hin
          obtain ⟨hv, hlen, hqt⟩ := hin
          have htq : t < qs.length := by omega
          have hdl := Lib.hid (show ds.length = p from hv.len)
          have hq7 : qs.length ≤ 6 := Nat.le_trans hv.le hp
          have hat := hv.at_ t htq
          simp only at hat
          rw [hqt, HF.out, Int.toNat_natCast] at hat
          have hz0f := hat.2.2.1
          have hz1f := hat.2.2.2
          have htj : (t : Int) ≤ 6 := by omega
          obtain ⟨gn, cn2, hsh, _, _⟩ := hnvi.shape (by omega)
          obtain ⟨rfl, rfl⟩ : an = some ⟨gn, 0, none⟩ ∧ cn = cn2 := by simpa using hsh
          have cX := hnvi.cellAt hlt
          rw [hnx] at cX
          obtain ⟨gq, cq, rfl, hgq, hgq2⟩ := hLi.shape (by omega)
          have hsw := hBi.size
          have hlk := hDi.look hxp hp
          clear hdq hv hat hqt hlen hx hsh hnx
          by_cases hneg : nth ds x < 0
          · rw [if_neg (by omega), decide_eq_false (by omega)] at hlk
            have hlk1 := hDi.look1 hfp hp hz0f
            obtain ⟨w5, hrun5, hD5, hg5⟩ := hDi.put (j := x) (v := nth ds f + 1) hxp hp hdl.out hneg (by omega)
            have Hn := Lib.hid (show bLst (f : Int) ((nearL m f p).take (j + 1)) s = (ds.set x (nth ds f + 1), qs ++ [(x : Int)]) by rw [Hst.out]; simp only [bLst]; rw [if_pos hneg, Int.toNat_natCast])
            have hMq : M ≠ gq := by omega
            have hMn : M ≠ gn := by have := (hnvi.blk gn rfl).1; omega
            have hL5 := hLi.kept hg5 (.inr (by simp [Value.ownBlock]; omega))
            have hn5 := hnvi.kept hg5 (.inr (by simp [Value.ownBlock]; omega))
            have bG5 := bGi.kept hg5 (by simp; omega)
            have hB5 := hBi.grown hg5 hBi.size (fun j' e => by have : M = j' := (by simpa using e); omega)
            have hs5 : w.heap.size ≤ w5.heap.size := hB5.size
            have hq6 : B1 ≤ w5.heap.size := Nat.le_of_lt (Nat.lt_of_le_of_lt hgq (hL5.blk gq rfl).2)
            have hgn5 := (hn5.blk gn rfl).2
            clear hg5 hDi hLi hnvi bGi hBi hneg
            go_wp2_with (at_builtin; refine wpList_append_own_at _ rfl _ _ 22 rfl B1 2 i0 (.int .i64 0) 1 8 Try.underlying22 hi hz0 hz1 hz2 rfl (by decide) _ _ _ rfl (World.ownsRow.alloc hL5 _) ⟨w5.heap.size, 0, none⟩ 1 1 [.int .i64 (x : Int)] rfl rfl (Go.cell_one_new _ _ _) (by simp [Value.oneCell']) (by unfold maxLen; omega) (by omega) (by simp; omega) ?_)
            intro v' w6 hown' hgrow _ hatt
            have ho2 := ownI_snoc hown'
            have hB2 : Below w.heap.size w w6 := (hB5.alloc hs5 _).grown hgrow (by simp; omega) (fun j e => by have := (hL5.blk j e).1; omega)
            have hgr : w5.grownBy w6 _ := (World.grownBy_alloc _ _ _).trans hgrow
            have hat2 : ∀ y, v'.ownBlock = some y → y = gq ∨ w5.heap.size ≤ y := fun y e => by
              rcases hatt with h | h
              · rw [h] at e; left; simpa [Value.ownBlock] using e.symm
              · rw [h] at e; right; simp at e; omega
            clear hown' hgrow hatt
            have hD6 := hD5.kept hgr (by simp [Value.ownBlock]; omega)
            have hn6 := hn5.kept hgr (.inr (hnei gq rfl))
            have hG6 := bG5.kept hgr (by simp [Value.ownBlock]; omega)
            have hne6 : ∀ y, v'.ownBlock = some y → (Value.slice (some ⟨gn, 0, none⟩) js.length cn).ownBlock ≠ some y := fun y e he => by
              have h1 : gn = y := by simpa [Value.ownBlock] using he
              have h2 := hnei gq rfl
              rcases hat2 y e with h | h
              · subst h; exact h2 he
              · omega
            clear hgr hD5 hn5 bG5 hB5 hL5
            go_wp2
            go_roundw
            case rel => exact ⟨j + 1, by omega, by simp, by rw [Hn.out]; exact hD6, by rw [Hn.out]; exact ho2, hn6, hne6, hG6, hB2⟩
            case measure => simp [intOf]; omega
          · rw [if_pos (by omega), decide_eq_true (by omega)] at hlk
            have Hn := Lib.hid (show bLst (f : Int) ((nearL m f p).take (j + 1)) s = (ds, qs) by rw [Hst.out]; simp only [bLst]; rw [if_neg hneg])
            go_wp2
            go_roundw
            case rel => exact ⟨j + 1, by omega, by simp, by rw [Hn.out]; exact hDi, by rw [Hn.out]; exact hLi, hnvi, hnei, bGi, hBi⟩
            case measure => simp [intOf]; omega
        · have hje : (nearL m f p).take j = nearL m f p := List.take_of_length_le (by rw [← Hnll.out]; omega)
          rw [hje] at hDi hLi hin
          have hlen := hin.2.1
          have hnj : ¬ (j : Int) < (js.length : Int) := by omega
          clear hin hje
          go_wp2
          go_roundw
          case rel => exact ⟨t + 1, by rw [HN.out]; omega, by simp, fun t' h => (by
            by_cases e : t' = t
            · subst e; exact Htl.out
            · exact Hall.out t' (by omega)), by rw [HN.out]; exact hDi, by rw [HN.out]; exact hLi, bGi, hBi⟩
          case measure => simp [intOf]; omega
    · have hte : (bOut m p i t).2.length = t := by omega
      have HE := Lib.hid (dL_eq hip hall hte)
      have hlow : ∀ j, j < p → -1 ≤ nth (dL m p i) j := fun j hj => by rw [HE.out]; exact (hinv.low j hj).1
      have Hlow := Lib.hid hlow
      clear hlow
      have hnl : ¬ (t : Int) < ((bOut m p i t).2.length : Int) := by omega
      obtain ⟨s, hs⟩ : ∃ s, bOut m p i t = s := ⟨_, rfl⟩
      rw [hs] at hD hL HE hnl
      clear hte hall hinv hle ht hs htl
      obtain ⟨al, cl, rfl⟩ := hL.ints.shape
      go_wp2
      go_ret
      exact ⟨M, rfl, by omega, by rw [HE.out]; exact hD, Hlow.out, by first | exact hB | (rw [← hM]; exact hB)⟩

theorem dr_bad {p r : Int} (i : Int) (h : gOk p r = false) : drC p r i = 1 ∧ drR p r i = [] := by
  have : drC p r i = 1 := by unfold drC plcC; rw [h]; rfl
  exact ⟨this, by unfold drR; rw [this]; rfl⟩
theorem dr_out {p r i : Int} (h : gOk p r = true) (h2 : inB i 0 (p - 1) = false) : drC p r i = 2 ∧ drR p r i = [] := by
  have : drC p r i = 2 := by unfold drC plcC; rw [h]; simp [h2]
  exact ⟨this, by unfold drR; rw [this]; rfl⟩
theorem dr_in {n m i : Nat} (h : gOk n m = true) (h1 : i < n) : drC n m i = 0 ∧ drR n m i = dL m n i := by
  have a1 : inB (i : Int) 0 ((n : Int) - 1) = true := inB_true.2 ⟨by omega, by omega⟩
  have : drC n m i = 0 := by unfold drC plcC; rw [h]; simp [a1]
  exact ⟨this, by unfold drR; rw [this]; simp⟩

set_option maxRecDepth 100000 in
set_option maxHeartbeats 8000000 in
theorem i_DistancesFrom (p r i : Int) (w : World) (_hp : I64 p) (_hr : I64 r) (_hi : I64 i) :
    Calls Try.prog 53 #[.agg #[.int .i64 p, .int .i64 r], .int .i64 i] w (GivesI w (drR p r i) fun v => .tuple #[v, .int .i64 (drC p r i)]) := by
  obtain ⟨i0, hi, hz0, hz1, hz2⟩ := info_parts Try.infoI
  have b0 := Box2.new w 56 (.int .i64 p) (.int .i64 r)
  have c0 := b0.c0
  have c1 := b0.c1
  have hB0 : Below w.heap.size w (w.alloc (.cells #[.int .i64 p, .int .i64 r] 56)) := (Below.refl _ w).alloc (Nat.le_refl _) _
  obtain ⟨W0, hW0⟩ : ∃ W0, (w.alloc (.cells #[.int .i64 p, .int .i64 r] 56)) = W0 := ⟨_, rfl⟩
  rw [hW0] at b0 c0 c1 hB0
  have HB0 := Lib.hid b0
  clear b0
  cases hg : gOk p r
  · have Hg := Lib.hid hg
    have Ha := Lib.hid (dr_bad i hg)
    clear hg
    go_enter Try.func53, Try.ntmps53
    go_wp2_with fail
    refine (isGround_c p r _).mono ?_
    rintro e w1 ⟨rfl, hb⟩
    rw [Hg.out]
    go_wp2
    go_ret2
    exact ⟨.slice none 0 0, by rw [Ha.out.1]; rfl, by rw [Ha.out.2]; exact ownI_nil _ _, hB0.trans (hb.mono hB0.size)⟩
  have Hg := Lib.hid hg
  cases hi1 : inB i 0 (p - 1)
  · have Hi1 := Lib.hid hi1
    have Ha := Lib.hid (dr_out hg hi1)
    clear hg hi1
    go_enter Try.func53, Try.ntmps53
    go_wp2_with fail
    refine (isGround_c p r _).mono ?_
    rintro e w1 ⟨rfl, hb⟩
    rw [Hg.out]
    have b1 := HB0.out.later hb
    have hB1 := hB0.trans (hb.mono hB0.size)
    replace c0 := b1.c0
    replace c1 := b1.c1
    clear hb hB0
    go_wp2_with fail
    refine (isPlaceOf_c p r i _).mono ?_
    rintro e w2 ⟨rfl, hb2⟩
    rw [Hi1.out]
    go_wp2
    go_ret2
    exact ⟨.slice none 0 0, by rw [Ha.out.1]; rfl, by rw [Ha.out.2]; exact ownI_nil _ _, hB1.trans (hb2.mono hB1.size)⟩
  have Hi1 := Lib.hid hi1
  obtain ⟨n, m, rfl, rfl, hn1, hn6, hm⟩ := gOk_nat hg
  have q1 := inB_true.1 hi1
  obtain ⟨i, rfl⟩ : ∃ i' : Nat, i = i' := ⟨i.toNat, by omega⟩
  have hmm : m < 32768 := Nat.lt_of_lt_of_le hm (gTop_le n hn6)
  have Ha := Lib.hid (dr_in hg (show i < n by omega))
  have hin : i < n := by omega
  clear hg hi1 q1 _hp _hr _hi hn1 hm
  go_enter Try.func53, Try.ntmps53
  go_wp2_with fail
  refine (isGround_c n m _).mono ?_
  rintro e w1 ⟨rfl, hb⟩
  rw [Hg.out]
  have b1 := HB0.out.later hb
  have hB1 := hB0.trans (hb.mono hB0.size)
  replace c0 := b1.c0
  replace c1 := b1.c1
  clear hb hB0
  go_wp2_with fail
  refine (isPlaceOf_c n m i _).mono ?_
  rintro e w2 ⟨rfl, hb2⟩
  rw [Hi1.out]
  replace b1 := b1.later hb2
  replace hB1 := hB1.trans (hb2.mono hB1.size)
  clear hb2 c0 c1
  go_wp2_with fail
  have hw2 := b1.lt
  refine (fewest_c n m i w.heap.size _ b1 hn6 hmm hin).mono ?_
  rintro e w3 ⟨M, rfl, hM, hD, hlow, hb3⟩
  replace b1 := b1.later hb3
  replace hB1 := hB1.trans (hb3.mono hB1.size)
  have hdl := dL_len m n i
  obtain ⟨ds, hds⟩ : ∃ ds, dL m n i = ds := ⟨_, rfl⟩
  have Ha := Lib.hid (show drC n m i = 0 ∧ drR n m i = ds by rw [← hds]; exact Ha.out)
  rw [hds] at hD hlow hdl
  have hM2 : w.heap.size ≤ M := by omega
  clear hds hb3
  have Hlow := Lib.hid hlow
  have Hdl := Lib.hid hdl
  clear hlow hdl
  have c0 := b1.c0
  obtain ⟨B2, hB2e⟩ : ∃ B2, w3.heap.size = B2 := ⟨_, rfl⟩
  have hMB : M < B2 := by rw [← hB2e]; exact hD.lt
  have hwB : w.heap.size < B2 := by rw [← hB2e]; exact b1.lt
  have hBB : B2 ≤ w3.heap.size := by omega
  go_wp2
  clear c0
  go_loopw [7, 23] (fun v q wr => ∃ k : Nat, k ≤ n ∧ q = .int .i64 k ∧ OwnI B2 wr v (ds.take k) ∧ DMap wr M n ds ∧ B2 ≤ wr.heap.size ∧ Below w.heap.size w wr) (fun _ q _ => n - (intOf q).toNat)
  case atStart => exact ⟨0, Nat.zero_le _, rfl, ownI_nil _ _, hD, hBB, hB1⟩
  case round =>
    obtain ⟨k, hk, rfl, ho, hDr, hBr, hB⟩ := hrel
    have hsw := hB.size
    by_cases hlt : k < n
    · have hki : (k : Int) < (n : Int) := by omega
      have hlk := hDr.look hlt hn6
      have Ht := Lib.hid (show ds.take (k + 1) = ds.take k ++ [nth ds k] by rw [nth_lt (by rw [Hdl.out]; exact hlt)]; exact (List.take_append_getElem (by rw [Hdl.out]; exact hlt)).symm)
      have hlen : (ds.take k).length ≤ 6 := by have := List.length_take_le k ds; omega
      obtain ⟨xs, hxs⟩ : ∃ xs, ds.take k = xs := ⟨_, rfl⟩
      rw [hxs] at ho Ht hlen
      clear hxs
      by_cases hneg : nth ds k < 0
      · rw [if_neg (by omega), decide_eq_false (by omega)] at hlk
        have Hv := Lib.hid (show nth ds k = -1 by have := Hlow.out k hlt; omega)
        clear hneg
        go_wp2_with (at_builtin; refine wpList_append_own _ rfl _ _ 22 rfl B2 2 i0 (.int .i64 0) 1 8 Try.underlying22 hi hz0 hz1 hz2 rfl (by decide) _ _ _ rfl (World.ownsRow.alloc ho _) ⟨wr.heap.size, 0, none⟩ 1 1 [.int .i64 ((-1))] rfl rfl (Go.cell_one_new _ _ _) (by simp [Value.oneCell']) (by unfold maxLen; omega) (by omega) (by simp; omega) ?_)
        intro v' w1 hown' hgrow _
        have ho2 := ownI_snoc hown'
        have hB2 : Below w.heap.size w w1 := (hB.alloc hsw _).grown hgrow (by simp; omega) (fun j e => by have := (ho.blk j e).1; omega)
        have hgr : wr.grownBy w1 _ := (World.grownBy_alloc _ _ _).trans hgrow
        clear hown' hgrow
        have hD6 := hDr.kept hgr (fun e => by have := (ho.blk _ e.symm).1; omega)
        have hs6 := hgr.size
        clear hgr hDr hB ho
        go_wp2
        go_roundw
        case rel => exact ⟨k + 1, by omega, by simp, by rw [Ht.out, Hv.out]; exact ho2, hD6, by omega, hB2⟩
        case measure => simp [intOf]; omega
      · rw [if_pos (by omega), decide_eq_true (by omega)] at hlk
        go_wp2_with (at_builtin; refine wpList_append_own _ rfl _ _ 22 rfl B2 2 i0 (.int .i64 0) 1 8 Try.underlying22 hi hz0 hz1 hz2 rfl (by decide) _ _ _ rfl (World.ownsRow.alloc ho _) ⟨wr.heap.size, 0, none⟩ 1 1 [.int .i64 ((nth ds k))] rfl rfl (Go.cell_one_new _ _ _) (by simp [Value.oneCell']) (by unfold maxLen; omega) (by omega) (by simp; omega) ?_)
        intro v' w1 hown' hgrow _
        have ho2 := ownI_snoc hown'
        have hB2 : Below w.heap.size w w1 := (hB.alloc hsw _).grown hgrow (by simp; omega) (fun j e => by have := (ho.blk j e).1; omega)
        have hgr : wr.grownBy w1 _ := (World.grownBy_alloc _ _ _).trans hgrow
        clear hown' hgrow
        have hD6 := hDr.kept hgr (fun e => by have := (ho.blk _ e.symm).1; omega)
        have hs6 := hgr.size
        clear hgr hDr hB ho
        go_wp2
        go_roundw
        case rel => exact ⟨k + 1, by omega, by simp, by rw [Ht.out]; exact ho2, hD6, by omega, hB2⟩
        case measure => simp [intOf]; omega
    · obtain rfl : k = n := by omega
      have Ht := Lib.hid (show ds.take k = ds from List.take_of_length_le (by rw [Hdl.out]; exact Nat.le_refl _))
      go_wp2
      go_ret2
      exact ⟨_, by rw [Ha.out.1]; rfl, by rw [Ha.out.2, ← Ht.out]; exact ho.base (by omega), hB⟩

set_option maxRecDepth 100000 in
set_option maxHeartbeats 8000000 in
theorem s_DistancesFrom (p r i : Int) (w : World) (_hp : I64 p) (_hr : I64 r) (_hi : I64 i) :
    Calls Try.prog 52 #[.agg #[.int .i64 p, .int .i64 r], .int .i64 i] w (GivesI w (drR p r i) fun v => .tuple #[v, .int .i64 (drC p r i)]) := by
  obtain ⟨i0, hi, hz0, hz1, hz2⟩ := info_parts Try.infoI
  have b0 := Box2.new w 56 (.int .i64 p) (.int .i64 r)
  have c0 := b0.c0
  have c1 := b0.c1
  have hB0 : Below w.heap.size w (w.alloc (.cells #[.int .i64 p, .int .i64 r] 56)) := (Below.refl _ w).alloc (Nat.le_refl _) _
  obtain ⟨W1, hW1⟩ : ∃ W1, ((w.alloc (.cells #[.int .i64 p, .int .i64 r] 56)).alloc (.cells #[.int .i64 i] 2)) = W1 := ⟨_, rfl⟩
  have bG : Box2 W1 w.heap.size 56 (.int .i64 p) (.int .i64 r) := by rw [← hW1]; exact b0.alloc _
  have hB1 : Below w.heap.size w W1 := by rw [← hW1]; exact hB0.alloc (by simp) _
  have hs1 : W1.heap.size = w.heap.size + 2 := by rw [← hW1]; simp
  have hIL : Ints W1.heap.size W1 (.slice (some ⟨w.heap.size + 1, 0, none⟩) 1 1) [i] := by
    refine ⟨some ⟨w.heap.size + 1, 0, none⟩, 1, rfl, .inr ⟨w.heap.size + 1, 0, rfl, by omega, fun q hq => ?_⟩⟩
    obtain rfl : q = 0 := by simp at hq; omega
    have hbx := Boxed.new (w.alloc (.cells #[.int .i64 p, .int .i64 r] 56)) 2 (.int .i64 i)
    rw [hW1] at hbx
    show W1.cell? ⟨w.heap.size + 1, 0 + 0, none⟩ = some (.int .i64 i)
    simpa using hbx.cell
  clear b0 hB0
  have HI := Lib.hid hIL
  have Hs := Lib.hid hs1
  clear hIL hs1
  go_enter Try.func52, Try.ntmps52
  go_wp2_with fail
  refine (l09Places_c p r _ [i] _ HI.out (by simp)).mono ?_
  rintro e w1 ⟨rfl, hb⟩
  have b1 := bG.later hb
  replace hB1 := hB1.trans (hb.mono (by have := Hs.out; omega))
  clear HI Hs bG hb c0 c1 hW1
  have c0 := b1.c0
  have c1 := b1.c1
  cases hg : gOk p r
  · have Ha := Lib.hid (dr_bad i hg)
    clear hg
    rw [show plcC p r [i] = 1 from Ha.out.1]
    go_wp2
    go_ret2
    exact ⟨.slice none 0 0, by rw [Ha.out.1]; rfl, by rw [Ha.out.2]; exact ownI_nil _ _, hB1⟩
  cases hi1 : inB i 0 (p - 1)
  · have Ha := Lib.hid (dr_out hg hi1)
    clear hg hi1
    rw [show plcC p r [i] = 2 from Ha.out.1]
    go_wp2
    go_ret2
    exact ⟨.slice none 0 0, by rw [Ha.out.1]; rfl, by rw [Ha.out.2]; exact ownI_nil _ _, hB1⟩
  obtain ⟨n, m, rfl, rfl, hn1, hn6, hm⟩ := gOk_nat hg
  have q1 := inB_true.1 hi1
  obtain ⟨i, rfl⟩ : ∃ i' : Nat, i = i' := ⟨i.toNat, by omega⟩
  have hmm : m < 32768 := Nat.lt_of_lt_of_le hm (gTop_le n hn6)
  have Ha := Lib.hid (dr_in hg (show i < n by omega))
  have hin : i < n := by omega
  clear hg hi1 q1 _hp _hr _hi hn1 hm
  rw [show plcC (n : Int) (m : Int) [(i : Int)] = 0 from Ha.out.1]
  go_wp2_with fail
  refine (l09Distances_c n m i _ hn6 hmm hin).mono ?_
  rintro e w4 ⟨v, rfl, ho, hb2⟩
  go_wp2
  go_ret2
  exact ⟨v, by rw [Ha.out.1]; rfl, by rw [Ha.out.2]; exact ho.base hB1.size, hB1.trans (hb2.mono hB1.size)⟩

end Go.Proofs.Ytieobjoijalijaa
