/-
  harmonicTurns of the program.
  Conditions: tasks.
-/
import Derived.Test.YtahleajedgehlaaHtI
import Derived.Test.YtahleajedgehlaaHar
import Derived.Test.YtahleajedgehlaaGas
import Derived.Test.YtahleajedgehlaaRep
import Derived.Test.YtahleajedgehlaaSortK
import Derived.Test.YtahleajedgehlaaPan
namespace Go.Proofs.Ytahleajedgehlaa
open Go.RowKit Go.Shelf
attribute [local go_sem] Oper.semAt_some

section
variable {F : Fence} {n : Nat} {P : Program} {f : FuncId} {Q : Exit → Act → World → Prop} {a : Act} {w : World}
/-- no way out but the ordinary one and a panic -/
def onlyNP (Q : Exit → Act → World → Prop) : Exit → Act → World → Prop
  | .normal, a, w => Q .normal a w
  | .panic ch, a, w => Q (.panic ch) a w
  | _, _, _ => False
theorem wpAt_block_np {id : Nat} {c : Code} (h : wpAt F n P f c (onlyNP Q) a w) : wpAt F n P f (Code.block id c) Q a w := by
  intro b k cs hro hbf hb hr
  have h0 : (lone (b.atR a (.code (.block id c) :: k)) cs w).fenced P F := fenced_calm hb hr rfl
  obtain ⟨e, a₁, w₁, hq, harr⟩ := h b (.inBlock id :: k) cs hro hbf hb hr
  cases e with
  | normal => exact ⟨.normal, a₁, w₁, hq, .head h0 stepR_block (StepsIn.trans harr (.one (fenced_calm hb hr rfl) stepR_inBlock))⟩
  | panic ch => exact ⟨_, a₁, w₁, hq, .of_steps (.one h0 stepR_block) harr⟩
  | exit id => exact hq.elim
  | goto l => exact hq.elim
  | ret => exact hq.elim
  | outgrown => exact hq.elim
end

theorem tasksOk_I64s {zs : List Int} (h : tasksOk zs = true) : I64s zs := fun z hz => by
  obtain ⟨k, hk, rfl⟩ := List.getElem_of_mem hz
  have := tasksOk_nth h hk
  simp [nth, hk] at this
  unfold I64
  omega

theorem repL_one (L : Nat) : repL [-1] L = List.replicate L (-1) := by
  induction L with
  | zero => rfl
  | succ n ih => rw [repL, ih, List.replicate_succ']
theorem most_sortV {zs : List Int} (h0 : 0 < zs.length) (hp : ∀ k, k < zs.length → 1 ≤ nth zs k) : most zs = nth (sortV zs) (zs.length - 1) := by
  obtain ⟨i, hi, e⟩ := sortV_from (zs := zs) (m := zs.length - 1) (by omega)
  have h1 : nth (sortV zs) (zs.length - 1) ≤ most zs := by rw [e]; exact mostTo_ge (Nat.le_refl _) hi
  have h2 : most zs ≤ nth (sortV zs) (zs.length - 1) := mostTo_le (Nat.le_refl _) (by rw [e]; have := hp i hi; omega) fun j hj => by
    obtain ⟨m, hm, e2⟩ := sortV_has hj
    rw [← e2]; exact sortV_le (by omega) (by omega)
  omega

theorem panM1 {F : Fence} {n : Nat} {P : Program} {fn : Func} {R : Ending → World → Prop} {tmps : Array Value} {W : World} {D : Nat} {ch : List PanicEntry} (hK : W.heap[D]? = some (.deferred (some [])))
    (h : R (.panicked ch) (W.putObj D (.deferred none))) :
    bodyPostM F n P fn R (.panic ch) { tmps := tmps, defers := [{ target := .collected D, args := #[] }] } W := ⟨by simp, .inl ⟨_, _, rfl, run_takeDeferred hK, h⟩⟩
section
variable {F : Fence} {n : Nat} {P : Program}
theorem range_outPA {g : Operand} {ps : Array Tmp} {assign body : Code} {Q : Exit → Act → World → Prop} {a : Act} {w : World} (hro : F.round = none) (h1 : 1 ≤ n)
    {gf : Nat} {lb : Array Value} (hg : a.eval g = .func (.func gf) #[] lb) (hFg : F.fn gf) (fnn : FuncId) (hfe : ∃ r, P.funcs[fnn]? = some r) (eg : ∀ args w, (callFunc gf args).run P w = .ok (.enter gf args) w)
    {enc : Nat → Array Value} {Keep : Nat → Prop} {c N : Nat} (hseq : SeqAtP F (n - 1) P gf lb enc Keep c N w) (hKeep : ∀ b, Keep b → b < w.heap.size) (hps : ∀ k, (enc k).size = ps.size)
    (I : Nat → World → Prop) (Ix : Code → Nat → World → Prop) (hI : OwnFrom w.heap.size I) (Ip : List PanicEntry → World → Prop) (hIx : ∀ c, OwnFrom w.heap.size (Ix c)) (h0 : I 0 w) (a₁ : Nat → Act)
    (hassign : ∀ (l : Nat) (k : Nat) (W : World) (K : Act → World → Prop), k < N → K (a₁ k) W →
      assign.wpIn (F.inRound l) (n - 1 - 1) P (Exit.then K (fun _ _ _ => False)) { tmps := (ps.zip (enc k)).foldl (fun t (p, v) => t.setIfInBounds p v) a.tmps, defers := [] } W)
    (hbody : ∀ (l : Nat) (k : Nat) (W : World), w.heap.size ≤ l → (∃ r, W.heap[l]? = some (.loop r)) → I k W → k < N → w.heap.size + 2 + c ≤ W.heap.size → body.wpIn (F.inRound l) (n - 1 - 1) P (roundEndP (Band Keep w.heap.size (w.heap.size + 2 + c)) I Ix Ip k W) (a₁ k) W)
    (hdone : ∀ (D : Nat) (W : World), w.heap.size ≤ D ∧ D < w.heap.size + 2 → I N W → W.heap[D]? = some (.deferred (some [])) → Q .normal { a with defers := { target := .collected D, args := #[] } :: a.defers } W)
    (hpan : ∀ (D : Nat) (chain : List PanicEntry) (W : World), w.heap.size ≤ D ∧ D < w.heap.size + 2 → Ip chain W → W.heap[D]? = some (.deferred (some [])) → Q (.panic chain) { a with defers := { target := .collected D, args := #[] } :: a.defers } W)
    (hstop : ∀ (D : Nat) (c : Code) (k : Nat) (W : World), w.heap.size ≤ D ∧ D < w.heap.size + 2 → k ≤ N → Ix c k W → W.heap[D]? = some (.deferred (some [])) → c.wpIn F n P Q { a with defers := { target := .collected D, args := #[] } :: a.defers } W) :
    wpAt F n P fnn (Code.rangeFunc g ps assign body) Q a w :=
  range_outP hro h1 hg hFg fnn hfe eg hseq hKeep hps I Ix hI Ip hIx h0 (fun k a' _ => a' = a₁ k) (fun _ _ _ _ _ _ hs _ _ => hs)
    (fun l k W K hi hk _ hK => hassign l k W K hk (hK _ _ (Kps.refl _ _) hi rfl)) (fun l k a' W hl hr hi e hk hs => by subst e; exact hbody l k W hl hr hi hk hs) hdone hpan hstop
end

set_option maxRecDepth 100000 in
set_option maxHeartbeats 8000000 in
theorem harmonicTurns_c (c0 : Value) (zs : List Int) (w : World) (hI : Ints w.heap.size w c0 zs) (ht : tasksOk zs = true) :
    Calls Try.prog 36 #[.agg #[c0]] w fun e w' => (harmB zs = true ∧ ∃ l, harmT zs = some l ∧ GivesI w l id e w') ∨ (harmB zs = false ∧ e = .panicked (refused 5) ∧ Below w.heap.size w w') ∨ (harmB zs = true ∧ harmT zs = none ∧ e = .panicked (refused 4) ∧ Below w.heap.size w w') := by
  obtain ⟨i0, hi, hz0, hz1, hz2⟩ := info_parts Try.infoI
  obtain ⟨a, cap, rfl⟩ := hI.shape
  have hl := tasksOk_len ht
  have Ht := Lib.hid ht
  clear ht
  refine (callsIn_wide (n := 9)).1 ?_
  refine callsIn_of_wpAt_marks Try.func36 rfl trivial ?_ rfl
  simp only [Try.ntmps36, List.size_toArray, List.length_cons, List.length_nil, Nat.reduceAdd, Nat.reduceSub, Array.replicate_succ, Array.replicate_zero, List.push_toArray, List.append_toArray, List.nil_append, List.cons_append]
  refine wpAt_seq (wpAt_of_wpIn ?_)
  gi_wp2_with fail
  obtain ⟨W0, hW0⟩ : ∃ W0, (w.alloc (.cells #[.slice a zs.length cap] 24)) = W0 := ⟨_, rfl⟩
  have hB0 : Below w.heap.size w W0 := by rw [← hW0]; exact ((Below.refl _ w).alloc (Nat.le_refl _) _)
  have hs0 : w.heap.size + 1 ≤ W0.heap.size := by rw [← hW0]; simp
  have bT : Boxed W0 (w.heap.size) 24 (.slice a zs.length cap) := by rw [← hW0]; repeat first | (refine boxed_at ?_; (simp; done)) | refine Boxed.alloc ?_ _
  rw [hW0]
  clear hW0
  refine wpAt_seq (wpAt_of_wpIn ?_)
  have cT := bT.cell
  gi_wp2_with fail
  refine ⟨trivial, (callsIn_wide.2 (areHarmonicGaps_c _ zs _ (hI.later hB0) Ht.out)).mono ?_⟩
  rintro e w1 ⟨rfl, hb⟩
  have hB1 := hB0.trans (hb.mono hB0.size)
  replace bT := boxed_later bT hb
  clear hb hB0 cT
  have cT := bT.cell
  cases hh : harmB zs
  · gi_wp2_with fail
    refine ⟨trivial, (callsIn_wide.2 (demand_n' _ _ _ rfl)).mono ?_⟩
    rintro e w2 ⟨rfl, rfl⟩
    gi_wp2
    exact .inr (.inl ⟨hh, rfl, hB1⟩)
  · gi_wp2_with fail
    refine ⟨trivial, (callsIn_wide.2 (demand_y' _ _ _ rfl)).mono ?_⟩
    rintro e w2 ⟨rfl, rfl⟩
    gi_wp2_with fail
    refine wpAt_seq (wpAt_of_wpIn ?_)
    gi_wp2_with fail
    refine ⟨trivial, (callsIn_wide.2 (i_SortTasks _ zs _ (hI.later hB1) (tasksOk_I64s Ht.out) (by omega))).mono ?_⟩
    rintro e w2 ⟨u, v, mid, rfl, hu, hv, hmid, hb⟩
    rw [show sortG zs = sortV zs by unfold sortG; rw [Ht.out]; rfl] at hu
    rw [show sortO zs = ordTo zs zs.length by unfold sortO; rw [Ht.out]; rfl] at hv
    rw [show sortC zs = 0 by unfold sortC; rw [Ht.out]; rfl]
    have hsl := sortV_length zs
    have hol := ordTo_length zs zs.length
    obtain ⟨au, cu, rfl⟩ := hu.own.ints.shape
    obtain ⟨gv, cv, rfl, hgv, hgv'⟩ := hv.own.shape (by omega)
    have hs01 := hB1.size
    have hs12 := hb.size
    have hB2 := hB1.trans (hb.mono hB1.size)
    replace bT := boxed_later bT hb
    clear hb hB1 cT
    gi_wp2_with fail
    obtain ⟨W3, hW3⟩ : ∃ W3, ((w2.alloc (.cells #[.slice au zs.length cu] 24)).alloc (.cells #[.slice (some ⟨gv, 0, none⟩) zs.length cv] 22)) = W3 := ⟨_, rfl⟩
    have hB3 : Below w2.heap.size w2 W3 := by rw [← hW3]; exact (((Below.refl _ w2).alloc (Nat.le_refl _) _).alloc (by simp; try omega) _)
    have hs3 : w2.heap.size + 2 ≤ W3.heap.size := by rw [← hW3]; simp
    have bS : Boxed W3 (w2.heap.size) 24 (.slice au zs.length cu) := by rw [← hW3]; repeat first | (refine boxed_at ?_; (simp; done)) | refine Boxed.alloc ?_ _
    have bO : Boxed W3 (w2.heap.size + 1) 22 (.slice (some ⟨gv, 0, none⟩) zs.length cv) := by rw [← hW3]; repeat first | (refine boxed_at ?_; (simp; done)) | refine Boxed.alloc ?_ _
    rw [hW3]
    clear hW3
    have hB4 := hB2.trans (hB3.mono hB2.size)
    have hu4 := hu.own.below hB3
    have hv4 := hv.own.below hB3
    have hs4 := hB3.size
    replace bT := boxed_later bT hB3
    clear hB3 hB2
    refine wpAt_seq (wpAt_of_wpIn ?_)
    have cT := (bT.alloc (.cells #[.int .i64 (-1)] 2)).cell
    gi_wp2_with fail
    obtain ⟨W5, hW5⟩ : ∃ W5, (W3.alloc (.cells #[.int .i64 (-1)] 2)) = W5 := ⟨_, rfl⟩
    have hB5 : Below W3.heap.size W3 W5 := by rw [← hW5]; exact ((Below.refl _ W3).alloc (Nat.le_refl _) _)
    have hs5 : W3.heap.size + 1 ≤ W5.heap.size := by rw [← hW5]; simp
    have bJ : Boxed W5 (W3.heap.size) 2 (.int .i64 (-1)) := by rw [← hW5]; repeat first | (refine boxed_at ?_; (simp; done)) | refine Boxed.alloc ?_ _
    rw [hW5]
    clear hW5
    have hB6 := hB4.trans (hB5.mono hB4.size)
    have hu6 := hu4.below hB5
    have hv6 := hv4.below hB5
    have hone : Ints W5.heap.size W5 (.slice (some ⟨W3.heap.size, 0, none⟩) 1 1) [-1] := ⟨_, 1, rfl, .inr ⟨W3.heap.size, 0, rfl, by omega, fun j hj => by
      obtain rfl : j = 0 := by simpa using hj
      exact bJ.cell⟩⟩
    replace bS := boxed_later bS hB5
    replace bO := boxed_later bO hB5
    clear hB5 hB4 hu4 hv4 cT hs4
    refine ⟨trivial, (callsIn_wide.2 (maxG_c _ zs _ (hI.later hB6) (by omega) (fun k hk => by have := tasksOk_nth Ht.out hk; omega) (by omega))).mono ?_⟩
    rintro e w4 ⟨rfl, rfl⟩
    have hLm := most_sortV (zs := zs) (by omega) (fun k hk => (tasksOk_nth Ht.out hk).1)
    have hLb := sortV_pos (zs := zs) (fun k hk => tasksOk_nth Ht.out hk) (m := zs.length - 1) (by omega)
    obtain ⟨L, hL⟩ : ∃ L, (nth (sortV zs) (zs.length - 1)).toNat = L := ⟨_, rfl⟩
    have hLz : most zs = (L : Int) := by omega
    have hL1 : 1 ≤ L ∧ L ≤ 40 := by omega
    have hht : harmT zs = harmTo zs (ordTo zs zs.length) L zs.length := by unfold harmT; rw [hL]
    have Hht := Lib.hid hht
    rw [hLz]
    clear hLm hLb hL hLz hht
    gi_wp2_with fail
    refine ⟨trivial, (callsIn_wide.2 (repeat_c _ [-1] L _ hone (by simp) (by simp) (by omega) (by omega))).mono ?_⟩
    rintro e w6 ⟨v6, rfl, ho, hb⟩
    rw [repL_one] at ho
    simp only [id]
    obtain ⟨g6, c6, rfl, hg6, hg6'⟩ := ho.shape (by simp; omega)
    rw [List.length_replicate]
    have hB7 := hB6.trans (hb.mono hB6.size)
    have hu7 := hu6.below hb
    have hv7 := hv6.below hb
    have hs6 := hb.size
    replace bS := boxed_later bS hb
    replace bO := boxed_later bO hb
    clear hb hB6 hu6 hv6 hone bJ
    gi_wp2_with fail
    obtain ⟨W8, hW8⟩ : ∃ W8, (w6.alloc (.cells #[.slice (some ⟨g6, 0, none⟩) L c6] 22)) = W8 := ⟨_, rfl⟩
    have hB8 : Below w6.heap.size w6 W8 := by rw [← hW8]; exact ((Below.refl _ w6).alloc (Nat.le_refl _) _)
    have hs8 : w6.heap.size + 1 ≤ W8.heap.size := by rw [← hW8]; simp
    have bU : Boxed W8 (w6.heap.size) 22 (.slice (some ⟨g6, 0, none⟩) L c6) := by rw [← hW8]; repeat first | (refine boxed_at ?_; (simp; done)) | refine Boxed.alloc ?_ _
    rw [hW8]
    clear hW8
    have hB9 := hB7.trans (hB8.mono hB7.size)
    have hu8 := hu7.below hB8
    have hv8 := hv7.below hB8
    have ho8 := ho.below hB8
    replace bS := boxed_later bS hB8
    replace bO := boxed_later bO hB8
    clear hB8 hB7 hu7 hv7
    refine wpAt_seq (wpAt_seq (wpAt_of_wpIn ?_))
    have cS := bS.cell
    gi_wp2_with (first | (gi_at_call 21; refine (callsIn_wide.2 (numbered_c _ _ _ _)).mono ?_; rintro e w' ⟨rfl, rfl⟩) | (refine ⟨trivial, ?_⟩; gi_at_call 21; refine (callsIn_wide.2 (numbered_c _ _ _ _)).mono ?_; rintro e w' ⟨rfl, rfl⟩))
    obtain ⟨W11, hW11⟩ : ∃ W11, (W8.alloc (.cells #[.slice au zs.length cu] 22)) = W11 := ⟨_, rfl⟩
    have hB11 : Below W8.heap.size W8 W11 := by rw [← hW11]; exact ((Below.refl _ W8).alloc (Nat.le_refl _) _)
    have hs11 : W8.heap.size + 1 ≤ W11.heap.size := by rw [← hW11]; simp
    have bN : Boxed W11 (W8.heap.size) 22 (.slice au zs.length cu) := by rw [← hW11]; repeat first | (refine boxed_at ?_; (simp; done)) | refine Boxed.alloc ?_ _
    rw [hW11]
    clear hW11
    have hB12 := hB9.trans (hB11.mono hB9.size)
    have hu12 := hu8.below hB11
    have hv12 := hv8.below hB11
    have ho12 := ho8.below hB11
    replace bO := boxed_later bO hB11
    replace bU := boxed_later bU hB11
    clear hB11 hB9 hu8 hv8 ho8 cS bS
    refine wpAt_block_np ?_
    rw [List.length_replicate] at ho12
    rw [hsl] at hu12
    rw [hol] at hv12
    have hbu := hu12.blk
    have hbv := hv12.blk
    have hsB := hB12.size
    have htu := hu.top
    rw [hsl] at htu
    have htv := hv.top
    have hlu := hu.le
    refine range_outPA rfl (by omega) rfl trivial _ ⟨_, Try.func36⟩ (enters_of Try.func40 (by kernel_rfl) rfl) (numbered_atP Fence.wide 8 trivial rfl (by omega) _ (fun b => (Value.slice au zs.length cu).ownBlock = some b) (.slice au zs.length cu) (sortV zs) (by omega) W11 bN (fun W h => (OwnI.kps hu12 h (fun _ hk => hk)).ints)) (fun b hb => (hbu b hb).2) (fun _ => rfl)
      (fun k W => harmIs zs (ordTo zs zs.length) L k ∧ OwnI W5.heap.size W (.slice (some ⟨g6, 0, none⟩) L c6) (harmF zs (ordTo zs zs.length) L k) ∧ OwnI w1.heap.size W (.slice (some ⟨gv, 0, none⟩) zs.length cv) (ordTo zs zs.length) ∧ Boxed W (w2.heap.size + 1) 22 (.slice (some ⟨gv, 0, none⟩) zs.length cv) ∧ Boxed W w6.heap.size 22 (.slice (some ⟨g6, 0, none⟩) L c6) ∧ Below w.heap.size w W)
      (fun _ _ _ => False)
      (by repeat' (first | exact ownFrom_pure _ _ | exact Own.from (boxed_own _ _ _) _ | exact Own.from (ownI_Own _ _ _) _ | exact Own.from (ownB_Own _ _ _) _ | exact ownFrom_below (Nat.le_refl _) (by omega) | exact ownFrom_kps (by omega) | apply OwnFrom.and))
      (fun ch W => ch = refused 4 ∧ harmTo zs (ordTo zs zs.length) L zs.length = none ∧ Below w.heap.size w W)
      (fun _ _ _ _ _ hs _ _ => hs)
      ⟨harmIs_zero _ _ _, by rw [harmF_zero]; exact ho12, hv12, bO, bU, hB12⟩ ?a1 ?assign ?body ?done ?pan ?stop
    case assign =>
      intro l k W K hlt hK
      simp only [numAt]
      gi_wp2
      exact hK
    case body =>
      rintro l k W hl2 hr ⟨his, hoW, hvW, bO1, bU1, hBW⟩ hlt hsW
      rw [hsl] at hlt
      have hlc := harmIs_length his
      have hgk := sortV_pos (zs := zs) (fun k hk => tasksOk_nth Ht.out hk) hlt
      obtain ⟨gp, hgp⟩ : ∃ gp : Nat, nth (sortV zs) k = (gp : Int) := ⟨(nth (sortV zs) k).toNat, by omega⟩
      have hgp2 : (gapAt zs (ordTo zs zs.length) k).toNat = gp := by rw [← nth_sortV hlt, hgp]; rfl
      rw [hgp] at hgk ⊢
      have htk := takeSlots_c W5.heap.size g6 c6 (harmF zs (ordTo zs zs.length) L k) (nth (ordTo zs zs.length) k) gp W.drew (by rw [hlc]; exact hoW.drew) (by omega) (by omega)
      rw [hlc] at htk
      have Htk := Lib.hid htk
      have Hgp := Lib.hid hgp2
      have Hlc := Lib.hid hlc
      have Hlt := Lib.hid hlt
      have hfw : Try.prog.follows Departure.mixedOrders = true := by kernel_rfl
      clear htk hgp hgp2 hlc
      gi_wp2_with fail
      refine wpIn_region_held (S := fun w' => OwnI w1.heap.size w' (.slice (some ⟨gv, 0, none⟩) zs.length cv) (ordTo zs zs.length) ∧ Boxed w' (w2.heap.size + 1) 22 (.slice (some ⟨gv, 0, none⟩) zs.length cv) ∧ Boxed w' w6.heap.size 22 (.slice (some ⟨g6, 0, none⟩) L c6)) hfw (by kernel_rfl) (fun ⟨_, _, h⟩ => h) ⟨hvW, bO1, bU1⟩ ?_
      intro hS0
      refine wpAnyH_take (i := 0) (v := ?v0) rfl (by kernel_rfl) (by kernel_rfl) (by kernel_rfl) (fun _ _ _ h => h) (.inl ⟨by rfl, ?y0⟩) hS0 ?_
      case y0 =>
        intro w' hS
        (have k1 := hS.2.1.cell; have k2 := hS.2.2.cell; have k3 := hS.1.cellAt (j := k) (by omega); clear hS)
        go_simp
        try with_reducible rfl
      refine wpAnyH_take (i := 1) (v := ?v1) rfl (by kernel_rfl) (by kernel_rfl) (by kernel_rfl) (fun _ _ _ h => h) (.inl ⟨by rfl, ?y1⟩) hS0 ?_
      case y1 =>
        intro w' hS
        (have k1 := hS.2.1.cell; have k2 := hS.2.2.cell; have k3 := hS.1.cellAt (j := k) (by omega); clear hS)
        go_simp
        try with_reducible rfl
      refine wpAnyH_take (i := 2) (v := ?v2) rfl (by kernel_rfl) (by kernel_rfl) (by kernel_rfl) (fun _ _ _ h => h) (.inl ⟨by rfl, ?y2⟩) hS0 ?_
      case y2 =>
        intro w' hS
        (have k1 := hS.2.1.cell; have k2 := hS.2.2.cell; have k3 := hS.1.cellAt (j := k) (by omega); clear hS)
        go_simp
        try with_reducible rfl
      refine wpAnyH_take (i := 3) (v := ?v3) rfl (by kernel_rfl) (by kernel_rfl) (by kernel_rfl) (fun _ _ _ h => h) (.inl ⟨by rfl, ?y3⟩) hS0 ?_
      case y3 =>
        intro w' hS
        (have k1 := hS.2.1.cell; have k2 := hS.2.2.cell; have k3 := hS.1.cellAt (j := k) (by omega); clear hS)
        go_simp
        try with_reducible rfl
      refine wpAnyH_take (i := 4) (v := ?v4) rfl (by kernel_rfl) (by kernel_rfl) (by kernel_rfl) (fun _ _ _ h => h) (.inl ⟨by rfl, ?y4⟩) hS0 ?_
      case y4 =>
        intro w' hS
        (have k1 := hS.2.1.cell; have k2 := hS.2.2.cell; have k3 := hS.1.cellAt (j := k) (by omega); clear hS)
        go_simp
        try with_reducible rfl
      refine wpAnyH_take (i := 5) (v := ?v5) rfl (by kernel_rfl) (by kernel_rfl) (by kernel_rfl) (fun _ _ _ h => h) (.inl ⟨by rfl, ?y5⟩) hS0 ?_
      case y5 =>
        intro w' hS
        (have k1 := hS.2.1.cell; have k2 := hS.2.2.cell; have k3 := hS.1.cellAt (j := k) (by omega); clear hS)
        go_simp
        try with_reducible rfl
      refine wpAnyH_ready (rs := [6]) (by kernel_rfl) (by simp) ?_
      refine AllReadyH.cons rfl (fun K' hK' => ?_) AllReadyH.nil
      rw [if_pos (by rfl)]
      go_simp
      refine Htk.out.mono ?_
      rintro e w9 (⟨hfr, ⟨v9, rfl⟩, ho9, hgr⟩ | ⟨hnf, rfl, rfl⟩)
      · have hiss := harmIs_succ his (by rw [Hlc.out]; exact hfr)
        have hsuc := harmF_succ his (by rw [Hlc.out]; exact hfr)
        rw [Hgp.out] at hsuc
        have hnB : ¬ Band (fun b => (Value.slice au zs.length cu).ownBlock = some b) W11.heap.size (W11.heap.size + 2 + 0) g6 := fun h => by
          rcases h with h | h
          · have := htu g6 h; omega
          · omega
        have hS1 := show _ ∧ _ ∧ _ from ⟨OwnI.kept hS0.1 hgr (.inr (by simp [Value.ownBlock]; omega)), Boxed.kept hS0.2.1 hgr (by simp; omega), Boxed.kept hS0.2.2 hgr (by simp; omega)⟩
        have hBw : Below w.heap.size w w9 := hBW.drew.grown hgr (by show w.heap.size ≤ W.heap.size; omega) (by intro r hr; cases hr; omega)
        refine hK'.out _ _ hS1 fun hS2 => ?_
        refine wpAnyH_done (by kernel_rfl) ?_ _
        gi_wp2
        have hk9 : Kps (Band (fun b => (Value.slice au zs.length cu).ownBlock = some b) W11.heap.size (W11.heap.size + 2 + 0)) W.drew w9 := Kps.grown hgr (fun j e => by cases e; exact hnB)
        exact ⟨⟨hk9.size, hk9.same⟩, hiss, by rw [hsuc]; exact ho9, hS1.1, hS1.2.1, hS1.2.2, hBw⟩
      · have hnn := harmTo_none (n := zs.length) (by omega) (harmTo_stop his (by rw [Hlc.out]; exact hnf))
        go_simp
        exact ⟨rfl, ⟨Nat.le_refl _, fun _ _ _ => rfl⟩, rfl, hnn, hBW.drew⟩
    case done =>
      rintro D W hD ⟨his, hoW, hvW, bO1, bU1, hBW⟩ hK
      have cU := bU1.cell
      rw [hsl] at his hoW
      have Hh := Lib.hid (hh)
      have His := Lib.hid his
      clear hh his
      refine wpAt_of_wpIn ?_
      gi_wp2
      refine retM1 hK ⟨_, results_tmp rfl _ _ _, ?_⟩
      exact .inl ⟨Hh.out, _, by rw [Hht.out]; exact His.out, _, rfl, (hoW.base (by omega)).shut hK, below_shut hBW (by omega)⟩
    case pan =>
      rintro D ch W hD ⟨rfl, hn, hBW⟩ hK
      exact panM1 hK (.inr (.inr ⟨hh, by rw [Hht.out]; exact hn, rfl, below_shut hBW (by omega)⟩))
    case stop =>
      rintro D c k W hD hk h
      exact h.elim

end Go.Proofs.Ytahleajedgehlaa
