/-
  The program's iterator over the states of a watcher: those whose place was visited last.
  Conditions: a ground and tasks, as many as places.
-/
import Derived.Test.YtgndbifcncklgaaSfp
import Derived.Test.YtgndbifcncklgaaItb
import Derived.Test.YtgndbifcncklgaaRegI
namespace Go.Proofs.Ytgndbifcncklgaa
open Go.RowKit Go.Shelf Go.Maps
attribute [local go_sem] Oper.semAt_some

section
variable {F : Fence} {n : Nat} {P : Program}
/-- one round whose assignments turn the world -/
theorem yield_roundW {l : Nat} {fn : FuncId} {tmps : Array Value} {ps : Array Tmp} {assign body : Code} {dd : Nat} {args : Array Value} {W W1 : World} {R : Ending → World → Prop} (hfn : F.fn fn)
    (hl : W.heap[l]? = some (.loop (recOf fn tmps ps assign body dd .ready none))) (hl1 : W1.heap[l]? = some (.loop (recOf fn tmps ps assign body dd .ready none))) (hps : args.size = ps.size) (a₁ : Act)
    (hassign : ∀ K : Act → World → Prop, K a₁ W1 → assign.wpIn (F.inRound l) n P (Exit.then K (fun _ _ _ => False)) { tmps := (ps.zip args).foldl (fun t (p, v) => t.setIfInBounds p v) tmps, defers := [] } W)
    (hbody : ∀ Wb, W1.grownBy Wb (some l) → Wb.heap[l]? = some (.loop { recOf fn tmps ps assign body dd .ready none with state := .busy }) → body.wpIn (F.inRound l) n P (roundR l fn tmps ps assign body dd R) a₁ Wb) :
    YieldAt F n P l args W R := by
  have hy := run_yield (P := P) (args := args) hl hps
  refine ⟨fn, _, assign, body, hy, roundIn_of_wpIn hfn (hassign _ ⟨_, run_beginRound hl1 rfl, wpIn_mono (hbody _ (grownBy_putObj' W1 l _) (World.putObj_heap_same (Array.getElem?_eq_some_iff.1 hl1).1)) ?_⟩)⟩
  rintro e a3 W3 hp
  cases e with
  | normal => exact ⟨_, _, run_endRound (P := P) none hp.1, hp.2⟩
  | ret => exact ⟨_, _, run_endRound (P := P) (some .ret) hp.1, hp.2⟩
  | exit id => exact ⟨_, _, run_endRound (P := P) (some (.exit id)) hp.1, hp.2⟩
  | goto t => exact ⟨_, _, run_endRound (P := P) (some (.goto t)) hp.1, hp.2⟩
  | panic ch => exact hp.elim
  | outgrown => exact hp.elim
end

theorem statesW_c (b : Nat) (w : World) :
    Calls Try.prog 55 #[.pointer (some ⟨b, 0, none⟩)] w fun e w' => e = .returned (.func (.func 100) #[] #[.pointer (some ⟨w.heap.size, 0, none⟩)]) ∧
      w' = w.alloc (.cells #[.pointer (some ⟨b, 0, none⟩)] 58) := by
  go_enter Try.func55, Try.ntmps55
  go_wp2
  go_ret
  exact ⟨rfl, rfl⟩

set_option maxRecDepth 100000 in
set_option maxHeartbeats 8000000 in
/-- a loop over a watcher's states: Inv j k ahead of the place k of the numbers j -/
theorem statesW_at (n l bw b bo m9 mk r : Nat) (zs : List Int) (W : World) (ht : tasksOk zs = true) (Inv : Nat → Nat → World → Prop)
    (hInv : ∀ j k A, Inv j k A → Boxed A bw 58 (.pointer (some ⟨b, 0, none⟩)) ∧ Wat A b zs.length r bo mk ∧ Outl A bo zs m9)
    (hgrow : ∀ j k A B row, Inv j k A → A.grownBy B row → (∀ q, row = some q → W.heap.size ≤ q) → Inv j k B)
    (hskip : ∀ j k A, k < zs.length → nth (ofR zs j) k ≠ nth zs k → Inv j k A → Inv j (k + 1) A)
    (hnext : ∀ j A, Inv j zs.length A → Inv (j + 1) 0 A)
    (hyield : ∀ j k A, j < cntN zs → k < zs.length → nth (ofR zs j) k = nth zs k → Inv j k A → W.heap.size ≤ A.heap.size → YieldAt Fence.wide 9 Try.prog l #[wV (ofR zs j, k)] A fun e B =>
      e = .returned (.bool true) ∧ Inv j (k + 1) B ∧ A.heap.size ≤ B.heap.size ∧ ∀ q, W.heap.size ≤ q → q < A.heap.size → B.heap[q]? = A.heap[q]?)
    (h0 : Inv 0 0 W) :
    CallsIn Fence.wide n Try.prog 100 #[.func (.yield l) #[] #[], .pointer (some ⟨bw, 0, none⟩)] W fun e W' => (∃ v, e = .returned v) ∧ Inv (cntN zs) 0 W' := by
  have hl8 := tasksOk_len ht
  have hp := pos_of ht
  have hfw : Try.prog.follows Departure.mixedOrders = true := by kernel_rfl
  obtain ⟨W0, hW0⟩ : ∃ W0, W.alloc (.cells #[.func (.yield l) #[] #[]] 67) = W0 := ⟨_, rfl⟩
  have hi0 : Inv 0 0 W0 := by rw [← hW0]; exact hgrow 0 0 _ _ none h0 (World.grownBy_alloc _ _ _) (by simp)
  have bY : Boxed W0 W.heap.size 67 (.func (.yield l) #[] #[]) := by rw [← hW0]; exact Boxed.new _ _ _
  have hs0 : W0.heap.size = W.heap.size + 1 := by rw [← hW0]; simp
  obtain ⟨b1, b2, b3⟩ := hInv 0 0 W0 hi0
  have k1 := b1.cell
  have k2 := b2.c2
  refine callsIn_wide.2 ((callsIn_wide (n := 12)).1 ?_)
  refine callsIn_of_wp_marks Try.func100 rfl trivial ?_ rfl
  simp only [Try.ntmps100, List.size_toArray, List.length_cons, List.length_nil, Nat.reduceAdd, Nat.reduceSub, Array.replicate_succ, Array.replicate_zero, List.push_toArray, List.append_toArray, List.nil_append, List.cons_append]
  gi_wp2_with fail
  refine ⟨trivial, (callsIn_wide.2 (states_c bo W0)).mono ?_⟩
  rintro e w3 ⟨rfl, hw3⟩
  have hg3 : W0.grownBy w3 none := by rw [hw3]; exact World.grownBy_alloc _ _ _
  have bB : Boxed w3 W0.heap.size 101 (.pointer (some ⟨bo, 0, none⟩)) := by rw [hw3]; exact Boxed.new W0 _ _
  have bY3 := bY.kept hg3 (by simp)
  have hi3 := hgrow _ _ _ _ none hi0 hg3 (by simp)
  have hs3 : W.heap.size + 2 ≤ w3.heap.size ∧ w3.heap.size ≤ W.heap.size + 2 := by rw [hw3]; simp [hs0]
  clear hw3 hW0 hg3 bY b1 b2 b3 k1 k2
  gi_wp2_with fail
  refine range_enter rfl (by omega) rfl trivial (enters_of Try.func128 (by kernel_rfl) rfl) ?_
  intro fn hfn
  rw [hs0] at bB
  obtain ⟨W0, hW0⟩ : ∃ W0 : Loop → World, ∀ rec, (w3.alloc (.deferred (some []))).alloc (.loop rec) = W0 rec := ⟨_, fun _ => rfl⟩
  have hDL : (w3.alloc (.deferred (some []))).heap.size = w3.heap.size + 1 := World.size_alloc _ _
  have hsz0 : ∀ rec, (W0 rec).heap.size = w3.heap.size + 2 := fun rec => by rw [← hW0]; simp
  have hE0 : ∀ rec, Inv 0 0 (W0 rec) ∧ Boxed (W0 rec) W.heap.size 67 (.func (.yield l) #[] #[]) ∧ Boxed (W0 rec) (W.heap.size + 1) 101 (.pointer (some ⟨bo, 0, none⟩)) ∧ (W0 rec).heap[w3.heap.size]? = some (.deferred (some [])) ∧ (W0 rec).heap[w3.heap.size + 1]? = some (.loop rec) := fun rec => by
    rw [← hW0]
    exact ⟨hgrow _ _ _ _ none (hgrow _ _ _ _ none hi3 (World.grownBy_alloc _ _ _) (by simp)) (World.grownBy_alloc _ _ _) (by simp), (bY3.alloc _).alloc _, (bB.alloc _).alloc _, (Below.heap_alloc _ _ _ (by simp)).trans (World.alloc_heap_new _ _), by have := World.alloc_heap_new (w3.alloc (.deferred (some []))) (.loop rec); rw [hDL] at this; exact this⟩
  rw [hW0]
  clear hW0 hDL bB bY3 hi3
  refine (states1_at 11 (w3.heap.size + 1) (W.heap.size + 1) bo m9 zs _ ht
    (fun j A => Inv j 0 A ∧ Boxed A W.heap.size 67 (.func (.yield l) #[] #[]) ∧ Boxed A (W.heap.size + 1) 101 (.pointer (some ⟨bo, 0, none⟩)) ∧ A.heap[w3.heap.size]? = some (.deferred (some [])) ∧ A.heap[w3.heap.size + 1]? = some (.loop _))
    (fun _ => False) ?hInv ?hgrow ?hyield (hE0 _)).mono ?post
  case hInv => exact fun j A h => ⟨h.2.2.1, (hInv j 0 A h.1).2.2⟩
  case hgrow =>
    rintro j A B row ⟨h1, h2, h3, h6, h7⟩ hg hr
    have ne : ∀ q, q < w3.heap.size + 2 → some q ≠ row := fun q hq e => by have := hr q e.symm; rw [hsz0] at this; omega
    exact ⟨hgrow _ _ _ _ row h1 hg (fun q e => by have := hr q e; rw [hsz0] at this; omega), h2.kept hg (ne _ (by omega)), h3.kept hg (ne _ (by omega)), (hg.block _ (Array.getElem?_eq_some_iff.1 h6).1 (ne _ (by omega))).trans h6, (hg.block _ (Array.getElem?_eq_some_iff.1 h7).1 (ne _ (by omega))).trans h7⟩
  case hyield =>
    rintro j A hj ⟨h1, h2, h3, h6, h7⟩ hsA
    rw [hsz0] at hsA ⊢
    obtain ⟨A1, hA1⟩ : ∃ A1, A.alloc (.cells #[.int .u8 0, .int .u8 0, .int .u8 0, .int .u8 0, .int .u8 0, .int .u8 0, .int .u8 0, .int .u8 0] 64) = A1 := ⟨_, rfl⟩
    have bS : Arr A1 A.heap.size [] := by rw [← hA1]; exact Arr.new A []
    have hgA : A.grownBy A1 none := by rw [← hA1]; exact World.grownBy_alloc _ _ _
    have HH := Lib.hid (And.intro h1 (And.intro h2 (And.intro h3 (And.intro h6 h7))))
    have cA0 := bS.cell (i := 0) (by omega)
    have cA1 := bS.cell (i := 1) (by omega)
    have cA2 := bS.cell (i := 2) (by omega)
    have cA3 := bS.cell (i := 3) (by omega)
    have cA4 := bS.cell (i := 4) (by omega)
    have cA5 := bS.cell (i := 5) (by omega)
    have cA6 := bS.cell (i := 6) (by omega)
    have cA7 := bS.cell (i := 7) (by omega)
    have fA0 := bS.frozen 0
    have fA1 := bS.frozen 1
    have fA2 := bS.frozen 2
    have fA3 := bS.frozen 3
    have fA4 := bS.frozen 4
    have fA5 := bS.frozen 5
    have fA6 := bS.frozen 6
    have fA7 := bS.frozen 7
    have hL1 : (store8 A1 A.heap.size (ofR zs j)).heap[w3.heap.size + 1]? = some (.loop _) :=
      (((grownBy_set8 A1 A.heap.size (ofR zs j)).block _ (by have := (Array.getElem?_eq_some_iff.1 h7).1; have := hgA.size; omega) (fun e => by have := Option.some.inj e; have := (Array.getElem?_eq_some_iff.1 h7).1; omega)).trans (hgA.block _ (Array.getElem?_eq_some_iff.1 h7).1 (by simp))).trans h7
    have HL1 := Lib.hid hL1
    have h7' := Lib.hid h7
    have HY := Lib.hid hyield
    have HG := Lib.hid hgrow
    have HI := Lib.hid hInv
    have HS := Lib.hid hskip
    have HN := Lib.hid hnext
    clear h1 h2 h3 h6 h7 hL1 hyield hgrow hInv hskip hnext hE0 hi0 h0
    refine yield_roundW (W1 := store8 A1 A.heap.size (ofR zs j)) trivial h7'.out HL1.out rfl ?a1 ?assign ?body
    case assign =>
      intro K0 hK0
      unfold arrV cells8
      go_simp
      gi_wp2
      exact hK0
    case body =>
      obtain ⟨h1, h2, h3, h6, h7⟩ := HH.out
      have es0 := hgA.size
      obtain ⟨W1, hW1⟩ : ∃ W1, store8 A1 A.heap.size (ofR zs j) = W1 := ⟨_, rfl⟩
      have hg2 : A1.grownBy W1 (some A.heap.size) := by rw [← hW1]; exact grownBy_set8 _ _ _
      have bS1 : Arr W1 A.heap.size (ofR zs j) := by rw [← hW1]; exact Arr.stored8 _ bS
      have hA1s : A.heap.size < A1.heap.size := by rw [← hA1]; simp
      have es1 := hg2.size
      rw [hW1]
      intro Wb hgb hbusy
      have hsz := hgb.size
      have i1 := HG.out _ _ _ _ none h1 hgA (by simp)
      have i2 := HG.out _ _ _ _ _ i1 hg2 (fun q e => by cases e; omega)
      have iB := HG.out _ _ _ _ _ i2 hgb (fun q e => by cases e; omega)
      have ne0 : ∀ q, q < A.heap.size → some q ≠ some A.heap.size := fun q hq e => by have := Option.some.inj e; omega
      have ne : ∀ q, q ≠ w3.heap.size + 1 → some q ≠ some (w3.heap.size + 1) := fun q hq e => hq (Option.some.inj e)
      have same : ∀ q, q < A.heap.size → q ≠ w3.heap.size + 1 → Wb.heap[q]? = A.heap[q]? := fun q hq hn => (hgb.block _ (by omega) (ne _ hn)).trans ((hg2.block _ (by omega) (ne0 _ hq)).trans (hgA.block _ hq (by simp)))
      have kS : Arr Wb A.heap.size (ofR zs j) := bS1.kept hgb (ne _ (by omega))
      have kY : Boxed Wb W.heap.size 67 (.func (.yield l) #[] #[]) := (same _ (by omega) (by omega)).trans h2
      have Same := Lib.hid same
      have Hbusy := Lib.hid hbusy
      have hAb : A.heap.size < Wb.heap.size := by omega
      obtain ⟨b1, b2, b3⟩ := HI.out _ _ _ iB
      have k1 := b1.cell
      have k0 := b2.c0
      obtain ⟨xs, hxs⟩ : ∃ xs, ofR zs j = xs := ⟨_, rfl⟩
      have Hxs := Lib.hid hxs
      rw [hxs] at kS
      clear same hbusy hxs h1 h2 h3 h6 h7 i1 i2 hW1 hA1 bS bS1 hgA hg2 hgb es0 es1 hA1s ne0 ne cA0 cA1 cA2 cA3 cA4 cA5 cA6 cA7 fA0 fA1 fA2 fA3 fA4 fA5 fA6 fA7
      gi_wp2
      clear k1 k0 b1 b2 b3
      gi_loopw [17] (fun v wr => ∃ k : Nat, k ≤ zs.length ∧ v = .int .i64 (k : Int) ∧ Inv j k wr ∧ (∀ q, W.heap.size ≤ q → q < A.heap.size + 1 → wr.heap[q]? = Wb.heap[q]?) ∧ A.heap.size < wr.heap.size) (fun v _ => zs.length - (intOf v).toNat)
      case atStart => exact ⟨0, Nat.zero_le _, rfl, iB, fun _ _ _ => rfl, hAb⟩
      case round =>
        clear iB
        obtain ⟨k, hk, rfl, hi, hq0, hsr⟩ := hrel
        have Hq := Lib.hid hq0
        clear hq0
        by_cases hlt : k < zs.length
        · have kSr : Arr wr A.heap.size xs := (Hq.out _ (by omega) (by omega)).trans kS
          obtain ⟨b1, b2, b3⟩ := HI.out _ _ _ hi
          have k1 := b1.cell
          have k2 := b2.c2
          have hk8 : (k : Int) < 8 := by omega
          have hki : (k : Int) < (zs.length : Int) := by omega
          have c1 := kSr.cell (i := k) (by omega)
          have c2 := b3.full (i := k) (by omega)
          have hnx := kSr
          by_cases hq : nth xs k = nth zs k
          · have hqe : (nth xs k == nth zs k) = true := by simp [hq]
            have Hqq := Lib.hid hq
            clear hq
            gi_wp2_with fail
            refine wpIn_region_heldI (S := fun w' => w' = wr.drew) hfw rfl ?_
            intro hS0
            refine anyIH_take (i := 0) (v := ?vx0) (by kernel_rfl) rfl (by kernel_rfl) (by kernel_rfl) (by kernel_rfl) (fun _ _ _ h => h) (.inl ⟨by rfl, ?yx0⟩) hS0 ?_
            case yx0 =>
              intro w' hS
              (subst hS; have d0 : wr.drew.cell? ⟨A.heap.size, k, none⟩ = _ := c1; have d1 : wr.drew.cell? ⟨bw, 0, none⟩ = _ := k1; have d2 : wr.drew.cell? ⟨b, 2, none⟩ = _ := k2; have d3 : wr.drew.cell? ⟨bo, 1 + k, none⟩ = _ := c2)
              go_simp
              try with_reducible rfl
            refine anyIH_take (i := 1) (v := ?vx1) (by kernel_rfl) rfl (by kernel_rfl) (by kernel_rfl) (by kernel_rfl) (fun _ _ _ h => h) (.inl ⟨by rfl, ?yx1⟩) hS0 ?_
            case yx1 =>
              intro w' hS
              (subst hS; have d0 : wr.drew.cell? ⟨A.heap.size, k, none⟩ = _ := c1; have d1 : wr.drew.cell? ⟨bw, 0, none⟩ = _ := k1; have d2 : wr.drew.cell? ⟨b, 2, none⟩ = _ := k2; have d3 : wr.drew.cell? ⟨bo, 1 + k, none⟩ = _ := c2)
              go_simp
              try with_reducible rfl
            refine anyIH_take (i := 2) (v := ?vx2) (by kernel_rfl) rfl (by kernel_rfl) (by kernel_rfl) (by kernel_rfl) (fun _ _ _ h => h) (.inl ⟨by rfl, ?yx2⟩) hS0 ?_
            case yx2 =>
              intro w' hS
              (subst hS; have d0 : wr.drew.cell? ⟨A.heap.size, k, none⟩ = _ := c1; have d1 : wr.drew.cell? ⟨bw, 0, none⟩ = _ := k1; have d2 : wr.drew.cell? ⟨b, 2, none⟩ = _ := k2; have d3 : wr.drew.cell? ⟨bo, 1 + k, none⟩ = _ := c2)
              go_simp
              try with_reducible rfl
            refine anyIH_take (i := 3) (v := ?vx3) (by kernel_rfl) rfl (by kernel_rfl) (by kernel_rfl) (by kernel_rfl) (fun _ _ _ h => h) (.inl ⟨by rfl, ?yx3⟩) hS0 ?_
            case yx3 =>
              intro w' hS
              (subst hS; have d0 : wr.drew.cell? ⟨A.heap.size, k, none⟩ = _ := c1; have d1 : wr.drew.cell? ⟨bw, 0, none⟩ = _ := k1; have d2 : wr.drew.cell? ⟨b, 2, none⟩ = _ := k2; have d3 : wr.drew.cell? ⟨bo, 1 + k, none⟩ = _ := c2)
              go_simp
              try with_reducible rfl
            refine anyIH_take (i := 4) (v := ?vx4) (by kernel_rfl) rfl (by kernel_rfl) (by kernel_rfl) (by kernel_rfl) (fun _ _ _ h => h) (.inl ⟨by rfl, ?yx4⟩) hS0 ?_
            case yx4 =>
              intro w' hS
              (subst hS; have d0 : wr.drew.cell? ⟨A.heap.size, k, none⟩ = _ := c1; have d1 : wr.drew.cell? ⟨bw, 0, none⟩ = _ := k1; have d2 : wr.drew.cell? ⟨b, 2, none⟩ = _ := k2; have d3 : wr.drew.cell? ⟨bo, 1 + k, none⟩ = _ := c2)
              go_simp
              try with_reducible rfl
            refine anyIH_take (i := 5) (v := ?vx5) (by kernel_rfl) rfl (by kernel_rfl) (by kernel_rfl) (by kernel_rfl) (fun _ _ _ h => h) (.inl ⟨by rfl, ?yx5⟩) hS0 ?_
            case yx5 =>
              intro w' hS
              (subst hS; have d0 : wr.drew.cell? ⟨A.heap.size, k, none⟩ = _ := c1; have d1 : wr.drew.cell? ⟨bw, 0, none⟩ = _ := k1; have d2 : wr.drew.cell? ⟨b, 2, none⟩ = _ := k2; have d3 : wr.drew.cell? ⟨bo, 1 + k, none⟩ = _ := c2)
              go_simp
              try with_reducible rfl
            refine anyIH_take (i := 6) (v := ?vx6) (by kernel_rfl) rfl (by kernel_rfl) (by kernel_rfl) (by kernel_rfl) (fun _ _ _ h => h) (.inl ⟨by rfl, ?yx6⟩) hS0 ?_
            case yx6 =>
              intro w' hS
              (subst hS; have d0 : wr.drew.cell? ⟨A.heap.size, k, none⟩ = _ := c1; have d1 : wr.drew.cell? ⟨bw, 0, none⟩ = _ := k1; have d2 : wr.drew.cell? ⟨b, 2, none⟩ = _ := k2; have d3 : wr.drew.cell? ⟨bo, 1 + k, none⟩ = _ := c2)
              go_simp
              try with_reducible rfl
            refine anyIH_take (i := 7) (v := ?vx7) (by kernel_rfl) rfl (by kernel_rfl) (by kernel_rfl) (by kernel_rfl) (fun _ _ _ h => h) (.inl ⟨by rfl, ?yx7⟩) hS0 ?_
            case yx7 =>
              intro w' hS
              (subst hS; have d0 : wr.drew.cell? ⟨A.heap.size, k, none⟩ = _ := c1; have d1 : wr.drew.cell? ⟨bw, 0, none⟩ = _ := k1; have d2 : wr.drew.cell? ⟨b, 2, none⟩ = _ := k2; have d3 : wr.drew.cell? ⟨bo, 1 + k, none⟩ = _ := c2)
              go_simp
              try with_reducible rfl
            refine anyIH_take (i := 8) (v := ?vx8) (by kernel_rfl) rfl (by kernel_rfl) (by kernel_rfl) (by kernel_rfl) (fun _ _ _ h => h) (.inl ⟨by rfl, ?yx8⟩) hS0 ?_
            case yx8 =>
              intro w' hS
              (subst hS; have d0 : wr.drew.cell? ⟨A.heap.size, k, none⟩ = _ := c1; have d1 : wr.drew.cell? ⟨bw, 0, none⟩ = _ := k1; have d2 : wr.drew.cell? ⟨b, 2, none⟩ = _ := k2; have d3 : wr.drew.cell? ⟨bo, 1 + k, none⟩ = _ := c2)
              go_simp
              try with_reducible rfl
            refine anyIH_take (i := 9) (v := ?vx9) (by kernel_rfl) rfl (by kernel_rfl) (by kernel_rfl) (by kernel_rfl) (fun _ _ _ h => h) (.inl ⟨by rfl, ?yx9⟩) hS0 ?_
            case yx9 =>
              intro w' hS
              (subst hS; have d0 : wr.drew.cell? ⟨A.heap.size, k, none⟩ = _ := c1; have d1 : wr.drew.cell? ⟨bw, 0, none⟩ = _ := k1; have d2 : wr.drew.cell? ⟨b, 2, none⟩ = _ := k2; have d3 : wr.drew.cell? ⟨bo, 1 + k, none⟩ = _ := c2)
              go_simp
              try with_reducible rfl
            refine anyIH_take (i := 10) (v := ?vx10) (by kernel_rfl) rfl (by kernel_rfl) (by kernel_rfl) (by kernel_rfl) (fun _ _ _ h => h) (.inl ⟨by rfl, ?yx10⟩) hS0 ?_
            case yx10 =>
              intro w' hS
              (subst hS; have d0 : wr.drew.cell? ⟨A.heap.size, k, none⟩ = _ := c1; have d1 : wr.drew.cell? ⟨bw, 0, none⟩ = _ := k1; have d2 : wr.drew.cell? ⟨b, 2, none⟩ = _ := k2; have d3 : wr.drew.cell? ⟨bo, 1 + k, none⟩ = _ := c2)
              go_simp
              try with_reducible rfl
            refine anyIH_take (i := 11) (v := ?vx11) (by kernel_rfl) rfl (by kernel_rfl) (by kernel_rfl) (by kernel_rfl) (fun _ _ _ h => h) (.inl ⟨by rfl, ?yx11⟩) hS0 ?_
            case yx11 =>
              intro w' hS
              (subst hS; have d0 : wr.drew.cell? ⟨A.heap.size, k, none⟩ = _ := c1; have d1 : wr.drew.cell? ⟨bw, 0, none⟩ = _ := k1; have d2 : wr.drew.cell? ⟨b, 2, none⟩ = _ := k2; have d3 : wr.drew.cell? ⟨bo, 1 + k, none⟩ = _ := c2)
              go_simp
              try with_reducible rfl
            refine anyIH_take (i := 12) (v := ?vx12) (by kernel_rfl) rfl (by kernel_rfl) (by kernel_rfl) (by kernel_rfl) (fun _ _ _ h => h) (.inl ⟨by rfl, ?yx12⟩) hS0 ?_
            case yx12 =>
              intro w' hS
              (subst hS; have d0 : wr.drew.cell? ⟨A.heap.size, k, none⟩ = _ := c1; have d1 : wr.drew.cell? ⟨bw, 0, none⟩ = _ := k1; have d2 : wr.drew.cell? ⟨b, 2, none⟩ = _ := k2; have d3 : wr.drew.cell? ⟨bo, 1 + k, none⟩ = _ := c2)
              go_simp
              try with_reducible rfl
            refine anyIH_take (i := 13) (v := ?vx13) (by kernel_rfl) rfl (by kernel_rfl) (by kernel_rfl) (by kernel_rfl) (fun _ _ _ h => h) (.inl ⟨by rfl, ?yx13⟩) hS0 ?_
            case yx13 =>
              intro w' hS
              (subst hS; have d0 : wr.drew.cell? ⟨A.heap.size, k, none⟩ = _ := c1; have d1 : wr.drew.cell? ⟨bw, 0, none⟩ = _ := k1; have d2 : wr.drew.cell? ⟨b, 2, none⟩ = _ := k2; have d3 : wr.drew.cell? ⟨bo, 1 + k, none⟩ = _ := c2)
              go_simp
              try with_reducible rfl
            refine anyIH_done (by kernel_rfl) ?_ _
            try simp only [Act.put, List.getElem_toArray, List.getElem_cons_zero, List.getElem_cons_succ, List.setIfInBounds_toArray, List.set_cons_zero, List.set_cons_succ]
            obtain ⟨wd, hwd⟩ : ∃ wd, wr.drew = wd := ⟨_, rfl⟩
            have hiD : Inv j k wd := by rw [← hwd]; exact HG.out _ _ _ _ none hi ⟨rfl, rfl, rfl, Nat.le_refl _, fun _ _ _ => rfl⟩ (by simp)
            have hqD : ∀ q : Nat, wd.heap[q]? = wr.heap[q]? := by rw [← hwd]; exact fun _ => rfl
            have hsD : wr.heap.size ≤ wd.heap.size ∧ wd.heap.size ≤ wr.heap.size := by rw [← hwd]; exact ⟨Nat.le_refl _, Nat.le_refl _⟩
            have HqD := Lib.hid hqD
            rw [hwd]
            clear hwd hqD b1 b2 b3 k1 k2 c1 c2
            have kYd : Boxed wd W.heap.size 67 (.func (.yield l) #[] #[]) := (HqD.out _).trans ((Hq.out _ (Nat.le_refl _) (by omega)).trans kY)
            have kSd : Arr wd A.heap.size xs := (HqD.out _).trans kSr
            have cY := kYd.cell
            have cS0 := kSd.cell (i := 0) (by omega)
            have cS1 := kSd.cell (i := 1) (by omega)
            have cS2 := kSd.cell (i := 2) (by omega)
            have cS3 := kSd.cell (i := 3) (by omega)
            have cS4 := kSd.cell (i := 4) (by omega)
            have cS5 := kSd.cell (i := 5) (by omega)
            have cS6 := kSd.cell (i := 6) (by omega)
            have cS7 := kSd.cell (i := 7) (by omega)
            obtain ⟨fn2, tmps2, asg2, bod2, hy, hR⟩ := yieldAt_wide 8 (HY.out j k wd hj hlt (by rw [Hxs.out]; exact Hqq.out) hiD (by omega))
            rw [Hxs.out] at hy
            simp only [wV, wC] at hy
            clear kYd kSd kSr hi hiD hqe kS kY
            gi_wp2_with fail
            refine RoundIn.mono (F := Fence.wide.inRound (w3.heap.size + 1)) hR ?_
            rintro e B ⟨rfl, hi2, hsB, hbk⟩
            clear hy hR cS0 cS1 cS2 cS3 cS4 cS5 cS6 cS7 cY
            gi_wp2
            go_roundw
            case rel => exact ⟨k + 1, by omega, by simp, hi2, fun q h1 h2 => (hbk q h1 (by omega)).trans ((HqD.out q).trans (Hq.out q h1 h2)), by omega⟩
            case measure => simp [intOf]; omega
          · have hqe : (nth xs k == nth zs k) = false := by simpa using hq
            have Hqq := Lib.hid hq
            clear hq
            gi_wp2_with fail
            refine wpIn_region_heldI (S := fun w' => w' = wr.drew) hfw rfl ?_
            intro hS0
            refine anyIH_take (i := 0) (v := ?vz0) (by kernel_rfl) rfl (by kernel_rfl) (by kernel_rfl) (by kernel_rfl) (fun _ _ _ h => h) (.inl ⟨by rfl, ?yz0⟩) hS0 ?_
            case yz0 =>
              intro w' hS
              (subst hS; have d0 : wr.drew.cell? ⟨A.heap.size, k, none⟩ = _ := c1; have d1 : wr.drew.cell? ⟨bw, 0, none⟩ = _ := k1; have d2 : wr.drew.cell? ⟨b, 2, none⟩ = _ := k2; have d3 : wr.drew.cell? ⟨bo, 1 + k, none⟩ = _ := c2)
              go_simp
              try with_reducible rfl
            refine anyIH_take (i := 1) (v := ?vz1) (by kernel_rfl) rfl (by kernel_rfl) (by kernel_rfl) (by kernel_rfl) (fun _ _ _ h => h) (.inl ⟨by rfl, ?yz1⟩) hS0 ?_
            case yz1 =>
              intro w' hS
              (subst hS; have d0 : wr.drew.cell? ⟨A.heap.size, k, none⟩ = _ := c1; have d1 : wr.drew.cell? ⟨bw, 0, none⟩ = _ := k1; have d2 : wr.drew.cell? ⟨b, 2, none⟩ = _ := k2; have d3 : wr.drew.cell? ⟨bo, 1 + k, none⟩ = _ := c2)
              go_simp
              try with_reducible rfl
            refine anyIH_take (i := 2) (v := ?vz2) (by kernel_rfl) rfl (by kernel_rfl) (by kernel_rfl) (by kernel_rfl) (fun _ _ _ h => h) (.inl ⟨by rfl, ?yz2⟩) hS0 ?_
            case yz2 =>
              intro w' hS
              (subst hS; have d0 : wr.drew.cell? ⟨A.heap.size, k, none⟩ = _ := c1; have d1 : wr.drew.cell? ⟨bw, 0, none⟩ = _ := k1; have d2 : wr.drew.cell? ⟨b, 2, none⟩ = _ := k2; have d3 : wr.drew.cell? ⟨bo, 1 + k, none⟩ = _ := c2)
              go_simp
              try with_reducible rfl
            refine anyIH_take (i := 3) (v := ?vz3) (by kernel_rfl) rfl (by kernel_rfl) (by kernel_rfl) (by kernel_rfl) (fun _ _ _ h => h) (.inl ⟨by rfl, ?yz3⟩) hS0 ?_
            case yz3 =>
              intro w' hS
              (subst hS; have d0 : wr.drew.cell? ⟨A.heap.size, k, none⟩ = _ := c1; have d1 : wr.drew.cell? ⟨bw, 0, none⟩ = _ := k1; have d2 : wr.drew.cell? ⟨b, 2, none⟩ = _ := k2; have d3 : wr.drew.cell? ⟨bo, 1 + k, none⟩ = _ := c2)
              go_simp
              try with_reducible rfl
            refine anyIH_take (i := 4) (v := ?vz4) (by kernel_rfl) rfl (by kernel_rfl) (by kernel_rfl) (by kernel_rfl) (fun _ _ _ h => h) (.inl ⟨by rfl, ?yz4⟩) hS0 ?_
            case yz4 =>
              intro w' hS
              (subst hS; have d0 : wr.drew.cell? ⟨A.heap.size, k, none⟩ = _ := c1; have d1 : wr.drew.cell? ⟨bw, 0, none⟩ = _ := k1; have d2 : wr.drew.cell? ⟨b, 2, none⟩ = _ := k2; have d3 : wr.drew.cell? ⟨bo, 1 + k, none⟩ = _ := c2)
              go_simp
              try with_reducible rfl
            refine anyIH_take (i := 5) (v := ?vz5) (by kernel_rfl) rfl (by kernel_rfl) (by kernel_rfl) (by kernel_rfl) (fun _ _ _ h => h) (.inl ⟨by rfl, ?yz5⟩) hS0 ?_
            case yz5 =>
              intro w' hS
              (subst hS; have d0 : wr.drew.cell? ⟨A.heap.size, k, none⟩ = _ := c1; have d1 : wr.drew.cell? ⟨bw, 0, none⟩ = _ := k1; have d2 : wr.drew.cell? ⟨b, 2, none⟩ = _ := k2; have d3 : wr.drew.cell? ⟨bo, 1 + k, none⟩ = _ := c2)
              go_simp
              try with_reducible rfl
            refine anyIH_take (i := 6) (v := ?vz6) (by kernel_rfl) rfl (by kernel_rfl) (by kernel_rfl) (by kernel_rfl) (fun _ _ _ h => h) (.inl ⟨by rfl, ?yz6⟩) hS0 ?_
            case yz6 =>
              intro w' hS
              (subst hS; have d0 : wr.drew.cell? ⟨A.heap.size, k, none⟩ = _ := c1; have d1 : wr.drew.cell? ⟨bw, 0, none⟩ = _ := k1; have d2 : wr.drew.cell? ⟨b, 2, none⟩ = _ := k2; have d3 : wr.drew.cell? ⟨bo, 1 + k, none⟩ = _ := c2)
              go_simp
              try with_reducible rfl
            refine anyIH_take (i := 7) (v := ?vz7) (by kernel_rfl) rfl (by kernel_rfl) (by kernel_rfl) (by kernel_rfl) (fun _ _ _ h => h) (.inl ⟨by rfl, ?yz7⟩) hS0 ?_
            case yz7 =>
              intro w' hS
              (subst hS; have d0 : wr.drew.cell? ⟨A.heap.size, k, none⟩ = _ := c1; have d1 : wr.drew.cell? ⟨bw, 0, none⟩ = _ := k1; have d2 : wr.drew.cell? ⟨b, 2, none⟩ = _ := k2; have d3 : wr.drew.cell? ⟨bo, 1 + k, none⟩ = _ := c2)
              go_simp
              try with_reducible rfl
            refine anyIH_take (i := 8) (v := ?vz8) (by kernel_rfl) rfl (by kernel_rfl) (by kernel_rfl) (by kernel_rfl) (fun _ _ _ h => h) (.inl ⟨by rfl, ?yz8⟩) hS0 ?_
            case yz8 =>
              intro w' hS
              (subst hS; have d0 : wr.drew.cell? ⟨A.heap.size, k, none⟩ = _ := c1; have d1 : wr.drew.cell? ⟨bw, 0, none⟩ = _ := k1; have d2 : wr.drew.cell? ⟨b, 2, none⟩ = _ := k2; have d3 : wr.drew.cell? ⟨bo, 1 + k, none⟩ = _ := c2)
              go_simp
              try with_reducible rfl
            refine anyIH_take (i := 9) (v := ?vz9) (by kernel_rfl) rfl (by kernel_rfl) (by kernel_rfl) (by kernel_rfl) (fun _ _ _ h => h) (.inl ⟨by rfl, ?yz9⟩) hS0 ?_
            case yz9 =>
              intro w' hS
              (subst hS; have d0 : wr.drew.cell? ⟨A.heap.size, k, none⟩ = _ := c1; have d1 : wr.drew.cell? ⟨bw, 0, none⟩ = _ := k1; have d2 : wr.drew.cell? ⟨b, 2, none⟩ = _ := k2; have d3 : wr.drew.cell? ⟨bo, 1 + k, none⟩ = _ := c2)
              go_simp
              try with_reducible rfl
            refine anyIH_take (i := 10) (v := ?vz10) (by kernel_rfl) rfl (by kernel_rfl) (by kernel_rfl) (by kernel_rfl) (fun _ _ _ h => h) (.inl ⟨by rfl, ?yz10⟩) hS0 ?_
            case yz10 =>
              intro w' hS
              (subst hS; have d0 : wr.drew.cell? ⟨A.heap.size, k, none⟩ = _ := c1; have d1 : wr.drew.cell? ⟨bw, 0, none⟩ = _ := k1; have d2 : wr.drew.cell? ⟨b, 2, none⟩ = _ := k2; have d3 : wr.drew.cell? ⟨bo, 1 + k, none⟩ = _ := c2)
              go_simp
              try with_reducible rfl
            refine anyIH_take (i := 11) (v := ?vz11) (by kernel_rfl) rfl (by kernel_rfl) (by kernel_rfl) (by kernel_rfl) (fun _ _ _ h => h) (.inl ⟨by rfl, ?yz11⟩) hS0 ?_
            case yz11 =>
              intro w' hS
              (subst hS; have d0 : wr.drew.cell? ⟨A.heap.size, k, none⟩ = _ := c1; have d1 : wr.drew.cell? ⟨bw, 0, none⟩ = _ := k1; have d2 : wr.drew.cell? ⟨b, 2, none⟩ = _ := k2; have d3 : wr.drew.cell? ⟨bo, 1 + k, none⟩ = _ := c2)
              go_simp
              try with_reducible rfl
            refine anyIH_take (i := 12) (v := ?vz12) (by kernel_rfl) rfl (by kernel_rfl) (by kernel_rfl) (by kernel_rfl) (fun _ _ _ h => h) (.inl ⟨by rfl, ?yz12⟩) hS0 ?_
            case yz12 =>
              intro w' hS
              (subst hS; have d0 : wr.drew.cell? ⟨A.heap.size, k, none⟩ = _ := c1; have d1 : wr.drew.cell? ⟨bw, 0, none⟩ = _ := k1; have d2 : wr.drew.cell? ⟨b, 2, none⟩ = _ := k2; have d3 : wr.drew.cell? ⟨bo, 1 + k, none⟩ = _ := c2)
              go_simp
              try with_reducible rfl
            refine anyIH_take (i := 13) (v := ?vz13) (by kernel_rfl) rfl (by kernel_rfl) (by kernel_rfl) (by kernel_rfl) (fun _ _ _ h => h) (.inl ⟨by rfl, ?yz13⟩) hS0 ?_
            case yz13 =>
              intro w' hS
              (subst hS; have d0 : wr.drew.cell? ⟨A.heap.size, k, none⟩ = _ := c1; have d1 : wr.drew.cell? ⟨bw, 0, none⟩ = _ := k1; have d2 : wr.drew.cell? ⟨b, 2, none⟩ = _ := k2; have d3 : wr.drew.cell? ⟨bo, 1 + k, none⟩ = _ := c2)
              go_simp
              try with_reducible rfl
            refine anyIH_done (by kernel_rfl) ?_ _
            try simp only [Act.put, List.getElem_toArray, List.getElem_cons_zero, List.getElem_cons_succ, List.setIfInBounds_toArray, List.set_cons_zero, List.set_cons_succ]
            obtain ⟨wd, hwd⟩ : ∃ wd, wr.drew = wd := ⟨_, rfl⟩
            have hiD : Inv j k wd := by rw [← hwd]; exact HG.out _ _ _ _ none hi ⟨rfl, rfl, rfl, Nat.le_refl _, fun _ _ _ => rfl⟩ (by simp)
            have hqD : ∀ q : Nat, wd.heap[q]? = wr.heap[q]? := by rw [← hwd]; exact fun _ => rfl
            have hsD : wr.heap.size ≤ wd.heap.size ∧ wd.heap.size ≤ wr.heap.size := by rw [← hwd]; exact ⟨Nat.le_refl _, Nat.le_refl _⟩
            have HqD := Lib.hid hqD
            rw [hwd]
            clear hwd hqD b1 b2 b3 k1 k2 c1 c2
            have hi2 := HS.out j k wd hlt (by rw [Hxs.out]; exact Hqq.out) hiD
            clear kSr hi hiD hqe kS kY
            gi_wp2_with (refine wpListIn_skip (by rfl) (by rfl) ?_; try simp only [Act.put, List.setIfInBounds_toArray, List.set_cons_zero, List.set_cons_succ])
            go_roundw
            case rel => exact ⟨k + 1, by omega, by simp, hi2, fun q h1 h2 => (HqD.out q).trans (Hq.out q h1 h2), by omega⟩
            case measure => simp [intOf]; omega
        · obtain rfl : k = zs.length := by omega
          gi_wp2
          have hI2 := HN.out j wr hi
          have hb' := (Hq.out (w3.heap.size + 1) (by omega) (by omega)).trans Hbusy.out
          refine ⟨hb', ?_⟩
          have gR := fun o => grownBy_putObj' wr (w3.heap.size + 1) o
          have nL : ∀ q, q ≠ w3.heap.size + 1 → some q ≠ some (w3.heap.size + 1) := fun q hq e => hq (Option.some.inj e)
          have old : ∀ q, W.heap.size ≤ q → q < A.heap.size → q ≠ w3.heap.size + 1 → ∀ o, (wr.putObj (w3.heap.size + 1) o).heap[q]? = A.heap[q]? := fun q h1 h2 h3 o => ((gR o).block q (by omega) (nL q h3)).trans ((Hq.out q h1 (by omega)).trans (Same.out q h2 h3))
          have q1 := fun o => old W.heap.size (by omega) (by omega) (by omega) o
          have q2 := fun o => old (W.heap.size + 1) (by omega) (by omega) (by omega) o
          have q3 := fun o => old w3.heap.size (by omega) (by omega) (by omega) o
          have q4 := fun o => old (w3.heap.size + 2) (by omega) (by omega) (by omega) o
          refine ⟨rfl, ⟨HG.out _ _ _ _ _ hI2 (gR _) (fun q e => by cases e; omega), (q1 _).trans HH.out.2.1, (q2 _).trans HH.out.2.2.1, (q3 _).trans HH.out.2.2.2.1, World.putObj_heap_same (Array.getElem?_eq_some_iff.1 hb').1⟩, Nat.le_trans (Nat.le_of_lt hsr) (gR _).size, (q4 _).trans (Array.getElem?_eq_getElem (by omega))⟩
  case post =>
    rintro e W' ⟨⟨v, rfl⟩, ⟨h1, h2, h3, h6, h7⟩ | hx⟩
    · refine range_done2 h7 fun Wx hg => ?_
      have hDx := (hg.block _ (Array.getElem?_eq_some_iff.1 h6).1 (by simp)).trans h6
      have hIx := hgrow _ _ _ _ _ h1 hg (fun q e => by cases e; omega)
      clear hE0 h1 h2 h3 h6 h7 hg
      gi_wp2
      refine retM1' hDx ⟨_, results_none rfl _ _ _, ⟨_, rfl⟩, ?_⟩
      exact hgrow _ _ _ _ (some w3.heap.size) hIx (grownBy_putObj' Wx _ _) (fun q e => by cases e; omega)
    · exact hx.elim

end Go.Proofs.Ytgndbifcncklgaa
