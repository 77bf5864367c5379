/-
  Jobs: what jobs are, of the program and of the model; the iterator jobsByTask.
  Conditions: lists of at most 1048576 elements.
-/
import Derived.Test.YtbhpflhopajbfaaJobM
import Derived.Test.YtbhpflhopajbfaaRegI
import Derived.Test.YtbhpflhopajbfaaWaits
namespace Go.Proofs.Ytbhpflhopajbfaa
open Go.RowKit Go.Shelf
attribute [local go_sem] Oper.semAt_some

theorem isJob_c (l p d : Int) (w : World) :
    Calls Try.prog 170 #[.agg #[.int .i64 l, .int .i64 p, .int .i64 d]] w fun e w' => e = .returned (.bool (jobOk l p d)) ∧ Below w.heap.size w w' := by
  have hB0 : Below w.heap.size w (w.alloc (.cells #[.int .i64 l, .int .i64 p, .int .i64 d] 202)) := (Below.refl _ _).alloc (Nat.le_refl _) _
  by_cases h1 : 1 ≤ l
  · by_cases h2 : l ≤ 20
    · by_cases h3 : 1 ≤ p
      · by_cases h4 : p ≤ 60
        · by_cases h5 : 1 ≤ d
          · by_cases h6 : d ≤ p
            · have Hf := Lib.hid (show jobOk l p d = true from jobOk_true.2 (by omega))
              go_enter Try.func170, Try.ntmps170
              go_wp2
              go_ret
              exact ⟨ret_bool (by rw [Hf.out]; first | done | (simp; done) | (simp; omega)), hB0⟩
            · have Hf := Lib.hid (show jobOk l p d = false from jobOk_false (by omega))
              go_enter Try.func170, Try.ntmps170
              go_wp2
              go_ret
              exact ⟨ret_bool (by rw [Hf.out]; first | done | (simp; done) | (simp; omega)), hB0⟩
          · have Hf := Lib.hid (show jobOk l p d = false from jobOk_false (by omega))
            go_enter Try.func170, Try.ntmps170
            go_wp2
            go_ret
            exact ⟨ret_bool (by rw [Hf.out]; first | done | (simp; done) | (simp; omega)), hB0⟩
        · have Hf := Lib.hid (show jobOk l p d = false from jobOk_false (by omega))
          go_enter Try.func170, Try.ntmps170
          go_wp2
          go_ret
          exact ⟨ret_bool (by rw [Hf.out]; first | done | (simp; done) | (simp; omega)), hB0⟩
      · have Hf := Lib.hid (show jobOk l p d = false from jobOk_false (by omega))
        go_enter Try.func170, Try.ntmps170
        go_wp2
        go_ret
        exact ⟨ret_bool (by rw [Hf.out]; first | done | (simp; done) | (simp; omega)), hB0⟩
    · have Hf := Lib.hid (show jobOk l p d = false from jobOk_false (by omega))
      go_enter Try.func170, Try.ntmps170
      go_wp2
      go_ret
      exact ⟨ret_bool (by rw [Hf.out]; first | done | (simp; done) | (simp; omega)), hB0⟩
  · have Hf := Lib.hid (show jobOk l p d = false from jobOk_false (by omega))
    go_enter Try.func170, Try.ntmps170
    go_wp2
    go_ret
    exact ⟨ret_bool (by rw [Hf.out]; first | done | (simp; done) | (simp; omega)), hB0⟩

theorem jobsByTask_c (u v x : Value) (w : World) :
    Calls Try.prog 169 #[.agg #[u, v, x]] w fun e w' => e = .returned (.func (.func 190) #[] #[.pointer (some ⟨w.heap.size, 0, none⟩)]) ∧ w' = w.alloc (.cells #[u, v, x] 37) := by
  go_enter Try.func169, Try.ntmps169
  go_wp2
  go_ret
  exact ⟨rfl, rfl⟩

theorem ints_own {β : Type} (n : Nat) (v : Value) (zs : List Int) : Own (fun (_ : β) W => Ints n W v zs) := fun s X Y row hs hg hrow => by
  obtain ⟨a, c, e, hz⟩ := hs
  refine ⟨a, c, e, ?_⟩
  rcases hz with hz | ⟨b, off, ha, hb, hc⟩
  · exact .inl hz
  · refine .inr ⟨b, off, ha, hb, fun j hj => ?_⟩
    have h1 := hc j hj
    have hlt := World.block_lt_of_cell? X _ h1
    refine (World.cell?_of_block (w := X) (a := ⟨b, off + j, none⟩) (hg.block b hlt fun e => ?_)).trans h1
    obtain ⟨o, ho, hcc⟩ := hrow b e.symm
    simp only [World.cell?, ho] at h1
    cases o <;> simp_all [Obj.isCells]
theorem jobs3_own {β : Type} (n : Nat) (cl cp cd : Value) (ls ps ds : List Int) : Own (fun (_ : β) W => Jobs3 n W cl cp cd ls ps ds) := fun s X Y row hs hg hrow =>
  ⟨ints_own (β := β) n cl ls s X Y row hs.l hg hrow, ints_own (β := β) n cp ps s X Y row hs.p hg hrow, ints_own (β := β) n cd ds s X Y row hs.d hg hrow⟩

/-- what the rounds are handed: the task, and its numbers -/
def jobAt (ls ps ds : List Int) (k : Nat) : Array Value := #[.int .i64 (k : Int), .agg #[.int .i64 (nth ls k), .int .i64 (nth ps k), .int .i64 (nth ds k)]]

set_option maxRecDepth 100000 in
set_option maxHeartbeats 8000000 in
theorem jobsByTask_at (n : Nat) (bJ n₀ : Nat) (cl cp cd : Value) (ls ps ds : List Int) (hl : ls.length ≤ 1048576) (hlp : ps.length = ls.length) (hld : ds.length = ls.length) (w : World) (hJ0 : Box3 w bJ 37 cl cp cd) (hn₀ : n₀ ≤ w.heap.size) (hI0 : Jobs3 n₀ w cl cp cd ls ps ds) :
    SeqAt Fence.wide n Try.prog 190 #[.pointer (some ⟨bJ, 0, none⟩)] (jobAt ls ps ds) (fun b => b < n₀ ∨ b = bJ) 4 ls.length w := fun l J Jx W hW hJ hJx hY h0 => by
  refine callsIn_wide.2 ((callsIn_wide (n := 9)).1 ?_)
  have hI := hI0.below (hW.mono hn₀)
  have bJ1 := hJ0.later hW
  have cJ := (bJ1.alloc (.cells #[.func (.yield l) #[] #[]] 219)).c0
  have hws := hW.size
  have hbJ := bJ1.lt
  clear hI0
  obtain ⟨al, capl, rfl⟩ := hI.l.shape
  obtain ⟨ap, capp, rfl⟩ := hI.p.shape
  obtain ⟨ad, capd, rfl⟩ := hI.d.shape
  refine callsIn_of_wp_marks Try.func190 rfl trivial ?_ rfl
  simp only [Try.ntmps190, List.size_toArray, List.length_cons, List.length_nil, Nat.reduceAdd, Nat.reduceSub, Array.replicate_succ, Array.replicate_zero, List.push_toArray, List.append_toArray, List.nil_append, List.cons_append]
  gi_wp2_with (first | (gi_at_call 93; refine (callsIn_wide.2 (numbered_c _ _ _ _)).mono ?_; rintro e w' ⟨rfl, rfl⟩) | (refine ⟨trivial, ?_⟩; gi_at_call 93; refine (callsIn_wide.2 (numbered_c _ _ _ _)).mono ?_; rintro e w' ⟨rfl, rfl⟩))
  obtain ⟨W0, hW0⟩ : ∃ W0, (W.alloc (.cells #[.func (.yield l) #[] #[]] 219)).alloc (.cells #[.slice al ls.length capl] 22) = W0 := ⟨_, rfl⟩
  have hB0 : Below W.heap.size W W0 := by rw [← hW0]; exact ((Below.refl _ W).alloc (Nat.le_refl _) _).alloc (by simp) _
  have hsz : W0.heap.size = W.heap.size + 2 := by rw [← hW0]; simp
  have bY : Boxed W0 W.heap.size 219 (.func (.yield l) #[] #[]) := by rw [← hW0]; exact (Boxed.new W _ _).alloc _
  have bN : Boxed W0 (W.heap.size + 1) 22 (.slice al ls.length capl) := by rw [← hW0]; simpa using Boxed.new (W.alloc (.cells #[.func (.yield l) #[] #[]] 219)) 22 (.slice al ls.length capl)
  have bJ2 := bJ1.below hB0 hbJ
  have hJ0' : J 0 W0 := by rw [← hW0]; exact hJ.alloc _ (hJ.alloc _ h0)
  rw [hW0]
  clear hW0 cJ
  have Hsz := Lib.hid hsz
  have hs1 : W.heap.size + 2 ≤ W0.heap.size := by omega
  clear hsz
  have hI9 := hI.below (hB0.mono (show n₀ ≤ W.heap.size by omega))
  refine range_outA rfl (by omega) rfl trivial (enters_of Try.func151 (by kernel_rfl) rfl) (numbered_at Fence.wide 8 trivial rfl (by omega) (W.heap.size + 1) n₀ _ ls (by omega) W0 bN (by omega) hI9.l) (fun b hb => by omega) (fun _ => rfl)
    (fun k W' => J k W' ∧ Box3 W' bJ 37 (.slice al ls.length capl) (.slice ap ps.length capp) (.slice ad ds.length capd) ∧ Boxed W' W.heap.size 219 (.func (.yield l) #[] #[]) ∧ Jobs3 n₀ W' (.slice al ls.length capl) (.slice ap ps.length capp) (.slice ad ds.length capd) ls ps ds)
    (fun c _ W' => c = .ret ∧ ∃ m, m ≤ ls.length ∧ Jx m W')
    ?hI ?hIx ⟨hJ0', bJ2, bY, hI9⟩ ?a1 ?assign ?body ?done ?stop
  case hI => exact OwnFrom.and (fun s A B row hs hg hr => OwnFrom.up hJ (by omega) _ A B row hs hg hr) (OwnFrom.and (Own.from (box3_own _ _ _ _ _) _) (OwnFrom.and (Own.from (boxed_own _ _ _) _) (Own.from (jobs3_own _ _ _ _ _ _ _) _)))
  case hIx =>
    rintro c s A B row ⟨h1, m, h2, h3⟩ hg hr
    exact ⟨h1, m, h2, OwnFrom.up hJx (by omega) _ A B row h3 hg hr⟩
  case assign =>
    intro l2 k W' K hk hK
    simp only [numAt]
    gi_wp2
    exact hK
  case body =>
    rintro l2 k W' hl2 hr2 ⟨hj, bJ3, bY3, hI3⟩ hk hs
    have cp := bJ3.c1
    have cd := bJ3.c2
    have cY := bY3.cell
    obtain ⟨b1, off1, rfl, hb1, hc1⟩ := hI3.p.at_ (k := k) (by omega)
    obtain ⟨b2, off2, rfl, hb2, hc2⟩ := hI3.d.at_ (k := k) (by omega)
    have e1 := hc1 k (by omega)
    have e2 := hc2 k (by omega)
    have hlp1 : (k : Int) < (ps.length : Int) := by omega
    have hld1 : (k : Int) < (ds.length : Int) := by omega
    have hjd : J k W'.drew := hJ _ _ _ none hj ⟨rfl, rfl, rfl, Nat.le_refl _, fun _ _ _ => rfl⟩ (by simp)
    obtain ⟨fn, tmps, assign, body, hy, hR⟩ := yieldAt_wide 6 (hY _ W'.drew hjd hk (by show _ ≤ W'.heap.size; omega))
    simp only [jobAt] at hy hR
    have hsz := Hsz.out
    have sub : ∀ b, Band (fun b => b < n₀) W0.heap.size (W0.heap.size + 2 + 0) b → (b < n₀ ∨ b = bJ) ∨ W.heap.size ≤ b ∧ b < W.heap.size + 4 := fun b hb => by
      rcases hb with hb | hb
      · exact .inl (.inl hb)
      · exact .inr (by omega)
    have Hsub := Lib.hid sub
    have hfw : Try.prog.follows Departure.mixedOrders = true := by kernel_rfl
    have hE : ∀ w', Kps (fun b => (b < n₀ ∨ b = bJ) ∨ W.heap.size ≤ b ∧ b < W.heap.size + 4) W'.drew w' → w'.cell? ⟨bJ, 1, none⟩ = some (.slice (some ⟨b1, off1, none⟩) ps.length capp) ∧ w'.cell? ⟨bJ, 2, none⟩ = some (.slice (some ⟨b2, off2, none⟩) ds.length capd) ∧ w'.cell? ⟨W.heap.size, 0, none⟩ = some (.func (.yield l) #[] #[]) ∧ w'.cell? ⟨b1, off1 + k, none⟩ = some (.int .i64 (nth ps k)) ∧ w'.cell? ⟨b2, off2 + k, none⟩ = some (.int .i64 (nth ds k)) := fun w' hk => by
      have g : ∀ (a : Addr) v, ((a.block < n₀ ∨ a.block = bJ) ∨ W.heap.size ≤ a.block ∧ a.block < W.heap.size + 4) → W'.cell? a = some v → w'.cell? a = some v := fun a v ha hv =>
        (World.cell?_of_block (w := W'.drew) (a := a) (hk.same _ ha (World.block_lt_of_cell? W' a hv))).trans hv
      exact ⟨g _ _ (.inl (.inr rfl)) cp, g _ _ (.inl (.inr rfl)) cd, g _ _ (.inr ⟨Nat.le_refl _, by show W.heap.size < W.heap.size + 4; omega⟩) cY, g _ _ (.inl (.inl hb1)) e1, g _ _ (.inl (.inl hb2)) e2⟩
    have HE := Lib.hid hE
    clear hc1 hc2 hY hE sub hsz cp cd cY e1 e2 hjd hI hI9 hJ0 bJ1 bJ2 bY bN hJ0' hB0 hW
    gi_wp2_with fail
    refine wpIn_region_heldI (Kps (fun b => (b < n₀ ∨ b = bJ) ∨ W.heap.size ≤ b ∧ b < W.heap.size + 4) W'.drew) hfw (Kps.refl _ _) ?_
    intro hS0
    have Hy := Lib.hid hy
    have HR := Lib.hid hR
    have HJ := Lib.hid hj
    have H1 := Lib.hid bJ3
    have H2 := Lib.hid bY3
    have H3 := Lib.hid hI3
    have H4 := Lib.hid hr2
    clear hy hR hj bJ3 bY3 hI3 hr2
    refine anyIH_take (i := 0) (v := ?v0) (by kernel_rfl) rfl (by kernel_rfl) (by kernel_rfl) (by kernel_rfl) (fun _ _ _ h => h) (.inl ⟨by rfl, ?y0⟩) hS0 ?_
    case y0 =>
      intro w' hS
      (obtain ⟨q1, q2, q3, q4, q5⟩ := HE.out _ hS; clear hS)
      go_simp
      try with_reducible rfl
    refine anyIH_take (i := 1) (v := ?v1) (by kernel_rfl) rfl (by kernel_rfl) (by kernel_rfl) (by kernel_rfl) (fun _ _ _ h => h) (.inl ⟨by rfl, ?y1⟩) hS0 ?_
    case y1 =>
      intro w' hS
      (obtain ⟨q1, q2, q3, q4, q5⟩ := HE.out _ hS; clear hS)
      go_simp
      try with_reducible rfl
    refine anyIH_take (i := 2) (v := ?v2) (by kernel_rfl) rfl (by kernel_rfl) (by kernel_rfl) (by kernel_rfl) (fun _ _ _ h => h) (.inl ⟨by rfl, ?y2⟩) hS0 ?_
    case y2 =>
      intro w' hS
      (obtain ⟨q1, q2, q3, q4, q5⟩ := HE.out _ hS; clear hS)
      go_simp
      try with_reducible rfl
    refine anyIH_take (i := 3) (v := ?v3) (by kernel_rfl) rfl (by kernel_rfl) (by kernel_rfl) (by kernel_rfl) (fun _ _ _ h => h) (.inl ⟨by rfl, ?y3⟩) hS0 ?_
    case y3 =>
      intro w' hS
      (obtain ⟨q1, q2, q3, q4, q5⟩ := HE.out _ hS; clear hS)
      go_simp
      try with_reducible rfl
    refine anyIH_take (i := 4) (v := ?v4) (by kernel_rfl) rfl (by kernel_rfl) (by kernel_rfl) (by kernel_rfl) (fun _ _ _ h => h) (.inl ⟨by rfl, ?y4⟩) hS0 ?_
    case y4 =>
      intro w' hS
      (obtain ⟨q1, q2, q3, q4, q5⟩ := HE.out _ hS; clear hS)
      go_simp
      try with_reducible rfl
    refine anyIH_take (i := 5) (v := ?v5) (by kernel_rfl) rfl (by kernel_rfl) (by kernel_rfl) (by kernel_rfl) (fun _ _ _ h => h) (.inl ⟨by rfl, ?y5⟩) hS0 ?_
    case y5 =>
      intro w' hS
      (obtain ⟨q1, q2, q3, q4, q5⟩ := HE.out _ hS; clear hS)
      go_simp
      try with_reducible rfl
    refine anyIH_take (i := 6) (v := ?v6) (by kernel_rfl) rfl (by kernel_rfl) (by kernel_rfl) (by kernel_rfl) (fun _ _ _ h => h) (.inl ⟨by rfl, ?y6⟩) hS0 ?_
    case y6 =>
      intro w' hS
      (obtain ⟨q1, q2, q3, q4, q5⟩ := HE.out _ hS; clear hS)
      go_simp
      try with_reducible rfl
    refine anyIH_take (i := 7) (v := ?v7) (by kernel_rfl) rfl (by kernel_rfl) (by kernel_rfl) (by kernel_rfl) (fun _ _ _ h => h) (.inl ⟨by rfl, ?y7⟩) hS0 ?_
    case y7 =>
      intro w' hS
      (obtain ⟨q1, q2, q3, q4, q5⟩ := HE.out _ hS; clear hS)
      go_simp
      try with_reducible rfl
    refine anyIH_take (i := 8) (v := ?v8) (by kernel_rfl) rfl (by kernel_rfl) (by kernel_rfl) (by kernel_rfl) (fun _ _ _ h => h) (.inl ⟨by rfl, ?y8⟩) hS0 ?_
    case y8 =>
      intro w' hS
      (obtain ⟨q1, q2, q3, q4, q5⟩ := HE.out _ hS; clear hS)
      go_simp
      try with_reducible rfl
    refine anyIH_take (i := 9) (v := ?v9) (by kernel_rfl) rfl (by kernel_rfl) (by kernel_rfl) (by kernel_rfl) (fun _ _ _ h => h) (.inl ⟨by rfl, ?y9⟩) hS0 ?_
    case y9 =>
      intro w' hS
      (obtain ⟨q1, q2, q3, q4, q5⟩ := HE.out _ hS; clear hS)
      go_simp
      try with_reducible rfl
    refine anyIH_take (i := 10) (v := ?v10) (by kernel_rfl) rfl (by kernel_rfl) (by kernel_rfl) (by kernel_rfl) (fun _ _ _ h => h) (.inl ⟨by rfl, ?y10⟩) hS0 ?_
    case y10 =>
      intro w' hS
      (obtain ⟨q1, q2, q3, q4, q5⟩ := HE.out _ hS; clear hS)
      go_simp
      try with_reducible rfl
    refine anyIH_take (i := 11) (v := ?v11) (by kernel_rfl) rfl (by kernel_rfl) (by kernel_rfl) (by kernel_rfl) (fun _ _ _ h => h) (.inl ⟨by rfl, ?y11⟩) hS0 ?_
    case y11 =>
      intro w' hS
      (obtain ⟨q1, q2, q3, q4, q5⟩ := HE.out _ hS; clear hS)
      go_simp
      try with_reducible rfl
    refine anyIH_take (i := 12) (v := ?v12) (by kernel_rfl) rfl (by kernel_rfl) (by kernel_rfl) (by kernel_rfl) (fun _ _ _ h => h) (.inl ⟨by rfl, ?y12⟩) hS0 ?_
    case y12 =>
      intro w' hS
      (obtain ⟨q1, q2, q3, q4, q5⟩ := HE.out _ hS; clear hS)
      go_simp
      try with_reducible rfl
    refine anyIH_take (i := 13) (v := ?v13) (by kernel_rfl) rfl (by kernel_rfl) (by kernel_rfl) (by kernel_rfl) (fun _ _ _ h => h) (.inl ⟨by rfl, ?y13⟩) hS0 ?_
    case y13 =>
      intro w' hS
      (obtain ⟨q1, q2, q3, q4, q5⟩ := HE.out _ hS; clear hS)
      go_simp
      try with_reducible rfl
    have hy := Hy.out
    refine anyIH_one (i := 14) (by kernel_rfl) rfl (fun K' hK' => ?_)
    rw [if_pos (by rfl)]
    go_simp
    refine RoundIn.mono (F := Fence.wide.inRound l2) HR.out ?_
    rintro e W3 ⟨hk3, hJJ⟩
    have hk4 : Kps (Band (fun b => b < n₀) W0.heap.size (W0.heap.size + 2 + 0)) W' W3 := ⟨hk3.size, fun i hi hl => hk3.same i (Hsub.out i hi) hl⟩
    have b1' : Box3 W3 _ _ _ _ _ := hk3.some (.inl (.inr rfl)) (show W'.drew.heap[bJ]? = _ from H1.out)
    have b2' : Boxed W3 _ _ _ := hk3.some (.inr ⟨Nat.le_refl _, by show W.heap.size < W.heap.size + 4; omega⟩) (show W'.drew.heap[W.heap.size]? = _ from H2.out)
    have b3' : Jobs3 n₀ W3 (.slice al ls.length capl) (.slice (some ⟨b1, off1, none⟩) ps.length capp) (.slice (some ⟨b2, off2, none⟩) ds.length capd) ls ps ds :=
      ⟨Ints.kps (A := W'.drew) H3.out.l hk3 (fun _ h => .inl (.inl h)), Ints.kps (A := W'.drew) H3.out.p hk3 (fun _ h => .inl (.inl h)), Ints.kps (A := W'.drew) H3.out.d hk3 (fun _ h => .inl (.inl h))⟩
    have B1 := Lib.hid b1'
    have B2 := Lib.hid b2'
    have B3 := Lib.hid b3'
    have B4 := Lib.hid hk4
    clear b1' b2' b3' hk4 hy
    rcases hJJ with ⟨rfl, hj⟩ | ⟨rfl, hj⟩
    · have HJ3 := Lib.hid hj
      clear hj
      refine hK'.out _ _ hk3 fun hS1 => ?_
      refine anyIH_take (i := 15) (v := ?vb15) (by kernel_rfl) rfl (by kernel_rfl) (by kernel_rfl) (by kernel_rfl) (fun _ _ _ h => h) (.inl ⟨by rfl, ?yb15⟩) hS1 ?_
      case yb15 =>
        intro w' hS
        (clear hS)
        go_simp
        try with_reducible rfl
      refine anyIH_done (by kernel_rfl) ?_ _
      gi_wp2
      exact ⟨B4.out, HJ3.out, B1.out, B2.out, B3.out⟩
    · have HJ3 := Lib.hid hj
      clear hj
      refine hK'.out _ _ hk3 fun hS1 => ?_
      refine anyIH_take (i := 15) (v := ?vc15) (by kernel_rfl) rfl (by kernel_rfl) (by kernel_rfl) (by kernel_rfl) (fun _ _ _ h => h) (.inl ⟨by rfl, ?yc15⟩) hS1 ?_
      case yc15 =>
        intro w' hS
        (clear hS)
        go_simp
        try with_reducible rfl
      refine anyIH_done (by kernel_rfl) ?_ _
      gi_wp2
      exact ⟨B4.out, rfl, k + 1, by omega, HJ3.out⟩
  case done =>
    rintro D W' hD ⟨hj, bJ3, bY3, hI3⟩ hK
    gi_wp2
    refine retM1' hK ⟨_, results_none rfl _ _ _, ⟨_, rfl⟩, .inl ?_⟩
    exact hJ.putObj _ hj (by omega) hK rfl
  case stop =>
    rintro D c k W' hD hk ⟨rfl, m, hm, hj⟩ hK
    gi_wp2
    refine retM1 hK ⟨_, results_none rfl _ _ _, ⟨_, rfl⟩, .inr ⟨m, hm, ?_⟩⟩
    exact hJx.putObj _ hj (by omega) hK rfl

section
variable {F : Fence} {n : Nat} {P : Program}
/-- A LOOP WHOSE VARIABLE LIES IN A BOX OF THREE CELLS, which each round lays anew. -/
theorem range_outB (T : TypeId) (u v x : Nat → Value) {g : Operand} {ps : Array Tmp} {assign body : Code} {Q : Exit → Act → World → Prop} {a : Act} {w : World} (hro : F.round = none) (h1 : 1 ≤ n)
    {gf : Nat} {lb : Array Value} (hg : a.eval g = .func (.func gf) #[] lb) (hFg : F.fn gf) (eg : ∀ args w, (callFunc gf args).run P w = .ok (.enter gf args) w)
    {enc : Nat → Array Value} {Keep : Nat → Prop} {c N : Nat} (hseq : SeqAt F (n - 1) P gf lb enc Keep c N w) (hKeep : ∀ b, Keep b → b < w.heap.size) (hps : ∀ k, (enc k).size = ps.size)
    (I : Nat → World → Prop) (Ix : Code → Nat → World → Prop) (hI : OwnFrom w.heap.size I) (hIx : ∀ c, OwnFrom w.heap.size (Ix c)) (h0 : I 0 w) (a₁ : Nat → Nat → Act)
    (hassign : ∀ (l k b : Nat) (W : World) (K : Act → World → Prop), k < N → W.heap.size = b → K (a₁ k b) (W.alloc (.cells #[u k, v k, x k] T)) →
      assign.wpIn (F.inRound l) (n - 1 - 1) P (Exit.then K (fun _ _ _ => False)) { tmps := (ps.zip (enc k)).foldl (fun t (p, v) => t.setIfInBounds p v) a.tmps, defers := [] } W)
    (hbody : ∀ (l k b : Nat) (W : World), w.heap.size ≤ l → (∃ r, W.heap[l]? = some (.loop r)) → I k W → w.heap.size + 2 + c ≤ b → Box3 W b T (u k) (v k) (x k) → k < N → w.heap.size + 2 + c ≤ W.heap.size → body.wpIn (F.inRound l) (n - 1 - 1) P (roundEnd (Band Keep w.heap.size (w.heap.size + 2 + c)) I Ix k W) (a₁ k b) W)
    (hdone : ∀ (D : Nat) (W : World), w.heap.size ≤ D ∧ D < w.heap.size + 2 → I N W → W.heap[D]? = some (.deferred (some [])) → Q .normal { a with defers := { target := .collected D, args := #[] } :: a.defers } W)
    (hstop : ∀ (D : Nat) (c : Code) (k : Nat) (W : World), w.heap.size ≤ D ∧ D < w.heap.size + 2 → k ≤ N → Ix c k W → W.heap[D]? = some (.deferred (some [])) → c.wpIn F n P Q { a with defers := { target := .collected D, args := #[] } :: a.defers } W) :
    (Code.rangeFunc g ps assign body).wpIn F n P Q a w :=
  range_out hro h1 hg hFg eg hseq hKeep hps I Ix hI hIx h0 (fun k a' W => ∃ b, w.heap.size + 2 + c ≤ b ∧ a' = a₁ k b ∧ Box3 W b T (u k) (v k) (x k))
    (fun k a' s A B row ⟨b, h1, h2, h3⟩ hg hr => ⟨b, h1, h2, (Own.from (box3_own b T (fun (_ : Unit) => u k) (fun _ => v k) (fun _ => x k)) w.heap.size) () A B row h3 hg hr⟩)
    (fun l k W K hi hk hs hK => hassign l k W.heap.size W K hk rfl (hK _ _ (Kps.alloc _ _ _) (hI.alloc _ hi) ⟨W.heap.size, hs, rfl, Box3.new _ _ _ _ _⟩))
    (fun l k a' W hl hr hi ⟨b, h1, h2, h3⟩ hk hs => by subst h2; exact hbody l k b W hl hr hi h1 h3 hk hs) hdone hstop
end

end Go.Proofs.Ytbhpflhopajbfaa
