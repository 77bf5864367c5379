/-
  The program's search for lasting states: what is known is looked up and stored; the search itself.
  Conditions: states of tasks.
-/
import Derived.Test.YtieobjoijalijaaLastB
namespace Go.Proofs.Ytieobjoijalijaa
open Go.RowKit Go.Shelf Go.Maps
attribute [local go_sem] Oper.semAt_some

set_option maxRecDepth 100000 in
theorem zeroB (w : World) : (zeroValue 4).run Try.prog w = .ok (.bool false) w := by kernel_rfl
theorem plainElem_bool_of {P : Program} {e : TypeId} (he : P.underlying e = some .bool) {v : Value} {b : Bool} {ps : List MemPlace} (h : plainElem (H := Unit) P e v = some (.lit (.bool b), ps)) : v = .bool b := by
  unfold plainElem at h
  rw [he] at h
  cases v <;> simp at h
  rw [h.1]
theorem plainElem_bool_inv {v : Value} {b : Bool} {ps : List MemPlace} (h : plainElem (H := Unit) Try.prog 4 v = some (.lit (.bool b), ps)) : v = .bool b := plainElem_bool_of Try.underlying4 h

/-- 'lasting, known := o.known[state]' -/
theorem look_run {w : World} {gs : List Int} {mb B : Nat} {K : Known} (hM : KMap w gs mb B K) (ht : tasksOk gs = true) {st : List Int} (hs : IsSt gs st) :
    (Instr.lookup 148 (.map (some mb)) (arrV st) true).run Try.prog w = .ok (.tuple #[.bool ((K st).getD false), .bool (K st).isSome]) w := by
  obtain ⟨n, D, hown, _, hT⟩ := hM
  obtain ⟨v, ps, hrun, hv⟩ := hown.look_ok law8 Try.underlying148 (zeroB w) (plainElem_bool Try.underlying4 false) (keyOf8 (byt_st ht hs))
  rw [hrun]
  rcases hT.2 st hs with ⟨h1, h2⟩ | ⟨b, h1, h2, h3⟩
  · rw [Maps.atKey_of_not_has h2] at hv
    obtain rfl := plainElem_bool_inv hv
    rw [h2, h1]; rfl
  · rw [h3] at hv
    obtain rfl := plainElem_bool_inv hv
    rw [h2, h1]; rfl
/-- 'o.known[state] = r' -/
theorem store_run {w : World} {gs : List Int} {mb B : Nat} (B' : Nat) {K : Known} (hM : KMap w gs mb B K) (ht : tasksOk gs = true) {st : List Int} (r : Bool) (hs : IsSt gs st) (hB : B ≤ 1000000000000000) (hB' : ∀ n, n + 2 * unk gs K ≤ B → n + 1 + 2 * unk gs (kput K st r) ≤ B') :
    ∃ w', (Instr.mapUpdate 148 (.map (some mb)) (arrV st) (.bool r)).run Try.prog w = .ok () w' ∧ KMap w' gs mb B' (kput K st r) ∧ w.grownBy w' (some mb) := by
  obtain ⟨n, D, hown, hn, hT⟩ := hM
  obtain ⟨w', hrun, h1, h2⟩ := hown.update law8 Try.underlying148 (by unfold maxLen; omega) (keyOf8 (byt_st ht hs)) (plainElem_bool Try.underlying4 r)
  exact ⟨w', hrun, ⟨n + 1, _, h1, hB' n hn, tells_put ht hown.isMap hT hs r⟩, h2⟩

theorem grown_drewN (W : World) (n : Nat) (row : Option Nat) : W.grownBy (W.drewN n) row := ⟨rfl, rfl, rfl, Nat.le_refl _, fun _ _ _ => rfl⟩
theorem grown_new {w W W' : World} {m : Nat} {row : Option Nat} (h : w.grownBy W (some m)) (k : W.grownBy W' row) (hr : ∀ r, row = some r → w.heap.size ≤ r ∨ r = m) : w.grownBy W' (some m) :=
  ⟨k.os.trans h.os, k.tape.trans h.tape, k.output.trans h.output, Nat.le_trans h.size k.size, fun i hi hne => (k.block i (Nat.lt_of_lt_of_le hi h.size) (fun e => by
    rcases hr i e.symm with h1 | h1
    · omega
    · exact hne (by rw [h1]))).trans (h.block i hi hne)⟩
theorem KLook.unk {gs : List Int} {K K' : Known} {st : List Int} {n : Nat} (h : KLook gs K st n K') : unk gs K' ≤ unk gs (kput K st true) := unk_le fun x hx => by
  by_cases e : x = st
  · subst e; rw [kput_same, h.at_]
  · rw [kput_other e] at hx ⊢; exact h.old x hx
/-- what the loop of the search keeps -/
structure Env (w : World) (bo bs bO m D L : Nat) (gs st : List Int) (rec : Loop) (W : World) : Prop where
  o : Boxed W bo 80 (.pointer (some ⟨bO, 0, none⟩))
  s : Arr W bs st
  out : Outl W bO gs m
  res : Boxed W (w.heap.size + 1) 4 (.bool false)
  own : Arr W w.heap.size st
  def_ : W.heap[D]? = some (.deferred (some []))
  rec_ : W.heap[L]? = some (.loop rec)
  grown : w.grownBy W (some m)
theorem Env.next {w : World} {bo bs bO m D L : Nat} {gs st : List Int} {rec : Loop} {W W' : World} {row : Option Nat} (h : Env w bo bs bO m D L gs st rec W) (hg : W.grownBy W' row) (hr : ∀ r, row = some r → r = m) (hm : m < w.heap.size) (h1 : w.heap.size ≤ bo) (h2 : w.heap.size ≤ bs) (h3 : bO ≠ m) (h4 : w.heap.size ≤ D) (h5 : w.heap.size ≤ L) : Env w bo bs bO m D L gs st rec W' := by
  have ne : ∀ k, k ≠ m → some k ≠ row := fun k hk e => hk (hr k e.symm)
  exact ⟨h.o.kept hg (ne _ (by omega)), h.s.kept hg (ne _ (by omega)), h.out.kept hg (ne _ h3), h.res.kept hg (ne _ (by omega)), h.own.kept hg (ne _ (by omega)),
    (hg.block D (Array.getElem?_eq_some_iff.1 h.def_).1 (ne _ (by omega))).trans h.def_, (hg.block L (Array.getElem?_eq_some_iff.1 h.rec_).1 (ne _ (by omega))).trans h.rec_, grown_new h.grown hg (fun r e => .inr (hr r e))⟩
theorem unk_zero {gs : List Int} {K : Known} (h : unk gs K ≤ 0) {st : List Int} (hs : IsSt gs st) : ∃ r, K st = some r := by
  cases hK : K st with
  | some r => exact ⟨r, rfl⟩
  | none =>
    have := unk_put (r := true) hs hK
    omega

set_option maxRecDepth 100000 in
set_option maxHeartbeats 8000000 in
theorem lasts_known (gs : List Int) (ht : tasksOk gs = true) (bO m : Nat) (K : Known) (B : Nat) (st : List Int) (w : World) (hO : Outl w bO gs m) (hM : KMap w gs m B K) (hK : KOk gs K) (hs : IsSt gs st) (r : Bool) (hKs : K st = some r) :
    Calls Try.prog 160 #[.pointer (some ⟨bO, 0, none⟩), arrV st] w (LastPost gs m B K st w) := by
  have hg0 : w.grownBy ((w.alloc (.cells #[.int .u8 (nth st 0), .int .u8 (nth st 1), .int .u8 (nth st 2), .int .u8 (nth st 3), .int .u8 (nth st 4), .int .u8 (nth st 5), .int .u8 (nth st 6), .int .u8 (nth st 7)] 126)).alloc (.cells #[.bool false] 4)) (some m) := (World.grownBy_alloc _ _ _).trans (World.grownBy_alloc _ _ _)
  obtain ⟨w0, hw0⟩ : ∃ w0, (w.alloc (.cells #[.int .u8 (nth st 0), .int .u8 (nth st 1), .int .u8 (nth st 2), .int .u8 (nth st 3), .int .u8 (nth st 4), .int .u8 (nth st 5), .int .u8 (nth st 6), .int .u8 (nth st 7)] 126)).alloc (.cells #[.bool false] 4) = w0 := ⟨_, rfl⟩
  have bS : Arr w0 w.heap.size st := by rw [← hw0]; exact (Arr.new w st).alloc _
  have bR : Boxed w0 (w.heap.size + 1) 4 (.bool false) := by rw [← hw0]; repeat first | (refine boxed_at ?_; (simp; done)) | refine Boxed.alloc ?_ _
  have hM0 : KMap w0 gs m B K := by rw [← hw0]; exact (hM.kept (World.grownBy_alloc _ _ none) (by simp)).kept (World.grownBy_alloc _ _ none) (by simp)
  rw [hw0] at hg0
  have hO0 := hO.grown hM hg0
  have hml := hM.lt
  have hol := hO.lt
  have hlk : ∀ q, (Instr.lookup 148 (.map (some m)) (.agg #[.int .u8 (nth st 0), .int .u8 (nth st 1), .int .u8 (nth st 2), .int .u8 (nth st 3), .int .u8 (nth st 4), .int .u8 (nth st 5), .int .u8 (nth st 6), .int .u8 (nth st 7)]) true).run Try.prog (w0.drewN q) = .ok (.tuple #[.bool ((K st).getD false), .bool (K st).isSome]) (w0.drewN q) := fun q => look_run (w := w0.drewN q) (hM0.kept (row := none) ⟨rfl, rfl, rfl, Nat.le_refl _, fun _ _ _ => rfl⟩ (by simp)) ht hs
  have kM := hO0.map
  have cS0 := bS.cell (i := 0) (by omega)
  have cS1 := bS.cell (i := 1) (by omega)
  have cS2 := bS.cell (i := 2) (by omega)
  have cS3 := bS.cell (i := 3) (by omega)
  have cS4 := bS.cell (i := 4) (by omega)
  have cS5 := bS.cell (i := 5) (by omega)
  have cS6 := bS.cell (i := 6) (by omega)
  have cS7 := bS.cell (i := 7) (by omega)
  refine (callsIn_wide (n := 12)).1 ?_
  unfold arrV cells8
  refine callsIn_of_wp_marks Try.func160 rfl trivial ?_ rfl
  simp only [Try.ntmps160, List.size_toArray, List.length_cons, List.length_nil, Nat.reduceAdd, Nat.reduceSub, Array.replicate_succ, Array.replicate_zero, List.push_toArray, List.append_toArray, List.nil_append, List.cons_append]
  gi_wp2_with fail
  gi_quiet (fail)
  have bR2 : Boxed (w0.drewN nq) (w.heap.size + 1) 4 (.bool false) := bR
  have hM2 : KMap (w0.drewN nq) gs m B K := hM0.kept (grown_drewN _ _ none) (by simp)
  have hg2 : w.grownBy (w0.drewN nq) (some m) := hg0.trans (grown_drewN _ _ _)
  obtain ⟨W, hW⟩ : ∃ W, w0.drewN nq = W := ⟨_, rfl⟩
  rw [hW] at bR2 hM2 hg2 ⊢
  have fR := bR2.frozen
  have cR := bR2.cell
  clear hlk hW kM hO0 hM0 bS bR hg0 hw0
  clear cS0 cS1 cS2 cS3 cS4 cS5 cS6 cS7
  gi_wp2
  have cR2 := (bR2.set (.bool r)).cell
  refine retM0 ⟨.bool r, by simp [results, Try.f160, go_sem, cR2], ⟨r, K, rfl, hM2.kept (grownBy_setCell2 W _ _ _) (by simp; omega), .known hK hKs, ?_⟩⟩
  have hgs := grownBy_setCell2 W (w.heap.size + 1) 0 (.bool r)
  exact ⟨hgs.os.trans hg2.os, hgs.tape.trans hg2.tape, hgs.output.trans hg2.output, Nat.le_trans hg2.size hgs.size, fun k hk hne => (hgs.block k (Nat.lt_of_lt_of_le hk hg2.size) (by simp; omega)).trans (hg2.block k hk hne)⟩

section
variable {F : Fence} {n : Nat} {P : Program}
theorem range_done2 {l fn dd : Nat} {tmps : Array Value} {ps : Array Tmp} {assign body : Code} {Q : Exit → Act → World → Prop} {a : Act} {v : Value} {W : World}
    (hl : W.heap[l]? = some (.loop (recOf fn tmps ps assign body dd .ready none))) (h : ∀ Wx, W.grownBy Wx (some l) → Q .normal a Wx) : rangePost F n P l Q a (.returned v) W := range_done hl (h _ (grownBy_putObj' _ _ _))
theorem range_jump2 {l fn dd : Nat} {tmps : Array Value} {ps : Array Tmp} {assign body c : Code} {Q : Exit → Act → World → Prop} {a : Act} {v : Value} {W : World}
    (hl : W.heap[l]? = some (.loop (recOf fn tmps ps assign body dd .done (some c)))) (h : ∀ Wx, W.grownBy Wx (some l) → c.wpIn F n P Q a Wx) : rangePost F n P l Q a (.returned v) W := range_jump hl (h _ (grownBy_putObj' _ _ _))
end

/-- the loop of the search -/
theorem search_loop {gs : List Int} (ht : tasksOk gs = true) {w : World} {bo bs bO m D L B f fn : Nat} {st : List Int} {K : Known} {T : Array Value} {ps : Array Tmp} {asg bd : Code} {W0 : World} (hl8 : gs.length ≤ 8) (hs : IsSt gs st) (hKs : K st = none) (hml : m < w.heap.size) (h1 : w.heap.size ≤ bo) (h2 : w.heap.size ≤ bs) (hne : bO ≠ m) (h4 : w.heap.size + 1 < D) (h5 : D < L) (hB : B ≤ 1000000000000000) (hub : unk gs (kput K st true) ≤ f)
    (ih : ∀ (K : Known) (B : Nat) (st : List Int) (w : World), unk gs K ≤ f → B ≤ 1000000000000000 → Outl w bO gs m → KMap w gs m B K → KOk gs K → IsSt gs st → Calls Try.prog 160 #[.pointer (some ⟨bO, 0, none⟩), arrV st] w (LastPost gs m B K st w))
    (hround : ∀ (args : Array Value) (W : World), args.size = 2 → W.heap[L]? = some (.loop (recOf fn T ps asg bd D .ready none)) → Boxed W (w.heap.size + 1) 4 (.bool false) →
      YieldAt Fence.wide 9 Try.prog L args W fun e W' => e = .returned (.bool false) ∧ W' = ((W.putObj L (.loop { recOf fn T ps asg bd D .ready none with state := .busy })).setCell ⟨w.heap.size + 1, 0, none⟩ (.bool true)).putObj L (.loop (recOf fn T ps asg bd D .done (some .ret))))
    (hE0 : Env w bo bs bO m D L gs st (recOf fn T ps asg bd D .ready none) W0) (hM0 : KMap W0 gs m B (kput K st true)) (hK : KOk gs K) :
    CallsIn Fence.wide 11 Try.prog 177 #[.func (.yield L) #[] #[], .pointer (some ⟨bo, 0, none⟩), .pointer (some ⟨bs, 0, none⟩)] W0 fun e W' => (∃ v, e = .returned v) ∧
      ((Env w bo bs bO m D L gs st (recOf fn T ps asg bd D .ready none) W' ∧ ∃ K', KMap W' gs m B K' ∧ KLook gs K st (gs.length + 1) K') ∨
       (Boxed W' (w.heap.size + 1) 4 (.bool true) ∧ W'.heap[D]? = some (.deferred (some [])) ∧ W'.heap[L]? = some (.loop (recOf fn T ps asg bd D .done (some .ret))) ∧ w.grownBy W' (some m) ∧ ∃ K'', KMap W' gs m B K'' ∧ KDone gs K st true K'')) := by
  refine keeping1_at 11 L bo bs bO m gs st W0 hl8
    (fun j W => Env w bo bs bO m D L gs st (recOf fn T ps asg bd D .ready none) W ∧ ∃ K', KMap W gs m B K' ∧ KLook gs K st j K')
    (fun j b W => (j < gs.length + 1 ∧ Opn st ((j : Int) - 1) ∧ b = stepL gs st ((j : Int) - 1)) ∧ Env w bo bs bO m D L gs st (recOf fn T ps asg bd D .ready none) W ∧ ∃ K' K'', KLook gs K st j K' ∧ KMap W gs m B K'' ∧ KDone gs K' (stepL gs st ((j : Int) - 1)) true K'')
    _ ?hInv ?hkeep ?hyield ?hA ?hB ?h0
  case h0 => exact ⟨hE0, _, hM0, KLook.start hK hs hKs⟩
  case hInv =>
    rintro j W ⟨hE, _⟩
    exact ⟨hE.o, hE.s, hE.out⟩
  case hA =>
    rintro j W o ⟨hE, K', hM', hL'⟩
    exact ⟨hE.next (World.grownBy_alloc _ _ none) (by simp) hml h1 h2 hne (by omega) (by omega), K', hM'.kept (World.grownBy_alloc _ _ none) (by simp), hL'⟩
  case hB =>
    rintro j b W o ⟨h1', hE, K', K'', hL', hM', hd⟩
    exact ⟨h1', hE.next (World.grownBy_alloc _ _ none) (by simp) hml h1 h2 hne (by omega) (by omega), K', K'', hL', hM'.kept (World.grownBy_alloc _ _ none) (by simp), hd⟩
  case hkeep =>
    rintro j W hj ⟨hE, K', hM', hL'⟩
    refine (keep_of bO m B gs st _ K' W hE.out hM' ht hs fun hop w' hO' hM'' => ih K' B _ w' (by have := hL'.unk; omega) hB hO' hM'' hL'.ok (hs.step hop)).mono ?_
    rintro e W' ⟨hg, ⟨hop, rfl, hM''⟩ | ⟨hop, r, K'', rfl, hM'', hd⟩⟩
    · have hE' := hE.next hg (fun r e => by cases e; rfl) hml h1 h2 hne (by omega) (by omega)
      exact ⟨[], false, rfl, fun _ => ⟨hE', K', hM'', hL'.skip hop⟩, fun e => by cases e⟩
    · have hE' := hE.next hg (fun r e => by cases e; rfl) hml h1 h2 hne (by omega) (by omega)
      refine ⟨_, r, rfl, fun e => ?_, fun e => ?_⟩
      · subst e; exact ⟨hE', K'', hM'', hL'.next hd⟩
      · subst e; exact ⟨⟨hj, hop, rfl⟩, hE', K', K'', hL', hM'', hd⟩
  case hyield =>
    rintro j b W hj ⟨⟨_, hop, rfl⟩, hE, K', K'', hL', hM', hd⟩
    refine (hround _ W rfl hE.rec_ hE.res).mono ?_
    rintro e W' ⟨rfl, rfl⟩
    refine .inr ⟨rfl, ?_⟩
    have hlt := (Array.getElem?_eq_some_iff.1 hE.rec_).1
    have g1 := grownBy_putObj' W L (.loop { recOf fn T ps asg bd D .ready none with state := .busy })
    have g2 := grownBy_setCell2 (W.putObj L (.loop { recOf fn T ps asg bd D .ready none with state := .busy })) (w.heap.size + 1) 0 (.bool true)
    have g3 := grownBy_putObj' ((W.putObj L (.loop { recOf fn T ps asg bd D .ready none with state := .busy })).setCell ⟨w.heap.size + 1, 0, none⟩ (.bool true)) L (.loop (recOf fn T ps asg bd D .done (some .ret)))
    have b1 : Boxed (W.putObj L (.loop { recOf fn T ps asg bd D .ready none with state := .busy })) (w.heap.size + 1) 4 (.bool false) := hE.res.kept g1 (by simp; omega)
    have hlt2 : L < ((W.putObj L (.loop { recOf fn T ps asg bd D .ready none with state := .busy })).setCell ⟨w.heap.size + 1, 0, none⟩ (.bool true)).heap.size := Nat.lt_of_lt_of_le (Nat.lt_of_lt_of_le hlt g1.size) g2.size
    refine ⟨(b1.set _).kept g3 (by simp; omega), ?_, World.putObj_heap_same hlt2, ?_, K'', ((hM'.kept g1 (by simp; omega)).kept g2 (by simp; omega)).kept g3 (by simp; omega), hL'.found hKs hj hop hd⟩
    · have d1 := (g1.block D (Array.getElem?_eq_some_iff.1 hE.def_).1 (by simp; omega)).trans hE.def_
      have d2 := (g2.block D (Array.getElem?_eq_some_iff.1 d1).1 (by simp; omega)).trans d1
      exact (g3.block D (Array.getElem?_eq_some_iff.1 d2).1 (by simp; omega)).trans d2
    · exact grown_new (grown_new (grown_new hE.grown g1 (fun r e => by cases e; omega)) g2 (fun r e => by cases e; omega)) g3 (fun r e => by cases e; omega)

set_option maxRecDepth 100000 in
set_option maxHeartbeats 8000000 in
theorem lasts_c (gs : List Int) (ht : tasksOk gs = true) (bO m : Nat) : ∀ (f : Nat) (K : Known) (B : Nat) (st : List Int) (w : World), unk gs K ≤ f → B ≤ 1000000000000000 → Outl w bO gs m → KMap w gs m B K → KOk gs K → IsSt gs st →
    Calls Try.prog 160 #[.pointer (some ⟨bO, 0, none⟩), arrV st] w (LastPost gs m B K st w) := by
  intro f
  induction f with
  | zero =>
    intro K B st w hf hB hO hM hK hs
    obtain ⟨r, hr⟩ := unk_zero hf hs
    exact lasts_known gs ht bO m K B st w hO hM hK hs r hr
  | succ f ih =>
    intro K B st w hf hB hO hM hK hs
    cases hKs : K st with
    | some r => exact lasts_known gs ht bO m K B st w hO hM hK hs r hKs
    | none =>
      have hg0 : w.grownBy ((w.alloc (.cells #[.int .u8 (nth st 0), .int .u8 (nth st 1), .int .u8 (nth st 2), .int .u8 (nth st 3), .int .u8 (nth st 4), .int .u8 (nth st 5), .int .u8 (nth st 6), .int .u8 (nth st 7)] 126)).alloc (.cells #[.bool false] 4)) (some m) := (World.grownBy_alloc _ _ _).trans (World.grownBy_alloc _ _ _)
      obtain ⟨w0, hw0⟩ : ∃ w0, (w.alloc (.cells #[.int .u8 (nth st 0), .int .u8 (nth st 1), .int .u8 (nth st 2), .int .u8 (nth st 3), .int .u8 (nth st 4), .int .u8 (nth st 5), .int .u8 (nth st 6), .int .u8 (nth st 7)] 126)).alloc (.cells #[.bool false] 4) = w0 := ⟨_, rfl⟩
      have bS : Arr w0 w.heap.size st := by rw [← hw0]; exact (Arr.new w st).alloc _
      have bR : Boxed w0 (w.heap.size + 1) 4 (.bool false) := by rw [← hw0]; repeat first | (refine boxed_at ?_; (simp; done)) | refine Boxed.alloc ?_ _
      have hM0 : KMap w0 gs m B K := by rw [← hw0]; exact (hM.kept (World.grownBy_alloc _ _ none) (by simp)).kept (World.grownBy_alloc _ _ none) (by simp)
      rw [hw0] at hg0
      have hO0 := hO.grown hM hg0
      have hml := hM.lt
      have hol := hO.lt
      have hlk : ∀ q, (Instr.lookup 148 (.map (some m)) (.agg #[.int .u8 (nth st 0), .int .u8 (nth st 1), .int .u8 (nth st 2), .int .u8 (nth st 3), .int .u8 (nth st 4), .int .u8 (nth st 5), .int .u8 (nth st 6), .int .u8 (nth st 7)]) true).run Try.prog (w0.drewN q) = .ok (.tuple #[.bool ((K st).getD false), .bool (K st).isSome]) (w0.drewN q) := fun q => look_run (w := w0.drewN q) (hM0.kept (row := none) ⟨rfl, rfl, rfl, Nat.le_refl _, fun _ _ _ => rfl⟩ (by simp)) ht hs
      have kM := hO0.map
      have cS0 := bS.cell (i := 0) (by omega)
      have cS1 := bS.cell (i := 1) (by omega)
      have cS2 := bS.cell (i := 2) (by omega)
      have cS3 := bS.cell (i := 3) (by omega)
      have cS4 := bS.cell (i := 4) (by omega)
      have cS5 := bS.cell (i := 5) (by omega)
      have cS6 := bS.cell (i := 6) (by omega)
      have cS7 := bS.cell (i := 7) (by omega)
      refine (callsIn_wide (n := 12)).1 ?_
      unfold arrV cells8
      refine callsIn_of_wp_marks Try.func160 rfl trivial ?_ rfl
      simp only [Try.ntmps160, List.size_toArray, List.length_cons, List.length_nil, Nat.reduceAdd, Nat.reduceSub, Array.replicate_succ, Array.replicate_zero, List.push_toArray, List.append_toArray, List.nil_append, List.cons_append]
      gi_wp2_with fail
      gi_quiet (fail)
      have bR2 : Boxed (w0.drewN nq) (w.heap.size + 1) 4 (.bool false) := bR
      have bS2 : Arr (w0.drewN nq) w.heap.size st := bS
      have hM2 : KMap (w0.drewN nq) gs m B K := hM0.kept (grown_drewN _ _ none) (by simp)
      have hO2 : Outl (w0.drewN nq) bO gs m := hO0.kept (grown_drewN _ _ none) (by simp)
      have hg2 : w.grownBy (w0.drewN nq) (some m) := hg0.trans (grown_drewN _ _ _)
      obtain ⟨W, hW⟩ : ∃ W, w0.drewN nq = W := ⟨_, rfl⟩
      rw [hW] at bR2 bS2 hM2 hO2 hg2 ⊢
      clear hlk hW kM hO0 hM0 bS bR hg0 hw0
      clear cS0 cS1 cS2 cS3 cS4 cS5 cS6 cS7
      have hfw : Try.prog.follows Departure.mixedOrders = true := by kernel_rfl
      have hub := unk_put (r := true) hs hKs
      have hne := outl_ne hO hM
      have hB2 : 2 ≤ B := by obtain ⟨n, D, _, h, _⟩ := hM; omega
      have hl8 := (tasksOk_len ht).2
      have hOd : Outl W.drew bO gs m := hO2
      have hSd : Arr W.drew w.heap.size st := bS2
      have hRd : Boxed W.drew (w.heap.size + 1) 4 (.bool false) := bR2
      obtain ⟨W2, hrun, hM3, hg3⟩ := store_run (w := W.drew) (B - 1) (hM2.kept (row := none) (grown_drew _ _) (by simp)) ht true hs hB (fun n hn => by omega)
      have hg4 : w.grownBy W2 (some m) := (hg2.trans (grown_drew _ _)).trans hg3
      have hO3 := hOd.kept hg3 (by simp; omega)
      have hS3 := hSd.kept hg3 (by simp; omega)
      have hR3 := hRd.kept hg3 (by simp; omega)
      unfold arrV cells8 at hrun
      gi_wp2_with fail
      refine wpIn_wide.2 (wp_region_noPanic (wp_region_held_drew (S := fun w' => Outl w' bO gs m ∧ Arr w' w.heap.size st) hfw ⟨hOd, hSd⟩ ?_))
      intro hS0
      refine wpAnyH_take (i := 0) (v := ?v0) rfl (by kernel_rfl) (by kernel_rfl) (by kernel_rfl) (fun _ _ _ h => h) (.inl ⟨by rfl, ?y0⟩) hS0 ?_
      case y0 =>
        intro w' hS
        (have k0 := hS.2.cell (i := 0) (by omega); have k1 := hS.2.cell (i := 1) (by omega); have k2 := hS.2.cell (i := 2) (by omega); have k3 := hS.2.cell (i := 3) (by omega); have k4 := hS.2.cell (i := 4) (by omega); have k5 := hS.2.cell (i := 5) (by omega); have k6 := hS.2.cell (i := 6) (by omega); have k7 := hS.2.cell (i := 7) (by omega); have k8 := hS.1.map; clear hS)
        go_simp
        try with_reducible rfl
      refine wpAnyH_take (i := 1) (v := ?v1) rfl (by kernel_rfl) (by kernel_rfl) (by kernel_rfl) (fun _ _ _ h => h) (.inl ⟨by rfl, ?y1⟩) hS0 ?_
      case y1 =>
        intro w' hS
        (have k0 := hS.2.cell (i := 0) (by omega); have k1 := hS.2.cell (i := 1) (by omega); have k2 := hS.2.cell (i := 2) (by omega); have k3 := hS.2.cell (i := 3) (by omega); have k4 := hS.2.cell (i := 4) (by omega); have k5 := hS.2.cell (i := 5) (by omega); have k6 := hS.2.cell (i := 6) (by omega); have k7 := hS.2.cell (i := 7) (by omega); have k8 := hS.1.map; clear hS)
        go_simp
        try with_reducible rfl
      refine wpAnyH_take (i := 2) (v := ?v2) rfl (by kernel_rfl) (by kernel_rfl) (by kernel_rfl) (fun _ _ _ h => h) (.inl ⟨by rfl, ?y2⟩) hS0 ?_
      case y2 =>
        intro w' hS
        (have k0 := hS.2.cell (i := 0) (by omega); have k1 := hS.2.cell (i := 1) (by omega); have k2 := hS.2.cell (i := 2) (by omega); have k3 := hS.2.cell (i := 3) (by omega); have k4 := hS.2.cell (i := 4) (by omega); have k5 := hS.2.cell (i := 5) (by omega); have k6 := hS.2.cell (i := 6) (by omega); have k7 := hS.2.cell (i := 7) (by omega); have k8 := hS.1.map; clear hS)
        go_simp
        try with_reducible rfl
      refine wpAnyH_take (i := 3) (v := ?v3) rfl (by kernel_rfl) (by kernel_rfl) (by kernel_rfl) (fun _ _ _ h => h) (.inl ⟨by rfl, ?y3⟩) hS0 ?_
      case y3 =>
        intro w' hS
        (have k0 := hS.2.cell (i := 0) (by omega); have k1 := hS.2.cell (i := 1) (by omega); have k2 := hS.2.cell (i := 2) (by omega); have k3 := hS.2.cell (i := 3) (by omega); have k4 := hS.2.cell (i := 4) (by omega); have k5 := hS.2.cell (i := 5) (by omega); have k6 := hS.2.cell (i := 6) (by omega); have k7 := hS.2.cell (i := 7) (by omega); have k8 := hS.1.map; clear hS)
        go_simp
        try with_reducible rfl
      refine wpAnyH_take (i := 4) (v := ?v4) rfl (by kernel_rfl) (by kernel_rfl) (by kernel_rfl) (fun _ _ _ h => h) (.inl ⟨by rfl, ?y4⟩) hS0 ?_
      case y4 =>
        intro w' hS
        (have k0 := hS.2.cell (i := 0) (by omega); have k1 := hS.2.cell (i := 1) (by omega); have k2 := hS.2.cell (i := 2) (by omega); have k3 := hS.2.cell (i := 3) (by omega); have k4 := hS.2.cell (i := 4) (by omega); have k5 := hS.2.cell (i := 5) (by omega); have k6 := hS.2.cell (i := 6) (by omega); have k7 := hS.2.cell (i := 7) (by omega); have k8 := hS.1.map; clear hS)
        go_simp
        try with_reducible rfl
      refine wpAnyH_ready (rs := [5]) (by kernel_rfl) (by simp) ?_
      refine AllReadyH.cons rfl (fun K' hK' => ?_) AllReadyH.nil
      rw [if_pos (by rfl)]
      go_simp
      refine hK'.out _ _ ⟨hO3, hS3⟩ fun hS1 => ?_
      refine wpAnyH_done (by kernel_rfl) (NoPanic.normal ?_) _
      clear hrun hOd hSd hRd hO2 hM2 hg2 bS2 bR2 hS0 hS1
      have cS0 := hS3.cell (i := 0) (by omega)
      have cS1 := hS3.cell (i := 1) (by omega)
      have cS2 := hS3.cell (i := 2) (by omega)
      have cS3 := hS3.cell (i := 3) (by omega)
      have cS4 := hS3.cell (i := 4) (by omega)
      have cS5 := hS3.cell (i := 5) (by omega)
      have cS6 := hS3.cell (i := 6) (by omega)
      have cS7 := hS3.cell (i := 7) (by omega)
      gi_wp2_with fail
      refine ⟨trivial, (callsIn_wide.2 (keeping_c bO st W2)).mono ?_⟩
      rintro e w3 ⟨rfl, hw3⟩
      clear cS0 cS1 cS2 cS3 cS4 cS5 cS6 cS7
      have hgn : W2.grownBy w3 none := by rw [hw3]; exact (World.grownBy_alloc _ _ _).trans (World.grownBy_alloc _ _ _)
      have bB : Boxed w3 W2.heap.size 80 (.pointer (some ⟨bO, 0, none⟩)) := by rw [hw3]; exact (Boxed.new W2 _ _).alloc _
      have bA : Arr w3 (W2.heap.size + 1) st := by rw [hw3]; simpa using Arr.new (W2.alloc (.cells #[.pointer (some ⟨bO, 0, none⟩)] 80)) st
      have hM4 := hM3.kept hgn (by simp)
      have hO4 := hO3.kept hgn (by simp)
      have hS4 := hS3.kept hgn (by simp)
      have hR4 := hR3.kept hgn (by simp)
      have hg5 : w.grownBy w3 (some m) := grown_new hg4 hgn (by simp)
      have hsz2 : w.heap.size ≤ W2.heap.size := hg4.size
      clear hw3 hgn hO3 hS3 hR3 hM3 hg3 hg4
      gi_wp2_with fail
      refine range_enter rfl (by omega) rfl trivial (enters_of Try.func177 (by kernel_rfl) rfl) ?_
      intro fn hfn
      have hDL : (w3.alloc (.deferred (some []))).heap.size = w3.heap.size + 1 := World.size_alloc _ _
      have hw3 := hg5.size
      have hb3 := bB.lt
      have ha3 := bA.lt
      have hR3lt := hR4.lt
      have hE0 : ∀ rec, Env w W2.heap.size (W2.heap.size + 1) bO m w3.heap.size (w3.heap.size + 1) gs st rec ((w3.alloc (.deferred (some []))).alloc (.loop rec)) := fun rec =>
        ⟨(bB.alloc _).alloc _, (bA.alloc _).alloc _, (hO4.kept (World.grownBy_alloc _ _ none) (by simp)).kept (World.grownBy_alloc _ _ none) (by simp), (hR4.alloc _).alloc _, (hS4.alloc _).alloc _, (Below.heap_alloc _ _ _ (by simp)).trans (World.alloc_heap_new _ _), by have := World.alloc_heap_new (w3.alloc (.deferred (some []))) (.loop rec); rw [hDL] at this; exact this, grown_new (grown_new hg5 (World.grownBy_alloc _ _ none) (by simp)) (World.grownBy_alloc _ _ none) (by simp)⟩
      refine (search_loop ht (K := K) (B := B - 1) (f := f) hl8 hs hKs hml (by omega) (by omega) hne (by omega) (by omega) (by omega) (by omega) ih ?hround (hE0 _) ((hM4.kept (World.grownBy_alloc _ _ none) (by simp)).kept (World.grownBy_alloc _ _ none) (by simp)) hK).mono ?post
      case hround =>
        intro args W hsz hL hR
        obtain ⟨v0, v1, rfl⟩ : ∃ v0 v1, args = #[v0, v1] := by
          obtain ⟨l⟩ := args
          match l, hsz with
          | [v0, v1], _ => exact ⟨v0, v1, rfl⟩
        refine yield_round trivial hL hsz ?a1 ?assign ?body
        case assign =>
          intro K0 hK0
          go_simp
          gi_wp2
          exact hK0
        case body =>
          have hlt := (Array.getElem?_eq_some_iff.1 hL).1
          have b1 : ∀ o, Boxed (W.putObj (w3.heap.size + 1) o) (w.heap.size + 1) 4 (.bool false) := fun o => hR.kept (grownBy_putObj' W (w3.heap.size + 1) o) (by simp; omega)
          have c1 := fun o => (b1 o).cell
          have f1 := fun o => (b1 o).frozen
          gi_wp2
          refine ⟨((grownBy_setCell2 _ (w.heap.size + 1) 0 (.bool true)).block (w3.heap.size + 1) (by simp [World.putObj]; omega) (by simp; omega)).trans (World.putObj_heap_same hlt), rfl, rfl⟩
      case post =>
        rintro e W' ⟨⟨v, rfl⟩, ⟨hE, K', hM', hL'⟩ | ⟨bT, hD, hLp, hg, K'', hM'', hd⟩⟩
        · refine range_done2 hE.rec_ fun Wx hg => ?_
          have hMx := hM'.kept hg (by simp; omega)
          have hOx := hE.out.kept hg (by simp; omega)
          have hSx := hE.own.kept hg (by simp; omega)
          have hRx := hE.res.kept hg (by simp; omega)
          have hDx := (hg.block _ (Array.getElem?_eq_some_iff.1 hE.def_).1 (by simp)).trans hE.def_
          have hgx : w.grownBy Wx (some m) := grown_new hE.grown hg (fun r e => by cases e; omega)
          have hK1 := hL'.at_
          have hus := unk_same (gs := gs) (K := K') (st := st) (r := false) (by rw [hK1]; simp)
          obtain ⟨W4, hrun, hM5, hg6⟩ := store_run (w := Wx.drew) B (hMx.kept (row := none) (grown_drew _ _) (by simp)) ht false hs (by omega) (fun n hn => by omega)
          have hdn := hL'.all_ hKs hs
          clear hE hM' hg hL' hE0 bB bA hM4 hO4 hS4 hR4 ih
          have hOd : Outl Wx.drew bO gs m := hOx
          have hSd : Arr Wx.drew w.heap.size st := hSx
          have hRd : Boxed Wx.drew (w.heap.size + 1) 4 (.bool false) := hRx
          have hDd : Wx.drew.heap[w3.heap.size]? = some (.deferred (some [])) := hDx
          have hg7 : w.grownBy W4 (some m) := (hgx.trans (grown_drew _ _)).trans hg6
          have hO3 := hOd.kept hg6 (by simp; omega)
          have hS3 := hSd.kept hg6 (by simp; omega)
          have hR3 := hRd.kept hg6 (by simp; omega)
          have hD3 := (hg6.block _ (Array.getElem?_eq_some_iff.1 hDd).1 (by simp; omega)).trans hDd
          unfold arrV cells8 at hrun
          gi_wp2_with fail
          refine wpIn_wide.2 (wp_region_noPanic (wp_region_held_drew (S := fun w' => Outl w' bO gs m ∧ Arr w' w.heap.size st) hfw ⟨hOd, hSd⟩ ?_))
          intro hS0
          refine wpAnyH_take (i := 0) (v := ?vz0) rfl (by kernel_rfl) (by kernel_rfl) (by kernel_rfl) (fun _ _ _ h => h) (.inl ⟨by rfl, ?yz0⟩) hS0 ?_
          case yz0 =>
            intro w' hS
            (have k0 := hS.2.cell (i := 0) (by omega); have k1 := hS.2.cell (i := 1) (by omega); have k2 := hS.2.cell (i := 2) (by omega); have k3 := hS.2.cell (i := 3) (by omega); have k4 := hS.2.cell (i := 4) (by omega); have k5 := hS.2.cell (i := 5) (by omega); have k6 := hS.2.cell (i := 6) (by omega); have k7 := hS.2.cell (i := 7) (by omega); have k8 := hS.1.map; clear hS)
            go_simp
            try with_reducible rfl
          refine wpAnyH_take (i := 1) (v := ?vz1) rfl (by kernel_rfl) (by kernel_rfl) (by kernel_rfl) (fun _ _ _ h => h) (.inl ⟨by rfl, ?yz1⟩) hS0 ?_
          case yz1 =>
            intro w' hS
            (have k0 := hS.2.cell (i := 0) (by omega); have k1 := hS.2.cell (i := 1) (by omega); have k2 := hS.2.cell (i := 2) (by omega); have k3 := hS.2.cell (i := 3) (by omega); have k4 := hS.2.cell (i := 4) (by omega); have k5 := hS.2.cell (i := 5) (by omega); have k6 := hS.2.cell (i := 6) (by omega); have k7 := hS.2.cell (i := 7) (by omega); have k8 := hS.1.map; clear hS)
            go_simp
            try with_reducible rfl
          refine wpAnyH_take (i := 2) (v := ?vz2) rfl (by kernel_rfl) (by kernel_rfl) (by kernel_rfl) (fun _ _ _ h => h) (.inl ⟨by rfl, ?yz2⟩) hS0 ?_
          case yz2 =>
            intro w' hS
            (have k0 := hS.2.cell (i := 0) (by omega); have k1 := hS.2.cell (i := 1) (by omega); have k2 := hS.2.cell (i := 2) (by omega); have k3 := hS.2.cell (i := 3) (by omega); have k4 := hS.2.cell (i := 4) (by omega); have k5 := hS.2.cell (i := 5) (by omega); have k6 := hS.2.cell (i := 6) (by omega); have k7 := hS.2.cell (i := 7) (by omega); have k8 := hS.1.map; clear hS)
            go_simp
            try with_reducible rfl
          refine wpAnyH_take (i := 3) (v := ?vz3) rfl (by kernel_rfl) (by kernel_rfl) (by kernel_rfl) (fun _ _ _ h => h) (.inl ⟨by rfl, ?yz3⟩) hS0 ?_
          case yz3 =>
            intro w' hS
            (have k0 := hS.2.cell (i := 0) (by omega); have k1 := hS.2.cell (i := 1) (by omega); have k2 := hS.2.cell (i := 2) (by omega); have k3 := hS.2.cell (i := 3) (by omega); have k4 := hS.2.cell (i := 4) (by omega); have k5 := hS.2.cell (i := 5) (by omega); have k6 := hS.2.cell (i := 6) (by omega); have k7 := hS.2.cell (i := 7) (by omega); have k8 := hS.1.map; clear hS)
            go_simp
            try with_reducible rfl
          refine wpAnyH_take (i := 4) (v := ?vz4) rfl (by kernel_rfl) (by kernel_rfl) (by kernel_rfl) (fun _ _ _ h => h) (.inl ⟨by rfl, ?yz4⟩) hS0 ?_
          case yz4 =>
            intro w' hS
            (have k0 := hS.2.cell (i := 0) (by omega); have k1 := hS.2.cell (i := 1) (by omega); have k2 := hS.2.cell (i := 2) (by omega); have k3 := hS.2.cell (i := 3) (by omega); have k4 := hS.2.cell (i := 4) (by omega); have k5 := hS.2.cell (i := 5) (by omega); have k6 := hS.2.cell (i := 6) (by omega); have k7 := hS.2.cell (i := 7) (by omega); have k8 := hS.1.map; clear hS)
            go_simp
            try with_reducible rfl
          refine wpAnyH_ready (rs := [5]) (by kernel_rfl) (by simp) ?_
          refine AllReadyH.cons rfl (fun K' hK' => ?_) AllReadyH.nil
          rw [if_pos (by rfl)]
          go_simp
          refine hK'.out _ _ ⟨hO3, hS3⟩ fun hS1 => ?_
          refine wpAnyH_done (by kernel_rfl) (NoPanic.normal ?_) _
          have cR := hR3.cell
          have fR := hR3.frozen
          clear hrun hOd hSd hRd hOx hSx hRx hMx hS0 hS1
          gi_wp2
          have hK9 := (KeepsOthers.setCell W4 ⟨w.heap.size + 1, 0, none⟩ (.bool false)).same w3.heap.size _ hD3 rfl
          have bR9 := boxed_shut (hR3.set (.bool false)) hK9
          have cR9 := bR9.cell
          have gs1 := grownBy_setCell2 W4 (w.heap.size + 1) 0 (.bool false)
          have gs2 := grownBy_putObj' (W4.setCell ⟨w.heap.size + 1, 0, none⟩ (.bool false)) w3.heap.size (.deferred none)
          refine retM1 hK9 ⟨.bool false, by simp [results, Try.f160, go_sem, cR9], ⟨false, _, rfl, (hM5.kept gs1 (by simp; omega)).kept gs2 (by simp; omega), hdn, grown_new (grown_new hg7 gs1 (fun r e => by cases e; omega)) gs2 (fun r e => by cases e; omega)⟩⟩
        · refine range_jump2 hLp fun Wx hgx => ?_
          have bTx := bT.kept hgx (by simp; omega)
          have hDx := (hgx.block _ (Array.getElem?_eq_some_iff.1 hD).1 (by simp)).trans hD
          have hMx := hM''.kept hgx (by simp; omega)
          have hg2 := grown_new hg hgx (fun r e => by cases e; omega)
          clear hE0 bB bA hM4 hO4 hS4 hR4 ih hgx
          gi_wp2
          have cR9 := (boxed_shut bTx hDx).cell
          have gs2 := grownBy_putObj' Wx w3.heap.size (.deferred none)
          refine retM1 hDx ⟨.bool true, by simp [results, Try.f160, go_sem, cR9], ⟨true, K'', rfl, ?_, hd, grown_new hg2 gs2 (fun r e => by cases e; omega)⟩⟩
          obtain ⟨n, D, h1, h2, h3⟩ := hMx.kept gs2 (by simp; omega)
          exact ⟨n, D, h1, by omega, h3⟩

end Go.Proofs.Ytieobjoijalijaa
