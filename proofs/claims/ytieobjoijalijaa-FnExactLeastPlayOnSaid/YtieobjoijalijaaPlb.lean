/-
  The player: its places by states, its variable, the state behind a set.
  Conditions: at most 8 tasks.
-/
import Derived.Maps.Views
import Derived.Test.YtieobjoijalijaaPly
import Derived.Test.YtieobjoijalijaaKnow
namespace Go.Proofs.Ytieobjoijalijaa
open Go.RowKit Go.Shelf Go.Maps
attribute [local go_sem] Oper.semAt_some

/-! ### the map -/
def TellsP (gs : List Int) (D : DataW Unit) (P : Places) : Prop :=
  (∀ x, ¬ IsSt gs x → P x = none) ∧ ∀ x, IsSt gs x → (P x = none ∧ Maps.has D (klit x) = false) ∨ ∃ p, P x = some p ∧ Maps.has D (klit x) = true ∧ ∀ z, D.atKey (klit x) z = .lit (.int .i64 p)
def PMap (W : World) (gs : List Int) (m B : Nat) (P : Places) : Prop :=
  ∃ n D, W.ownsMap Try.prog 126 (plainElem Try.prog 3) m n D ∧ n + 2 * unkP gs P ≤ B ∧ TellsP gs D P
theorem PMap.lt {W : World} {gs : List Int} {m B : Nat} {P : Places} (h : PMap W gs m B P) : m < W.heap.size := by obtain ⟨n, D, h, _⟩ := h; exact h.lt
theorem PMap.kept {W W' : World} {row : Option Nat} {gs : List Int} {m B : Nat} {P : Places} (h : PMap W gs m B P) (hg : W.grownBy W' row) (hne : some m ≠ row) : PMap W' gs m B P := by
  obtain ⟨n, D, h, r⟩ := h; exact ⟨n, D, h.kept hg hne, r⟩
theorem PMap.below {n : Nat} {W W' : World} {gs : List Int} {m B : Nat} {P : Places} (h : PMap W gs m B P) (hb : Below n W W') (hn : m < n) : PMap W' gs m B P := by
  obtain ⟨k, D, ⟨es, clock, h1, h2⟩, r⟩ := h
  exact ⟨k, D, ⟨es, clock, (hb.block m hn).trans h1, h2⟩, r⟩
theorem PMap.later {W W' : World} {gs : List Int} {m B : Nat} {P : Places} (h : PMap W gs m B P) (hb : Below W.heap.size W W') : PMap W' gs m B P := h.below hb h.lt
theorem PMap.new {W : World} {gs : List Int} {m : Nat} (h : W.heap[m]? = some (.map #[] 0)) : PMap W gs m (2 * unkP gs (fun _ => none)) (fun _ => none) := by
  have h0 := World.ownsMap_made (H := Unit) W Try.prog 126 (plainElem Try.prog 3)
  obtain ⟨es, clock, h1, h2⟩ := h0
  have h3 := World.alloc_heap_new W (.map #[] 0)
  rw [h3] at h1
  obtain ⟨rfl, rfl⟩ : #[] = es ∧ 0 = clock := by simpa using h1
  exact ⟨0, .map [], ⟨_, _, h, h2⟩, by omega, fun _ _ => rfl, fun x _ => .inl ⟨rfl, by simp [Maps.has]⟩⟩
theorem tellsP_put {gs : List Int} {D : DataW Unit} {P : Places} (ht : tasksOk gs = true) (hD : Maps.IsMap D) (h : TellsP gs D P) {st : List Int} (hs : IsSt gs st) (p : Int) : TellsP gs (D.put (klit st) (.lit (.int .i64 p))) (pput P st p) := by
  have hkl : WideAt.IsKeyLit (klit st) := law8.key (keyOf8 (byt_st ht hs))
  refine ⟨fun x hx => ?_, fun x hx => ?_⟩
  · rw [pput_other (by rintro rfl; exact hx hs)]; exact h.1 x hx
  · by_cases e : x = st
    · subst e
      exact .inr ⟨p, pput_same _ _ _, Maps.has_put_same hD hkl _, fun z => Maps.atKey_put_same hD hkl _ _⟩
    · have hne : klit x ≠ klit st := fun e2 => e (klit_st ht hx hs e2)
      rw [pput_other e, Maps.has_put_other hne]
      rcases h.2 x hx with h1 | ⟨b, h1, h2, h3⟩
      · exact .inl h1
      · exact .inr ⟨b, h1, h2, fun z => by rw [Maps.atKey_put_other hne]; exact h3 z⟩
theorem zeroIntP (w : World) : (zeroValue 3).run Try.prog w = .ok (.int .i64 0) w := by kernel_rfl
theorem wf_place {p : Int} (h : -1 ≤ p ∧ p ≤ 1048576) : (Lit.int .i64 p).wf = true := by simp [Lit.wf, IntKind.min, IntKind.max, IntKind.signed, IntKind.bits]; omega
/-- 'place, came := p.places[state]' -/
theorem PMap.look {w : World} {gs : List Int} {m B : Nat} {P : Places} (hM : PMap w gs m B P) (ht : tasksOk gs = true) {st : List Int} (hs : IsSt gs st) :
    (Instr.lookup 159 (.map (some m)) (arrV st) true).run Try.prog w = .ok (.tuple #[.int .i64 ((P st).getD 0), .bool (P st).isSome]) w := by
  obtain ⟨n, D, hown, _, hT⟩ := hM
  obtain ⟨v, ps, hrun, hv⟩ := hown.look_ok law8 Try.underlying159 (zeroIntP w) (plainElem_int Try.underlying3 (wf_place (p := 0) (by omega))) (keyOf8 (byt_st ht hs))
  rw [hrun]
  rcases hT.2 st hs with ⟨h1, h2⟩ | ⟨b, h1, h2, h3⟩
  · rw [Maps.atKey_of_not_has h2] at hv
    obtain ⟨a, rfl, ha, _⟩ := plainElem_int_inv Try.underlying3 hv
    simp at ha
    rw [h2, h1, ← ha.1]; rfl
  · rw [h3] at hv
    obtain ⟨a, rfl, ha, _⟩ := plainElem_int_inv Try.underlying3 hv
    simp at ha
    rw [h2, h1, ← ha.1]; rfl
/-- 'p.places[state] = place' -/
theorem PMap.put {w : World} {gs : List Int} {m B : Nat} (B' : Nat) {P : Places} (hM : PMap w gs m B P) (ht : tasksOk gs = true) {st : List Int} {p : Int} (hp : -1 ≤ p ∧ p ≤ 1048576) (hs : IsSt gs st) (hB : B ≤ 1000000000000000) (hB' : ∀ n, n + 2 * unkP gs P ≤ B → n + 1 + 2 * unkP gs (pput P st p) ≤ B') :
    ∃ w', (Instr.mapUpdate 159 (.map (some m)) (arrV st) (.int .i64 p)).run Try.prog w = .ok () w' ∧ PMap w' gs m B' (pput P st p) ∧ w.grownBy w' (some m) := by
  obtain ⟨n, D, hown, hn, hT⟩ := hM
  obtain ⟨w', hrun, h1, h2⟩ := hown.update law8 Try.underlying159 (by unfold maxLen; omega) (keyOf8 (byt_st ht hs)) (plainElem_int Try.underlying3 (wf_place hp))
  exact ⟨w', hrun, ⟨n + 1, _, h1, hB' n hn, tellsP_put ht hown.isMap hT hs p⟩, h2⟩
theorem unkP_same {gs : List Int} {P : Places} {st : List Int} {p : Int} (h : P st ≠ none) : unkP gs (pput P st p) = unkP gs P := by
  unfold unkP
  rw [kn_put]
  exact unk_same (fun e => h (kn_none.1 e))

/-! ### the player's variable -/
def Plr (W : World) (b : Nat) (vt vs v : Value) (m : Nat) : Prop := W.heap[b]? = some (.cells #[vt, vs, v, .map (some m)] 161 (0, 0))
section
variable {W W' : World} {b m : Nat} {vt vs v : Value}
theorem Plr.lt (h : Plr W b vt vs v m) : b < W.heap.size := (Array.getElem?_eq_some_iff.1 h).1
theorem Plr.c0 (h : Plr W b vt vs v m) : W.cell? ⟨b, 0, none⟩ = some vt := by simp [World.cell?, show W.heap[b]? = _ from h]
theorem Plr.c1 (h : Plr W b vt vs v m) : W.cell? ⟨b, 1, none⟩ = some vs := by simp [World.cell?, show W.heap[b]? = _ from h]
theorem Plr.c2 (h : Plr W b vt vs v m) : W.cell? ⟨b, 2, none⟩ = some v := by simp [World.cell?, show W.heap[b]? = _ from h]
theorem Plr.c3 (h : Plr W b vt vs v m) : W.cell? ⟨b, 3, none⟩ = some (.map (some m)) := by simp [World.cell?, show W.heap[b]? = _ from h]
theorem Plr.frozen (h : Plr W b vt vs v m) (i : Nat) : W.frozen? ⟨b, i, none⟩ = false := by simp [World.frozen?, show W.heap[b]? = _ from h]
theorem Plr.kept {row : Option Nat} (h : Plr W b vt vs v m) (hg : W.grownBy W' row) (hne : some b ≠ row) : Plr W' b vt vs v m := (hg.block b h.lt hne).trans h
theorem Plr.below {n : Nat} (h : Plr W b vt vs v m) (hb : Below n W W') (hn : b < n) : Plr W' b vt vs v m := (hb.block b hn).trans h
theorem Plr.later (h : Plr W b vt vs v m) (hb : Below W.heap.size W W') : Plr W' b vt vs v m := (hb.block b h.lt).trans h
theorem Plr.set (h : Plr W b vt vs v m) (u : Value) : Plr (W.setCell ⟨b, 2, none⟩ u) b vt vs u m := by
  obtain ⟨hlt, hk⟩ := Array.getElem?_eq_some_iff.1 h
  show (W.heap.modify b _)[b]? = _
  rw [Array.getElem?_eq_getElem (by rw [Array.size_modify]; exact hlt), Array.getElem_modify_self, hk]
  simp
theorem ownI_ne_plr {B : Nat} {u : Value} {zs : List Int} (h : OwnI B W u zs) (hb : Plr W b vt vs v m) : u.ownBlock ≠ some b := by
  intro e
  obtain ⟨_, h2⟩ := h
  rcases h2 with ⟨rfl, _⟩ | ⟨g, cap, cur, rfl, _, hh, _⟩
  · simp [Value.ownBlock] at e
  · obtain rfl : g = b := by simpa [Value.ownBlock] using e
    have := hh.symm.trans hb
    simp at this
theorem ownI_ne_pmap {gs : List Int} {B B' : Nat} {P : Places} {u : Value} {zs : List Int} (h : OwnI B W u zs) (hb : PMap W gs m B' P) : u.ownBlock ≠ some m := by
  intro e
  obtain ⟨_, h2⟩ := h
  obtain ⟨n, D, ⟨es, clock, h3, _⟩, _⟩ := hb
  rcases h2 with ⟨rfl, _⟩ | ⟨g, cap, cur, rfl, _, hh, _⟩
  · simp [Value.ownBlock] at e
  · obtain rfl : g = m := by simpa [Value.ownBlock] using e
    have := hh.symm.trans h3
    simp at this
theorem plr_ne_pmap {gs : List Int} {B' : Nat} {P : Places} {m' : Nat} (h : Plr W b vt vs v m') (hb : PMap W gs m B' P) : b ≠ m := by
  rintro rfl
  obtain ⟨n, D, ⟨es, clock, h3, _⟩, _⟩ := hb
  have := (show W.heap[b]? = _ from h).symm.trans h3
  simp at this
end

/-! ### the state behind a set -/
def stp (gs st : List Int) (s k : Nat) : List Int := (List.range st.length).map fun i => if i < k then nth (stepS gs st s) i else nth st i
theorem nth_stp {gs st : List Int} {s k j : Nat} : nth (stp gs st s k) j = if j < st.length then (if j < k then nth (stepS gs st s) j else nth st j) else 0 := by
  by_cases h : j < st.length
  · simp [nth, stp, h]
  · simp [nth, stp, h]
theorem nth_out {xs : List Int} {j : Nat} (h : ¬ j < xs.length) : nth xs j = 0 := by unfold nth; rw [List.getElem?_eq_none (by omega)]; rfl
theorem stp_zero (gs st : List Int) (s j : Nat) : nth (stp gs st s 0) j = nth st j := by
  rw [nth_stp]
  by_cases h : j < st.length
  · simp [h]
  · simp [h, nth_out h]
theorem stp_all (gs st : List Int) (s j : Nat) : nth (stp gs st s st.length) j = nth (stepS gs st s) j := by
  rw [nth_stp]
  by_cases h : j < st.length
  · simp [h]
  · rw [if_neg h, nth_out (by rw [stepS_length]; exact h)]
theorem stp_succ {gs st : List Int} {s k : Nat} (hk : k < st.length) (j : Nat) : nth (stp gs st s (k + 1)) j = if j = k then (if s.testBit k then nth gs k else nth st k - 1) else nth (stp gs st s k) j := by
  rw [nth_stp, nth_stp]
  by_cases e : j = k
  · subst e
    rw [if_pos hk, if_pos (by omega), if_pos rfl, nth_stepS hk]
  · rw [if_neg e]
    by_cases h : j < st.length
    · rw [if_pos h, if_pos h]
      by_cases h2 : j < k
      · rw [if_pos h2, if_pos (by omega)]
      · rw [if_neg h2, if_neg (by omega)]
    · rw [if_neg h, if_neg h]
theorem stp_at {gs st : List Int} {s k : Nat} (hk : k < st.length) : nth (stp gs st s k) k = nth st k := by rw [nth_stp, if_pos hk, if_neg (by omega)]

set_option maxRecDepth 100000 in
set_option maxHeartbeats 16000000 in
theorem behind_c (bP mP : Nat) (vs v : Value) (a : Option Addr) (cap : Nat) (gs st : List Int) (s : Nat) (w : World) (hP : Plr w bP (.slice a gs.length cap) vs v mP) (hI : Ints w.heap.size w (.slice a gs.length cap) gs) (ht : tasksOk gs = true) (hs : IsSt gs st) (hs8 : s < 256) :
    Calls Try.prog 170 #[.pointer (some ⟨bP, 0, none⟩), arrV st, .int .i64 (s : Int)] w fun e w' => e = .returned (arrV (stepS gs st s)) ∧ Below w.heap.size w w' := by
  have hl8 := tasksOk_len ht
  have hls := hs.1
  have hbd : ∀ i, i < gs.length → (1 ≤ nth st i ∧ nth st i ≤ 40) ∧ 1 ≤ nth gs i ∧ nth gs i ≤ 40 := fun i hi => by have h1 := hs.2 i hi; have h2 := tasksOk_nth ht hi; omega
  have Hbd := Lib.hid hbd
  have Hls := Lib.hid hls
  have HI := Lib.hid hI
  clear hbd hls hI hs ht
  have kP : (((w.alloc (.cells #[.int .u8 (nth st 0), .int .u8 (nth st 1), .int .u8 (nth st 2), .int .u8 (nth st 3), .int .u8 (nth st 4), .int .u8 (nth st 5), .int .u8 (nth st 6), .int .u8 (nth st 7)] 126)).alloc (.cells #[.int .i64 (s : Int)] 2)).alloc (.cells #[.int .u8 0, .int .u8 0, .int .u8 0, .int .u8 0, .int .u8 0, .int .u8 0, .int .u8 0, .int .u8 0] 126)).cell? ⟨bP, 0, none⟩ = some (.slice a gs.length cap) := ((((Below.refl _ w).alloc (Nat.le_refl _) _).alloc (by simp) _).alloc (by simp; omega) _ |>.cell (p := ⟨bP, 0, none⟩) hP.lt).trans hP.c0
  unfold arrV cells8
  refine (callsIn_wide (n := 9)).1 ?_
  refine callsIn_of_wp_marks Try.func170 rfl trivial ?_ rfl
  simp only [Try.ntmps170, List.size_toArray, List.length_cons, List.length_nil, Nat.reduceAdd, Nat.reduceSub, Array.replicate_succ, Array.replicate_zero, List.push_toArray, List.append_toArray, List.nil_append, List.cons_append]
  gi_wp2_with (first | (gi_at_call 94; refine (callsIn_wide.2 (numbered_c _ _ _ _)).mono ?_; rintro e w' ⟨rfl, rfl⟩) | (refine ⟨trivial, ?_⟩; gi_at_call 94; refine (callsIn_wide.2 (numbered_c _ _ _ _)).mono ?_; rintro e w' ⟨rfl, rfl⟩))
  obtain ⟨W0, hW0⟩ : ∃ W0, (((w.alloc (.cells #[.int .u8 (nth st 0), .int .u8 (nth st 1), .int .u8 (nth st 2), .int .u8 (nth st 3), .int .u8 (nth st 4), .int .u8 (nth st 5), .int .u8 (nth st 6), .int .u8 (nth st 7)] 126)).alloc (.cells #[.int .i64 (s : Int)] 2)).alloc (.cells #[.int .u8 0, .int .u8 0, .int .u8 0, .int .u8 0, .int .u8 0, .int .u8 0, .int .u8 0, .int .u8 0] 126)).alloc (.cells #[.slice a gs.length cap] 22) = W0 := ⟨_, rfl⟩
  have bS : Arr W0 w.heap.size st := by rw [← hW0]; exact (((Arr.new w st).alloc _).alloc _).alloc _
  have bX : Boxed W0 (w.heap.size + 1) 2 (.int .i64 (s : Int)) := by rw [← hW0]; repeat first | (refine boxed_at ?_; (simp; done)) | refine Boxed.alloc ?_ _
  have bR : Arr W0 (w.heap.size + 1 + 1) [] := by rw [← hW0]; have h := (Arr.new ((w.alloc (.cells (cells8 st) 126)).alloc (.cells #[.int .i64 (s : Int)] 2)) []).alloc (.cells #[.slice a gs.length cap] 22); simp only [World.size_alloc] at h; exact h
  have bN : Boxed W0 (w.heap.size + 1 + 1 + 1) 22 (.slice a gs.length cap) := by rw [← hW0]; exact boxed_at (by simp)
  have hB0 : Below w.heap.size w W0 := by rw [← hW0]; exact ((((Below.refl _ w).alloc (Nat.le_refl _) _).alloc (by simp) _).alloc (by simp; omega) _).alloc (by simp; omega) _
  have hs0 : w.heap.size + 4 ≤ W0.heap.size := by rw [← hW0]; simp
  rw [hW0]
  clear hW0 kP
  refine range_outA (Keep := fun b => b < w.heap.size) (c := 0) rfl (by omega) rfl trivial (enters_of Try.func150 (by kernel_rfl) rfl) (numbered_at Fence.wide 8 trivial rfl (by omega) _ w.heap.size _ gs (by omega) W0 bN (by omega) (HI.out.below hB0)) (fun b hb => by omega) (fun _ => rfl)
    (fun k W => (Arr W w.heap.size (stp gs st s k) ∧ Arr W (w.heap.size + 1 + 1) [] ∧ Boxed W (w.heap.size + 1) 2 (.int .i64 (s : Int))) ∧ Below w.heap.size w W)
    (fun _ _ _ => False)
    (OwnFrom.and (OwnFrom.and (Own.from (arr_own _ _) _) (OwnFrom.and (Own.from (arr_own _ _) _) (Own.from (boxed_own _ _ _) _))) (ownFrom_below (Nat.le_refl _) (by omega)))
    (fun _ _ _ _ _ hs _ _ => hs)
    ⟨⟨bS.ext fun i _ => (stp_zero gs st s i).symm, bR, bX⟩, hB0⟩ ?a1 ?assign ?body ?done ?stop
  case assign =>
    intro l k W K hk hK
    simp only [numAt]
    gi_wp2
    exact hK
  case body =>
    rintro l k W hl hr ⟨⟨bS1, bR1, bX1⟩, hB⟩ hlt hsW
    have hlst : k < st.length := by rw [Hls.out]; exact hlt
    have hnb : ¬ Band (fun b => b < w.heap.size) W0.heap.size (W0.heap.size + 2 + 0) w.heap.size := not_band (by omega) (by omega)
    have h1 := Hbd.out k hlt
    have cX := bX1.cell
    have cS := bS1.cell (i := k) (by omega)
    have fS := bS1.frozen k
    rw [stp_at hlst] at cS
    have Hsu := Lib.hid (fun j => stp_succ (gs := gs) (s := s) hlst j)
    have hk8 : (k : Int) < 8 := by omega
    have hkn : k < 8 := by omega
    have hw1 : IntKind.u8.wrap (nth gs k) = nth gs k := by rw [IntKind.wrap_u8]; omega
    have hw2 : IntKind.u8.wrap (nth st k - 1) = nth st k - 1 := by rw [IntKind.wrap_u8]; omega
    clear bS bR bX bN hB0
    gi_wp2_with fail
    refine ⟨trivial, ((callsIn_wide.2 (hasTask_c s k W hs8 hkn)).inRound _).mono ?_⟩
    rintro e W1 ⟨rfl, rfl⟩
    cases hb : s.testBit k
    · have Hb := Lib.hid hb
      clear hb
      gi_wp2
      exact ⟨Kps.setCell _ _ _ _ hnb, ⟨bS1.set (fun j _ => by rw [Hsu.out, Hb.out]; rfl), bR1.other (by omega) _, bX1.kept (grownBy_setCell2 _ _ _ _) (by simp)⟩, hB.setCell (p := ⟨w.heap.size, k, none⟩) (Nat.le_refl _) _⟩
    · have Hb := Lib.hid hb
      clear hb
      gi_wp2
      exact ⟨Kps.setCell _ _ _ _ hnb, ⟨bS1.set (fun j _ => by rw [Hsu.out, Hb.out]; rfl), bR1.other (by omega) _, bX1.kept (grownBy_setCell2 _ _ _ _) (by simp)⟩, hB.setCell (p := ⟨w.heap.size, k, none⟩) (Nat.le_refl _) _⟩
  case done =>
    rintro D W hD ⟨⟨bS1, bR1, bX1⟩, hB⟩ hK
    replace bS1 : Arr W w.heap.size (stepS gs st s) := bS1.ext fun i _ => by rw [← Hls.out]; exact stp_all gs st s i
    have cA0 := bS1.cell (i := 0) (by omega)
    have cA1 := bS1.cell (i := 1) (by omega)
    have cA2 := bS1.cell (i := 2) (by omega)
    have cA3 := bS1.cell (i := 3) (by omega)
    have cA4 := bS1.cell (i := 4) (by omega)
    have cA5 := bS1.cell (i := 5) (by omega)
    have cA6 := bS1.cell (i := 6) (by omega)
    have cA7 := bS1.cell (i := 7) (by omega)
    have cR0 := bR1.cell (i := 0) (by omega)
    have cR1 := bR1.cell (i := 1) (by omega)
    have cR2 := bR1.cell (i := 2) (by omega)
    have cR3 := bR1.cell (i := 3) (by omega)
    have cR4 := bR1.cell (i := 4) (by omega)
    have cR5 := bR1.cell (i := 5) (by omega)
    have cR6 := bR1.cell (i := 6) (by omega)
    have cR7 := bR1.cell (i := 7) (by omega)
    have fR0 := bR1.frozen 0
    have fR1 := bR1.frozen 1
    have fR2 := bR1.frozen 2
    have fR3 := bR1.frozen 3
    have fR4 := bR1.frozen 4
    have fR5 := bR1.frozen 5
    have fR6 := bR1.frozen 6
    have fR7 := bR1.frozen 7
    gi_wp2
    obtain ⟨W1, hW1⟩ : ∃ W1, ((((((((W.setCell ⟨w.heap.size + 1 + 1, 0, none⟩ (.int .u8 (nth (stepS gs st s) 0))).setCell ⟨w.heap.size + 1 + 1, 1, none⟩ (.int .u8 (nth (stepS gs st s) 1))).setCell ⟨w.heap.size + 1 + 1, 2, none⟩ (.int .u8 (nth (stepS gs st s) 2))).setCell ⟨w.heap.size + 1 + 1, 3, none⟩ (.int .u8 (nth (stepS gs st s) 3))).setCell ⟨w.heap.size + 1 + 1, 4, none⟩ (.int .u8 (nth (stepS gs st s) 4))).setCell ⟨w.heap.size + 1 + 1, 5, none⟩ (.int .u8 (nth (stepS gs st s) 5))).setCell ⟨w.heap.size + 1 + 1, 6, none⟩ (.int .u8 (nth (stepS gs st s) 6))).setCell ⟨w.heap.size + 1 + 1, 7, none⟩ (.int .u8 (nth (stepS gs st s) 7))) = W1 := ⟨_, rfl⟩
    have hE : store8 W (w.heap.size + 1 + 1) (stepS gs st s) = W1 := hW1
    rw [hW1]
    clear hW1
    have bR2 : Arr W1 (w.heap.size + 1 + 1) (stepS gs st s) := by rw [← hE]; exact Arr.stored8 _ bR1
    have hB2 : Below w.heap.size w W1 := by rw [← hE]; exact below_set8 _ hB (by omega) (Nat.le_refl _)
    have hK2 : W1.heap[D]? = some (.deferred (some [])) := by rw [← hE]; exact def_set8 _ bR1 hK
    clear hE
    clear cA0 cA1 cA2 cA3 cA4 cA5 cA6 cA7 cR0 cR1 cR2 cR3 cR4 cR5 cR6 cR7 fR0 fR1 fR2 fR3 fR4 fR5 fR6 fR7
    have bR3 := arr_shut bR2 hK2
    have cR0 := bR3.cell (i := 0) (by omega)
    have cR1 := bR3.cell (i := 1) (by omega)
    have cR2 := bR3.cell (i := 2) (by omega)
    have cR3 := bR3.cell (i := 3) (by omega)
    have cR4 := bR3.cell (i := 4) (by omega)
    have cR5 := bR3.cell (i := 5) (by omega)
    have cR6 := bR3.cell (i := 6) (by omega)
    have cR7 := bR3.cell (i := 7) (by omega)
    refine retM1 hK2 ⟨arrV (stepS gs st s), by simp [results, Try.f170, go_sem, cR0, cR1, cR2, cR3, cR4, cR5, cR6, cR7]; rfl, rfl, below_shut hB2 (by omega)⟩
  case stop =>
    rintro D c k W hD hk h
    exact h.elim

end Go.Proofs.Ytieobjoijalijaa
