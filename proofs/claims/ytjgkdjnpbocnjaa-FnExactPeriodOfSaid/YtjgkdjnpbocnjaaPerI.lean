/-
  PeriodOf of the program: as many shifts as have different texts.
  Conditions: lists of at most 1048576 elements.
-/
import Derived.Test.YtjgkdjnpbocnjaaPer
import Derived.Test.YtjgkdjnpbocnjaaTxI
import Derived.Test.YtjgkdjnpbocnjaaShiftIt
namespace Go.Proofs.Ytjgkdjnpbocnjaa
open Go.RowKit Go.Shelf Go.Maps
attribute [local go_sem] Oper.semAt_some

theorem ints_shift' {B g cap n : Nat} {W : World} {ts : List Int} (ho : OwnI B W (.slice (some ⟨g, 0, none⟩) (ts.length + ts.length) cap) (ts ++ ts)) (hn : n < ts.length) : Ints W.heap.size W (.slice (some ⟨g, n, none⟩) ts.length ts.length) (shiftL ts n) := by
  have hsl : (shiftL ts n).length = ts.length := shiftL_length (by omega)
  refine ⟨_, _, by rw [hsl], .inr ⟨g, n, rfl, (ho.blk g rfl).2, fun j hj => ?_⟩⟩
  rw [hsl] at hj
  have := ho.cellAt (j := n + j) (by simp; omega)
  rw [this, nth_twice (by omega) hj]
theorem lawS : Keyed Try.prog 9 := string_keyed Try.underlying9
theorem keyS {l : List Int} (h : l.length ≤ 1048576) : keyOf Try.prog 9 (.string (textL l)) = some (tkey l) := by
  rw [WideMaps.keyOf_string_mk Try.underlying9 (by show (textL l).data.size ≤ _; unfold textL maxLen; simp; omega)]
  unfold tkey textL; simp
/-- the map in the block m after k shifts -/
def PMap (W : World) (m : Nat) (ts : List Int) (k : Nat) : Prop := ∃ D : DataW Unit, W.ownsMap Try.prog 9 (plainElem Try.prog 4) m k D ∧ PTo D ts k
theorem PMap.new {W : World} {m : Nat} (ts : List Int) (h : W.heap[m]? = some (.map #[] 0)) : PMap W m ts 0 := by
  have h0 := World.ownsMap_made (H := Unit) W Try.prog 9 (plainElem Try.prog 4)
  obtain ⟨es, clock, h1, h2⟩ := h0
  have h3 := World.alloc_heap_new W (.map #[] 0)
  rw [h3] at h1
  obtain ⟨rfl, rfl⟩ : #[] = es ∧ 0 = clock := by simpa using h1
  exact ⟨.map [], ⟨_, _, h, h2⟩, pto_zero ts⟩
theorem PMap.kept {W W' : World} {row : Option Nat} {ts : List Int} {m k : Nat} (h : PMap W m ts k) (hg : W.grownBy W' row) (hne : some m ≠ row) : PMap W' m ts k := by
  obtain ⟨D, h, r⟩ := h; exact ⟨D, h.kept hg hne, r⟩
theorem PMap.below {n : Nat} {W W' : World} {ts : List Int} {m k : Nat} (h : PMap W m ts k) (hb : Below n W W') (hn : m < n) : PMap W' m ts k := by
  obtain ⟨D, ⟨es, clock, h1, h2⟩, r⟩ := h
  exact ⟨D, ⟨es, clock, (hb.block m hn).trans h1, h2⟩, r⟩
theorem PMap.lt {W : World} {ts : List Int} {m k : Nat} (h : PMap W m ts k) : m < W.heap.size := by obtain ⟨D, h, _⟩ := h; exact h.lt
theorem PMap_From (B : Nat) (m : Nat) (ts : List Int) (hm : m < B) : OwnFrom B (fun k W => PMap W m ts k) := fun s W W' row hs hg hr => hs.kept hg (fun e => by have := (hr m e.symm).1; omega)
theorem PMap.put {w : World} {m k : Nat} {ts : List Int} (h : PMap w m ts k) (hk : k < ts.length) (hl : ts.length ≤ 1048576) (hb : ∀ k, k < ts.length → -1 ≤ nth ts k ∧ nth ts k < 8) :
    ∃ w', (Instr.mapUpdate 50 (.map (some m)) (.string (textL (shiftL ts k))) (.bool true)).run Try.prog w = .ok () w' ∧ PMap w' m ts (k + 1) ∧ w.grownBy w' (some m) := by
  obtain ⟨D, hown, hp⟩ := h
  have hkey := keyS (l := shiftL ts k) (by rw [shiftL_length (by omega)]; exact hl)
  obtain ⟨w', hrun, h1, h2⟩ := hown.update lawS Try.underlying50 (by unfold maxLen; omega) hkey (plainElem_bool Try.underlying4 true)
  exact ⟨w', hrun, ⟨_, h1, pto_next hown.isMap (hown.tidy lawS) (lawS.key hkey) hk hb hp _⟩, h2⟩

set_option maxRecDepth 100000 in
set_option maxHeartbeats 8000000 in
theorem i_PeriodOf (c0 : Value) (ts : List Int) (w : World) (hI : Ints w.heap.size w c0 ts) (_hN : I64s ts) (hm : ts.length ≤ 1048576) :
    Calls Try.prog 13 #[c0] w fun e w' => e = .returned (.tuple #[.int .i64 (perR ts), .int .i64 (perC ts)]) ∧ Below w.heap.size w w' := by
  have hmk : ∀ w, (Instr.makeMap 50 none).run Try.prog w = .ok (.map (some w.heap.size)) (w.alloc (.map #[] 0)) := fun _ => rfl
  obtain ⟨a, cap, rfl⟩ := hI.shape
  refine (callsIn_wide (n := 9)).1 ?_
  cases ht : turnsOk ts 8
  · have Hr := Lib.hid (show perR ts = 0 by unfold perR; rw [ht]; rfl)
    have Hc := Lib.hid (show perC ts = 2 by unfold perC; rw [ht]; rfl)
    have Ht := Lib.hid ht
    clear ht
    refine callsIn_of_wp_marks Try.func13 rfl trivial ?_ rfl
    simp only [Try.ntmps13, List.size_toArray, List.length_cons, List.length_nil, Nat.reduceAdd, Nat.reduceSub, Array.replicate_succ, Array.replicate_zero, List.push_toArray, List.append_toArray, List.nil_append, List.cons_append]
    gi_wp2_with fail
    refine ⟨trivial, (callsIn_wide.2 (areTurns_c _ ts 8 _ hI (by omega))).mono ?_⟩
    rintro e w1 ⟨he, hb⟩
    rw [Ht.out] at he
    subst he
    gi_wp2
    refine retM0 ⟨_, results_tmp2 rfl _ _ _, ?_⟩
    exact ⟨by rw [Hr.out, Hc.out]; rfl, hb⟩
  · have Hr := Lib.hid (show perR ts = (period ts : Int) by unfold perR; rw [ht]; rfl)
    have Hc := Lib.hid (show perC ts = 0 by unfold perC; rw [ht]; rfl)
    have hbd : ∀ k, k < ts.length → -1 ≤ nth ts k ∧ nth ts k < 8 := fun k hk => by have := turnsOk_nth ht hk; omega
    have Hbd := Lib.hid hbd
    have hl := turnsOk_len ht
    have Ht := Lib.hid ht
    clear ht hbd
    refine callsIn_of_wp_marks Try.func13 rfl trivial ?_ rfl
    simp only [Try.ntmps13, List.size_toArray, List.length_cons, List.length_nil, Nat.reduceAdd, Nat.reduceSub, Array.replicate_succ, Array.replicate_zero, List.push_toArray, List.append_toArray, List.nil_append, List.cons_append]
    gi_wp2_with fail
    refine ⟨trivial, (callsIn_wide.2 (areTurns_c _ ts 8 _ hI (by omega))).mono ?_⟩
    rintro e w1 ⟨he, hb⟩
    rw [Ht.out] at he
    subst he
    gi_wp2_with fail
    obtain ⟨W0, hW0⟩ : ∃ W0, ((w1.alloc (.map #[] 0)).alloc (.cells #[.map (some w1.heap.size)] 50)) = W0 := ⟨_, rfl⟩
    have hB1 : Below w1.heap.size w1 W0 := by rw [← hW0]; exact ((Below.refl _ w1).alloc (Nat.le_refl _) _).alloc (by simp) _
    have hs1 : w1.heap.size + 2 ≤ W0.heap.size := by rw [← hW0]; simp
    have bX : Boxed W0 (w1.heap.size + 1) 50 (.map (some w1.heap.size)) := by rw [← hW0]; exact boxed_at (by simp)
    have hM : PMap W0 w1.heap.size ts 0 := PMap.new ts (by rw [← hW0]; exact (Below.heap_alloc _ _ _ (by simp)).trans (World.alloc_heap_new w1 _))
    rw [hW0]
    clear hW0
    have hB2 := hb.trans (hB1.mono hb.size)
    have hbs := hb.size
    refine ⟨trivial, (callsIn_wide.2 (shiftsOf_c _ ts _ (hI.later hB2) (by omega) hm)).mono ?_⟩
    rintro e w2 ⟨bT, bR, g, c, rfl, hT, hR, ho, hT1, hR1, hRg, hTg, hcap, hB3⟩
    have hB4 := hB2.trans (hB3.mono hB2.size)
    have ho2 := ho.base hB2.size
    have hg := (ho.blk _ rfl).1
    have hs3 := hB3.size
    have hTl := hT.lt
    have hRl := hR.lt
    have hM2 := hM.below hB3 (by omega)
    replace bX := boxed_later bX hB3
    clear ho hb hB1 hB2 hB3 hM
    gi_wp2_with fail
    refine range_outA (Keep := fun b => b < w.heap.size ∨ b = bR) (c := 4) rfl (by omega) rfl trivial (enters_of Try.func69 (by kernel_rfl) rfl) (shiftsOf_at 8 bT bR w.heap.size g c _ ts (by omega) hm hcap w2 hT hR (by omega) (hI.below hB4)) (fun b hb => by omega) (fun _ => rfl)
      (fun k W => PMap W w1.heap.size ts k ∧ (Boxed W (w1.heap.size + 1) 50 (.map (some w1.heap.size)) ∧ OwnI w.heap.size W (.slice (some ⟨g, 0, none⟩) (ts.length + ts.length) c) (ts ++ ts)) ∧ Below w.heap.size w W)
      (fun _ _ _ => False)
      (OwnFrom.and (PMap_From _ _ _ (by omega)) (OwnFrom.and (OwnFrom.and (Own.from (boxed_own _ _ _) _) (Own.from (ownI_Own _ _ _) _)) (ownFrom_below (Nat.le_refl _) (by omega))))
      (fun _ _ _ _ _ hs _ _ => hs)
      ⟨hM2, ⟨bX, ho2⟩, hB4⟩ ?a1 ?assign ?body ?done ?stop
    case assign =>
      intro l k W K hk hK
      simp only [shiftAt]
      gi_wp2
      exact hK
    case body =>
      rintro l k W hl2 hr ⟨hMk, ⟨bX1, ho1⟩, hB⟩ hlt hsW
      have cX := bX1.cell
      have i1 := ints_shift' ho1 hlt
      have hsb := shift_bd (ts := ts) (n := k) (by omega) Hbd.out
      have Hsb := Lib.hid hsb
      clear hsb
      have hfw : Try.prog.follows Departure.mixedOrders = true := by kernel_rfl
      gi_wp2_with fail
      refine wpIn_region_held (S := fun w' => Boxed w' (w1.heap.size + 1) 50 (.map (some w1.heap.size)) ∧ True) hfw (by kernel_rfl) (fun ⟨_, _, h⟩ => h) ⟨bX1, trivial⟩ ?_
      intro hS0
      refine wpAnyH_take (i := 0) (v := ?v0) rfl (by kernel_rfl) (by kernel_rfl) (by kernel_rfl) (fun _ _ _ h => h) (.inl ⟨by rfl, ?y0⟩) hS0 ?_
      case y0 =>
        intro w' hS
        (have k1 := hS.1.cell; clear hS)
        go_simp
        try with_reducible rfl
      refine wpAnyH_take (i := 1) (v := ?v1) rfl (by kernel_rfl) (by kernel_rfl) (by kernel_rfl) (fun _ _ _ h => h) (.inl ⟨by rfl, ?y1⟩) hS0 ?_
      case y1 =>
        intro w' hS
        (have k1 := hS.1.cell; clear hS)
        go_simp
        try with_reducible rfl
      refine wpAnyH_ready (rs := [2]) (by kernel_rfl) (by simp) ?_
      refine AllReadyH.cons rfl (fun K' hK' => ?_) AllReadyH.nil
      rw [if_pos (by rfl)]
      go_simp
      refine (textOfTurns_c _ (shiftL ts k) _ (show Ints W.drew.heap.size W.drew _ _ from i1) (by rw [shiftL_length (by omega)]; exact hm) Hsb.out).mono ?_
      rintro e w9 ⟨rfl, hb9⟩
      have hM9 := (show PMap W.drew w1.heap.size ts k from hMk).below hb9 (by have := hMk.lt; exact this)
      refine hK'.out _ _ ⟨boxed_later hS0.1 hb9, trivial⟩ fun hS1 => ?_
      obtain ⟨w10, hrun, hM10, hg10⟩ := hM9.put hlt hm Hbd.out
      refine wpAnyH_ready (rs := [3]) (by kernel_rfl) (by simp) ?_
      refine AllReadyH.cons rfl (fun K' hK' => ?_) AllReadyH.nil
      rw [if_pos (by rfl)]
      go_simp
      have hX10 := hS1.1.kept hg10 (by simp)
      refine hK'.out _ _ ⟨hX10, trivial⟩ fun hS2 => ?_
      refine wpAnyH_done (by kernel_rfl) ?_ _
      gi_wp2
      have hB9 : Below w.heap.size w w9 := hB.drew.trans (hb9.mono (by show w.heap.size ≤ W.heap.size; exact hB.size))
      have hB10 : Below w.heap.size w w10 := hB9.grown hg10 hB9.size (fun j e => by cases e; omega)
      have hK9 : Kps (Band (fun b => b < w.heap.size ∨ b = bR) w2.heap.size (w2.heap.size + 2 + 4)) W w9 := ⟨hb9.size, fun j _ hj => hb9.block j hj⟩
      refine ⟨hK9.trans (Kps.grown hg10 (fun j e h => ?_)), hM10, ⟨hX10, (OwnI.below (W := W.drew) (show OwnI _ W.drew _ _ from ho1) hb9).kept hg10 (.inr (by show some g ≠ some _; simp; omega))⟩, hB10⟩
      cases e
      rcases h with h | h
      · rcases h with h | h <;> omega
      · omega
    case done =>
      rintro D W hD ⟨⟨Dm, hown, hp⟩, ⟨bX1, ho1⟩, hB⟩ hK
      have hsz := pto_all (by omega) hp
      have hlen := hown.len Try.underlying50
      have hcl := hown.size_le
      rw [hsz] at hlen hcl
      have cX := bX1.cell
      gi_wp2_with fail
      refine retM1 hK ⟨_, results_tmp2 rfl _ _ _, ?_⟩
      exact ⟨by rw [Hr.out, Hc.out]; rfl, below_shut hB (by omega)⟩
    case stop =>
      rintro D c k W hD hk h
      exact h.elim

end Go.Proofs.Ytjgkdjnpbocnjaa
