/-
  The round of a rule in the model: a slice of lists that are all owned, no two in one block with the cuts; l06Round, TurnsByHeight, TurnsBySpeed of the model.
  Conditions: lists of at most 1048576 elements.
-/
import Derived.Test.YtogpkaeodgokgaaGrG
import Derived.Maps.AppendAt
namespace Go.Proofs.Ytogpkaeodgokgaa
open Go.RowKit Go.Shelf
attribute [local go_sem] Oper.semAt_some

theorem Try.infoL : (Try.prog.info? 22).map (fun i => (i.zero, i.size, i.bytes)) = some (some (.slice none 0 0), 1, 24) := by kernel_rfl
theorem info_partsG {P : Program} {t : TypeId} {z : Value} {a b : Nat} (h : (P.info? t).map (fun i => (i.zero, i.size, i.bytes)) = some (some z, a, b)) : ∃ i, P.info? t = some i ∧ i.zero = some z ∧ i.size = a ∧ i.bytes = b := by
  cases hi : P.info? t with
  | none => rw [hi] at h; cases h
  | some i =>
    rw [hi] at h
    simp only [Option.map_some, Option.some.injEq, Prod.mk.injEq] at h
    exact ⟨i, rfl, h.1, h.2.1, h.2.2⟩

/-- THE SLICE VALUE v OWNS THE lists vs, in a block from B on -/
def OwnL (B : Nat) (W : World) (v : Value) (vs : List Value) : Prop := W.ownsRow B 22 1 v vs.length vs
theorem OwnL.blk {B : Nat} {W : World} {v : Value} {vs : List Value} (h : OwnL B W v vs) : ∀ k, v.ownBlock = some k → B ≤ k ∧ k < W.heap.size := World.ownsRow.lt h
theorem OwnL.kept {B : Nat} {W W' : World} {row : Option Nat} {v : Value} {vs : List Value} (h : OwnL B W v vs) (hg : W.grownBy W' row) (hne : v.ownBlock = none ∨ v.ownBlock ≠ row) : OwnL B W' v vs := World.ownsRow.kept h hg hne
theorem OwnL.below {B : Nat} {W W' : World} {v : Value} {vs : List Value} (h : OwnL B W v vs) (hb : Below W.heap.size W W') : OwnL B W' v vs := by
  obtain ⟨h1, h2⟩ := id h
  refine ⟨h1, ?_⟩
  rcases h2 with ⟨e, h0⟩ | ⟨g, cap, cur, e, hg, hh, r⟩
  · exact .inl ⟨e, h0⟩
  · exact .inr ⟨g, cap, cur, e, hg, (hb.block g (h.blk g (by simp [e, Value.ownBlock])).2).trans hh, r⟩
theorem OwnL.shape {B : Nat} {W : World} {v : Value} {vs : List Value} (h : OwnL B W v vs) (h0 : 0 < vs.length) : ∃ g cap, v = .slice (some ⟨g, 0, none⟩) vs.length cap ∧ B ≤ g ∧ g < W.heap.size := by
  have hb := h.blk
  obtain ⟨_, h2⟩ := h
  rcases h2 with ⟨_, e⟩ | ⟨g, cap, cur, e, hg, hh, _⟩
  · omega
  · exact ⟨g, cap, e, hg, (hb g (by simp [e, Value.ownBlock])).2⟩
theorem OwnL.cellAt {B g n cap : Nat} {W : World} {vs : List Value} (h : OwnL B W (.slice (some ⟨g, 0, none⟩) n cap) vs) (hn : n = vs.length) {j : Nat} {u : Value} (hj : vs[j]? = some u) : W.cell? ⟨g, j, none⟩ = some u := by
  subst hn
  have h' : W.ownsRow B 22 1 (.slice (some ⟨g, 0, none⟩) vs.length cap) vs.length vs := h
  rw [World.ownsRow.cellAt h' j (by have := (List.getElem?_eq_some_iff.1 hj).1; omega), hj]
theorem ownL_one {B : Nat} (w : World) (u : Value) (h : B ≤ w.heap.size) : OwnL B (w.alloc (.cells #[u] 22)) (.slice (some ⟨w.heap.size, 0, none⟩) 1 1) [u] :=
  ⟨rfl, .inr ⟨w.heap.size, 1, #[u], rfl, h, World.alloc_heap_new w _, Nat.le_refl _, by unfold maxLen; omega, rfl, rfl⟩⟩
/-- a list of lists and a list of numbers are not in one block -/
theorem ownL_ne {B B' : Nat} {W : World} {v u : Value} {vs : List Value} {zs : List Int} (h : OwnL B W v vs) (ho : OwnI B' W u zs) {j : Nat} (e1 : v.ownBlock = some j) : u.ownBlock ≠ some j := fun e2 => by
  obtain ⟨_, h1⟩ := h
  obtain ⟨_, h2⟩ := ho
  rcases h1 with ⟨e, _⟩ | ⟨g, cap, cur, e, _, hh, _⟩
  · rw [e] at e1; simp [Value.ownBlock] at e1
  · rcases h2 with ⟨e', _⟩ | ⟨g', cap', cur', e', _, hh', _⟩
    · rw [e'] at e2; simp [Value.ownBlock] at e2
    · rw [e] at e1; simp [Value.ownBlock] at e1; subst e1
      rw [e'] at e2; simp [Value.ownBlock] at e2; subst e2
      rw [hh] at hh'; simp at hh'

/-- ALL HEIGHTS SO FAR: the lists behind the first n days, and the first m cuts; no list is in the block of the cuts -/
structure DaysG (B n m : Nat) (W : World) (va vc : Value) (vs : List Value) (rs : List Int) (x : Int) : Prop where
  all : OwnL B W va vs
  len : vs.length = n + 1
  els : ∀ k, k ≤ n → ∃ v, vs[k]? = some v ∧ OwnI B W v (stG rs x k) ∧ ∀ j, v.ownBlock = some j → vc.ownBlock ≠ some j
  cuts : OwnI B W vc (cutsG rs x m)
theorem keep_of_ne {v u : Value} (h : ∀ j, v.ownBlock = some j → u.ownBlock ≠ some j) : v.ownBlock = none ∨ v.ownBlock ≠ u.ownBlock := by
  rcases e : v.ownBlock with _ | k
  · exact .inl rfl
  · exact .inr fun h' => h k e h'.symm
section
variable {B n m : Nat} {W W' : World} {va vc : Value} {vs : List Value} {rs : List Int} {x : Int}
theorem DaysG.below (h : DaysG B n m W va vc vs rs x) (hb : Below W.heap.size W W') : DaysG B n m W' va vc vs rs x :=
  ⟨h.all.below hb, h.len, fun k hk => by obtain ⟨v, e, o, hn⟩ := h.els k hk; exact ⟨v, e, o.below hb, hn⟩, h.cuts.below hb⟩
theorem el_of (h : DaysG B n m W va vc vs rs x) {k : Nat} (hk : k ≤ n) : ∃ v, vs[k]? = some v ∧ OwnI B W v (stG rs x k) := by obtain ⟨v, e, o, _⟩ := h.els k hk; exact ⟨v, e, o⟩
/-- a cut more -/
theorem DaysG.cut (h : DaysG B n m W va vc vs rs x) {vc' : Value} (hg : W.grownBy W' vc.ownBlock) (ho : OwnI B W' vc' (cutsG rs x (m + 1))) (hat : vc'.ownBlock = vc.ownBlock ∨ ∀ j, vc'.ownBlock = some j → W.heap.size ≤ j) : DaysG B n (m + 1) W' va vc' vs rs x := by
  refine ⟨h.all.kept hg (keep_of_ne fun j e => ownL_ne h.all h.cuts e), h.len, fun k hk => ?_, ho⟩
  obtain ⟨v, e, o, hn⟩ := h.els k hk
  refine ⟨v, e, o.kept hg (keep_of_ne hn), fun j ej => ?_⟩
  rcases hat with ha | ha
  · rw [ha]; exact hn j ej
  · intro e2; have := ha j e2; have := (o.blk j ej).2; omega
/-- a list more -/
theorem DaysG.list (h : DaysG B n m W va vc vs rs x) {va' v : Value} (hg : W.grownBy W' va.ownBlock) (ho : OwnL B W' va' (vs ++ [v])) (hv : OwnI B W' v (stG rs x (n + 1))) (hne : ∀ j, v.ownBlock = some j → vc.ownBlock ≠ some j) : DaysG B (n + 1) m W' va' vc (vs ++ [v]) rs x := by
  refine ⟨ho, by simp [h.len], fun k hk => ?_, h.cuts.kept hg (keep_of_ne fun j e e2 => ownL_ne h.all h.cuts e2 e)⟩
  by_cases e : k ≤ n
  · obtain ⟨u, eu, o, hn⟩ := h.els k e
    refine ⟨u, ?_, o.kept hg (keep_of_ne fun j e e2 => ownL_ne h.all o e2 e), hn⟩
    rw [List.getElem?_append_left (by rw [h.len]; omega)]; exact eu
  · obtain rfl : k = n + 1 := by omega
    refine ⟨v, ?_, hv, hne⟩
    rw [List.getElem?_append_right (by rw [h.len]; omega), h.len]; simp
end

theorem shape_nz {B : Nat} {W : World} {v : Value} {rs : List Int} {x : Int} {k : Nat} (h : OwnI B W v (stG rs x k)) (h0 : 0 < rs.length) : ∃ g cap, v = .slice (some ⟨g, 0, none⟩) rs.length cap ∧ B ≤ g ∧ g < W.heap.size := by
  obtain ⟨g, cap, e, h1, h2⟩ := h.shape (by rw [stG_length]; exact h0)
  rw [stG_length] at e
  exact ⟨g, cap, e, h1, h2⟩

/-- what the round of the model hands back -/
def RdPost (w : World) (rs : List Int) (x : Int) (e : Ending) (w' : World) : Prop :=
  (rdC rs x = 0 ∧ ∃ v, e = .returned (.tuple #[v, .int .i64 (rdD rs x), .bool true]) ∧ OwnI w.heap.size w' v (rdT rs x) ∧ Below w.heap.size w w') ∨
  (rdC rs x = 3 ∧ rdT rs x = [] ∧ rdD rs x = 0 ∧ e = .returned (.tuple #[.slice none 0 0, .int .i64 0, .bool false]) ∧ Below w.heap.size w w')

set_option maxRecDepth 100000 in
set_option maxHeartbeats 16000000 in
theorem l06Round_c (c0 : Value) (rs : List Int) (x : Int) (w : World) (hI : Ints w.heap.size w c0 rs) (hg : gardenOk rs = true) (hx : x = 0 ∨ 1 ≤ x) (hx2 : x ≤ 1000) :
    Calls Try.prog 104 #[.agg #[c0], .int .i64 x] w (RdPost w rs x) := by
  obtain ⟨i0, hi, hz0, hz1, hz2⟩ := info_parts Try.infoI
  obtain ⟨il, hl0, hl1, hl2, hl3⟩ := info_partsG Try.infoL
  have hfw : Try.prog.follows Departure.mixedOrders = true := by kernel_rfl
  obtain ⟨a, cap, rfl⟩ := hI.shape
  have hl8 := gardenOk_len hg
  have hB0 : Below w.heap.size w (w.alloc (.cells #[.slice a rs.length cap] 48)) := (Below.refl _ w).alloc (Nat.le_refl _) _
  have bG0 : Boxed (w.alloc (.cells #[.slice a rs.length cap] 48)) w.heap.size 48 (.slice a rs.length cap) := Boxed.new _ _ _
  go_enter Try.func104, Try.ntmps104
  go_wp2_with (at_make; refine wpList_make_full _ rfl (.tmp 15) (.tmp 15) 22 rfl (w.heap.size + 1) 2 i0 (.int .i64 0) 1 Try.underlying22 hi hz0 hz1 .i64 .i64 _ _ rs.length rfl rfl rfl rfl ?c1 ?c2 ?c3 ?_)
  case c1 => rw [hz2]; omega
  case c2 => unfold maxLen; omega
  case c3 => simp
  intro w1 hown hgrow
  have ho0 := ownI_made hown
  have hB1 : Below w.heap.size w w1 := hB0.grown hgrow hB0.size (by simp)
  have bG1 := bG0.kept hgrow (by simp)
  clear hown hgrow hB0 bG0
  go_wp2_with fail
  obtain ⟨W1, hW1⟩ : ∃ W1, (w1.alloc (.cells #[.slice (some ⟨w.heap.size + 1, 0, none⟩) rs.length rs.length] 22)).alloc (.cells #[] 2) = W1 := ⟨_, rfl⟩
  have hbW : Below w1.heap.size w1 W1 := by rw [← hW1]; exact ((Below.refl _ _).alloc (Nat.le_refl _) _).alloc (by simp) _
  have hsw1 : w.heap.size + 1 < w1.heap.size := by have := (ho0.blk (w.heap.size + 1) rfl).2; omega
  have hD0 : DaysG (w.heap.size + 1) 0 0 W1 (.slice (some ⟨w1.heap.size, 0, none⟩) 1 1) (.slice (some ⟨w1.heap.size + 1, 0, none⟩) 0 0) [.slice (some ⟨w.heap.size + 1, 0, none⟩) rs.length rs.length] rs x := by
    refine ⟨?_, rfl, fun k hk => ?_, ?_⟩
    · rw [← hW1]; exact (ownL_one w1 _ (by omega)).below ((Below.refl _ _).alloc (Nat.le_refl _) _)
    · obtain rfl : k = 0 := by omega
      refine ⟨_, rfl, ho0.below hbW, fun j e => ?_⟩
      simp [Value.ownBlock] at e ⊢
      omega
    · rw [← hW1]
      have := ownI_emptyG (B := w.heap.size + 1) (w1.alloc (.cells #[.slice (some ⟨w.heap.size + 1, 0, none⟩) rs.length rs.length] 22)) (by simp; omega)
      simpa [cutsG] using this
  have hB2 := hB1.trans (hbW.mono hB1.size)
  have bG2 := boxed_later bG1 hbW
  try rw [hW1]
  clear hW1 hbW hsw1 ho0 hB1 bG1
  go_loopw [7, 8, 9] (fun va vc i wr => ∃ (n : Nat) (vs : List Value), n ≤ 200 ∧ i = .int .i64 n ∧ roundG rs x n = none ∧ DaysG (w.heap.size + 1) n n wr va vc vs rs x ∧ Boxed wr w.heap.size 48 (.slice a rs.length cap) ∧ Below w.heap.size w wr) (fun _ _ i _ => 200 - (intOf i).toNat)
  case atStart => exact ⟨0, _, by omega, rfl, rfl, hD0, bG2, hB2⟩
  case round =>
    obtain ⟨n, vs, hn, rfl, hrd, hDs, hbx, hB⟩ := hrel
    clear hD0 bG2 hB2
    have Hrd := Lib.hid hrd
    have kb := hbx.cell
    by_cases hlt : n < 200
    · have hnI : (n : Int) < 200 := by omega
      obtain ⟨ga, ca, hva, _, hga⟩ := hDs.all.shape (by rw [hDs.len]; omega)
      rw [hDs.len] at hva
      subst hva
      obtain ⟨vn, hvn, hon⟩ := el_of hDs (Nat.le_refl n)
      have ca0 := OwnL.cellAt hDs.all hDs.len.symm hvn
      have hst : ∀ k, 0 ≤ nth (stG rs x n) k ∧ nth (stG rs x n) k ≤ 100000 := fun k => by have := stG_bd hg x n k; omega
      have hsl := stG_length rs x n
      have hup : ∀ k, 0 ≤ nth (upG rs x n) k ∧ nth (upG rs x n) k ≤ 1000000 := fun k => by have := upG_bd hg x n k; omega
      have hul := upG_length rs x n
      have hdb := dayG_bd rs x n
      have hupe : upG rs x n = growL rs (stG rs x n) 1 := rfl
      have hsw : w.heap.size + 1 ≤ wr.heap.size := hbx.lt
      obtain ⟨gn, cn, rfl, _, _⟩ := shape_nz hon (by omega)
      have HDs := Lib.hid hDs
      have Hst := Lib.hid hst
      have Hsl := Lib.hid hsl
      have Hup := Lib.hid hup
      have Hul := Lib.hid hul
      have Hupe := Lib.hid hupe
      have hd := (Below.refl wr.heap.size wr).drew
      have hni : (n : Int) < (n : Int) + 1 := by omega
      have hgaw : ga < wr.heap.size := hga
      clear hDs hst hsl hup hul hupe hrd
      go_wp2_with fail
      refine wp_region_held_drew (S := fun w' => Boxed w' w.heap.size 48 (.slice a rs.length cap) ∧ Below wr.heap.size wr w') hfw ⟨boxed_later hbx hd, hd⟩ ?_
      intro hS0
      refine wpAnyH_take (i := 0) (v := ?vp10) rfl (by kernel_rfl) (by kernel_rfl) (by kernel_rfl) (fun _ _ _ h => h) (.inl ⟨by first | kernel_rfl | rfl, ?yp10⟩) hS0 ?_
      case yp10 =>
        intro w' hS
        (have k1 := hS.1.cell; clear hS)
        go_simp
        try with_reducible rfl
      refine wpAnyH_take (i := 1) (v := ?vp21) rfl (by kernel_rfl) (by kernel_rfl) (by kernel_rfl) (fun _ _ _ h => h) (.inl ⟨by first | kernel_rfl | rfl, ?yp21⟩) hS0 ?_
      case yp21 =>
        intro w' hS
        (have k1 := (hS.2.cell (p := ⟨ga, n, none⟩) hgaw).trans ca0; clear hS)
        go_simp
        try with_reducible rfl
      refine wpAnyH_take (i := 2) (v := ?vp22) rfl (by kernel_rfl) (by kernel_rfl) (by kernel_rfl) (fun _ _ _ h => h) (.inl ⟨by first | kernel_rfl | rfl, ?yp22⟩) hS0 ?_
      case yp22 =>
        intro w' hS
        (have k1 := (hS.2.cell (p := ⟨ga, n, none⟩) hgaw).trans ca0; clear hS)
        go_simp
        try with_reducible rfl
      refine wpAnyH_take (i := 3) (v := ?vp23) rfl (by kernel_rfl) (by kernel_rfl) (by kernel_rfl) (fun _ _ _ h => h) (.inl ⟨by first | kernel_rfl | rfl, ?yp23⟩) hS0 ?_
      case yp23 =>
        intro w' hS
        (have k1 := (hS.2.cell (p := ⟨ga, n, none⟩) hgaw).trans ca0; clear hS)
        go_simp
        try with_reducible rfl
      refine wpAnyH_take (i := 4) (v := ?vp24) rfl (by kernel_rfl) (by kernel_rfl) (by kernel_rfl) (fun _ _ _ h => h) (.inl ⟨by first | kernel_rfl | rfl, ?yp24⟩) hS0 ?_
      case yp24 =>
        intro w' hS
        (have k1 := (hS.2.cell (p := ⟨ga, n, none⟩) hgaw).trans ca0; clear hS)
        go_simp
        try with_reducible rfl
      refine wpAnyH_ready (rs := [5]) (by kernel_rfl) (by simp) ?_
      refine AllReadyH.cons rfl (fun K' hK' => ?_) AllReadyH.nil
      rw [if_pos (by first | kernel_rfl | rfl)]
      go_simp
      refine (l06Grow_c _ rs _ (stG rs x n) 1 _ ((hI.later hB).later hS0.2) (hon.below hS0.2).ints hg Hsl.out Hst.out (by omega) (by omega)).mono ?_
      rintro e w3 ⟨v, rfl, ho3, hb4⟩
      rw [← Hupe.out] at ho3
      simp only [id]
      have hb3 : Below wr.heap.size wr w3 := hS0.2.trans (hb4.mono hS0.2.size)
      refine hK'.out _ _ ⟨boxed_later hbx hb3, hb3⟩ fun hS1 => ?_
      refine wpAnyH_take (i := 6) (v := ?vp36) rfl (by kernel_rfl) (by kernel_rfl) (by kernel_rfl) (fun _ _ _ h => h) (.inl ⟨by first | kernel_rfl | rfl, ?yp36⟩) hS1 ?_
      case yp36 =>
        intro w' hS
        (clear hS)
        go_simp
        try with_reducible rfl
      refine wpAnyH_done (by kernel_rfl) ?_ _
      have ho4 : OwnI wr.heap.size w3 v (upG rs x n) := ho3
      have hbx3 := boxed_later hbx hb3
      clear hS0 hS1 hK' ho3 hb4 kb hbx ca0 hd hvn hon
      obtain ⟨g2, c2, rfl, hg2, hg2'⟩ := ho4.shape (by rw [Hul.out]; omega)
      rw [Hul.out] at ho4 ⊢
      go_wp2_with fail
      refine (l06Highest_c rs _ (upG rs x n) _ ho4.ints (by rw [Hul.out]; omega) (by rw [Hul.out]; omega) Hul.out Hup.out).mono ?_
      rintro e w4 ⟨rfl, hb5⟩
      have hb6 : Below wr.heap.size wr w4 := hb3.trans (hb5.mono hb3.size)
      have ho5 := ho4.below hb5
      have hbx4 := boxed_later hbx3 hb5
      have kb4 := hbx4.cell
      clear hb5 hb3 ho4 hbx3
      have hdb := dayG_bd rs x n
      obtain ⟨dy, hdy⟩ : ∃ dy, dayG rs x n = dy := ⟨_, rfl⟩
      rw [hdy] at hdb
      rcases hx with hx0 | hx1
      · have hcg : cutG rs 0 (upG rs x n) = dy := by rw [← hdy]; unfold dayG; rw [hx0]
        rw [hcg]
        obtain ⟨q, hq, eq, _⟩ := cutTo_some (rk := rkG rs 0 (upG rs x n)) (k := rs.length) (by omega) (by rw [rkG_zero]; exact (Hup.out 0).1)
        have hdy0 : 0 ≤ dy := by have : (cutTo (rkG rs 0 (upG rs x n)) rs.length).1 = dy := hcg; omega
        have hxn : ¬ 0 < x := by omega
        clear hx0
        have hb6 : Below wr.heap.size wr w4 := hb6
        have ho6 := ho5
        have hbx6 := hbx4
        obtain ⟨w6, hw6⟩ : ∃ w6, w4 = w6 := ⟨_, rfl⟩
        rw [hw6] at ho6 hb6 hbx6 kb4 ⊢
        have kb6 := kb4
        clear hw6 ho5 hbx4 hcg eq hq
        obtain ⟨j, hj⟩ : ∃ j : Nat, dy = (j : Int) := ⟨dy.toNat, by omega⟩
        subst hj
        have hjl : j < rs.length := by omega
        have hjI : (j : Int) < (rs.length : Int) := by omega
        have hj0 : 0 ≤ (j : Int) := by omega
        have cj := ho6.cellAt (j := j) (by rw [Hul.out]; exact hjl)
        have fj := ho6.frozen j
        have hst1 : stG rs x (n + 1) = (upG rs x n).set j 0 := by rw [stG_succ, hdy]; unfold cutAt; rw [if_neg (by omega)]; rfl
        have ho7 := (ho6.stored j 0).1
        rw [← hst1] at ho7
        have hb7 := hb6.setCell (p := ⟨g2, j, none⟩) hg2 (.int .i64 0)
        have hbx7 := hbx6.kept (grownBy_setCell2 w6 g2 j (.int .i64 0)) (by simp; omega)
        obtain ⟨w7, hw7⟩ : ∃ w7, w6.setCell ⟨g2, j, none⟩ (.int .i64 0) = w7 := ⟨_, rfl⟩
        rw [hw7] at ho7 hb7 hbx7
        clear hst1 ho6 hb6 hbx6
        have hDs5 := HDs.out.below hb7
        have hcl := cutsG_length rs x n
        have hB7 := hB.trans (hb7.mono hB.size)
        have hcu := hDs5.cuts
        have hcb := HDs.out.cuts.blk
        obtain ⟨xs, hxs⟩ : ∃ xs, cutsG rs x n = xs := ⟨_, rfl⟩
        have hcs := cutsG_succ rs x n
        rw [hxs] at hcu hcl hcs
        rw [hdy] at hcs
        have Hcs := Lib.hid hcs
        have Hcb := Lib.hid hcb
        have HD5 := Lib.hid hDs5
        have hlx : xs.length ≤ 200 := by omega
        have hs7 := hb7.size
        have hg2l : g2 < w7.heap.size := ho7.blk g2 rfl |>.2
        clear hDs5 hcl hxs hcs hcb kb4
        go_wp2_with (at_builtin; refine wpList_append_own_at _ rfl _ _ 22 rfl (w.heap.size + 1) 2 i0 (.int .i64 0) 1 8 Try.underlying22 hi hz0 hz1 hz2 rfl (by decide) _ _ _ rfl (World.ownsRow.alloc hcu _) ⟨w7.heap.size, 0, none⟩ 1 1 [.int .i64 (j : Int)] rfl rfl (Go.cell_one_new _ _ _) (by simp [Value.oneCell']) (by unfold maxLen; omega) (by omega) (by simp; omega) ?_)
        intro vc2 w8 hown' hgrow _ hat
        have hoc := ownI_snoc hown'
        rw [← Hcs.out] at hoc
        have hgr : w7.grownBy w8 u8.ownBlock := (World.grownBy_alloc _ _ _).trans hgrow
        have hat2 : vc2.ownBlock = u8.ownBlock ∨ ∀ j, vc2.ownBlock = some j → w7.heap.size ≤ j := by
          rcases hat with h | h
          · exact .inl h
          · exact .inr fun j e => by rw [h] at e; simp at e; omega
        have hD8 := HD5.out.cut hgr hoc hat2
        have ho8 : OwnI wr.heap.size w8 (.slice (some ⟨g2, 0, none⟩) rs.length c2) (stG rs x (n + 1)) := ho7.kept hgr (.inr fun e => by have := (Hcb.out g2 e.symm).2; omega)
        have hne8 : ∀ j, (Value.slice (some ⟨g2, 0, none⟩) rs.length c2).ownBlock = some j → vc2.ownBlock ≠ some j := fun j e e2 => by
          simp [Value.ownBlock] at e
          subst e
          rcases hat2 with h | h
          · rw [h] at e2; have := (Hcb.out g2 e2).2; omega
          · have := h g2 e2; omega
        have hbx8 := hbx7.kept hgr (fun e => by have := (Hcb.out _ e.symm).1; have := (HDs.out.cuts.blk _ e.symm).1; omega)
        have hB8 : Below w.heap.size w w8 := hB7.grown hgr hB7.size (fun j e => by have := (HDs.out.cuts.blk j e).1; omega)
        have HD8 := Lib.hid hD8
        have Hne8 := Lib.hid hne8
        obtain ⟨gc, cc, hvc, _, _⟩ := hD8.cuts.shape (by rw [cutsG_length]; omega)
        rw [cutsG_length] at hvc
        subst hvc
        have hccl : n + 1 ≤ cc := by
          obtain ⟨_, h2⟩ := hD8.cuts
          rcases h2 with ⟨e, _⟩ | ⟨g, c, cur, e, _, _, h3, _⟩
          · simp at e
          · rw [cutsG_length] at h3
            simp only [Value.slice.injEq] at e
            omega
        clear hown' hgrow hat hat2 hoc hgr hcu HD5 hD8 hne8 ho7 hbx7 hb7 hB7 Hcs Hcb
        go_wp2
        go_loopw [12] (fun i wr => ∃ k : Nat, k ≤ n + 1 ∧ i = .int .i64 k ∧ (∀ j, j < k → stG rs x j ≠ stG rs x (n + 1)) ∧ Below w8.heap.size w8 wr) (fun i _ => n + 1 - (intOf i).toNat)
        case atStart => exact ⟨0, Nat.zero_le _, rfl, fun j hj => by omega, Below.refl _ _⟩
        case round =>
          obtain ⟨k, hk, rfl, hall, hbq⟩ := hrel
          have Hall := Lib.hid hall
          have hDq := HD8.out.below hbq
          have hoq := ho8.below hbq
          clear hall
          by_cases hkn : k ≤ n
          · have hkI : (k : Int) ≤ (n : Int) := by omega
            have hkI2 : (k : Int) < (n : Int) + 1 := by omega
            obtain ⟨vk, hvk, hok⟩ := el_of hDq hkn
            have cak := OwnL.cellAt hDq.all hDq.len.symm hvk
            obtain ⟨gk, ck, rfl, _, _⟩ := shape_nz hok (by omega)
            by_cases he : stG rs x k = stG rs x (n + 1)
            · have hrd2 := Lib.hid (rd_some Hrd.out (backG_of Hrd.out hkn he) hlt)
              have Hde := Lib.hid (decide_eq_true he)
              have hcd := ints_drop (n := k) (show Ints _ _ (.slice (some ⟨gc, 0, none⟩) (cutsG rs x (n + 1)).length cc) (cutsG rs x (n + 1)) by rw [cutsG_length]; exact hDq.cuts.ints) (by rw [cutsG_length]; omega)
              rw [List.length_drop, cutsG_length] at hcd
              have hcl2 : ((cutsG rs x (n + 1)).drop k).length = n + 1 - k := by rw [List.length_drop, cutsG_length]
              have Hcd := Lib.hid hcd
              have Hcl2 := Lib.hid hcl2
              have hkc : ¬ cc = k := by omega
              have hkc2 : (k : Int) ≤ (cc : Int) := by omega
              have hkc3 : (n : Int) + 1 ≤ (cc : Int) := by omega
              clear he hcd hcl2 hvk
              go_wp2_with fail
              refine (l06Same_d true _ _ _ _ _ hok.ints hoq.ints (by rw [stG_length]; omega) (by rw [stG_length, stG_length]) Hde.out).mono ?_
              rintro e w9 ⟨rfl, hb9⟩
              have hcd9 := Hcd.out.later hb9
              clear cak
              go_wp2_with fail
              refine (l01Own_c _ ((cutsG rs x (n + 1)).drop k) _ (by simpa using hcd9) (by rw [Hcl2.out]; omega) (by rw [Hcl2.out]; omega)).mono ?_
              rintro e w10 ⟨vo, rfl, hoo, hb10⟩
              simp only [id]
              go_wp2
              go_ret3
              have hs8 := hB8.size
              have hs9 := hbq.size
              have hs10 := hb9.size
              refine .inl ⟨hrd2.out.2.2, vo, ?_, ?_, hB8.trans ((hbq.mono hs8).trans ((hb9.mono (by omega)).trans (hb10.mono (by omega))))⟩
              · rw [hrd2.out.2.1]; rfl
              · rw [hrd2.out.1]; exact hoo.base (by omega)
            · have Hde := Lib.hid (decide_eq_false he)
              have hall2 : ∀ j, j < k + 1 → stG rs x j ≠ stG rs x (n + 1) := fun j hj => by
                by_cases e : j = k
                · subst e; exact he
                · exact Hall.out j (by omega)
              have Hall2 := Lib.hid hall2
              clear he hall2 hvk
              go_wp2_with fail
              refine (l06Same_d false _ _ _ _ _ hok.ints hoq.ints (by rw [stG_length]; omega) (by rw [stG_length, stG_length]) Hde.out).mono ?_
              rintro e w9 ⟨rfl, hb9⟩
              clear cak
              go_wp2
              go_roundw
              case rel => exact ⟨k + 1, by omega, by simp, Hall2.out, hbq.trans (hb9.mono hbq.size)⟩
              case measure => simp [intOf]; omega
          · obtain rfl : k = n + 1 := by omega
            have hrd3 := Lib.hid (roundG_next Hrd.out (backG_none fun j hj => Hall.out j (by omega)))
            have hbxq := boxed_later hbx8 hbq
            have hBq := hB8.trans (hbq.mono hB8.size)
            have hrowA : wr.ownsRow (w.heap.size + 1) 22 1 (.slice (some ⟨ga, 0, none⟩) (n + 1) ca) (n + 1) vs := by have h := hDq.all; unfold OwnL at h; rwa [hDq.len] at h
            have hsq : w.heap.size + 1 ≤ wr.heap.size := hbxq.lt
            have hlen := hDq.len
            have HDq := Lib.hid hDq
            have Hlen := Lib.hid hlen
            have hnk : ¬ ((n + 1 : Nat) : Int) ≤ (n : Int) := by omega
            have hnk2 : ¬ (n : Int) + 1 ≤ (n : Int) := by omega
            clear hDq hlen
            go_wp2_with (at_builtin; refine wpList_append_own_at _ rfl _ _ 131 rfl (w.heap.size + 1) 22 il (.slice none 0 0) 1 24 Try.underlying131 hl0 hl1 hl2 hl3 rfl (by decide) _ _ _ rfl (World.ownsRow.alloc hrowA _) ⟨wr.heap.size, 0, none⟩ 1 1 [.slice (some ⟨g2, 0, none⟩) rs.length c2] rfl rfl (Go.cell_one_new _ _ _) (by simp [Value.oneCell']) (by unfold maxLen; omega) (by omega) (by simp; omega) ?_)
            intro va2 w9 hown' hgrow _ hat
            have hgr : wr.grownBy w9 (some ga) := (World.grownBy_alloc _ _ _).trans hgrow
            have hoa : OwnL (w.heap.size + 1) w9 va2 (vs ++ [.slice (some ⟨g2, 0, none⟩) rs.length c2]) := by unfold OwnL; rw [List.length_append, Hlen.out]; exact hown'
            have ho9 : OwnI (w.heap.size + 1) w9 (.slice (some ⟨g2, 0, none⟩) rs.length c2) (stG rs x (n + 1)) := (hoq.kept hgr (keep_of_ne (u := .slice (some ⟨ga, 0, none⟩) (n + 1) ca) fun j e e2 => ownL_ne HDq.out.all hoq e2 e)).base hsw
            have hD9 := HDq.out.list hgr hoa ho9 Hne8.out
            have hgal : w.heap.size + 1 ≤ ga := (HDq.out.all.blk ga rfl).1
            have hbx9 := hbxq.kept hgr (by simp; omega)
            have hB9 : Below w.heap.size w w9 := hBq.grown hgr hBq.size (fun j e => by cases e; omega)
            clear hown' hgrow hat hgr hoa hrowA ho9 hoq
            go_wp2
            go_roundw
            case rel => exact ⟨n + 1, _, by omega, by simp, hrd3.out, hD9, hbx9, hB9⟩
            case measure => simp [intOf]; omega
      · have hcg : cutG rs x (upG rs x n) = dy := hdy
        have hxp : 0 < x := by omega
        obtain ⟨c9, hc9⟩ : ∃ c9, cutG rs 0 (upG rs x n) = c9 := ⟨_, rfl⟩
        rw [hc9]
        clear hc9
        go_wp2_with fail
        refine (l06Fastest_c _ rs _ (upG rs x n) x _ ((hI.later hB).later hb6) ho5.ints hg Hul.out Hup.out hx1).mono ?_
        rintro e w6 ⟨rfl, hb7⟩
        rw [hcg]
        have hb8 : Below wr.heap.size wr w6 := hb6.trans (hb7.mono hb6.size)
        have ho6 := ho5.below hb7
        have hbx6 := boxed_later hbx4 hb7
        have kb6 := hbx6.cell
        clear hb7 hb6 ho5 hbx4 kb4
        have hb6 := hb8
        have kb4 := kb6
        clear hb8 hcg
        by_cases hneg : dy < 0
        · have hst1 : stG rs x (n + 1) = upG rs x n := by rw [stG_succ, hdy]; unfold cutAt; rw [if_pos hneg]
          have ho7 := ho6
          rw [← hst1] at ho7
          obtain ⟨w7, hw7⟩ : ∃ w7, w6 = w7 := ⟨_, rfl⟩
          have hb7 := hb6
          have hbx7 := hbx6
          rw [hw7] at ho7 hb7 hbx7 ⊢
          clear hst1 ho6 hb6 hbx6 kb6 kb4 hw7
          have kb4 := hbx7.cell
          have hDs5 := HDs.out.below hb7
          have hcl := cutsG_length rs x n
          have hB7 := hB.trans (hb7.mono hB.size)
          have hcu := hDs5.cuts
          have hcb := HDs.out.cuts.blk
          obtain ⟨xs, hxs⟩ : ∃ xs, cutsG rs x n = xs := ⟨_, rfl⟩
          have hcs := cutsG_succ rs x n
          rw [hxs] at hcu hcl hcs
          rw [hdy] at hcs
          have Hcs := Lib.hid hcs
          have Hcb := Lib.hid hcb
          have HD5 := Lib.hid hDs5
          have hlx : xs.length ≤ 200 := by omega
          have hs7 := hb7.size
          have hg2l : g2 < w7.heap.size := ho7.blk g2 rfl |>.2
          clear hDs5 hcl hxs hcs hcb kb4
          go_wp2_with (at_builtin; refine wpList_append_own_at _ rfl _ _ 22 rfl (w.heap.size + 1) 2 i0 (.int .i64 0) 1 8 Try.underlying22 hi hz0 hz1 hz2 rfl (by decide) _ _ _ rfl (World.ownsRow.alloc hcu _) ⟨w7.heap.size, 0, none⟩ 1 1 [.int .i64 dy] rfl rfl (Go.cell_one_new _ _ _) (by simp [Value.oneCell']) (by unfold maxLen; omega) (by omega) (by simp; omega) ?_)
          intro vc2 w8 hown' hgrow _ hat
          have hoc := ownI_snoc hown'
          rw [← Hcs.out] at hoc
          have hgr : w7.grownBy w8 u8.ownBlock := (World.grownBy_alloc _ _ _).trans hgrow
          have hat2 : vc2.ownBlock = u8.ownBlock ∨ ∀ j, vc2.ownBlock = some j → w7.heap.size ≤ j := by
            rcases hat with h | h
            · exact .inl h
            · exact .inr fun j e => by rw [h] at e; simp at e; omega
          have hD8 := HD5.out.cut hgr hoc hat2
          have ho8 : OwnI wr.heap.size w8 (.slice (some ⟨g2, 0, none⟩) rs.length c2) (stG rs x (n + 1)) := ho7.kept hgr (.inr fun e => by have := (Hcb.out g2 e.symm).2; omega)
          have hne8 : ∀ j, (Value.slice (some ⟨g2, 0, none⟩) rs.length c2).ownBlock = some j → vc2.ownBlock ≠ some j := fun j e e2 => by
            simp [Value.ownBlock] at e
            subst e
            rcases hat2 with h | h
            · rw [h] at e2; have := (Hcb.out g2 e2).2; omega
            · have := h g2 e2; omega
          have hbx8 := hbx7.kept hgr (fun e => by have := (Hcb.out _ e.symm).1; have := (HDs.out.cuts.blk _ e.symm).1; omega)
          have hB8 : Below w.heap.size w w8 := hB7.grown hgr hB7.size (fun j e => by have := (HDs.out.cuts.blk j e).1; omega)
          have HD8 := Lib.hid hD8
          have Hne8 := Lib.hid hne8
          obtain ⟨gc, cc, hvc, _, _⟩ := hD8.cuts.shape (by rw [cutsG_length]; omega)
          rw [cutsG_length] at hvc
          subst hvc
          have hccl : n + 1 ≤ cc := by
            obtain ⟨_, h2⟩ := hD8.cuts
            rcases h2 with ⟨e, _⟩ | ⟨g, c, cur, e, _, _, h3, _⟩
            · simp at e
            · rw [cutsG_length] at h3
              simp only [Value.slice.injEq] at e
              omega
          clear hown' hgrow hat hat2 hoc hgr hcu HD5 hD8 hne8 ho7 hbx7 hb7 hB7 Hcs Hcb
          go_wp2
          go_loopw [12] (fun i wr => ∃ k : Nat, k ≤ n + 1 ∧ i = .int .i64 k ∧ (∀ j, j < k → stG rs x j ≠ stG rs x (n + 1)) ∧ Below w8.heap.size w8 wr) (fun i _ => n + 1 - (intOf i).toNat)
          case atStart => exact ⟨0, Nat.zero_le _, rfl, fun j hj => by omega, Below.refl _ _⟩
          case round =>
            obtain ⟨k, hk, rfl, hall, hbq⟩ := hrel
            have Hall := Lib.hid hall
            have hDq := HD8.out.below hbq
            have hoq := ho8.below hbq
            clear hall
            by_cases hkn : k ≤ n
            · have hkI : (k : Int) ≤ (n : Int) := by omega
              have hkI2 : (k : Int) < (n : Int) + 1 := by omega
              obtain ⟨vk, hvk, hok⟩ := el_of hDq hkn
              have cak := OwnL.cellAt hDq.all hDq.len.symm hvk
              obtain ⟨gk, ck, rfl, _, _⟩ := shape_nz hok (by omega)
              by_cases he : stG rs x k = stG rs x (n + 1)
              · have hrd2 := Lib.hid (rd_some Hrd.out (backG_of Hrd.out hkn he) hlt)
                have Hde := Lib.hid (decide_eq_true he)
                have hcd := ints_drop (n := k) (show Ints _ _ (.slice (some ⟨gc, 0, none⟩) (cutsG rs x (n + 1)).length cc) (cutsG rs x (n + 1)) by rw [cutsG_length]; exact hDq.cuts.ints) (by rw [cutsG_length]; omega)
                rw [List.length_drop, cutsG_length] at hcd
                have hcl2 : ((cutsG rs x (n + 1)).drop k).length = n + 1 - k := by rw [List.length_drop, cutsG_length]
                have Hcd := Lib.hid hcd
                have Hcl2 := Lib.hid hcl2
                have hkc : ¬ cc = k := by omega
                have hkc2 : (k : Int) ≤ (cc : Int) := by omega
                have hkc3 : (n : Int) + 1 ≤ (cc : Int) := by omega
                clear he hcd hcl2 hvk
                go_wp2_with fail
                refine (l06Same_d true _ _ _ _ _ hok.ints hoq.ints (by rw [stG_length]; omega) (by rw [stG_length, stG_length]) Hde.out).mono ?_
                rintro e w9 ⟨rfl, hb9⟩
                have hcd9 := Hcd.out.later hb9
                clear cak
                go_wp2_with fail
                refine (l01Own_c _ ((cutsG rs x (n + 1)).drop k) _ (by simpa using hcd9) (by rw [Hcl2.out]; omega) (by rw [Hcl2.out]; omega)).mono ?_
                rintro e w10 ⟨vo, rfl, hoo, hb10⟩
                simp only [id]
                go_wp2
                go_ret3
                have hs8 := hB8.size
                have hs9 := hbq.size
                have hs10 := hb9.size
                refine .inl ⟨hrd2.out.2.2, vo, ?_, ?_, hB8.trans ((hbq.mono hs8).trans ((hb9.mono (by omega)).trans (hb10.mono (by omega))))⟩
                · rw [hrd2.out.2.1]; rfl
                · rw [hrd2.out.1]; exact hoo.base (by omega)
              · have Hde := Lib.hid (decide_eq_false he)
                have hall2 : ∀ j, j < k + 1 → stG rs x j ≠ stG rs x (n + 1) := fun j hj => by
                  by_cases e : j = k
                  · subst e; exact he
                  · exact Hall.out j (by omega)
                have Hall2 := Lib.hid hall2
                clear he hall2 hvk
                go_wp2_with fail
                refine (l06Same_d false _ _ _ _ _ hok.ints hoq.ints (by rw [stG_length]; omega) (by rw [stG_length, stG_length]) Hde.out).mono ?_
                rintro e w9 ⟨rfl, hb9⟩
                clear cak
                go_wp2
                go_roundw
                case rel => exact ⟨k + 1, by omega, by simp, Hall2.out, hbq.trans (hb9.mono hbq.size)⟩
                case measure => simp [intOf]; omega
            · obtain rfl : k = n + 1 := by omega
              have hrd3 := Lib.hid (roundG_next Hrd.out (backG_none fun j hj => Hall.out j (by omega)))
              have hbxq := boxed_later hbx8 hbq
              have hBq := hB8.trans (hbq.mono hB8.size)
              have hrowA : wr.ownsRow (w.heap.size + 1) 22 1 (.slice (some ⟨ga, 0, none⟩) (n + 1) ca) (n + 1) vs := by have h := hDq.all; unfold OwnL at h; rwa [hDq.len] at h
              have hsq : w.heap.size + 1 ≤ wr.heap.size := hbxq.lt
              have hlen := hDq.len
              have HDq := Lib.hid hDq
              have Hlen := Lib.hid hlen
              have hnk : ¬ ((n + 1 : Nat) : Int) ≤ (n : Int) := by omega
              have hnk2 : ¬ (n : Int) + 1 ≤ (n : Int) := by omega
              clear hDq hlen
              go_wp2_with (at_builtin; refine wpList_append_own_at _ rfl _ _ 131 rfl (w.heap.size + 1) 22 il (.slice none 0 0) 1 24 Try.underlying131 hl0 hl1 hl2 hl3 rfl (by decide) _ _ _ rfl (World.ownsRow.alloc hrowA _) ⟨wr.heap.size, 0, none⟩ 1 1 [.slice (some ⟨g2, 0, none⟩) rs.length c2] rfl rfl (Go.cell_one_new _ _ _) (by simp [Value.oneCell']) (by unfold maxLen; omega) (by omega) (by simp; omega) ?_)
              intro va2 w9 hown' hgrow _ hat
              have hgr : wr.grownBy w9 (some ga) := (World.grownBy_alloc _ _ _).trans hgrow
              have hoa : OwnL (w.heap.size + 1) w9 va2 (vs ++ [.slice (some ⟨g2, 0, none⟩) rs.length c2]) := by unfold OwnL; rw [List.length_append, Hlen.out]; exact hown'
              have ho9 : OwnI (w.heap.size + 1) w9 (.slice (some ⟨g2, 0, none⟩) rs.length c2) (stG rs x (n + 1)) := (hoq.kept hgr (keep_of_ne (u := .slice (some ⟨ga, 0, none⟩) (n + 1) ca) fun j e e2 => ownL_ne HDq.out.all hoq e2 e)).base hsw
              have hD9 := HDq.out.list hgr hoa ho9 Hne8.out
              have hgal : w.heap.size + 1 ≤ ga := (HDq.out.all.blk ga rfl).1
              have hbx9 := hbxq.kept hgr (by simp; omega)
              have hB9 : Below w.heap.size w w9 := hBq.grown hgr hBq.size (fun j e => by cases e; omega)
              clear hown' hgrow hat hgr hoa hrowA ho9 hoq
              go_wp2
              go_roundw
              case rel => exact ⟨n + 1, _, by omega, by simp, hrd3.out, hD9, hbx9, hB9⟩
              case measure => simp [intOf]; omega
        · have hdy0 : 0 ≤ dy := by omega
          clear hneg
          obtain ⟨j, hj⟩ : ∃ j : Nat, dy = (j : Int) := ⟨dy.toNat, by omega⟩
          subst hj
          have hjl : j < rs.length := by omega
          have hjI : (j : Int) < (rs.length : Int) := by omega
          have hj0 : 0 ≤ (j : Int) := by omega
          have cj := ho6.cellAt (j := j) (by rw [Hul.out]; exact hjl)
          have fj := ho6.frozen j
          have hst1 : stG rs x (n + 1) = (upG rs x n).set j 0 := by rw [stG_succ, hdy]; unfold cutAt; rw [if_neg (by omega)]; rfl
          have ho7 := (ho6.stored j 0).1
          rw [← hst1] at ho7
          have hb7 := hb6.setCell (p := ⟨g2, j, none⟩) hg2 (.int .i64 0)
          have hbx7 := hbx6.kept (grownBy_setCell2 w6 g2 j (.int .i64 0)) (by simp; omega)
          obtain ⟨w7, hw7⟩ : ∃ w7, w6.setCell ⟨g2, j, none⟩ (.int .i64 0) = w7 := ⟨_, rfl⟩
          rw [hw7] at ho7 hb7 hbx7
          clear hst1 ho6 hb6 hbx6
          have hDs5 := HDs.out.below hb7
          have hcl := cutsG_length rs x n
          have hB7 := hB.trans (hb7.mono hB.size)
          have hcu := hDs5.cuts
          have hcb := HDs.out.cuts.blk
          obtain ⟨xs, hxs⟩ : ∃ xs, cutsG rs x n = xs := ⟨_, rfl⟩
          have hcs := cutsG_succ rs x n
          rw [hxs] at hcu hcl hcs
          rw [hdy] at hcs
          have Hcs := Lib.hid hcs
          have Hcb := Lib.hid hcb
          have HD5 := Lib.hid hDs5
          have hlx : xs.length ≤ 200 := by omega
          have hs7 := hb7.size
          have hg2l : g2 < w7.heap.size := ho7.blk g2 rfl |>.2
          clear hDs5 hcl hxs hcs hcb kb4
          go_wp2_with (at_builtin; refine wpList_append_own_at _ rfl _ _ 22 rfl (w.heap.size + 1) 2 i0 (.int .i64 0) 1 8 Try.underlying22 hi hz0 hz1 hz2 rfl (by decide) _ _ _ rfl (World.ownsRow.alloc hcu _) ⟨w7.heap.size, 0, none⟩ 1 1 [.int .i64 (j : Int)] rfl rfl (Go.cell_one_new _ _ _) (by simp [Value.oneCell']) (by unfold maxLen; omega) (by omega) (by simp; omega) ?_)
          intro vc2 w8 hown' hgrow _ hat
          have hoc := ownI_snoc hown'
          rw [← Hcs.out] at hoc
          have hgr : w7.grownBy w8 u8.ownBlock := (World.grownBy_alloc _ _ _).trans hgrow
          have hat2 : vc2.ownBlock = u8.ownBlock ∨ ∀ j, vc2.ownBlock = some j → w7.heap.size ≤ j := by
            rcases hat with h | h
            · exact .inl h
            · exact .inr fun j e => by rw [h] at e; simp at e; omega
          have hD8 := HD5.out.cut hgr hoc hat2
          have ho8 : OwnI wr.heap.size w8 (.slice (some ⟨g2, 0, none⟩) rs.length c2) (stG rs x (n + 1)) := ho7.kept hgr (.inr fun e => by have := (Hcb.out g2 e.symm).2; omega)
          have hne8 : ∀ j, (Value.slice (some ⟨g2, 0, none⟩) rs.length c2).ownBlock = some j → vc2.ownBlock ≠ some j := fun j e e2 => by
            simp [Value.ownBlock] at e
            subst e
            rcases hat2 with h | h
            · rw [h] at e2; have := (Hcb.out g2 e2).2; omega
            · have := h g2 e2; omega
          have hbx8 := hbx7.kept hgr (fun e => by have := (Hcb.out _ e.symm).1; have := (HDs.out.cuts.blk _ e.symm).1; omega)
          have hB8 : Below w.heap.size w w8 := hB7.grown hgr hB7.size (fun j e => by have := (HDs.out.cuts.blk j e).1; omega)
          have HD8 := Lib.hid hD8
          have Hne8 := Lib.hid hne8
          obtain ⟨gc, cc, hvc, _, _⟩ := hD8.cuts.shape (by rw [cutsG_length]; omega)
          rw [cutsG_length] at hvc
          subst hvc
          have hccl : n + 1 ≤ cc := by
            obtain ⟨_, h2⟩ := hD8.cuts
            rcases h2 with ⟨e, _⟩ | ⟨g, c, cur, e, _, _, h3, _⟩
            · simp at e
            · rw [cutsG_length] at h3
              simp only [Value.slice.injEq] at e
              omega
          clear hown' hgrow hat hat2 hoc hgr hcu HD5 hD8 hne8 ho7 hbx7 hb7 hB7 Hcs Hcb
          go_wp2
          go_loopw [12] (fun i wr => ∃ k : Nat, k ≤ n + 1 ∧ i = .int .i64 k ∧ (∀ j, j < k → stG rs x j ≠ stG rs x (n + 1)) ∧ Below w8.heap.size w8 wr) (fun i _ => n + 1 - (intOf i).toNat)
          case atStart => exact ⟨0, Nat.zero_le _, rfl, fun j hj => by omega, Below.refl _ _⟩
          case round =>
            obtain ⟨k, hk, rfl, hall, hbq⟩ := hrel
            have Hall := Lib.hid hall
            have hDq := HD8.out.below hbq
            have hoq := ho8.below hbq
            clear hall
            by_cases hkn : k ≤ n
            · have hkI : (k : Int) ≤ (n : Int) := by omega
              have hkI2 : (k : Int) < (n : Int) + 1 := by omega
              obtain ⟨vk, hvk, hok⟩ := el_of hDq hkn
              have cak := OwnL.cellAt hDq.all hDq.len.symm hvk
              obtain ⟨gk, ck, rfl, _, _⟩ := shape_nz hok (by omega)
              by_cases he : stG rs x k = stG rs x (n + 1)
              · have hrd2 := Lib.hid (rd_some Hrd.out (backG_of Hrd.out hkn he) hlt)
                have Hde := Lib.hid (decide_eq_true he)
                have hcd := ints_drop (n := k) (show Ints _ _ (.slice (some ⟨gc, 0, none⟩) (cutsG rs x (n + 1)).length cc) (cutsG rs x (n + 1)) by rw [cutsG_length]; exact hDq.cuts.ints) (by rw [cutsG_length]; omega)
                rw [List.length_drop, cutsG_length] at hcd
                have hcl2 : ((cutsG rs x (n + 1)).drop k).length = n + 1 - k := by rw [List.length_drop, cutsG_length]
                have Hcd := Lib.hid hcd
                have Hcl2 := Lib.hid hcl2
                have hkc : ¬ cc = k := by omega
                have hkc2 : (k : Int) ≤ (cc : Int) := by omega
                have hkc3 : (n : Int) + 1 ≤ (cc : Int) := by omega
                clear he hcd hcl2 hvk
                go_wp2_with fail
                refine (l06Same_d true _ _ _ _ _ hok.ints hoq.ints (by rw [stG_length]; omega) (by rw [stG_length, stG_length]) Hde.out).mono ?_
                rintro e w9 ⟨rfl, hb9⟩
                have hcd9 := Hcd.out.later hb9
                clear cak
                go_wp2_with fail
                refine (l01Own_c _ ((cutsG rs x (n + 1)).drop k) _ (by simpa using hcd9) (by rw [Hcl2.out]; omega) (by rw [Hcl2.out]; omega)).mono ?_
                rintro e w10 ⟨vo, rfl, hoo, hb10⟩
                simp only [id]
                go_wp2
                go_ret3
                have hs8 := hB8.size
                have hs9 := hbq.size
                have hs10 := hb9.size
                refine .inl ⟨hrd2.out.2.2, vo, ?_, ?_, hB8.trans ((hbq.mono hs8).trans ((hb9.mono (by omega)).trans (hb10.mono (by omega))))⟩
                · rw [hrd2.out.2.1]; rfl
                · rw [hrd2.out.1]; exact hoo.base (by omega)
              · have Hde := Lib.hid (decide_eq_false he)
                have hall2 : ∀ j, j < k + 1 → stG rs x j ≠ stG rs x (n + 1) := fun j hj => by
                  by_cases e : j = k
                  · subst e; exact he
                  · exact Hall.out j (by omega)
                have Hall2 := Lib.hid hall2
                clear he hall2 hvk
                go_wp2_with fail
                refine (l06Same_d false _ _ _ _ _ hok.ints hoq.ints (by rw [stG_length]; omega) (by rw [stG_length, stG_length]) Hde.out).mono ?_
                rintro e w9 ⟨rfl, hb9⟩
                clear cak
                go_wp2
                go_roundw
                case rel => exact ⟨k + 1, by omega, by simp, Hall2.out, hbq.trans (hb9.mono hbq.size)⟩
                case measure => simp [intOf]; omega
            · obtain rfl : k = n + 1 := by omega
              have hrd3 := Lib.hid (roundG_next Hrd.out (backG_none fun j hj => Hall.out j (by omega)))
              have hbxq := boxed_later hbx8 hbq
              have hBq := hB8.trans (hbq.mono hB8.size)
              have hrowA : wr.ownsRow (w.heap.size + 1) 22 1 (.slice (some ⟨ga, 0, none⟩) (n + 1) ca) (n + 1) vs := by have h := hDq.all; unfold OwnL at h; rwa [hDq.len] at h
              have hsq : w.heap.size + 1 ≤ wr.heap.size := hbxq.lt
              have hlen := hDq.len
              have HDq := Lib.hid hDq
              have Hlen := Lib.hid hlen
              have hnk : ¬ ((n + 1 : Nat) : Int) ≤ (n : Int) := by omega
              have hnk2 : ¬ (n : Int) + 1 ≤ (n : Int) := by omega
              clear hDq hlen
              go_wp2_with (at_builtin; refine wpList_append_own_at _ rfl _ _ 131 rfl (w.heap.size + 1) 22 il (.slice none 0 0) 1 24 Try.underlying131 hl0 hl1 hl2 hl3 rfl (by decide) _ _ _ rfl (World.ownsRow.alloc hrowA _) ⟨wr.heap.size, 0, none⟩ 1 1 [.slice (some ⟨g2, 0, none⟩) rs.length c2] rfl rfl (Go.cell_one_new _ _ _) (by simp [Value.oneCell']) (by unfold maxLen; omega) (by omega) (by simp; omega) ?_)
              intro va2 w9 hown' hgrow _ hat
              have hgr : wr.grownBy w9 (some ga) := (World.grownBy_alloc _ _ _).trans hgrow
              have hoa : OwnL (w.heap.size + 1) w9 va2 (vs ++ [.slice (some ⟨g2, 0, none⟩) rs.length c2]) := by unfold OwnL; rw [List.length_append, Hlen.out]; exact hown'
              have ho9 : OwnI (w.heap.size + 1) w9 (.slice (some ⟨g2, 0, none⟩) rs.length c2) (stG rs x (n + 1)) := (hoq.kept hgr (keep_of_ne (u := .slice (some ⟨ga, 0, none⟩) (n + 1) ca) fun j e e2 => ownL_ne HDq.out.all hoq e2 e)).base hsw
              have hD9 := HDq.out.list hgr hoa ho9 Hne8.out
              have hgal : w.heap.size + 1 ≤ ga := (HDq.out.all.blk ga rfl).1
              have hbx9 := hbxq.kept hgr (by simp; omega)
              have hB9 : Below w.heap.size w w9 := hBq.grown hgr hBq.size (fun j e => by cases e; omega)
              clear hown' hgrow hat hgr hoa hrowA ho9 hoq
              go_wp2
              go_roundw
              case rel => exact ⟨n + 1, _, by omega, by simp, hrd3.out, hD9, hbx9, hB9⟩
              case measure => simp [intOf]; omega
    · obtain rfl : n = 200 := by omega
      have H := Lib.hid (rd_none Hrd.out)
      go_wp2
      go_ret3
      exact .inr ⟨H.out.2.2, H.out.1, H.out.2.1, rfl, hB⟩

end Go.Proofs.Ytogpkaeodgokgaa
