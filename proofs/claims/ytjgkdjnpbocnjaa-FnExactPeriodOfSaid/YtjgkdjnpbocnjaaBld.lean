/-
  strings.Builder: the writing of a string.
  Conditions: the builder's bytes and the string's together are far below the machine's limit.
-/
import Derived.Test.YtjgkdjnpbocnjaaTextS
import Derived.Test.YtjgkdjnpbocnjaaShelf
namespace Go.Proofs.Ytjgkdjnpbocnjaa
open Go.RowKit Go.Shelf
attribute [local go_sem] Oper.semAt_some

theorem Try.infoBld : (Try.prog.info? 100).map (fun i => i.size) = some 2 := by kernel_rfl

set_option maxRecDepth 100000 in
set_option maxHeartbeats 2000000 in
theorem check_used (b : Nat) (w : World) (h0 : w.cell? ⟨b, 0, none⟩ = some (.pointer (some ⟨b, 0, none⟩))) :
    Calls Try.prog 92 #[.pointer (some ⟨b, 0, none⟩)] w fun e w' => e = .returned (.tuple #[]) ∧ w' = w := by
  obtain ⟨j, hj, hjs⟩ := Option.map_eq_some_iff.1 Try.infoBld
  go_enter Try.func92, Try.ntmps92
  go_wp2
  rw [Lib.run_neq_ptr_same w _ Try.underlying97 hj]
  go_wp2
  go_end0
  exact ⟨rfl, rfl⟩

set_option maxRecDepth 100000 in
set_option maxHeartbeats 2000000 in
theorem check_fresh (b : Nat) (w : World) (h0 : w.cell? ⟨b, 0, none⟩ = some (.pointer none)) (hsh : w.shape? b = some (100, 2)) (hfz : w.frozen? ⟨b, 0, none⟩ = false) :
    Calls Try.prog 92 #[.pointer (some ⟨b, 0, none⟩)] w fun e w' => e = .returned (.tuple #[]) ∧ w' = w.setCell ⟨b, 0, none⟩ (.pointer (some ⟨b, 0, none⟩)) := by
  obtain ⟨j, hj, hjs⟩ := Option.map_eq_some_iff.1 Try.infoBld
  go_enter Try.func92, Try.ntmps92
  go_wp2
  rw [Lib.run_to_unsafe w ⟨b, 0, none⟩ Try.underlying97 Try.underlying135 hj (by rw [hjs]; decide) hsh (Nat.zero_lt_succ 1)]
  simp only [Result.andThen]
  rw [Oper.upon_value]
  go_wp2
  rw [run_callFunc_extern Try.func104 (by kernel_rfl) (by kernel_rfl) (by kernel_rfl) (e := Extern.AbiNoEscape.same) (by kernel_rfl)]
  rw [Lib.run_noEscape]
  simp only [Result.andThen]
  rw [Oper.upon_value]
  go_wp2
  rw [Lib.run_from_unsafe w ⟨b, 0, none⟩ Try.underlying135 Try.underlying97 hj hsh (by kernel_rfl)]
  simp only [Result.andThen]
  rw [Oper.upon_value]
  go_wp2
  go_end0
  exact ⟨rfl, rfl⟩

theorem info_partsU {P : Program} {t : TypeId} {z : Value} {a b : Nat} (h : (P.info? t).map (fun i => (i.zero, i.size, i.bytes)) = some (some z, a, b)) : ∃ i, P.info? t = some i ∧ i.zero = some z ∧ i.size = a ∧ i.bytes = b := by
  obtain ⟨i, hi, h⟩ := Option.map_eq_some_iff.1 h
  simp only [Prod.mk.injEq] at h
  exact ⟨i, hi, h.1, h.2.1, h.2.2⟩

/-- THE BUILDER AT b HOLDS THE BYTES bs, in a row from top on. -/
def Bld (top b : Nat) (bs : List UInt8) (W : World) : Prop :=
  ∃ p v, (p = .pointer none ∨ p = .pointer (some ⟨b, 0, none⟩)) ∧ W.heap[b]? = some (.cells #[p, v] 100 (0, 0)) ∧ W.ownsRow top 5 1 v bs.length (Lib.byteCells bs)

theorem bld_Own {β : Type} (top b : Nat) (f : β → List UInt8) : Own (fun s W => Bld top b (f s) W) := fun s X Y row hs hg hrow => by
  obtain ⟨p, v, hp, hb, ho⟩ := hs
  refine ⟨p, v, hp, ?_, ?_⟩
  · refine (hg.block b (Array.getElem?_eq_some_iff.1 hb).1 ?_).trans hb
    intro e
    obtain ⟨o, ho2, hc⟩ := hrow b e.symm
    rw [hb] at ho2
    cases ho2
    simp [Obj.isCells] at hc
  · refine World.ownsRow.kept ho hg ?_
    rcases ho.2 with ⟨rfl, _⟩ | ⟨g, cap, cur, rfl, _, hh, _⟩
    · exact .inl rfl
    · refine .inr fun e => ?_
      obtain ⟨o, ho2, hc⟩ := hrow g (by rw [← e]; rfl)
      rw [hh] at ho2
      cases ho2
      simp [Obj.isCells] at hc

set_option maxRecDepth 100000 in
set_option maxHeartbeats 4000000 in
theorem writeStr_c (top b : Nat) (bs : List UInt8) (s : ByteArray) (w : World) (h : Bld top b bs w) (hbt : b < top) (htw : top ≤ w.heap.size) (hlen : bs.length + s.size ≤ 140737488355328) :
    Calls Try.prog 71 #[.pointer (some ⟨b, 0, none⟩), .string s] w fun e w' => (∃ v, e = .returned v) ∧ Bld top b (bs ++ s.data.toList) w' ∧ Below b w w' ∧ Kps (fun k => k ≠ b ∧ k < top) w w' := by
  obtain ⟨i0, hi, hz0, hz1, hz2⟩ := info_partsU Try.infoU
  obtain ⟨p, v, hp, hb, hown⟩ := h
  have hlt : b < w.heap.size := by omega
  have hck : Calls Try.prog 92 #[.pointer (some ⟨b, 0, none⟩)] w fun e w' => e = .returned (.tuple #[]) ∧ w'.heap[b]? = some (.cells #[.pointer (some ⟨b, 0, none⟩), v] 100 (0, 0)) ∧ w'.ownsRow top 5 1 v bs.length (Lib.byteCells bs) ∧ Below b w w' ∧ Kps (fun k => k ≠ b ∧ k < top) w w' := by
    rcases hp with rfl | rfl
    · refine (check_fresh b w (by simp [World.cell?, hb]) (by simp [World.shape?, hb]) (by simp [World.frozen?, hb])).mono ?_
      rintro e w' ⟨rfl, rfl⟩
      refine ⟨rfl, by simp [World.setCell, Array.getElem?_modify, hb], World.ownsRow.kept hown (row := some b) (grownBy_setCell2 _ _ _ _) (.inr fun e => ?_), (Below.refl b w).setCell (p := ⟨b, 0, none⟩) (Nat.le_refl _) _, Kps.setCell _ _ _ _ (fun h => h.1 rfl)⟩
      have := (World.ownsRow.lt hown b e).1; omega
    · refine (check_used b w (by simp [World.cell?, hb])).mono ?_
      rintro e w' ⟨rfl, rfl⟩
      exact ⟨rfl, hb, hown, Below.refl _ _, Kps.refl _ _⟩
  go_enter Try.func71, Try.ntmps71
  go_wp2_with fail
  refine hck.mono ?_
  rintro e w1 ⟨rfl, hb1, hown1, hB1, hK1⟩
  have hs1 := hB1.size
  have c1 : w1.cell? ⟨b, 1, none⟩ = some v := by simp [World.cell?, hb1]
  clear hck hp hb hown
  go_wp2_with (at_builtin; refine Lib.wpList_append_own_string _ rfl _ _ 98 9 rfl top 5 i0 Try.underlying98 Try.underlying9 hi hz0 hz1 hz2 _ _ _ rfl hown1 s rfl ?c3 ?c4 ?c5 ?_)
  case c3 => unfold maxLen; omega
  case c4 => omega
  case c5 => omega
  intro v' w2 hown' hgrow _
  have hlo : ∀ k, v.ownBlock = some k → top ≤ k := fun k e => (World.ownsRow.lt hown1 k e).1
  have hb2 : w2.heap[b]? = some (.cells #[.pointer (some ⟨b, 0, none⟩), v] 100 (0, 0)) := (hgrow.block b (by omega) (fun e => by have := hlo b e.symm; omega)).trans hb1
  have d1 : w2.cell? ⟨b, 1, none⟩ = some v := by simp [World.cell?, hb2]
  have f1 : w2.frozen? ⟨b, 1, none⟩ = false := by simp [World.frozen?, hb2]
  obtain ⟨ao, n', cap, rfl⟩ : ∃ ao n' cap, v' = .slice ao n' cap := by
    rcases hown'.2 with ⟨hv, _⟩ | ⟨g, cap, cur, hv, _⟩
    · exact ⟨_, _, _, hv⟩
    · exact ⟨_, _, _, hv⟩
  have hB2 : Below b w w2 := hB1.grown hgrow (by omega) (fun k e => by have := hlo k e; omega)
  have hK2 : Kps (fun k => k ≠ b ∧ k < top) w w2 := hK1.trans (Kps.grown hgrow (fun k e h => by have := hlo k e; omega))
  go_wp2
  go_ret2
  refine ⟨⟨_, rfl⟩, ⟨.pointer (some ⟨b, 0, none⟩), .slice ao n' cap, .inr rfl, by simp [World.setCell, Array.getElem?_modify, hb2], ?_⟩, hB2.setCell (p := ⟨b, 1, none⟩) (Nat.le_refl _) _, hK2.trans (Kps.setCell _ _ _ _ (fun h => h.1 rfl))⟩
  have h9 := World.ownsRow.kept hown' (row := some b) (grownBy_setCell2 w2 b 1 (.slice ao n' cap)) (.inr fun e => by have := (World.ownsRow.lt hown' b e).1; omega)
  rw [List.length_append, Lib.byteCells_append]
  simpa [Lib.strCells_eq] using h9

end Go.Proofs.Ytjgkdjnpbocnjaa
