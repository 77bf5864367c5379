/-
  BestTurns of the model: the recursive search l10Best.
  Conditions: lists of at most 1048576 elements.
-/
import Derived.Maps.AppendAt
import Derived.Test.YtgndbifcncklgaaBtk
namespace Go.Proofs.Ytgndbifcncklgaa
open Go.RowKit Go.Shelf
attribute [local go_sem] Oper.semAt_some

set_option maxRecDepth 100000 in
set_option maxHeartbeats 16000000 in
theorem l10Best_c (ws : List Int) (n : Nat) (sv : Value) (hW : Wgt ws 1) (hl3 : ws.length ≤ 3) (hn : 1 ≤ n ∧ n ≤ 8) (r : Nat) : ∀ (p v : Nat) (zs : List Int), p + r = n → zs = dig ws.length p v → ∀ (g cp B : Nat) (w : World), Ints w.heap.size w sv ws → OwnI B w (.slice (some ⟨g, 0, none⟩) zs.length cp) zs → B ≤ w.heap.size →
    Calls Try.prog 77 #[sv, .slice (some ⟨g, 0, none⟩) zs.length cp, .int .i64 n] w (BestPost B w (subB ws n v r)) := by
  induction r with
  | zero =>
    intro p v zs hpr hz g cp B w hI ho hB
    have hp : p = n := by omega
    subst hp
    rw [subB_zero, ← hz]
    exact l10Best_leaf ws zs p sv g cp B w hW hl3 hn (by rw [hz, dig_len]) hI ho
  | succ r ih =>
    intro p v zs hpr hz g cp B w hI ho hB
    obtain ⟨a, cap, rfl⟩ := hI.shape
    obtain ⟨i0, hi, hz0, hz1, hz2⟩ := info_parts Try.infoI2
    have hl := hW.len
    have hzl : zs.length = p := by rw [hz, dig_len]
    have hzb : zs.length ≤ 7 := by omega
    have hzi : ((zs.length : Int) == (n : Int)) = false := by simp; omega
    have hnx : ∀ k : Nat, k < ws.length → zs ++ [(k : Int)] = dig ws.length (p + 1) (v * ws.length + k) := fun k hk => by
      have h1 : (v * ws.length + k) / ws.length = v := by rw [Nat.mul_comm, Nat.mul_add_div (by omega), Nat.div_eq_of_lt hk]; rfl
      have h2 : (v * ws.length + k) % ws.length = k := by rw [Nat.mul_comm, Nat.mul_add_mod, Nat.mod_eq_of_lt hk]
      simp only [dig, h1, h2, ← hz]
    have Hnx := Lib.hid hnx
    have hrec : ∀ k : Nat, k < ws.length → ∀ (g cp B : Nat) (w : World), Ints w.heap.size w (.slice a ws.length cap) ws → OwnI B w (.slice (some ⟨g, 0, none⟩) (zs ++ [(k : Int)]).length cp) (zs ++ [(k : Int)]) → B ≤ w.heap.size → Calls Try.prog 77 #[.slice a ws.length cap, .slice (some ⟨g, 0, none⟩) (zs.length + 1) cp, .int .i64 n] w (BestPost B w (subB ws n (v * ws.length + k) r)) := fun k hk g cp B w h1 h2 h3 => by
      have h4 := ih (p + 1) (v * ws.length + k) (zs ++ [(k : Int)]) (by omega) (hnx k hk) g cp B w h1 h2 h3
      have e : (zs ++ [(k : Int)]).length = zs.length + 1 := by simp
      rw [e] at h4
      exact h4
    have Hrec := Lib.hid hrec
    have Hend := Lib.hid (midB_all ws n v r)
    have hT := ho.ints
    clear hrec hz hzl hW hnx ih hpr
    have hB0 : Below w.heap.size w (w.alloc (.cells #[] 2)) := (Below.refl _ w).alloc (Nat.le_refl _) _
    have hoA := (ownI_empty w).base hB
    go_enter Try.func77, Try.ntmps77
    go_wp2
    go_loopw [9, 10, 11] (fun best least i W => ∃ (k : Nat), k ≤ ws.length ∧ i = .int .i64 k ∧ least = .int .i64 (bstS (midB ws n v r k)) ∧ OwnI B W best (bstL (midB ws n v r k)) ∧ Below w.heap.size w W) (fun _ _ i _ => ws.length - (intOf i).toNat)
    case atStart => exact ⟨0, Nat.zero_le _, rfl, by rw [midB_zero]; rfl, by rw [midB_zero]; exact hoA, hB0⟩
    case round =>
      clear hoA hB0
      obtain ⟨k, hk, rfl, rfl, hou, hBw⟩ := hrel
      obtain ⟨M, hM⟩ : ∃ M, midB ws n v r k = M := ⟨_, rfl⟩
      have HM := Lib.hid hM
      rw [hM] at hou ⊢
      have hsw := hBw.size
      by_cases hlt : k < ws.length
      · have Hst := Lib.hid (show midB ws n v r (k + 1) = comb M (subB ws n (v * ws.length + k) r) by rw [midB_succ, hM])
        clear hM
        obtain ⟨S, hS⟩ : ∃ S, subB ws n (v * ws.length + k) r = S := ⟨_, rfl⟩
        rw [hS] at Hst
        have HS := Lib.hid hS
        clear hS
        obtain ⟨LM, hLM⟩ : ∃ LM, bstS M = LM := ⟨_, rfl⟩
        have HLM := Lib.hid hLM
        rw [hLM]
        clear hLM
        go_wp2_with fail
        refine (l01OwnS_c g 0 cp zs _ (hT.later hBw) (by omega)).mono ?_
        rintro e w2 ⟨v1, rfl, ho1, hb1⟩
        simp only [id]
        have hB1 := hBw.trans (hb1.mono hsw)
        have ho1b := ho1.base hsw
        have hne : u9.ownBlock = none ∨ u9.ownBlock ≠ v1.ownBlock := by
          cases hq : u9.ownBlock with
          | none => exact .inl rfl
          | some q => exact .inr fun e => by have h1 := (ho1.blk q e.symm).1; have h2 := (hou.blk q hq).2; omega
        have hou1 := hou.below hb1
        have hsw2 := hB1.size
        clear hb1 ho1 hou
        go_wp2_with (at_builtin; refine wpList_append_own_at _ rfl _ _ 24 rfl w.heap.size 2 i0 (.int .i64 0) 1 8 Try.underlying24 hi hz0 hz1 hz2 rfl (by decide) _ _ _ rfl (World.ownsRow.alloc ho1b _) ⟨w2.heap.size, 0, none⟩ 1 1 [.int .i64 ((k : Int))] rfl rfl (Go.cell_one_new _ _ _) (by simp [Value.oneCell']) (by unfold maxLen; omega) (by omega) (by simp; omega) ?_)
        intro v' w1 hown' hgrow _ hat
        have ho2 := ownI_snoc hown'
        have hB2 : Below w.heap.size w w1 := (hB1.alloc hsw2 _).grown hgrow (by simp; omega) (fun j e => by have := (ho1b.blk j e).1; omega)
        have hgr : w2.grownBy w1 _ := (World.grownBy_alloc _ _ _).trans hgrow
        have hat2 : v'.ownBlock = v1.ownBlock ∨ ∀ j, v'.ownBlock = some j → w2.heap.size ≤ j := by rcases hat with h | h; (first | exact .inl h); exact .inr fun j e => by rw [h] at e; simp at e; omega
        clear hown' hgrow hat
        have hou2 := hou1.kept hgr hne
        clear hgr hat2 hou1 ho1b hne hsw2 hB1
        obtain ⟨g3, c3, e3, hg3, hg3l⟩ := ho2.shape (by simp)
        subst e3
        go_wp2_with fail
        refine (Hrec.out k hlt g3 c3 B w1 (hI.later hB2) (ho2.base hB) (Nat.le_trans hB hB2.size)).mono ?_
        rintro e w3 ⟨u3, rfl, hou3, hb3⟩
        rw [HS.out] at hou3 ⊢
        have hB3 := hB2.trans (hb3.mono hB2.size)
        have hou4 := hou2.below hb3
        clear hb3 hou2 ho2 hB2 hg3 hg3l
        cases S with
        | none =>
          have Hn := Lib.hid (Hst.out.trans (comb_none M))
          simp only [bstS]
          go_wp2
          go_roundw
          case rel => exact ⟨k + 1, by omega, by simp, by rw [Hn.out, HLM.out], by rw [Hn.out]; exact hou4, hB3⟩
          case measure => simp [intOf]; omega
        | some y =>
          obtain ⟨s, hs⟩ : ∃ s : Int, (y.2 : Int) = s := ⟨_, rfl⟩
          have hs0 : 0 ≤ s := by omega
          have Hs := Lib.hid hs
          simp only [bstS]
          rw [hs]
          cases M with
          | none =>
            have hlm : LM = -1 := HLM.out.symm
            subst hlm
            have Hn := Lib.hid (Hst.out.trans (none_comb (some y)))
            clear hs
            go_wp2
            go_roundw
            case rel => exact ⟨k + 1, by omega, by simp, by rw [Hn.out]; simp only [bstS]; rw [Hs.out], by rw [Hn.out]; exact hou3, hB3⟩
            case measure => simp [intOf]; omega
          | some x =>
            have hx : (x.2 : Int) = LM := HLM.out
            have hl0 : ¬ LM < 0 := by omega
            by_cases hc : y.2 < x.2
            · have Hn := Lib.hid (Hst.out.trans (comb_lt hc))
              have hc2 : s < LM := by omega
              clear hc hs hx
              go_wp2
              go_roundw
              case rel => exact ⟨k + 1, by omega, by simp, by rw [Hn.out]; simp only [bstS]; rw [Hs.out], by rw [Hn.out]; exact hou3, hB3⟩
              case measure => simp [intOf]; omega
            · have Hn := Lib.hid (Hst.out.trans (comb_ge hc))
              have hc2 : ¬ s < LM := by omega
              clear hc hs hx
              go_wp2
              go_roundw
              case rel => exact ⟨k + 1, by omega, by simp, by rw [Hn.out, HLM.out], by rw [Hn.out]; exact hou4, hB3⟩
              case measure => simp [intOf]; omega
      · obtain rfl : k = ws.length := by omega
        have Hf := Lib.hid (hM.symm.trans Hend.out)
        clear hM
        go_wp2
        go_ret2
        exact ⟨u9, by rw [← Hf.out]; rfl, by rw [← Hf.out]; exact hou, hBw⟩

end Go.Proofs.Ytgndbifcncklgaa
