/-
  SplitClass of the program.
  Conditions: lists of at most 1048576 elements.
-/
import Derived.Test.YtckkhgpciglbmaaClR
namespace Go.Proofs.Ytckkhgpciglbmaa
open Go.RowKit Go.Shelf
attribute [local go_sem] Oper.semAt_some

def pick3 {α : Type} (x y z : α) : Nat → α
  | 0 => x
  | 1 => y
  | _ => z

set_option maxRecDepth 100000 in
set_option maxHeartbeats 8000000 in
theorem i_SplitClass (c0 : Value) (cs : List (Int × Int)) (x1 x2 : Int) (w : World) (hI : Cls w.heap.size w c0 cs) (hN : C64 cs) (hm : cs.length ≤ 1048576) (hcp : CapOk c0 cs.length) (hx1 : I64 x1) (hx2 : I64 x2) :
    Calls Try.prog 70 #[c0, .int .i64 x1, .int .i64 x2] w (GivesC w (spR cs x1 x2) fun v => .tuple #[v, .int .i64 (spC cs x1 x2)]) := by
  obtain ⟨a, cap, rfl⟩ := hI.shape
  cases h1 : clsOk cs
  · have hc : spC cs x1 x2 = 1 := by unfold spC; rw [h1]; rfl
    have Hr := Lib.hid (spR_no (cs := cs) (i := x1) (m := x2) (by omega))
    have Hc := Lib.hid hc
    have H := Lib.hid h1
    clear h1 hc
    go_enter Try.func70, Try.ntmps70
    go_wp2_with fail
    refine (i_AreClasses _ cs _ hI hN hm).mono ?_
    rintro e w1 ⟨he, hb⟩
    rw [H.out] at he
    subst he
    go_wp2
    go_ret2
    exact ⟨_, ret_vi2 Hc.out.symm, by rw [Hr.out]; exact ownC_nil _ _, hb⟩
  have hl := clsOk_len h1
  have H := Lib.hid h1
  obtain ⟨y1, y2⟩ := hx1
  obtain ⟨y3, y4⟩ := hx2
  have range : (inB x1 0 (cs.length - 1) && inB x2 2 8) = false → Hid (spR cs x1 x2 = []) ∧ Hid (spC cs x1 x2 = 2) := fun hz => by
    have hc : spC cs x1 x2 = 2 := by unfold spC; rw [h1, hz]; rfl
    exact ⟨Lib.hid (spR_no (by omega)), Lib.hid hc⟩
  by_cases k1 : x1 < 0
  · obtain ⟨Hr, Hc⟩ := range (by rw [inB_false.2 (by omega)]; rfl)
    clear h1 range
    go_enter Try.func70, Try.ntmps70
    go_wp2_with fail
    refine (i_AreClasses _ cs _ hI hN hm).mono ?_
    rintro e w1 ⟨he, hb⟩
    rw [H.out] at he
    subst he
    go_wp2
    go_ret2
    exact ⟨_, ret_vi2 Hc.out.symm, by rw [Hr.out]; exact ownC_nil _ _, hb⟩
  by_cases k2 : (cs.length : Int) ≤ x1
  · obtain ⟨Hr, Hc⟩ := range (by rw [inB_false.2 (by omega)]; rfl)
    clear h1 range
    go_enter Try.func70, Try.ntmps70
    go_wp2_with fail
    refine (i_AreClasses _ cs _ hI hN hm).mono ?_
    rintro e w1 ⟨he, hb⟩
    rw [H.out] at he
    subst he
    go_wp2
    go_ret2
    exact ⟨_, ret_vi2 Hc.out.symm, by rw [Hr.out]; exact ownC_nil _ _, hb⟩
  by_cases k3 : x2 < 2
  · obtain ⟨Hr, Hc⟩ := range (by rw [show inB x2 2 8 = false from inB_false.2 (by omega), Bool.and_false])
    clear h1 range
    go_enter Try.func70, Try.ntmps70
    go_wp2_with fail
    refine (i_AreClasses _ cs _ hI hN hm).mono ?_
    rintro e w1 ⟨he, hb⟩
    rw [H.out] at he
    subst he
    go_wp2
    go_ret2
    exact ⟨_, ret_vi2 Hc.out.symm, by rw [Hr.out]; exact ownC_nil _ _, hb⟩
  by_cases k4 : 8 < x2
  · obtain ⟨Hr, Hc⟩ := range (by rw [show inB x2 2 8 = false from inB_false.2 (by omega), Bool.and_false])
    clear h1 range
    go_enter Try.func70, Try.ntmps70
    go_wp2_with fail
    refine (i_AreClasses _ cs _ hI hN hm).mono ?_
    rintro e w1 ⟨he, hb⟩
    rw [H.out] at he
    subst he
    go_wp2
    go_ret2
    exact ⟨_, ret_vi2 Hc.out.symm, by rw [Hr.out]; exact ownC_nil _ _, hb⟩
  clear range
  have h2 : inB x1 0 (cs.length - 1) = true := inB_true.2 (by omega)
  have h3 : inB x2 2 8 = true := inB_true.2 (by omega)
  obtain ⟨i, rfl⟩ := Int.eq_ofNat_of_zero_le (show 0 ≤ x1 by omega)
  obtain ⟨m, rfl⟩ := Int.eq_ofNat_of_zero_le (show 0 ≤ x2 by omega)
  have hil : i < cs.length := by omega
  have hgi := clsOk_at h1 hil
  obtain ⟨g, hgq⟩ : ∃ g : Nat, gp cs i = g := ⟨(gp cs i).toNat, by omega⟩
  obtain ⟨r, hrq⟩ : ∃ r : Nat, rst cs i = r := ⟨(rst cs i).toNat, by omega⟩
  have hp1 : g * m ≤ 40 * 8 := Nat.mul_le_mul (by omega) (by omega)
  obtain ⟨p, hp⟩ : ∃ p : Nat, g * m = p := ⟨_, rfl⟩
  have hpi : (g : Int) * (m : Int) = (p : Int) := by rw [← hp]; simp
  have hpi2 : (m : Int) * (g : Int) = (p : Int) := by rw [← hp, Nat.mul_comm]; simp
  rw [hp] at hp1
  have hu : spC cs i m = if 8 < (cs.length : Int) + m - 1 ∨ 40 < (p : Int) then 3 else 0 := by
    unfold spC; rw [h1, h2, h3, if_pos rfl]; simp only [Bool.and_self, if_true, Int.toNat_natCast, hgq, hpi2]
  have hiI : (i : Int) < (cs.length : Int) := by omega
  by_cases h4 : 8 < (cs.length : Int) - 1 + m
  · have hc : spC cs i m = 3 := by rw [hu, if_pos (.inl (by omega))]
    have Hr := Lib.hid (spR_no (cs := cs) (i := i) (m := m) (by omega))
    have Hc := Lib.hid hc
    clear h1 h2 h3 hc hu hp hgq hrq
    go_enter Try.func70, Try.ntmps70
    go_wp2_with fail
    refine (i_AreClasses _ cs _ hI hN hm).mono ?_
    rintro e w1 ⟨he, hb⟩
    rw [H.out] at he
    subst he
    go_wp2
    go_ret2
    exact ⟨_, ret_vi2 Hc.out.symm, by rw [Hr.out]; exact ownC_nil _ _, hb⟩
  obtain ⟨b, off, rfl, hbb, hcc⟩ := hI.at_ hil
  obtain ⟨e1, e2⟩ := hcc i hil
  rw [hgq] at e2
  rw [hrq] at e1
  have hwp : IntKind.i64.wrap ((p : Nat) : Int) = p := by rw [IntKind.wrap_i64]; omega
  by_cases h5 : 40 < (p : Int)
  · have hc : spC cs i m = 3 := by rw [hu, if_pos (.inr h5)]
    have Hr := Lib.hid (spR_no (cs := cs) (i := i) (m := m) (by omega))
    have Hc := Lib.hid hc
    clear h1 h2 h3 hc hu hp hgq hrq hcc
    go_enter Try.func70, Try.ntmps70
    go_wp2_with fail
    refine (i_AreClasses _ cs _ hI hN hm).mono ?_
    rintro e w1 ⟨he, hb⟩
    rw [H.out] at he
    subst he
    have e3 := (hb.cell (p := ⟨b, off + i * 2 + 1, none⟩) hbb).trans e2
    have e4 := (hb.cell (p := ⟨b, off + i * 2, none⟩) hbb).trans e1
    go_wp2_with fail
    refine (gap_c r g _).mono ?_
    rintro e w2 ⟨rfl, hb2⟩
    go_wp2
    go_ret2
    exact ⟨_, ret_vi2 Hc.out.symm, by rw [Hr.out]; exact ownC_nil _ _, hb.trans (hb2.mono hb.size)⟩
  have hc : spC cs i m = 0 := by rw [hu, if_neg (by omega)]
  have Hr := Lib.hid (show spR cs i m = splitL cs i m by unfold spR; rw [if_pos hc]; simp)
  have Hc := Lib.hid hc
  have Hgq := Lib.hid hgq
  have Hrq := Lib.hid hrq
  rw [hgq, hrq] at hgi
  obtain ⟨_, _, hce, hcap, hcapm⟩ := hcp
  cases hce
  unfold maxLen at hcapm
  have hic : (i : Int) ≤ (cap : Int) := by omega
  have hic2 : ((i : Int) + 1) ≤ (cs.length : Int) := by omega
  have hic3 : (cs.length : Int) ≤ (cap : Int) := by omega
  have hfw : Try.prog.follows Departure.mixedOrders = true := by kernel_rfl
  clear h1 h2 h3 hc hu hp hgq hrq hcc
  have hIt : Cls w.heap.size w (.slice (some ⟨b, off, none⟩) i cap) (cs.take i) := cls_take hI (by omega)
  have hId := cls_drop (k := i + 1) hI (by omega)
  have HIt := Lib.hid hIt
  have HId := Lib.hid hId
  have HI := Lib.hid hI
  clear hIt hId
  obtain ⟨ad, had, had1, had2⟩ : ∃ ad : Addr, (if cap = i + 1 then some (⟨b, off, none⟩ : Addr) else some ⟨b, off + (i + 1) * 2, none⟩) = some ad ∧ (cap = i + 1 → ad = ⟨b, off, none⟩) ∧ (¬ cap = i + 1 → ad = ⟨b, off + (i + 1) * 2, none⟩) := by
    by_cases hq : cap = i + 1
    · exact ⟨_, if_pos hq, fun _ => rfl, fun h => absurd hq h⟩
    · exact ⟨_, if_neg hq, fun h => absurd h hq, fun _ => rfl⟩
  have hwi : IntKind.i64.wrap ((i : Int) + 1) = (i : Int) + 1 := by rw [IntKind.wrap_i64]; omega
  have hti : ((i : Int) + 1).toNat = i + 1 := by omega
  have Had := Lib.hid had
  have Had1 := Lib.hid (And.intro had1 had2)
  clear had had1 had2
  go_enter Try.func70, Try.ntmps70
  go_wp2_with fail
  refine (i_AreClasses _ cs _ hI hN hm).mono ?_
  rintro e w1 ⟨he, hb⟩
  rw [H.out] at he
  subst he
  have e3 := (hb.cell (p := ⟨b, off + i * 2 + 1, none⟩) hbb).trans e2
  have e4 := (hb.cell (p := ⟨b, off + i * 2, none⟩) hbb).trans e1
  go_wp2_with fail
  refine (gap_c r g _).mono ?_
  rintro e w2 ⟨rfl, hb2⟩
  have hB2 := hb.trans (hb2.mono hb.size)
  clear hb hb2 e3 e4 hI hN
  go_wp2_with fail
  refine wp_region_held_drew (S := fun w' => Below w.heap.size w w') hfw hB2.drew ?_
  intro hS0
  refine wpAnyH_take (i := 0) (v := ?vv1q0) rfl (by kernel_rfl) (by kernel_rfl) (by kernel_rfl) (fun _ _ _ h => h) (.inl ⟨by first | kernel_rfl | rfl, ?yv1q0⟩) hS0 ?_
  case yv1q0 =>
    intro w' hS
    (have e3 := (hS.cell (p := ⟨b, off + i * 2 + 1, none⟩) hbb).trans e2; have e4 := (hS.cell (p := ⟨b, off + i * 2, none⟩) hbb).trans e1; clear hS)
    go_simp
    try with_reducible rfl
  refine wpAnyH_take (i := 1) (v := ?vv1q1) rfl (by kernel_rfl) (by kernel_rfl) (by kernel_rfl) (fun _ _ _ h => h) (.inl ⟨by first | kernel_rfl | rfl, ?yv1q1⟩) hS0 ?_
  case yv1q1 =>
    intro w' hS
    (have e3 := (hS.cell (p := ⟨b, off + i * 2 + 1, none⟩) hbb).trans e2; have e4 := (hS.cell (p := ⟨b, off + i * 2, none⟩) hbb).trans e1; clear hS)
    go_simp
    try with_reducible rfl
  refine wpAnyH_take (i := 2) (v := ?vv1q2) rfl (by kernel_rfl) (by kernel_rfl) (by kernel_rfl) (fun _ _ _ h => h) (.inl ⟨by first | kernel_rfl | rfl, ?yv1q2⟩) hS0 ?_
  case yv1q2 =>
    intro w' hS
    (have e3 := (hS.cell (p := ⟨b, off + i * 2 + 1, none⟩) hbb).trans e2; have e4 := (hS.cell (p := ⟨b, off + i * 2, none⟩) hbb).trans e1; clear hS)
    go_simp
    try with_reducible rfl
  refine wpAnyH_take (i := 3) (v := ?vv1q3) rfl (by kernel_rfl) (by kernel_rfl) (by kernel_rfl) (fun _ _ _ h => h) (.inl ⟨by first | kernel_rfl | rfl, ?yv1q3⟩) hS0 ?_
  case yv1q3 =>
    intro w' hS
    (have e3 := (hS.cell (p := ⟨b, off + i * 2 + 1, none⟩) hbb).trans e2; have e4 := (hS.cell (p := ⟨b, off + i * 2, none⟩) hbb).trans e1; clear hS)
    go_simp
    try with_reducible rfl
  refine wpAnyH_take (i := 4) (v := ?vv1q4) rfl (by kernel_rfl) (by kernel_rfl) (by kernel_rfl) (fun _ _ _ h => h) (.inl ⟨by first | kernel_rfl | rfl, ?yv1q4⟩) hS0 ?_
  case yv1q4 =>
    intro w' hS
    (have e3 := (hS.cell (p := ⟨b, off + i * 2 + 1, none⟩) hbb).trans e2; have e4 := (hS.cell (p := ⟨b, off + i * 2, none⟩) hbb).trans e1; clear hS)
    go_simp
    try with_reducible rfl
  refine wpAnyH_take (i := 5) (v := ?vv1q5) rfl (by kernel_rfl) (by kernel_rfl) (by kernel_rfl) (fun _ _ _ h => h) (.inl ⟨by first | kernel_rfl | rfl, ?yv1q5⟩) hS0 ?_
  case yv1q5 =>
    intro w' hS
    (have e3 := (hS.cell (p := ⟨b, off + i * 2 + 1, none⟩) hbb).trans e2; have e4 := (hS.cell (p := ⟨b, off + i * 2, none⟩) hbb).trans e1; clear hS)
    go_simp
    try with_reducible rfl
  refine wpAnyH_take (i := 6) (v := ?vv1q6) rfl (by kernel_rfl) (by kernel_rfl) (by kernel_rfl) (fun _ _ _ h => h) (.inl ⟨by first | kernel_rfl | rfl, ?yv1q6⟩) hS0 ?_
  case yv1q6 =>
    intro w' hS
    (have e3 := (hS.cell (p := ⟨b, off + i * 2 + 1, none⟩) hbb).trans e2; have e4 := (hS.cell (p := ⟨b, off + i * 2, none⟩) hbb).trans e1; clear hS)
    go_simp
    try with_reducible rfl
  refine wpAnyH_take (i := 7) (v := ?vv1q7) rfl (by kernel_rfl) (by kernel_rfl) (by kernel_rfl) (fun _ _ _ h => h) (.inl ⟨by first | kernel_rfl | rfl, ?yv1q7⟩) hS0 ?_
  case yv1q7 =>
    intro w' hS
    (have e3 := (hS.cell (p := ⟨b, off + i * 2 + 1, none⟩) hbb).trans e2; have e4 := (hS.cell (p := ⟨b, off + i * 2, none⟩) hbb).trans e1; clear hS)
    go_simp
    try with_reducible rfl
  refine wpAnyH_take (i := 9) (v := ?vv1q9) rfl (by kernel_rfl) (by kernel_rfl) (by kernel_rfl) (fun _ _ _ h => h) (.inl ⟨by first | kernel_rfl | rfl, ?yv1q9⟩) hS0 ?_
  case yv1q9 =>
    intro w' hS
    (have e3 := (hS.cell (p := ⟨b, off + i * 2 + 1, none⟩) hbb).trans e2; have e4 := (hS.cell (p := ⟨b, off + i * 2, none⟩) hbb).trans e1; clear hS)
    go_simp
    try with_reducible rfl
  refine wpAnyH_take (i := 10) (v := ?vv1q10) rfl (by kernel_rfl) (by kernel_rfl) (by kernel_rfl) (fun _ _ _ h => h) (.inl ⟨by first | kernel_rfl | rfl, ?yv1q10⟩) hS0 ?_
  case yv1q10 =>
    intro w' hS
    (have e3 := (hS.cell (p := ⟨b, off + i * 2 + 1, none⟩) hbb).trans e2; have e4 := (hS.cell (p := ⟨b, off + i * 2, none⟩) hbb).trans e1; clear hS)
    go_simp
    try with_reducible rfl
  refine wpAnyH_take (i := 11) (v := (.int .i64 ((i : Int) + 1))) rfl (by kernel_rfl) (by kernel_rfl) (by kernel_rfl) (fun _ _ _ h => h) (.inl ⟨by first | kernel_rfl | rfl, ?yv2q11⟩) hS0 ?_
  case yv2q11 =>
    intro w' hS
    (clear hS)
    go_simp
    first | done | (simp; done) | (simp; omega) | omega | (simp [*]; done)
  refine wpAnyH_take (i := 12) (v := (.slice (some ad) (cs.length - (i + 1)) (cap - (i + 1)))) rfl (by kernel_rfl) (by kernel_rfl) (by kernel_rfl) (fun _ _ _ h => h) (.inl ⟨by first | kernel_rfl | rfl, ?yv3q12⟩) hS0 ?_
  case yv3q12 =>
    intro w' hS
    (clear hS)
    go_simp
    (rw [← Had.out])
    first | done | (simp; done) | (simp; omega) | omega | (simp [*]; done)
  refine wpAnyH_ready (rs := [8]) (by kernel_rfl) (by simp) ?_
  refine AllReadyH.cons rfl (fun K' hK' => ?_) AllReadyH.nil
  rw [if_pos (by first | kernel_rfl | rfl)]
  go_simp
  refine (parts_c r g m _ (by omega) (by omega) (by omega)).mono ?_
  rintro e w3 ⟨v, rfl, ho3, hb3⟩
  have hB3 := hS0.trans (hb3.mono hS0.size)
  rw [partsTo_length] at ho3
  obtain ⟨g3, c3, rfl, hg3, hg4⟩ := ho3.shape (by omega)
  refine hK'.out _ _ hB3 fun hS1 => ?_
  clear hS0 hb3 hB2
  refine wpAnyH_ready (rs := [13]) (by kernel_rfl) (by simp) ?_
  refine AllReadyH.cons rfl (fun K' hK' => ?_) AllReadyH.nil
  rw [if_pos (by first | kernel_rfl | rfl)]
  go_simp
  refine hK'.out _ _ (hB3.alloc hB3.size _) fun hS2 => ?_
  refine wpAnyH_ready (rs := [14]) (by kernel_rfl) (by simp) ?_
  refine AllReadyH.cons rfl (fun K' hK' => ?_) AllReadyH.nil
  rw [if_pos (by first | kernel_rfl | rfl)]
  go_simp
  have hl0 : (cs.take i).length = i := by simp; omega
  have hl1 : (partsTo (r : Int) g m m).length = m := partsTo_length _ _ _ _
  have hl2 : (cs.drop (i + 1)).length = cs.length - (i + 1) := by simp
  have hB4 : Below w.heap.size w (w3.alloc (.cells #[.slice (some ⟨b, off, none⟩) i cap, .slice (some ⟨g3, 0, none⟩) m c3, .slice (some ad) (cs.length - (i + 1)) (cap - (i + 1))] 54)) := hB3.alloc hB3.size _
  have hB5 : Below w3.heap.size w3 (w3.alloc (.cells #[.slice (some ⟨b, off, none⟩) i cap, .slice (some ⟨g3, 0, none⟩) m c3, .slice (some ad) (cs.length - (i + 1)) (cap - (i + 1))] 54)) := (Below.refl _ _).alloc (Nat.le_refl _) _
  have hcat : catTo (pick3 (cs.take i) (partsTo (r : Int) g m m) (cs.drop (i + 1))) 3 = splitL cs i m := by
    rw [splitL_eq, Hrq.out, Hgq.out]
    simp [catTo, pick3]
  have hC1 : Cls w3.heap.size w3 (.slice (some ⟨g3, 0, none⟩) m c3) (partsTo (r : Int) g m m) := by
    have h := ho3.prs
    unfold Cls
    rw [hl1]
    exact h
  have hC2 : Cls w.heap.size w (.slice (some ad) (cs.length - (i + 1)) (cap - (i + 1))) (cs.drop (i + 1)) := by
    by_cases hq : cap = i + 1
    · refine ⟨some ad, cap - (i + 1), by rw [hl2], flat_length _, .inl (by rw [hl2]; omega)⟩
    · rw [Had1.out.2 hq]
      exact HId.out
  refine (concat3_c 3 (pick3 (cs.take i) (partsTo (r : Int) g m m) (cs.drop (i + 1))) (pick3 ⟨b, off, none⟩ ⟨g3, 0, none⟩ ad) (pick3 cap c3 (cap - (i + 1))) _ w3.heap.size (by simp) (fun k hk => ?_) (fun k hk => ?_) (by omega) (by rw [hcat, splitL_length hil]; omega) (fun k hk => ?_)).mono ?_
  · match k, hk with
    | 0, _ => show _ = some (Value.slice (some ⟨b, off, none⟩) (cs.take i).length cap); rw [hl0]; simp [go_sem]
    | 1, _ => show _ = some (Value.slice (some ⟨g3, 0, none⟩) (partsTo (r : Int) g m m).length c3); rw [hl1]; simp [go_sem]
    | 2, _ => show _ = some (Value.slice (some ad) (cs.drop (i + 1)).length (cap - (i + 1))); rw [hl2]; simp [go_sem]
  · match k, hk with
    | 0, _ => show Cls _ _ (Value.slice (some ⟨b, off, none⟩) (cs.take i).length cap) (cs.take i); rw [hl0]; exact HIt.out.later hB4
    | 1, _ => show Cls _ _ (Value.slice (some ⟨g3, 0, none⟩) (partsTo (r : Int) g m m).length c3) (partsTo (r : Int) g m m); rw [hl1]; exact hC1.later hB5
    | 2, _ => show Cls _ _ (Value.slice (some ad) (cs.drop (i + 1)).length (cap - (i + 1))) (cs.drop (i + 1)); rw [hl2]; exact hC2.later hB4
  · have : (catTo (pick3 (cs.take i) (partsTo (r : Int) g m m) (cs.drop (i + 1))) k).length ≤ (catTo (pick3 (cs.take i) (partsTo (r : Int) g m m) (cs.drop (i + 1))) 3).length := by
      match k, hk with
      | 0, _ => simp [catTo]
      | 1, _ => simp [catTo]
      | 2, _ => simp [catTo]
      | 3, _ => simp
    rw [hcat, splitL_length hil] at this
    omega
  · rintro e w4 ⟨v, rfl, ho4, hb4⟩
    rw [hcat] at ho4
    have hB6 := hB4.trans (hb4.mono hB4.size)
    have ho5 : OwnC w.heap.size w4 v (splitL cs i m).length (flat (splitL cs i m)) := ho4.base hB4.size
    clear hC1 hC2 hS1 hS2 ho4 hb4 hB5 hcat
    refine hK'.out _ _ hB6 fun hS3 => ?_
    refine wpAnyH_take (i := 15) (v := ?vv4q15) rfl (by kernel_rfl) (by kernel_rfl) (by kernel_rfl) (fun _ _ _ h => h) (.inl ⟨by first | kernel_rfl | rfl, ?yv4q15⟩) hS3 ?_
    case yv4q15 =>
      intro w' hS
      (clear hS)
      go_simp
      try with_reducible rfl
    refine wpAnyH_take (i := 16) (v := ?vv4q16) rfl (by kernel_rfl) (by kernel_rfl) (by kernel_rfl) (fun _ _ _ h => h) (.inl ⟨by first | kernel_rfl | rfl, ?yv4q16⟩) hS3 ?_
    case yv4q16 =>
      intro w' hS
      (clear hS)
      go_simp
      try with_reducible rfl
    refine wpAnyH_done (by kernel_rfl) ?_ _
    clear hS3
    go_wp2
    go_ret2
    exact ⟨_, ret_vi2 Hc.out.symm, by rw [Hr.out]; exact ho5, hB6⟩

end Go.Proofs.Ytckkhgpciglbmaa
