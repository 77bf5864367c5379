/-
  The program's choices that keep a lasting state, at an outlook that knows rightly; checkLasting.
  Conditions: states of tasks.
-/
import Derived.Test.YthggpmgjgibcoaaTopI
namespace Go.Proofs.Ythggpmgjgibcoaa
open Go.RowKit Go.Shelf Go.Maps
attribute [local go_sem] Oper.semAt_some

open Classical in
theorem keep_good {gs : List Int} (ht : tasksOk gs = true) {bO m : Nat} {w : World} (h : Good w gs bO m) {st : List Int} (hs : IsSt gs st) (c : Int) :
    Calls Try.prog 145 #[.pointer (some ⟨bO, 0, none⟩), arrV st, .int .i64 c] w fun e w' => (∃ b, e = .returned (.tuple #[arrV b, .bool (decide (Kpc gs st c))]) ∧ (Kpc gs st c → b = stepL gs st c)) ∧ Good w' gs bO m ∧ w.grownBy w' (some m) := by
  obtain ⟨hO, B, K, hB, hM, hK⟩ := h
  refine (keep_of bO m B gs st c K w hO hM ht hs fun hop w' hO' hM' => lasts_c gs ht bO m (unk gs K) K B _ w' (Nat.le_refl _) hB hO' hM' hK.toKOk (hs.step hop)).mono ?_
  rintro e w' ⟨hg, ⟨hop, rfl, hM'⟩ | ⟨hop, r, K', rfl, hM', hd⟩⟩
  · refine ⟨⟨[], ?_, fun hk => absurd hk.1 hop⟩, ⟨hO.grown hM hg, B, K, hB, hM', hK⟩, hg⟩
    rw [decide_eq_false (fun hk => hop hk.1)]
  · obtain ⟨hK', hr⟩ := hK.done hd
    refine ⟨⟨_, ?_, fun _ => rfl⟩, ⟨hO.grown hM hg, B, K', hB, hM', hK'⟩, hg⟩
    cases r
    · rw [decide_eq_false (fun hk => by simpa using hr.2 hk.2)]
    · rw [decide_eq_true ⟨hop, hr.1 rfl⟩]

/-- what a loop over keeping choices keeps -/
structure EnvK (bo bs bO m D L : Nat) (gs st : List Int) (rec : Loop) (W : World) : Prop where
  o : Boxed W bo 108 (.pointer (some ⟨bO, 0, none⟩))
  s : Arr W bs st
  good : Good W gs bO m
  def_ : W.heap[D]? = some (.deferred (some []))
  rec_ : W.heap[L]? = some (.loop rec)
theorem Good.alloc {W : World} {gs : List Int} {bO m : Nat} (h : Good W gs bO m) (o : Obj) : Good (W.alloc o) gs bO m := h.later ((Below.refl _ W).alloc (Nat.le_refl _) _)
theorem Good.map_ {W : World} {gs : List Int} {bO m : Nat} (h : Good W gs bO m) : ∃ es cl, W.heap[m]? = some (.map es cl) := by
  obtain ⟨_, B, K, _, ⟨n, D, ⟨es, cl, h, _⟩, _⟩, _⟩ := h
  exact ⟨es, cl, h⟩
theorem Good.ne {W : World} {gs : List Int} {bO m k : Nat} {o : Obj} (h : Good W gs bO m) (hk : W.heap[k]? = some o) (ho : ∀ es cl, o ≠ .map es cl) : k ≠ m := by
  rintro rfl
  obtain ⟨es, cl, h2⟩ := h.map_
  rw [hk] at h2
  exact ho es cl (by simpa using h2)
theorem EnvK.next {bo bs bO m D L : Nat} {gs st : List Int} {rec : Loop} {W W' : World} (h : EnvK bo bs bO m D L gs st rec W) (hg : W.grownBy W' (some m)) (hG : Good W' gs bO m) : EnvK bo bs bO m D L gs st rec W' := by
  have n1 : bo ≠ m := h.good.ne h.o (by simp)
  have n2 : bs ≠ m := h.good.ne h.s (by simp)
  have n3 : D ≠ m := h.good.ne h.def_ (by simp)
  have n4 : L ≠ m := h.good.ne h.rec_ (by simp)
  exact ⟨h.o.kept hg (by simpa using n1), h.s.kept hg (by simpa using n2), hG, (hg.block D (Array.getElem?_eq_some_iff.1 h.def_).1 (by simpa using n3)).trans h.def_, (hg.block L (Array.getElem?_eq_some_iff.1 h.rec_).1 (by simpa using n4)).trans h.rec_⟩
theorem EnvK.alloc {bo bs bO m D L : Nat} {gs st : List Int} {rec : Loop} {W : World} (h : EnvK bo bs bO m D L gs st rec W) (o : Obj) : EnvK bo bs bO m D L gs st rec (W.alloc o) := h.next (World.grownBy_alloc _ _ _) (h.good.alloc o)

open Classical in
/-- a loop over the choices that keep a state: I j behind the choices below j - 1 -/
theorem keep_loop {gs : List Int} (ht : tasksOk gs = true) {bo bs bO m D L : Nat} {st : List Int} {rec : Loop} {W0 : World} (hs : IsSt gs st) (I : Nat → World → Prop) (Jx : World → Prop)
    (hmove : ∀ (j : Nat) W W', I j W → Good W gs bO m → W.grownBy W' (some m) → I j W')
    (hskip : ∀ (j : Nat) W, ¬ Kpc gs st ((j : Int) - 1) → I j W → I (j + 1) W)
    (hround : ∀ (j : Nat) W, j < gs.length + 1 → Kpc gs st ((j : Int) - 1) → EnvK bo bs bO m D L gs st rec W → I j W → YieldAt Fence.wide 9 Try.prog L #[.int .i64 ((j : Int) - 1), arrV (stepL gs st ((j : Int) - 1))] W fun e W' =>
      (e = .returned (.bool true) ∧ EnvK bo bs bO m D L gs st rec W' ∧ I (j + 1) W') ∨ (e = .returned (.bool false) ∧ Jx W'))
    (hE0 : EnvK bo bs bO m D L gs st rec W0) (h0 : I 0 W0) :
    CallsIn Fence.wide 11 Try.prog 174 #[.func (.yield L) #[] #[], .pointer (some ⟨bo, 0, none⟩), .pointer (some ⟨bs, 0, none⟩)] W0 fun e W' => (∃ v, e = .returned v) ∧
      ((EnvK bo bs bO m D L gs st rec W' ∧ I (gs.length + 1) W') ∨ Jx W') := by
  refine keeping1_at 11 L bo bs bO m gs st W0 (tasksOk_len ht).2
    (fun j W => EnvK bo bs bO m D L gs st rec W ∧ I j W)
    (fun j b W => (Kpc gs st ((j : Int) - 1) ∧ b = stepL gs st ((j : Int) - 1)) ∧ EnvK bo bs bO m D L gs st rec W ∧ I j W)
    Jx ?hInv ?hkeep ?hyield ?hA ?hB ?h0
  case h0 => exact ⟨hE0, h0⟩
  case hInv =>
    rintro j W ⟨hE, _⟩
    exact ⟨hE.o, hE.s, hE.good.1⟩
  case hA =>
    rintro j W o ⟨hE, hI⟩
    exact ⟨hE.alloc o, hmove j _ _ hI hE.good (World.grownBy_alloc _ _ _)⟩
  case hB =>
    rintro j b W o ⟨h1, hE, hI⟩
    exact ⟨h1, hE.alloc o, hmove j _ _ hI hE.good (World.grownBy_alloc _ _ _)⟩
  case hkeep =>
    rintro j W hj ⟨hE, hI⟩
    refine (keep_good ht hE.good hs _).mono ?_
    rintro e W' ⟨⟨b, rfl, hb⟩, hG, hg⟩
    have hE' := hE.next hg hG
    have hI' := hmove j _ _ hI hE.good hg
    refine ⟨b, _, rfl, fun e => ?_, fun e => ?_⟩
    · exact ⟨hE', hskip j _ (of_decide_eq_false e) hI'⟩
    · exact ⟨⟨of_decide_eq_true e, hb (of_decide_eq_true e)⟩, hE', hI'⟩
  case hyield =>
    rintro j b W hj ⟨⟨hk, rfl⟩, hE, hI⟩
    refine (hround j W hj hk hE hI).mono ?_
    rintro e W' (⟨rfl, hE', hI'⟩ | ⟨rfl, hx⟩)
    · exact .inl ⟨rfl, hE', hI'⟩
    · exact .inr ⟨rfl, hx⟩

/-! ### checkLasting -/
open Classical in
noncomputable def lastCode (zs st : List Int) : Int := if fewC zs = 0 then (if Lasting zs st then 0 else 5) else fewC zs
theorem lastCode_ok {zs st : List Int} (h : lastCode zs st = 0) : fewC zs = 0 ∧ Lasting zs st := by
  unfold lastCode at h
  by_cases hc : fewC zs = 0
  · rw [if_pos hc] at h
    by_cases hl : Lasting zs st
    · exact ⟨hc, hl⟩
    · rw [if_neg hl] at h; cases h
  · rw [if_neg hc] at h; exact absurd h hc
theorem lastCode_bd (zs st : List Int) : 0 ≤ lastCode zs st ∧ lastCode zs st ≤ 5 := by
  have := fewC_bd zs
  unfold lastCode; split <;> (try split) <;> omega

set_option maxRecDepth 100000 in
set_option maxHeartbeats 8000000 in
theorem checkLasting_c (c0 : Value) (zs : List Int) (c1 : Value) (st : List Int) (w : World) (hI : Ints w.heap.size w c0 zs) (hN : I64s zs) (hm : zs.length ≤ 1048576) (hT : Ints w.heap.size w c1 st) (hst0 : stCode zs st = 0) :
    Calls Try.prog 125 #[.agg #[c0], c1] w fun e w' => ((lastCode zs st = 0 ∧ ∃ bO m, e = .returned (.tuple #[.pointer (some ⟨bO, 0, none⟩), .int .i64 0]) ∧ Good w' zs bO m ∧ w.heap.size ≤ bO ∧ w.heap.size ≤ m) ∨
      (lastCode zs st ≠ 0 ∧ e = .returned (.tuple #[.pointer none, .int .i64 (lastCode zs st)]))) ∧ Below w.heap.size w w' := by
  obtain ⟨a, cap, rfl⟩ := hI.shape
  obtain ⟨a2, cap2, rfl⟩ := hT.shape
  obtain ⟨ht, hs⟩ := stCode_zero hst0
  obtain ⟨hl8, hbd⟩ := bytes_st ht hs
  have hB0 : Below w.heap.size w (w.alloc (.cells #[.slice a zs.length cap] 26)) := (Below.refl _ w).alloc (Nat.le_refl _) _
  by_cases hc : fewC zs = 0
  · have Hc := Lib.hid hc
    by_cases hlast : Lasting zs st
    · have Hl := Lib.hid (show lastCode zs st = 0 by unfold lastCode; rw [if_pos hc, if_pos hlast])
      have Hd := Lib.hid (open Classical in decide_eq_true hlast)
      clear hc
      go_enter Try.func125, Try.ntmps125
      go_wp2_with fail
      refine (checkStatesOf_c _ zs _ (hI.later hB0) hN hm).mono ?_
      rintro e w2 ⟨he, hb2⟩
      rw [Hc.out] at he
      subst he
      have b1 : Boxed w2 w.heap.size 26 (.slice a zs.length cap) := boxed_later (Boxed.new _ _ _) hb2
      have k2 := b1.cell
      have hB2 := hB0.trans (hb2.mono hB0.size)
      go_wp2_with fail
      refine (outlookOf_c _ zs _ (hI.later hB2) ht).mono ?_
      rintro e w3 ⟨bO, m, rfl, hO, hM, hbo, hbm, hb3⟩
      have hB3 := hB2.trans (hb3.mono hB2.size)
      have hG := Good.new ht hO hM
      go_wp2_with fail
      refine (taskStateOf_c _ st _ (hT.later hB3) hl8 hbd).mono ?_
      rintro e w4 ⟨rfl, hb4⟩
      have hB4 := hB3.trans (hb4.mono hB3.size)
      have hG4 := hG.later hb4
      go_wp2_with fail
      refine (lasts_good ht hG4 hs).mono ?_
      rintro e w5 ⟨he, hG5, hg5⟩
      rw [Hd.out] at he
      subst he
      have hsz := hB2.size
      clear hM hO
      go_wp2
      go_ret2
      exact ⟨.inl ⟨Hl.out, bO, m, rfl, hG5, by omega, by omega⟩, hB4.grown hg5 hB4.size (fun j e => by cases e; omega)⟩
    · have hl5 : lastCode zs st = 5 := by unfold lastCode; rw [if_pos hc, if_neg hlast]
      have Hl := Lib.hid hl5
      have Hd := Lib.hid (open Classical in decide_eq_false hlast)
      clear hc hl5
      go_enter Try.func125, Try.ntmps125
      go_wp2_with fail
      refine (checkStatesOf_c _ zs _ (hI.later hB0) hN hm).mono ?_
      rintro e w2 ⟨he, hb2⟩
      rw [Hc.out] at he
      subst he
      have b1 : Boxed w2 w.heap.size 26 (.slice a zs.length cap) := boxed_later (Boxed.new _ _ _) hb2
      have k2 := b1.cell
      have hB2 := hB0.trans (hb2.mono hB0.size)
      go_wp2_with fail
      refine (outlookOf_c _ zs _ (hI.later hB2) ht).mono ?_
      rintro e w3 ⟨bO, m, rfl, hO, hM, hbo, hbm, hb3⟩
      have hB3 := hB2.trans (hb3.mono hB2.size)
      have hG := Good.new ht hO hM
      go_wp2_with fail
      refine (taskStateOf_c _ st _ (hT.later hB3) hl8 hbd).mono ?_
      rintro e w4 ⟨rfl, hb4⟩
      have hB4 := hB3.trans (hb4.mono hB3.size)
      have hG4 := hG.later hb4
      go_wp2_with fail
      refine (lasts_good ht hG4 hs).mono ?_
      rintro e w5 ⟨he, hG5, hg5⟩
      rw [Hd.out] at he
      subst he
      have hsz := hB2.size
      clear hM hO
      go_wp2
      go_ret2
      refine ⟨.inr ⟨by rw [Hl.out]; omega, ?_⟩, hB4.grown hg5 hB4.size (fun j e => by cases e; omega)⟩
      rw [Hl.out]; rfl
  · have Hl := Lib.hid (show lastCode zs st = fewC zs by unfold lastCode; rw [if_neg hc])
    have hq : (fewC zs != 0) = true := by simpa using hc
    have Hne := Lib.hid hc
    have hp := fewC_bd zs
    clear hc
    go_enter Try.func125, Try.ntmps125
    go_wp2_with fail
    refine (checkStatesOf_c _ zs _ (hI.later hB0) hN hm).mono ?_
    rintro e w2 ⟨rfl, hb2⟩
    go_wp2
    go_ret2
    refine ⟨.inr ⟨by rw [Hl.out]; exact Hne.out, ?_⟩, hB0.trans (hb2.mono hB0.size)⟩
    rw [Hl.out]; rfl

end Go.Proofs.Ythggpmgjgibcoaa
