/-
  The program's choices that keep a lasting state, at an outlook that knows rightly; checkLasting.
  Conditions: states of tasks.
-/
import Derived.Test.YtmmpoaphjjpjaaaTopI
namespace Go.Proofs.Ytmmpoaphjjpjaaa
open Go.RowKit Go.Shelf Go.Maps
attribute [local go_sem] Oper.semAt_some

open Classical in
theorem keep_good {gs : List Int} (ht : tasksOk gs = true) {bO m : Nat} {w : World} (h : Good w gs bO m) {st : List Int} (hs : IsSt gs st) (c : Int) :
    Calls Try.prog 109 #[.pointer (some ⟨bO, 0, none⟩), arrV st, .int .i64 c] w fun e w' => (∃ b, e = .returned (.tuple #[arrV b, .bool (decide (Kpc gs st c))]) ∧ (Kpc gs st c → b = stepL gs st c)) ∧ Good w' gs bO m ∧ w.grownBy w' (some m) := by
  obtain ⟨hO, B, K, hB, hM, hK⟩ := h
  refine (keep_of bO m B gs st c K w hO hM ht hs fun hop w' hO' hM' => lasts_c gs ht bO m (unk gs K) K B _ w' (Nat.le_refl _) hB hO' hM' hK.toKOk (hs.step hop)).mono ?_
  rintro e w' ⟨hg, ⟨hop, rfl, hM'⟩ | ⟨hop, r, K', rfl, hM', hd⟩⟩
  · refine ⟨⟨[], ?_, fun hk => absurd hk.1 hop⟩, ⟨hO.grown hM hg, B, K, hB, hM', hK⟩, hg⟩
    rw [decide_eq_false (fun hk => hop hk.1)]
  · obtain ⟨hK', hr⟩ := hK.done hd
    refine ⟨⟨_, ?_, fun _ => rfl⟩, ⟨hO.grown hM hg, B, K', hB, hM', hK'⟩, hg⟩
    cases r
    · rw [decide_eq_false (fun hk => by simpa using hr.2 hk.2)]
    · rw [decide_eq_true ⟨hop, hr.1 rfl⟩]

/-- what a loop over keeping choices keeps -/
structure EnvK (bo bs bO m D L : Nat) (gs st : List Int) (rec : Loop) (W : World) : Prop where
  o : Boxed W bo 69 (.pointer (some ⟨bO, 0, none⟩))
  s : Arr W bs st
  good : Good W gs bO m
  def_ : W.heap[D]? = some (.deferred (some []))
  rec_ : W.heap[L]? = some (.loop rec)
theorem Good.alloc {W : World} {gs : List Int} {bO m : Nat} (h : Good W gs bO m) (o : Obj) : Good (W.alloc o) gs bO m := h.later ((Below.refl _ W).alloc (Nat.le_refl _) _)
theorem Good.map_ {W : World} {gs : List Int} {bO m : Nat} (h : Good W gs bO m) : ∃ es cl, W.heap[m]? = some (.map es cl) := by
  obtain ⟨_, B, K, _, ⟨n, D, ⟨es, cl, h, _⟩, _⟩, _⟩ := h
  exact ⟨es, cl, h⟩
theorem Good.ne {W : World} {gs : List Int} {bO m k : Nat} {o : Obj} (h : Good W gs bO m) (hk : W.heap[k]? = some o) (ho : ∀ es cl, o ≠ .map es cl) : k ≠ m := by
  rintro rfl
  obtain ⟨es, cl, h2⟩ := h.map_
  rw [hk] at h2
  exact ho es cl (by simpa using h2)
theorem EnvK.next {bo bs bO m D L : Nat} {gs st : List Int} {rec : Loop} {W W' : World} (h : EnvK bo bs bO m D L gs st rec W) (hg : W.grownBy W' (some m)) (hG : Good W' gs bO m) : EnvK bo bs bO m D L gs st rec W' := by
  have n1 : bo ≠ m := h.good.ne h.o (by simp)
  have n2 : bs ≠ m := h.good.ne h.s (by simp)
  have n3 : D ≠ m := h.good.ne h.def_ (by simp)
  have n4 : L ≠ m := h.good.ne h.rec_ (by simp)
  exact ⟨h.o.kept hg (by simpa using n1), h.s.kept hg (by simpa using n2), hG, (hg.block D (Array.getElem?_eq_some_iff.1 h.def_).1 (by simpa using n3)).trans h.def_, (hg.block L (Array.getElem?_eq_some_iff.1 h.rec_).1 (by simpa using n4)).trans h.rec_⟩
theorem EnvK.alloc {bo bs bO m D L : Nat} {gs st : List Int} {rec : Loop} {W : World} (h : EnvK bo bs bO m D L gs st rec W) (o : Obj) : EnvK bo bs bO m D L gs st rec (W.alloc o) := h.next (World.grownBy_alloc _ _ _) (h.good.alloc o)

open Classical in
/-- a loop over the choices that keep a state: I j behind the choices below j - 1 -/
theorem keep_loop {gs : List Int} (ht : tasksOk gs = true) {bo bs bO m D L : Nat} {st : List Int} {rec : Loop} {W0 : World} (hs : IsSt gs st) (I : Nat → World → Prop) (Jx : World → Prop)
    (hmove : ∀ (j : Nat) W W', I j W → Good W gs bO m → W.grownBy W' (some m) → I j W')
    (hskip : ∀ (j : Nat) W, ¬ Kpc gs st ((j : Int) - 1) → I j W → I (j + 1) W)
    (hround : ∀ (j : Nat) W, j < gs.length + 1 → Kpc gs st ((j : Int) - 1) → EnvK bo bs bO m D L gs st rec W → I j W → YieldAt Fence.wide 9 Try.prog L #[.int .i64 ((j : Int) - 1), arrV (stepL gs st ((j : Int) - 1))] W fun e W' =>
      (e = .returned (.bool true) ∧ EnvK bo bs bO m D L gs st rec W' ∧ I (j + 1) W') ∨ (e = .returned (.bool false) ∧ Jx W'))
    (hE0 : EnvK bo bs bO m D L gs st rec W0) (h0 : I 0 W0) :
    CallsIn Fence.wide 11 Try.prog 108 #[.func (.yield L) #[] #[], .pointer (some ⟨bo, 0, none⟩), .pointer (some ⟨bs, 0, none⟩)] W0 fun e W' => (∃ v, e = .returned v) ∧
      ((EnvK bo bs bO m D L gs st rec W' ∧ I (gs.length + 1) W') ∨ Jx W') := by
  refine keeping1_at 11 L bo bs bO m gs st W0 (tasksOk_len ht).2
    (fun j W => EnvK bo bs bO m D L gs st rec W ∧ I j W)
    (fun j b W => (Kpc gs st ((j : Int) - 1) ∧ b = stepL gs st ((j : Int) - 1)) ∧ EnvK bo bs bO m D L gs st rec W ∧ I j W)
    Jx ?hInv ?hkeep ?hyield ?hA ?hB ?h0
  case h0 => exact ⟨hE0, h0⟩
  case hInv =>
    rintro j W ⟨hE, _⟩
    exact ⟨hE.o, hE.s, hE.good.1⟩
  case hA =>
    rintro j W o ⟨hE, hI⟩
    exact ⟨hE.alloc o, hmove j _ _ hI hE.good (World.grownBy_alloc _ _ _)⟩
  case hB =>
    rintro j b W o ⟨h1, hE, hI⟩
    exact ⟨h1, hE.alloc o, hmove j _ _ hI hE.good (World.grownBy_alloc _ _ _)⟩
  case hkeep =>
    rintro j W hj ⟨hE, hI⟩
    refine (keep_good ht hE.good hs _).mono ?_
    rintro e W' ⟨⟨b, rfl, hb⟩, hG, hg⟩
    have hE' := hE.next hg hG
    have hI' := hmove j _ _ hI hE.good hg
    refine ⟨b, _, rfl, fun e => ?_, fun e => ?_⟩
    · exact ⟨hE', hskip j _ (of_decide_eq_false e) hI'⟩
    · exact ⟨⟨of_decide_eq_true e, hb (of_decide_eq_true e)⟩, hE', hI'⟩
  case hyield =>
    rintro j b W hj ⟨⟨hk, rfl⟩, hE, hI⟩
    refine (hround j W hj hk hE hI).mono ?_
    rintro e W' (⟨rfl, hE', hI'⟩ | ⟨rfl, hx⟩)
    · exact .inl ⟨rfl, hE', hI'⟩
    · exact .inr ⟨rfl, hx⟩

/-! ### checkLasting -/
open Classical in
noncomputable def lastCode (zs st : List Int) : Int := if fewC zs = 0 then (if Lasting zs st then 0 else 5) else fewC zs
theorem lastCode_ok {zs st : List Int} (h : lastCode zs st = 0) : fewC zs = 0 ∧ Lasting zs st := by
  unfold lastCode at h
  by_cases hc : fewC zs = 0
  · rw [if_pos hc] at h
    by_cases hl : Lasting zs st
    · exact ⟨hc, hl⟩
    · rw [if_neg hl] at h; cases h
  · rw [if_neg hc] at h; exact absurd h hc
theorem lastCode_bd (zs st : List Int) : 0 ≤ lastCode zs st ∧ lastCode zs st ≤ 5 := by
  have := fewC_bd zs
  unfold lastCode; split <;> (try split) <;> omega

end Go.Proofs.Ytmmpoaphjjpjaaa
