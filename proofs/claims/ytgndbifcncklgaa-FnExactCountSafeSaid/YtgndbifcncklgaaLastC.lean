/-
  The program's search for lasting states: what is known is looked up and stored; the search itself.
  Conditions: states of tasks.
-/
import Derived.Test.YtgndbifcncklgaaLastB
namespace Go.Proofs.Ytgndbifcncklgaa
open Go.RowKit Go.Shelf Go.Maps
attribute [local go_sem] Oper.semAt_some

set_option maxRecDepth 100000 in
theorem zeroB (w : World) : (zeroValue 4).run Try.prog w = .ok (.bool false) w := by kernel_rfl
theorem plainElem_bool_of {P : Program} {e : TypeId} (he : P.underlying e = some .bool) {v : Value} {b : Bool} {ps : List MemPlace} (h : plainElem (H := Unit) P e v = some (.lit (.bool b), ps)) : v = .bool b := by
  unfold plainElem at h
  rw [he] at h
  cases v <;> simp at h
  rw [h.1]
theorem plainElem_bool_inv {v : Value} {b : Bool} {ps : List MemPlace} (h : plainElem (H := Unit) Try.prog 4 v = some (.lit (.bool b), ps)) : v = .bool b := plainElem_bool_of Try.underlying4 h

/-- 'lasting, known := o.known[state]' -/
theorem look_run {w : World} {gs : List Int} {mb B : Nat} {K : Known} (hM : KMap w gs mb B K) (ht : tasksOk gs = true) {st : List Int} (hs : IsSt gs st) :
    (Instr.lookup 109 (.map (some mb)) (arrV st) true).run Try.prog w = .ok (.tuple #[.bool ((K st).getD false), .bool (K st).isSome]) w := by
  obtain ⟨n, D, hown, _, hT⟩ := hM
  obtain ⟨v, ps, hrun, hv⟩ := hown.look_ok law8 Try.underlying109 (zeroB w) (plainElem_bool Try.underlying4 false) (keyOf8 (byt_st ht hs))
  rw [hrun]
  rcases hT.2 st hs with ⟨h1, h2⟩ | ⟨b, h1, h2, h3⟩
  · rw [Maps.atKey_of_not_has h2] at hv
    obtain rfl := plainElem_bool_inv hv
    rw [h2, h1]; rfl
  · rw [h3] at hv
    obtain rfl := plainElem_bool_inv hv
    rw [h2, h1]; rfl
/-- 'o.known[state] = r' -/
theorem store_run {w : World} {gs : List Int} {mb B : Nat} (B' : Nat) {K : Known} (hM : KMap w gs mb B K) (ht : tasksOk gs = true) {st : List Int} (r : Bool) (hs : IsSt gs st) (hB : B ≤ 1000000000000000) (hB' : ∀ n, n + 2 * unk gs K ≤ B → n + 1 + 2 * unk gs (kput K st r) ≤ B') :
    ∃ w', (Instr.mapUpdate 109 (.map (some mb)) (arrV st) (.bool r)).run Try.prog w = .ok () w' ∧ KMap w' gs mb B' (kput K st r) ∧ w.grownBy w' (some mb) := by
  obtain ⟨n, D, hown, hn, hT⟩ := hM
  obtain ⟨w', hrun, h1, h2⟩ := hown.update law8 Try.underlying109 (by unfold maxLen; omega) (keyOf8 (byt_st ht hs)) (plainElem_bool Try.underlying4 r)
  exact ⟨w', hrun, ⟨n + 1, _, h1, hB' n hn, tells_put ht hown.isMap hT hs r⟩, h2⟩

theorem grown_drewN (W : World) (n : Nat) (row : Option Nat) : W.grownBy (W.drewN n) row := ⟨rfl, rfl, rfl, Nat.le_refl _, fun _ _ _ => rfl⟩
theorem grown_new {w W W' : World} {m : Nat} {row : Option Nat} (h : w.grownBy W (some m)) (k : W.grownBy W' row) (hr : ∀ r, row = some r → w.heap.size ≤ r ∨ r = m) : w.grownBy W' (some m) :=
  ⟨k.os.trans h.os, k.tape.trans h.tape, k.output.trans h.output, Nat.le_trans h.size k.size, fun i hi hne => (k.block i (Nat.lt_of_lt_of_le hi h.size) (fun e => by
    rcases hr i e.symm with h1 | h1
    · omega
    · exact hne (by rw [h1]))).trans (h.block i hi hne)⟩
theorem KLook.unk {gs : List Int} {K K' : Known} {st : List Int} {n : Nat} (h : KLook gs K st n K') : unk gs K' ≤ unk gs (kput K st true) := unk_le fun x hx => by
  by_cases e : x = st
  · subst e; rw [kput_same, h.at_]
  · rw [kput_other e] at hx ⊢; exact h.old x hx
/-- what the loop of the search keeps -/
structure Env (w : World) (bo bs bO m D L : Nat) (gs st : List Int) (rec : Loop) (W : World) : Prop where
  o : Boxed W bo 101 (.pointer (some ⟨bO, 0, none⟩))
  s : Arr W bs st
  out : Outl W bO gs m
  res : Boxed W (w.heap.size + 1) 4 (.bool false)
  own : Arr W w.heap.size st
  def_ : W.heap[D]? = some (.deferred (some []))
  rec_ : W.heap[L]? = some (.loop rec)
  grown : w.grownBy W (some m)
theorem Env.next {w : World} {bo bs bO m D L : Nat} {gs st : List Int} {rec : Loop} {W W' : World} {row : Option Nat} (h : Env w bo bs bO m D L gs st rec W) (hg : W.grownBy W' row) (hr : ∀ r, row = some r → r = m) (hm : m < w.heap.size) (h1 : w.heap.size ≤ bo) (h2 : w.heap.size ≤ bs) (h3 : bO ≠ m) (h4 : w.heap.size ≤ D) (h5 : w.heap.size ≤ L) : Env w bo bs bO m D L gs st rec W' := by
  have ne : ∀ k, k ≠ m → some k ≠ row := fun k hk e => hk (hr k e.symm)
  exact ⟨h.o.kept hg (ne _ (by omega)), h.s.kept hg (ne _ (by omega)), h.out.kept hg (ne _ h3), h.res.kept hg (ne _ (by omega)), h.own.kept hg (ne _ (by omega)),
    (hg.block D (Array.getElem?_eq_some_iff.1 h.def_).1 (ne _ (by omega))).trans h.def_, (hg.block L (Array.getElem?_eq_some_iff.1 h.rec_).1 (ne _ (by omega))).trans h.rec_, grown_new h.grown hg (fun r e => .inr (hr r e))⟩
theorem unk_zero {gs : List Int} {K : Known} (h : unk gs K ≤ 0) {st : List Int} (hs : IsSt gs st) : ∃ r, K st = some r := by
  cases hK : K st with
  | some r => exact ⟨r, rfl⟩
  | none =>
    have := unk_put (r := true) hs hK
    omega

section
variable {F : Fence} {n : Nat} {P : Program}
theorem range_done2 {l fn dd : Nat} {tmps : Array Value} {ps : Array Tmp} {assign body : Code} {Q : Exit → Act → World → Prop} {a : Act} {v : Value} {W : World}
    (hl : W.heap[l]? = some (.loop (recOf fn tmps ps assign body dd .ready none))) (h : ∀ Wx, W.grownBy Wx (some l) → Q .normal a Wx) : rangePost F n P l Q a (.returned v) W := range_done hl (h _ (grownBy_putObj' _ _ _))
theorem range_jump2 {l fn dd : Nat} {tmps : Array Value} {ps : Array Tmp} {assign body c : Code} {Q : Exit → Act → World → Prop} {a : Act} {v : Value} {W : World}
    (hl : W.heap[l]? = some (.loop (recOf fn tmps ps assign body dd .done (some c)))) (h : ∀ Wx, W.grownBy Wx (some l) → c.wpIn F n P Q a Wx) : rangePost F n P l Q a (.returned v) W := range_jump hl (h _ (grownBy_putObj' _ _ _))
end

end Go.Proofs.Ytgndbifcncklgaa
