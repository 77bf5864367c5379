/-
  The model's number of lists of rests: l05Number.
-/
import Derived.Test.YtbhpflhopajbfaaClS
import Derived.Test.YtbhpflhopajbfaaShift
import Derived.Test.YtbhpflhopajbfaaRst
namespace Go.Proofs.Ytbhpflhopajbfaa
open Go.RowKit Go.Shelf

theorem cnt_le : ∀ {gs : List Int} {p : List (Int × Int)}, (∀ g ∈ gs, 1 ≤ g ∧ g ≤ 40) → Rst.cnt p gs ≤ 40 ^ gs.length
  | [], _, _ => by simp [Rst.cnt]
  | g :: gs, p, h => by
    have hg := h g (by simp)
    have ih := fun q => cnt_le (gs := gs) (p := q) fun x hx => h x (by simp [hx])
    rw [Rst.cnt, List.length_cons, Nat.pow_succ]
    have h1 := Rst.sumTo_le (f := fun r => if Rst.fit p ((r : Int), g) then Rst.cnt (p ++ [((r : Int), g)]) gs else 0) (g := fun _ => 40 ^ gs.length) (n := g.toNat) fun r => by
      split
      · exact ih _
      · exact Nat.zero_le _
    rw [Rst.sumTo_const] at h1
    have h2 : g.toNat * 40 ^ gs.length ≤ 40 * 40 ^ gs.length := Nat.mul_le_mul_right _ (by omega)
    rw [Nat.mul_comm]
    omega
theorem pow8 {n : Nat} (h : n ≤ 8) : 40 ^ n ≤ 6553600000000 := Nat.le_trans (Nat.pow_le_pow_right (by omega) h) (by decide)

/-- the number of the first k rests -/
def cntTo (p : List (Int × Int)) (g : Int) (gs : List Int) (k : Nat) : Nat := Rst.sumTo (fun r => if Rst.fit p ((r : Int), g) then Rst.cnt (p ++ [((r : Int), g)]) gs else 0) k
theorem cntTo_yes {p : List (Int × Int)} {g : Int} {gs : List Int} {k : Nat} (h : Rst.fit p ((k : Int), g) = true) : cntTo p g gs (k + 1) = cntTo p g gs k + Rst.cnt (p ++ [((k : Int), g)]) gs := by
  unfold cntTo; rw [Rst.sumTo, if_pos h]
theorem cntTo_no {p : List (Int × Int)} {g : Int} {gs : List Int} {k : Nat} (h : Rst.fit p ((k : Int), g) = false) : cntTo p g gs (k + 1) = cntTo p g gs k := by
  unfold cntTo; rw [Rst.sumTo, if_neg (by rw [h]; simp)]; simp
theorem cntTo_le {p : List (Int × Int)} {g : Int} {gs : List Int} (h : ∀ x ∈ gs, 1 ≤ x ∧ x ≤ 40) (h8 : gs.length ≤ 7) (k : Nat) : cntTo p g gs k ≤ k * 163840000000 := by
  have h1 := Rst.sumTo_le (f := fun r => if Rst.fit p ((r : Int), g) then Rst.cnt (p ++ [((r : Int), g)]) gs else 0) (g := fun _ => 163840000000) (n := k) fun r => by
    split
    · exact Nat.le_trans (cnt_le h) (Nat.le_trans (Nat.pow_le_pow_right (by omega) h8) (by decide))
    · exact Nat.zero_le _
  rw [Rst.sumTo_const] at h1
  exact h1
theorem cnt_drop {p : List (Int × Int)} {zs : List Int} (h : p.length < zs.length) : Rst.cnt p (zs.drop p.length) = cntTo p (nth zs p.length) (zs.drop (p.length + 1)) (nth zs p.length).toNat := by
  have : zs.drop p.length = nth zs p.length :: zs.drop (p.length + 1) := by
    rw [List.drop_eq_getElem_cons h]; simp [nth, List.getElem?_eq_getElem h]
  rw [this, Rst.cnt]; rfl

theorem box2_src {W : World} {b : Nat} {t : TypeId} {x y : Value} (h : Box2 W b t x y) : ∀ j u, [x, y][j]? = some u → W.cell? ((⟨b, 0, none⟩ : Addr).add j) = some u := by
  intro j u hj
  match j, hj with
  | 0, hj => simp at hj; subst hj; simpa [Addr.add] using h.c0
  | 1, hj => simp at hj; subst hj; simpa [Addr.add] using h.c1
  | j + 2, hj => simp at hj
theorem clss_snoc {p : List (Int × Int)} {k g : Int} (h : Clss p) (hk : 0 ≤ k ∧ k < g) (hg : g ≤ 40) : Clss (p ++ [(k, g)]) := by
  intro j hj
  rw [List.length_append, List.length_singleton] at hj
  by_cases e : j < p.length
  · have := h j e
    unfold rst gp at *
    rw [List.getElem?_append_left e]
    exact this
  · obtain rfl : j = p.length := by omega
    simp [rst, gp]
    omega
theorem rowC_later {B : Nat} {W W' : World} {v : Value} {n : Nat} {xs : List Value} (h : W.ownsRow B 106 2 v n xs) (hb : Below W.heap.size W W') : W'.ownsRow B 106 2 v n xs := by
  obtain ⟨h1, h2⟩ := h
  refine ⟨h1, ?_⟩
  rcases h2 with h2 | ⟨g, cap, cur, e, hg, hh, h3⟩
  · exact .inl h2
  · exact .inr ⟨g, cap, cur, e, hg, (hb.block g (Array.getElem?_eq_some_iff.1 hh).1).trans hh, h3⟩

end Go.Proofs.Ytbhpflhopajbfaa
