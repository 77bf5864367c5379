/-
  The mathematics of lists of rests (wip/M/Rst.lean), beside the programs' own words for two classes that meet.
-/
import Derived.Test.YtbhpflhopajbfaaClD
namespace Go.Proofs.Ytbhpflhopajbfaa.Rst


/-- do two classes meet? -/
def mt (c d : Int × Int) : Bool := decide (((Nat.gcd c.2.toNat d.2.toNat : Nat) : Int) ∣ c.1 - d.1)
def fit (p : List (Int × Int)) (c : Int × Int) : Bool := p.all fun d => !mt c d
def sumTo (f : Nat → Nat) : Nat → Nat
  | 0 => 0
  | n + 1 => sumTo f n + f n
/-- in how many ways are further classes of these gaps apart behind a list? -/
def cnt : List (Int × Int) → List Int → Nat
  | _, [] => 1
  | p, g :: gs => sumTo (fun r => if fit p ((r : Int), g) then cnt (p ++ [((r : Int), g)]) gs else 0) g.toNat
/-- these ways, in order -/
def ext : List (Int × Int) → List Int → List (List (Int × Int))
  | p, [] => [p]
  | p, g :: gs => (List.range g.toNat).flatMap fun (r : Nat) => if fit p ((r : Int), g) then ext (p ++ [((r : Int), g)]) gs else []
/-- a class one slot later -/
def mv (c : Int × Int) : Int × Int := ((c.1 + 1) % c.2, c.2)

theorem sumTo_congr {f g : Nat → Nat} {n : Nat} (h : ∀ r, r < n → f r = g r) : sumTo f n = sumTo g n := by
  induction n with
  | zero => rfl
  | succ n ih => rw [sumTo, sumTo, ih (fun r hr => h r (by omega)), h n (by omega)]
theorem sumTo_const {c n : Nat} : sumTo (fun _ => c) n = n * c := by
  induction n with
  | zero => simp [sumTo]
  | succ n ih => rw [sumTo, ih, Nat.succ_mul]
theorem sumTo_front {f : Nat → Nat} {n : Nat} : sumTo f (n + 1) = f 0 + sumTo (fun r => f (r + 1)) n := by
  induction n with
  | zero => simp [sumTo]
  | succ n ih => rw [sumTo, ih, sumTo]; omega
/-- a round of a sum, one place on -/
theorem sumTo_turn {f : Nat → Nat} {n : Nat} : sumTo (fun r => f ((r + 1) % n)) n = sumTo f n := by
  cases n with
  | zero => rfl
  | succ n =>
    rw [sumTo, sumTo_front (f := f), Nat.mod_self, Nat.add_comm]
    refine congrArg (f 0 + ·) (sumTo_congr fun r hr => ?_)
    rw [Nat.mod_eq_of_lt (by omega)]

theorem mt_mv {c d : Int × Int} (hc : 1 ≤ c.2) (hd : 1 ≤ d.2) : mt (mv c) (mv d) = mt c d := by
  unfold mt mv
  have e1 : ((Nat.gcd c.2.toNat d.2.toNat : Nat) : Int) ∣ c.2 := by
    have h := Int.natCast_dvd_natCast.2 (Nat.gcd_dvd_left c.2.toNat d.2.toNat)
    rwa [Int.toNat_of_nonneg (by omega)] at h
  have e2 : ((Nat.gcd c.2.toNat d.2.toNat : Nat) : Int) ∣ d.2 := by
    have h := Int.natCast_dvd_natCast.2 (Nat.gcd_dvd_right c.2.toNat d.2.toNat)
    rwa [Int.toNat_of_nonneg (by omega)] at h
  have f1 := Int.dvd_trans e1 (Int.dvd_self_sub_emod (x := c.1 + 1) (m := c.2))
  have f2 := Int.dvd_trans e2 (Int.dvd_self_sub_emod (x := d.1 + 1) (m := d.2))
  refine decide_eq_decide.2 ⟨fun h => ?_, fun h => ?_⟩
  · have := Int.dvd_add (Int.dvd_sub f1 f2) h
    dsimp only at this
    rwa [show c.1 + 1 - (c.1 + 1) % c.2 - (d.1 + 1 - (d.1 + 1) % d.2) + ((c.1 + 1) % c.2 - (d.1 + 1) % d.2) = c.1 - d.1 by omega] at this
  · have := Int.dvd_sub h (Int.dvd_sub f1 f2)
    rwa [show c.1 - d.1 - (c.1 + 1 - (c.1 + 1) % c.2 - (d.1 + 1 - (d.1 + 1) % d.2)) = (c.1 + 1) % c.2 - (d.1 + 1) % d.2 by omega] at this
theorem fit_mv {p : List (Int × Int)} {c : Int × Int} (hp : ∀ d ∈ p, 1 ≤ d.2) (hc : 1 ≤ c.2) : fit (p.map mv) (mv c) = fit p c := by
  induction p with
  | nil => rfl
  | cons d p ih =>
    have h := ih (fun x hx => hp x (List.mem_cons_of_mem _ hx))
    unfold fit at h ⊢
    rw [List.map_cons, List.all_cons, List.all_cons, h, mt_mv hc (hp d List.mem_cons_self)]
theorem mv_nat {r : Nat} {g : Int} (hg : 1 ≤ g) : mv ((r : Int), g) = ((((r + 1) % g.toNat : Nat) : Int), g) := by
  unfold mv
  have : ((g.toNat : Nat) : Int) = g := Int.toNat_of_nonneg (by omega)
  rw [Int.natCast_emod, this]; rfl
/-- all classes moved have as many ways behind them -/
theorem cnt_mv : ∀ {gs : List Int} {p : List (Int × Int)}, (∀ d ∈ p, 1 ≤ d.2) → (∀ g ∈ gs, 1 ≤ g) → cnt (p.map mv) gs = cnt p gs
  | [], _, _, _ => rfl
  | g :: gs, p, hp, hg => by
    have hg1 : 1 ≤ g := hg g List.mem_cons_self
    unfold cnt
    rw [← sumTo_turn (n := g.toNat)]
    refine sumTo_congr fun r _ => ?_
    rw [← mv_nat hg1, fit_mv hp hg1, show p.map mv ++ [mv ((r : Int), g)] = (p ++ [((r : Int), g)]).map mv by simp]
    rw [cnt_mv (p := p ++ [((r : Int), g)]) (fun d hd => by
      rcases List.mem_append.1 hd with h | h
      · exact hp d h
      · rw [List.mem_singleton.1 h]; exact hg1) (fun x hx => hg x (List.mem_cons_of_mem _ hx))]
/-- as many lists for each first rest -/
theorem cnt_first {g : Int} {gs : List Int} (hg : 1 ≤ g) (hgs : ∀ x ∈ gs, 1 ≤ x) {r : Nat} (hr : (r : Int) < g) : cnt [((r : Int), g)] gs = cnt [((0 : Int), g)] gs := by
  induction r with
  | zero => rfl
  | succ r ih =>
    rw [← ih (by omega), ← cnt_mv (p := [((r : Int), g)]) (fun d hd => by rw [List.mem_singleton.1 hd]; exact hg) hgs]
    rw [List.map_cons, List.map_nil, mv_nat hg, Nat.mod_eq_of_lt (by omega)]
theorem cnt_all {g : Int} {gs : List Int} (hg : 1 ≤ g) (hgs : ∀ x ∈ gs, 1 ≤ x) : cnt [] (g :: gs) = g.toNat * cnt [((0 : Int), g)] gs := by
  rw [cnt, ← sumTo_const]
  refine sumTo_congr fun r hr => ?_
  rw [show fit [] ((r : Int), g) = true from rfl, if_pos rfl]
  exact cnt_first hg hgs (by omega)

/-! ### the ways themselves -/
theorem flat_len {α : Type _} {f : Nat → List α} {n : Nat} : ((List.range n).flatMap f).length = sumTo (fun r => (f r).length) n := by
  induction n with
  | zero => rfl
  | succ n ih => rw [List.range_succ, List.flatMap_append, List.length_append, ih, sumTo]; simp
theorem ext_len : ∀ {gs : List Int} {p : List (Int × Int)}, (ext p gs).length = cnt p gs
  | [], _ => rfl
  | g :: gs, p => by
    rw [ext, cnt, flat_len]
    refine sumTo_congr fun r _ => ?_
    split
    · exact ext_len
    · rfl
/-- there is a way at all exactly if there is one whose first rest is 0; then that is the first one -/
theorem ext_head {g : Int} {gs : List Int} (hg : 1 ≤ g) (hgs : ∀ x ∈ gs, 1 ≤ x) : (ext [] (g :: gs)).head? = (ext [((0 : Int), g)] gs).head? := by
  by_cases h : cnt [((0 : Int), g)] gs = 0
  · have h1 : ext [((0 : Int), g)] gs = [] := List.length_eq_zero_iff.1 (by rw [ext_len, h])
    have h2 : ext [] (g :: gs) = [] := List.length_eq_zero_iff.1 (by rw [ext_len, cnt_all hg hgs, h, Nat.mul_zero])
    rw [h1, h2]
  · obtain ⟨n, hn⟩ : ∃ n, g.toNat = n + 1 := ⟨g.toNat - 1, by omega⟩
    rw [ext, hn, List.range_succ_eq_map, List.flatMap_cons]
    rw [show fit [] (((0 : Nat) : Int), g) = true from rfl, if_pos rfl]
    cases he : ext [((0 : Int), g)] gs with
    | nil => rw [← ext_len, he] at h; exact absurd rfl h
    | cons a l =>
      have : ext ([] ++ [(((0 : Nat) : Int), g)]) gs = a :: l := he
      rw [this]; rfl

/-! ### what a way is -/
/-- each class fits those ahead of it -/
def Ap (q : List (Int × Int)) : Prop := q.Pairwise fun d c => mt c d = false
theorem fit_iff {p : List (Int × Int)} {c : Int × Int} : fit p c = true ↔ ∀ d ∈ p, mt c d = false := by
  unfold fit
  rw [List.all_eq_true]
  exact ⟨fun h d hd => by have := h d hd; simpa using this, fun h d hd => by simp [h d hd]⟩
theorem ap_snoc {p : List (Int × Int)} {c : Int × Int} (hp : Ap p) (hf : fit p c = true) : Ap (p ++ [c]) := by
  unfold Ap
  rw [List.pairwise_append]
  refine ⟨hp, List.pairwise_singleton _ _, fun d hd x hx => ?_⟩
  rw [List.mem_singleton.1 hx]
  exact fit_iff.1 hf d hd
/-- ways are apart, with these gaps behind the list -/
theorem ext_ap : ∀ {gs : List Int} {p q : List (Int × Int)}, Ap p → q ∈ ext p gs →
    Ap q ∧ ∃ rs : List (Int × Int), q = p ++ rs ∧ rs.map Prod.snd = gs ∧ ∀ c ∈ rs, 0 ≤ c.1 ∧ c.1 < c.2
  | [], p, q, hp, hq => by
    rw [ext, List.mem_singleton] at hq
    subst hq
    exact ⟨hp, [], by simp, rfl, fun c hc => by cases hc⟩
  | g :: gs, p, q, hp, hq => by
    rw [ext, List.mem_flatMap] at hq
    obtain ⟨r, hr, hq⟩ := hq
    rw [List.mem_range] at hr
    by_cases hf : fit p ((r : Int), g) = true
    · rw [if_pos hf] at hq
      obtain ⟨h1, rs, h2, h3, h4⟩ := ext_ap (ap_snoc hp hf) hq
      refine ⟨h1, ((r : Int), g) :: rs, by rw [h2]; simp, by rw [List.map_cons, h3], fun c hc => ?_⟩
      rcases List.mem_cons.1 hc with e | e
      · subst e; exact ⟨by simp, by dsimp only; omega⟩
      · exact h4 c e
    · rw [if_neg hf] at hq; cases hq

/-! ### classes that are apart have a density of at most 1 -/
def has (c : Int × Int) (n : Nat) : Bool := decide ((n : Int) % c.2 = c.1)
theorem mt_of {c d : Int × Int} {n : Nat} (hc : 1 ≤ c.2) (hd : 1 ≤ d.2) (h1 : has c n = true) (h2 : has d n = true) : mt c d = true := by
  have e1 := of_decide_eq_true h1
  have e2 := of_decide_eq_true h2
  have d1 : ((Nat.gcd c.2.toNat d.2.toNat : Nat) : Int) ∣ c.2 := by
    have h := Int.natCast_dvd_natCast.2 (Nat.gcd_dvd_left c.2.toNat d.2.toNat)
    rwa [Int.toNat_of_nonneg (by omega)] at h
  have d2 : ((Nat.gcd c.2.toNat d.2.toNat : Nat) : Int) ∣ d.2 := by
    have h := Int.natCast_dvd_natCast.2 (Nat.gcd_dvd_right c.2.toNat d.2.toNat)
    rwa [Int.toNat_of_nonneg (by omega)] at h
  have f1 := Int.dvd_trans d1 (Int.dvd_self_sub_emod (x := (n : Int)) (m := c.2))
  have f2 := Int.dvd_trans d2 (Int.dvd_self_sub_emod (x := (n : Int)) (m := d.2))
  refine decide_eq_true ?_
  rw [← e1, ← e2]
  have := Int.dvd_sub f2 f1
  rwa [show (n : Int) - (n : Int) % d.2 - ((n : Int) - (n : Int) % c.2) = (n : Int) % c.2 - (n : Int) % d.2 by omega] at this
theorem sumTo_add {f : Nat → Nat} {a b : Nat} : sumTo f (a + b) = sumTo f a + sumTo (fun k => f (a + k)) b := by
  induction b with
  | zero => rfl
  | succ b ih => rw [← Nat.add_assoc, sumTo, ih, sumTo]; omega
theorem sumTo_two {f g : Nat → Nat} {n : Nat} : sumTo (fun k => f k + g k) n = sumTo f n + sumTo g n := by
  induction n with
  | zero => rfl
  | succ n ih => rw [sumTo, ih, sumTo, sumTo]; omega
theorem sumTo_le {f g : Nat → Nat} {n : Nat} (h : ∀ r, f r ≤ g r) : sumTo f n ≤ sumTo g n := by
  induction n with
  | zero => exact Nat.le_refl _
  | succ n ih => rw [sumTo, sumTo]; have := h n; omega
theorem sumTo_one {r n : Nat} : sumTo (fun k => if k = r then 1 else 0) n = if r < n then 1 else 0 := by
  induction n with
  | zero => rfl
  | succ n ih =>
    rw [sumTo, ih]
    by_cases e : n = r
    · subst e; simp
    · rw [if_neg e]; simp only [show (r < n + 1) = (r < n) from propext (by omega)]; omega
def slots (c : Int × Int) (L : Nat) : Nat := sumTo (fun n => if has c n then 1 else 0) L
theorem slots_eq {c : Int × Int} (h0 : 0 ≤ c.1) (h1 : c.1 < c.2) (m : Nat) : slots c (c.2.toNat * m) = m := by
  unfold slots
  induction m with
  | zero => rfl
  | succ m ih =>
    rw [Nat.mul_succ, sumTo_add, ih]
    have : sumTo (fun k => if has c (c.2.toNat * m + k) then 1 else 0) c.2.toNat = sumTo (fun k => if k = c.1.toNat then 1 else 0) c.2.toNat := sumTo_congr fun k hk => by
      have e : ((c.2.toNat * m + k : Nat) : Int) % c.2 = (k : Int) := by
        rw [Int.natCast_add, Int.natCast_mul, Int.toNat_of_nonneg (by omega), Int.mul_add_emod_self_left]
        exact Int.emod_eq_of_lt (by omega) (by omega)
      have : has c (c.2.toNat * m + k) = decide (k = c.1.toNat) := by
        unfold has
        rw [e]
        exact decide_eq_decide.2 (by omega)
      rw [this]
      by_cases e : k = c.1.toNat <;> simp [e]
    rw [this, sumTo_one, if_pos (by omega)]
theorem one_has {q : List (Int × Int)} (hq : Ap q) (h1 : ∀ c ∈ q, 1 ≤ c.2) (n : Nat) : (q.map fun c => if has c n then 1 else 0).sum ≤ 1 := by
  induction q with
  | nil => simp
  | cons c q ih =>
    have hp := List.pairwise_cons.1 hq
    have h2 := ih hp.2 (fun x hx => h1 x (List.mem_cons_of_mem _ hx))
    rw [List.map_cons, List.sum_cons]
    by_cases hc : has c n = true
    · have : (q.map fun c => if has c n then 1 else 0) = q.map fun _ => 0 := List.map_congr_left fun d hd => by
        by_cases e : has d n = true
        · have := mt_of (h1 d (List.mem_cons_of_mem _ hd)) (h1 c List.mem_cons_self) e hc
          rw [hp.1 d hd] at this; cases this
        · rw [if_neg e]
      rw [this, if_pos hc]
      have : (q.map fun _ => (0 : Nat)).sum = 0 := by
        clear ih h2 this hp hq h1
        induction q with
        | nil => rfl
        | cons d q ih => rw [List.map_cons, List.sum_cons, ih]
      omega
    · rw [if_neg hc]; omega
theorem slots_sum {q : List (Int × Int)} {L : Nat} : (q.map fun c => slots c L).sum = sumTo (fun n => (q.map fun c => if has c n then 1 else 0).sum) L := by
  induction q with
  | nil => simp [sumTo_const]
  | cons c q ih =>
    rw [List.map_cons, List.sum_cons, ih]
    unfold slots
    rw [← sumTo_two]
    exact sumTo_congr fun n _ => by rw [List.map_cons, List.sum_cons]
/-- CLASSES THAT ARE APART: over a common multiple of the gaps, the parts of the gaps are no more than the whole. -/
theorem ap_dens {q : List (Int × Int)} (hq : Ap q) (hb : ∀ c ∈ q, 0 ≤ c.1 ∧ c.1 < c.2) {L : Nat} (hL : ∀ c ∈ q, c.2.toNat ∣ L) : (q.map fun c => L / c.2.toNat).sum ≤ L := by
  have h1 : (q.map fun c => L / c.2.toNat) = q.map fun c => slots c L := List.map_congr_left fun c hc => by
    obtain ⟨m, hm⟩ := hL c hc
    have h := hb c hc
    rw [hm, slots_eq h.1 h.2, Nat.mul_div_cancel_left _ (by omega)]
  rw [h1, slots_sum]
  have h2 := sumTo_le (n := L) (one_has hq (fun c hc => by have := hb c hc; omega))
  rwa [sumTo_const, Nat.mul_one] at h2
/-- two classes with gaps that have no common divisor meet -/
theorem mt_gcd {c d : Int × Int} (h : Nat.gcd c.2.toNat d.2.toNat = 1) : mt c d = true := decide_eq_true (by rw [h]; exact Int.one_dvd _)

theorem mt_comm (c d : Int × Int) : mt c d = mt d c := by
  unfold mt
  rw [Nat.gcd_comm]
  refine decide_eq_decide.2 ⟨fun h => ?_, fun h => ?_⟩
  · rw [← Int.neg_sub]; exact Int.dvd_neg.2 h
  · rw [← Int.neg_sub]; exact Int.dvd_neg.2 h

end Go.Proofs.Ytbhpflhopajbfaa.Rst
namespace Go.Proofs.Ytbhpflhopajbfaa
theorem meet2_mt (x y x' y' : Int) : meet2 x y x' y' = Rst.mt (x, y) (x', y') := by
  unfold meet2 Rst.mt
  exact decide_eq_decide.2 ⟨fun h => Int.dvd_of_tmod_eq_zero h, fun h => Int.tmod_eq_zero_of_dvd h⟩
/-- a list's element k and the class c: as the model asks them -/
def fitTo (p : List (Int × Int)) (c : Int × Int) (k : Nat) : Bool := Rst.fit (p.take k) c
theorem fitTo_zero (p : List (Int × Int)) (c : Int × Int) : fitTo p c 0 = true := rfl
theorem fitTo_succ {p : List (Int × Int)} {c : Int × Int} {k : Nat} (hk : k < p.length) : fitTo p c (k + 1) = (fitTo p c k && !meet2 (rst p k) (gp p k) c.1 c.2) := by
  unfold fitTo Rst.fit
  rw [List.take_add_one, List.all_append, meet2_mt, Rst.mt_comm]
  simp [rst, gp, List.getElem?_eq_getElem hk]
theorem fitTo_all (p : List (Int × Int)) (c : Int × Int) : fitTo p c p.length = Rst.fit p c := by unfold fitTo; rw [List.take_length]
theorem fitTo_false {p : List (Int × Int)} {c : Int × Int} {k : Nat} (h : fitTo p c k = false) : Rst.fit p c = false := by
  unfold fitTo Rst.fit at h
  unfold Rst.fit
  rw [List.all_eq_false] at h ⊢
  obtain ⟨d, hd, h2⟩ := h
  exact ⟨d, List.mem_of_mem_take hd, h2⟩

end Go.Proofs.Ytbhpflhopajbfaa
