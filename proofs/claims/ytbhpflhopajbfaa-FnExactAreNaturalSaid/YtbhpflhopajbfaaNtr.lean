/-
  The mathematics of natural classes: what comes by splits comes by splits whose first one is by any prime that divides all gaps.
-/
import Derived.Test.YtbhpflhopajbfaaClm
namespace Go.Proofs.Ytbhpflhopajbfaa.Ntr

/-- the classes in the part k of a split by m, seen from there -/
def sub (m k : Nat) (l : List (Nat × Nat)) : List (Nat × Nat) := (l.filter fun c => c.1 % m == k).map fun c => (c.1 / m, c.2 / m)
/-- do classes come by splits? -/
inductive Tree : List (Nat × Nat) → Prop
  | leaf : Tree [(0, 1)]
  | node (m : Nat) (l : List (Nat × Nat)) (h2 : 2 ≤ m) (hd : ∀ c ∈ l, m ∣ c.2) (hk : ∀ k, k < m → Tree (sub m k l)) : Tree l
def PP (p : Nat) : Prop := 2 ≤ p ∧ ∀ m, p ∣ m ∨ Nat.Coprime p m
/-- the least divisor that is not 1 -/
theorem pp_least {p n : Nat} (h2 : 2 ≤ p) (hp : p ∣ n) (hl : ∀ q, 2 ≤ q → q < p → ¬ q ∣ n) : PP p := by
  refine ⟨h2, fun m => ?_⟩
  have h1 := Nat.gcd_dvd_left p m
  have hpos : 0 < Nat.gcd p m := Nat.gcd_pos_of_pos_left _ (by omega)
  by_cases e : Nat.gcd p m = 1
  · exact .inr e
  · have hle := Nat.le_of_dvd (by omega) h1
    by_cases e2 : Nat.gcd p m = p
    · exact .inl (e2 ▸ Nat.gcd_dvd_right p m)
    · exact absurd (Nat.dvd_trans h1 hp) (hl _ (by omega) (by omega))

theorem mod_two {a b r j x : Nat} (hr : r < a) : x % (a * b) = r + a * j ↔ x % a = r ∧ x / a % b = j := by
  rw [Nat.mod_mul]
  refine ⟨fun h => ?_, fun h => by rw [h.1, h.2]⟩
  have hx := Nat.mod_lt x (show 0 < a by omega)
  have h1 : (x % a + a * (x / a % b)) % a = x % a := by rw [Nat.add_mul_mod_self_left, Nat.mod_mod]
  have h2 : (r + a * j) % a = r := by rw [Nat.add_mul_mod_self_left, Nat.mod_eq_of_lt hr]
  have h3 : x % a = r := by rw [← h1, h, h2]
  refine ⟨h3, ?_⟩
  rw [h3] at h
  exact Nat.eq_of_mul_eq_mul_left (show 0 < a by omega) (by omega)
theorem sub_sub {a b r j : Nat} {l : List (Nat × Nat)} (hr : r < a) : sub b j (sub a r l) = sub (a * b) (r + a * j) l := by
  unfold sub
  rw [List.filter_map, List.map_map, List.filter_filter]
  have h1 : (fun c : Nat × Nat => (((fun c : Nat × Nat => c.1 % b == j) ∘ fun c : Nat × Nat => (c.1 / a, c.2 / a)) c && (c.1 % a == r))) = fun c : Nat × Nat => c.1 % (a * b) == r + a * j := by
    funext c
    have := mod_two (b := b) (j := j) (x := c.1) hr
    rw [Bool.eq_iff_iff]
    simp only [Function.comp, Bool.and_eq_true, beq_iff_eq]
    rw [this]
    exact And.comm
  rw [h1]
  refine List.map_congr_left fun c _ => ?_
  simp only [Function.comp, Nat.div_div_eq_div_mul]
theorem mem_sub {m k : Nat} {l : List (Nat × Nat)} {c : Nat × Nat} : c ∈ sub m k l ↔ ∃ d ∈ l, d.1 % m = k ∧ c = (d.1 / m, d.2 / m) := by
  unfold sub
  rw [List.mem_map]
  constructor
  · rintro ⟨d, hd, rfl⟩
    rw [List.mem_filter] at hd
    exact ⟨d, hd.1, by simpa using hd.2, rfl⟩
  · rintro ⟨d, hd, h, rfl⟩
    exact ⟨d, List.mem_filter.2 ⟨hd, by simpa using h⟩, rfl⟩
/-- SPLITS CHANGE PLACES: a prime that divides all gaps can be the first split. -/
theorem tree_prime {l : List (Nat × Nat)} (h : Tree l) : ∀ p, PP p → (∀ c ∈ l, p ∣ c.2) → ∀ r, r < p → Tree (sub p r l) := by
  induction h with
  | leaf =>
    intro p hp hd
    have := Nat.le_of_dvd (by omega) (hd (0, 1) List.mem_cons_self)
    have := hp.1
    dsimp only at *
    omega
  | node m l h2 hd hk ih =>
    intro p hp hpd r hr
    have hp2 := hp.1
    rcases hp.2 m with ⟨q, hq⟩ | hco
    · by_cases e : q = 1
      · subst e
        obtain rfl : m = p := by omega
        exact hk r hr
      · have hq0 : q ≠ 0 := fun e => by subst e; omega
        refine Tree.node q _ (by omega) (fun c hc => ?_) (fun k hkq => ?_)
        · obtain ⟨d, hdl, _, rfl⟩ := mem_sub.1 hc
          obtain ⟨x, hx⟩ := hd d hdl
          rw [hq, Nat.mul_assoc] at hx
          exact ⟨x, by dsimp only; rw [hx, Nat.mul_div_cancel_left _ (by omega)]⟩
        · rw [sub_sub hr, ← hq]
          refine hk _ ?_
          have : p * (k + 1) ≤ p * q := Nat.mul_le_mul_left p hkq
          rw [Nat.mul_succ] at this
          omega
    · have hboth : ∀ c ∈ l, ∃ x, c.2 = p * (m * x) := fun c hc => by
        obtain ⟨x, hx⟩ := hd c hc
        have h1 := hpd c hc
        rw [hx] at h1
        obtain ⟨y, hy⟩ := hco.dvd_of_dvd_mul_left h1
        exact ⟨y, by rw [hx, hy, ← Nat.mul_assoc, ← Nat.mul_assoc, Nat.mul_comm m p]⟩
      refine Tree.node m _ h2 (fun c hc => ?_) (fun k hkm => ?_)
      · obtain ⟨d, hdl, _, rfl⟩ := mem_sub.1 hc
        obtain ⟨x, hx⟩ := hboth d hdl
        exact ⟨x, by dsimp only; rw [hx, Nat.mul_div_cancel_left _ (by omega)]⟩
      · rw [sub_sub hr]
        have hn : r + p * k < m * p := by
          have : p * (k + 1) ≤ p * m := Nat.mul_le_mul_left p hkm
          rw [Nat.mul_succ, Nat.mul_comm p m] at this
          omega
        have hmod : r + p * k = (r + p * k) % m + m * ((r + p * k) / m) := (Nat.mod_add_div _ _).symm
        have hlt := Nat.mod_lt (r + p * k) (show 0 < m by omega)
        have hdv : (r + p * k) / m < p := Nat.div_lt_of_lt_mul hn
        rw [hmod, Nat.mul_comm p m, ← sub_sub hlt]
        refine ih _ hlt p hp (fun c hc => ?_) _ hdv
        obtain ⟨d, hdl, _, rfl⟩ := mem_sub.1 hc
        obtain ⟨x, hx⟩ := hboth d hdl
        exact ⟨x, by dsimp only; rw [hx, show p * (m * x) = m * (p * x) by rw [← Nat.mul_assoc, Nat.mul_comm p m, Nat.mul_assoc], Nat.mul_div_cancel_left _ (by omega)]⟩

/-! ### what comes by splits is exact -/
def mt (c d : Nat × Nat) : Prop := ((Nat.gcd c.2 d.2 : Nat) : Int) ∣ (c.1 : Int) - (d.1 : Int)
theorem not_mt {m : Nat} (_h2 : 2 ≤ m) {c d : Nat × Nat} (hc : m ∣ c.2) (hd : m ∣ d.2) (h : c.1 % m ≠ d.1 % m) : ¬ mt c d := fun hm => by
  have h1 : ((m : Nat) : Int) ∣ (c.1 : Int) - (d.1 : Int) := Int.dvd_trans (Int.natCast_dvd_natCast.2 (Nat.dvd_gcd hc hd)) hm
  have h4 := Int.emod_eq_emod_iff_emod_sub_eq_zero.2 (Int.emod_eq_zero_of_dvd h1)
  exact h (by exact_mod_cast h4)
theorem mt_part {m k : Nat} (h2 : 2 ≤ m) {c d : Nat × Nat} (hc : m ∣ c.2) (hd : m ∣ d.2) (h1 : c.1 % m = k) (h3 : d.1 % m = k) (hm : mt c d) : mt (c.1 / m, c.2 / m) (d.1 / m, d.2 / m) := by
  unfold mt at hm ⊢
  dsimp only
  obtain ⟨x, hx⟩ := hc
  obtain ⟨y, hy⟩ := hd
  rw [hx, hy, Nat.mul_div_cancel_left _ (by omega), Nat.mul_div_cancel_left _ (by omega)]
  rw [hx, hy, Nat.gcd_mul_left] at hm
  have e1 := Nat.div_add_mod c.1 m
  have e2 := Nat.div_add_mod d.1 m
  have e3 : (c.1 : Int) - (d.1 : Int) = (m : Int) * (((c.1 / m : Nat) : Int) - ((d.1 / m : Nat) : Int)) := by
    rw [Int.mul_sub]
    have e4 : ((m * (c.1 / m) + c.1 % m : Nat) : Int) = c.1 := by rw [e1]
    have e5 : ((m * (d.1 / m) + d.1 % m : Nat) : Int) = d.1 := by rw [e2]
    rw [h1] at e4
    rw [h3] at e5
    rw [Int.natCast_add, Int.natCast_mul] at e4 e5
    omega
  rw [e3, Int.natCast_mul] at hm
  exact Int.dvd_of_mul_dvd_mul_left (by omega) hm
def Ap (l : List (Nat × Nat)) : Prop := l.Pairwise fun c d => ¬ mt c d
theorem tree_ap {l : List (Nat × Nat)} (h : Tree l) : Ap l := by
  induction h with
  | leaf => exact List.pairwise_singleton _ _
  | node m l h2 hd hk ih =>
    clear hk
    unfold Ap
    induction l with
    | nil => exact List.Pairwise.nil
    | cons c l ihl =>
      rw [List.pairwise_cons]
      have hsub : ∀ k, sub m k (c :: l) = if c.1 % m = k then (c.1 / m, c.2 / m) :: sub m k l else sub m k l := fun k => by
        unfold sub
        by_cases e : c.1 % m = k
        · rw [List.filter_cons_of_pos (by simpa using e), if_pos e, List.map_cons]
        · rw [List.filter_cons_of_neg (by simpa using e), if_neg e]
      refine ⟨fun d hdl hm => ?_, ihl (fun x hx => hd x (List.mem_cons_of_mem _ hx)) fun k hk => ?_⟩
      · by_cases e : c.1 % m = d.1 % m
        · have h1 := ih (c.1 % m) (Nat.mod_lt _ (by omega))
          rw [hsub, if_pos rfl] at h1
          refine (List.pairwise_cons.1 h1).1 (d.1 / m, d.2 / m) (mem_sub.2 ⟨d, hdl, e.symm, rfl⟩) ?_
          exact mt_part h2 (hd c List.mem_cons_self) (hd d (List.mem_cons_of_mem _ hdl)) rfl e.symm hm
        · exact not_mt h2 (hd c List.mem_cons_self) (hd d (List.mem_cons_of_mem _ hdl)) e hm
      · have h1 := ih k hk
        rw [hsub] at h1
        by_cases e : c.1 % m = k
        · rw [if_pos e] at h1; exact (List.pairwise_cons.1 h1).2
        · rw [if_neg e] at h1; exact h1

/-! ### the model's way: the least prime first -/
def Least (p : Nat) (l : List (Nat × Nat)) : Prop := 2 ≤ p ∧ (∀ c ∈ l, p ∣ c.2) ∧ ∀ q, 2 ≤ q → q < p → ¬ ∀ c ∈ l, q ∣ c.2
inductive Nm : List (Nat × Nat) → Prop
  | one (c : Nat × Nat) (h : c.2 = 1) : Nm [c]
  | many (p : Nat) (l : List (Nat × Nat)) (hl : l.length ≠ 1) (hp : Least p l) (hn : ∀ r, r < p → sub p r l ≠ []) (hk : ∀ r, r < p → Nm (sub p r l)) : Nm l
theorem least_pp {p : Nat} {l : List (Nat × Nat)} (h : Least p l) : PP p := by
  refine ⟨h.1, fun m => ?_⟩
  have h2 := h.1
  have h1 := Nat.gcd_dvd_left p m
  have hpos : 0 < Nat.gcd p m := Nat.gcd_pos_of_pos_left _ (by omega)
  by_cases e : Nat.gcd p m = 1
  · exact .inr e
  · have hle := Nat.le_of_dvd (by omega) h1
    by_cases e2 : Nat.gcd p m = p
    · exact .inl (e2 ▸ Nat.gcd_dvd_right p m)
    · exact absurd (fun c hc => Nat.dvd_trans h1 (h.2.1 c hc)) (h.2.2 _ (by omega) (by omega))
theorem least_is {l : List (Nat × Nat)} : ∀ m, 2 ≤ m → (∀ c ∈ l, m ∣ c.2) → ∃ p, Least p l := fun m => by
  induction m using Nat.strongRecOn with
  | ind m ih =>
    intro h2 hd
    by_cases e : ∃ q, 2 ≤ q ∧ q < m ∧ ∀ c ∈ l, q ∣ c.2
    · obtain ⟨q, h3, h4, h5⟩ := e
      exact ih q h4 h3 h5
    · exact ⟨m, h2, hd, fun q h3 h4 h5 => e ⟨q, h3, h4, h5⟩⟩
theorem tree_ne {l : List (Nat × Nat)} (h : Tree l) : l ≠ [] := by
  induction h with
  | leaf => simp
  | node m l h2 hd hk ih =>
    intro e
    subst e
    exact ih 0 (by omega) rfl
theorem tree_pos {l : List (Nat × Nat)} (h : Tree l) : ∀ c ∈ l, 1 ≤ c.2 := by
  induction h with
  | leaf => intro c hc; rw [List.mem_singleton.1 hc]; exact Nat.le_refl _
  | node m l h2 hd hk ih =>
    intro c hc
    have := ih (c.1 % m) (Nat.mod_lt _ (by omega)) _ (mem_sub.2 ⟨c, hc, rfl, rfl⟩)
    dsimp only at this
    rcases Nat.eq_zero_or_pos c.2 with e | e
    · rw [e, Nat.zero_div] at this; omega
    · exact e
theorem tree_long {m : Nat} {l : List (Nat × Nat)} (h2 : 2 ≤ m) (hk : ∀ k, k < m → sub m k l ≠ []) : l.length ≠ 1 := fun e => by
  obtain ⟨c, rfl⟩ := List.length_eq_one_iff.1 e
  have hz : ∀ k, k < m → c.1 % m = k := fun k hk' => by
    cases hs : sub m k [c] with
    | nil => exact absurd hs (hk k hk')
    | cons d t =>
      obtain ⟨x, hx, h1, _⟩ := mem_sub.1 (show d ∈ sub m k [c] by rw [hs]; exact List.mem_cons_self)
      rwa [List.mem_singleton.1 hx] at h1
  have h0 := hz 0 (by omega)
  have h1 := hz 1 (by omega)
  omega
def wt (l : List (Nat × Nat)) : Nat := (l.map fun c => c.2).sum
theorem wt_sub {p r : Nat} (h2 : 2 ≤ p) {l : List (Nat × Nat)} (h1 : ∀ c ∈ l, 1 ≤ c.2) : wt (sub p r l) + l.length ≤ wt l := by
  induction l with
  | nil => simp [wt, sub]
  | cons c l ih =>
    have h3 := ih (fun x hx => h1 x (List.mem_cons_of_mem _ hx))
    have h4 := h1 c List.mem_cons_self
    have h5 : c.2 / p < c.2 := Nat.div_lt_self (by omega) (by omega)
    unfold wt sub at h3 ⊢
    by_cases e : c.1 % p = r
    · rw [List.filter_cons_of_pos (by simpa using e)]
      simp only [List.map_cons, List.sum_cons, List.length_cons] at h3 ⊢
      omega
    · rw [List.filter_cons_of_neg (by simpa using e)]
      simp only [List.map_cons, List.sum_cons, List.length_cons] at h3 ⊢
      omega
theorem tree_nm_at : ∀ n l, Tree l → wt l ≤ n → Nm l := fun n => by
  induction n with
  | zero =>
    intro l h hw
    have h1 := tree_ne h
    cases l with
    | nil => exact absurd rfl h1
    | cons c l =>
      have := tree_pos h c List.mem_cons_self
      unfold wt at hw
      simp only [List.map_cons, List.sum_cons] at hw
      omega
  | succ n ih =>
    intro l h hw
    have hpos := tree_pos h
    have hne := tree_ne h
    cases h with
    | leaf => exact Nm.one _ rfl
    | node m l h2 hd hk =>
      obtain ⟨p, hp⟩ := least_is m h2 hd
      have htr := tree_prime (Tree.node m l h2 hd hk) p (least_pp hp) hp.2.1
      refine Nm.many p l (tree_long h2 fun k hk' => tree_ne (hk k hk')) hp (fun r hr => tree_ne (htr r hr)) fun r hr => ih _ (htr r hr) ?_
      have h3 := wt_sub (r := r) hp.1 hpos
      have h4 := List.length_pos_iff.2 hne
      omega
/-- WHAT COMES BY SPLITS IS NATURAL, the least prime first .. -/
theorem tree_nm {l : List (Nat × Nat)} (h : Tree l) : Nm l := tree_nm_at _ l h (Nat.le_refl _)
/-- .. AND THE OTHER WAY ROUND. -/
theorem nm_tree {l : List (Nat × Nat)} (h : Nm l) : (∀ c ∈ l, c.1 < c.2) → Tree l := by
  induction h with
  | one c h =>
    intro hb
    have := hb c List.mem_cons_self
    obtain ⟨a, b⟩ := c
    dsimp only at h this
    subst h
    obtain rfl : a = 0 := by omega
    exact Tree.leaf
  | many p l hl hp hn hk ih =>
    intro hb
    refine Tree.node p l hp.1 hp.2.1 fun k hk' => ih k hk' fun c hc => ?_
    obtain ⟨d, hd, _, rfl⟩ := mem_sub.1 hc
    obtain ⟨x, hx⟩ := hp.2.1 d hd
    have h1 := hb d hd
    have h2 := hp.1
    dsimp only
    rw [hx, Nat.mul_div_cancel_left _ (by omega)]
    rw [hx] at h1
    exact Nat.div_lt_of_lt_mul h1

/-! ### .. and its parts are the whole -/
theorem sum_pick (m x v : Nat) : ((List.range m).map fun k => if x = k then v else 0).sum = if x < m then v else 0 := by
  induction m with
  | zero => rfl
  | succ m ih =>
    rw [List.range_succ, List.map_append, List.sum_append, ih]
    by_cases e : x = m
    · subst e; simp
    · simp only [List.map_cons, List.map_nil, List.sum_cons, List.sum_nil, if_neg e, show (x < m + 1) = (x < m) from propext (by omega)]; omega
theorem sum_both (m : Nat) (f g : Nat → Nat) : ((List.range m).map fun k => f k + g k).sum = ((List.range m).map f).sum + ((List.range m).map g).sum := by
  induction m with
  | zero => rfl
  | succ m ih => simp only [List.range_succ, List.map_append, List.sum_append, List.map_cons, List.map_nil, List.sum_cons, List.sum_nil] at ih ⊢; omega
theorem sum_const (m v : Nat) : ((List.range m).map fun _ => v).sum = m * v := by
  induction m with
  | zero => simp
  | succ m ih => rw [List.range_succ, List.map_append, List.sum_append, ih, Nat.succ_mul]; simp
theorem sum_parts {m : Nat} (hm : 0 < m) (f : Nat × Nat → Nat) (l : List (Nat × Nat)) : (l.map f).sum = ((List.range m).map fun k => ((l.filter fun c => c.1 % m == k).map f).sum).sum := by
  induction l with
  | nil => rw [show ((List.range m).map fun k => ((([] : List (Nat × Nat)).filter fun c => c.1 % m == k).map f).sum) = (List.range m).map fun _ => 0 from rfl, sum_const]; rfl
  | cons c l ih =>
    have h1 : ((List.range m).map fun k => (((c :: l).filter fun c => c.1 % m == k).map f).sum) = (List.range m).map fun k => (if c.1 % m = k then f c else 0) + ((l.filter fun c => c.1 % m == k).map f).sum := List.map_congr_left fun k _ => by
      by_cases e : c.1 % m = k
      · rw [List.filter_cons_of_pos (by simpa using e), if_pos e]; simp
      · rw [List.filter_cons_of_neg (by simpa using e), if_neg e]; simp
    rw [h1, sum_both, sum_pick, if_pos (Nat.mod_lt _ hm), ← ih]
    simp
theorem tree_whole {l : List (Nat × Nat)} (h : Tree l) : ∀ L, (∀ c ∈ l, c.2 ∣ L) → (l.map fun c => L / c.2).sum = L := by
  induction h with
  | leaf => intro L _; simp
  | node m l h2 hd hk ih =>
    intro L hL
    have hne := tree_ne (Tree.node m l h2 hd hk)
    have hmL : m ∣ L := by
      cases l with
      | nil => exact absurd rfl hne
      | cons c l => exact Nat.dvd_trans (hd c List.mem_cons_self) (hL c List.mem_cons_self)
    obtain ⟨M, rfl⟩ := hmL
    rw [sum_parts (show 0 < m by omega)]
    have h1 : ((List.range m).map fun k => ((l.filter fun c => c.1 % m == k).map fun c => m * M / c.2).sum) = (List.range m).map fun _ => M := List.map_congr_left fun k hk' => by
      have h3 := ih k (List.mem_range.1 hk') M fun c hc => by
        obtain ⟨d, hdl, _, rfl⟩ := mem_sub.1 hc
        obtain ⟨x, hx⟩ := hd d hdl
        have h4 := hL d hdl
        dsimp only
        rw [hx] at h4 ⊢
        rw [Nat.mul_div_cancel_left _ (by omega)]
        exact Nat.dvd_of_mul_dvd_mul_left (by omega) h4
      unfold sub at h3
      rw [List.map_map] at h3
      refine Eq.trans (congrArg List.sum (List.map_congr_left fun d hdf => ?_)) h3
      obtain ⟨x, hx⟩ := hd d (List.mem_filter.1 hdf).1
      simp only [Function.comp]
      rw [hx, Nat.mul_div_cancel_left _ (by omega), Nat.mul_div_mul_left _ _ (by omega)]
    rw [h1, sum_const]
end Go.Proofs.Ytbhpflhopajbfaa.Ntr
