/-
  Slots by deadlines (pure mathematics, no program): heaps as container/heap keeps them, the queue of tasks that wait, and the model's arrays.
  Conditions: the order is asymmetric and its negation transitive.
-/
namespace Go.Proofs.Ytbhpflhopajbfaa
variable {α : Type}

/-- the place above i -/
def hpar (i : Nat) : Nat := (i - 1) / 2
/-- two places swapped -/
def swp (f : Nat → α) (i j : Nat) : Nat → α := fun k => if k = i then f j else if k = j then f i else f k
theorem swp_l (f : Nat → α) (i j : Nat) : swp f i j i = f j := by simp [swp]
theorem swp_r (f : Nat → α) (i j : Nat) : swp f i j j = f i := by unfold swp; split <;> simp_all
theorem swp_o (f : Nat → α) {i j k : Nat} (h1 : k ≠ i) (h2 : k ≠ j) : swp f i j k = f k := by simp [swp, h1, h2]

structure HOrd (lt : α → α → Prop) : Prop where
  asymm : ∀ a b, lt a b → ¬ lt b a
  trans : ∀ a b c, ¬ lt b a → ¬ lt c b → ¬ lt c a
/-- no place is ahead of the place above it -/
def IsHeap (lt : α → α → Prop) (f : Nat → α) (n : Nat) : Prop := ∀ k, 0 < k → k < n → ¬ lt (f k) (f (hpar k))
/-- a heap but for the place j, which may be ahead of the place above it -/
structure HUp (lt : α → α → Prop) (f : Nat → α) (n j : Nat) : Prop where
  rest : ∀ k, 0 < k → k < n → k ≠ j → ¬ lt (f k) (f (hpar k))
  kids : ∀ k, 0 < k → k < n → hpar k = j → 0 < j → ¬ lt (f k) (f (hpar j))
/-- a heap but for the places below i, which may be ahead of it -/
structure HDown (lt : α → α → Prop) (f : Nat → α) (n i : Nat) : Prop where
  rest : ∀ k, 0 < k → k < n → hpar k ≠ i → ¬ lt (f k) (f (hpar k))
  kids : ∀ k, 0 < k → k < n → hpar k = i → 0 < i → ¬ lt (f k) (f (hpar i))

theorem hpar_lt {k : Nat} (h : 0 < k) : hpar k < k := by unfold hpar; omega
theorem hpar_kid {k i : Nat} (h : 0 < k) : hpar k = i ↔ k = 2 * i + 1 ∨ k = 2 * i + 2 := by unfold hpar; omega

variable {lt : α → α → Prop} {f : Nat → α} {n : Nat}

/-- the first place is the least -/
theorem IsHeap.least (o : HOrd lt) (h : IsHeap lt f n) : ∀ k, k < n → ¬ lt (f k) (f 0) := by
  intro k
  induction k using Nat.strongRecOn with
  | _ k ih =>
    intro hk
    by_cases h0 : k = 0
    · subst h0; exact fun h => o.asymm _ _ h h
    · have hp := hpar_lt (k := k) (by omega)
      exact o.trans _ _ _ (ih _ hp (by omega)) (h k (by omega) hk)

/-! ### up -/
/-- a new last item -/
theorem HUp.push (h : IsHeap lt f n) : HUp lt f (n + 1) n :=
  ⟨fun k h1 h2 h3 => h k h1 (by omega), fun k h1 h2 h3 h4 => by have := hpar_lt h1; omega⟩
theorem HUp.done_root (h : HUp lt f n 0) : IsHeap lt f n := fun k h1 h2 => h.rest k h1 h2 (by omega)
theorem HUp.done {j : Nat} (h : HUp lt f n j) (hn : ¬ lt (f j) (f (hpar j))) : IsHeap lt f n := fun k h1 h2 => by
  by_cases e : k = j
  · subst e; exact hn
  · exact h.rest k h1 h2 e
theorem HUp.step (o : HOrd lt) {j : Nat} (h : HUp lt f n j) (hj : 0 < j) (hjn : j < n) (hl : lt (f j) (f (hpar j))) : HUp lt (swp f j (hpar j)) n (hpar j) := by
  have hpj := hpar_lt hj
  refine ⟨fun k h1 h2 h3 => ?_, fun k h1 h2 h3 h4 => ?_⟩
  · have hpk := hpar_lt h1
    by_cases e : k = j
    · subst e
      rw [swp_l, swp_r]
      exact o.asymm _ _ hl
    · rw [swp_o f e h3]
      by_cases e2 : hpar k = j
      · rw [e2, swp_l]; exact h.kids k h1 h2 e2 hj
      · by_cases e3 : hpar k = hpar j
        · rw [e3, swp_r]
          -- k is the other kid of j's parent
          have := h.rest k h1 h2 e
          rw [e3] at this
          exact o.trans _ _ _ (o.asymm _ _ hl) this
        · rw [swp_o f e2 e3]; exact h.rest k h1 h2 e
  · -- kids of hpar j against the place above hpar j
    have hpp := hpar_lt h4
    have hz : ¬ lt (f (hpar j)) (f (hpar (hpar j))) := h.rest (hpar j) h4 (by omega) (by omega)
    rw [swp_o f (k := hpar (hpar j)) (by omega) (by omega)]
    by_cases e : k = j
    · subst e; rw [swp_l]; exact hz
    · have hk : k ≠ hpar j := by have := hpar_lt h1; omega
      rw [swp_o f e hk]
      have := h.rest k h1 h2 e
      rw [h3] at this
      exact o.trans _ _ _ hz this

/-! ### down -/
theorem HDown.done {i : Nat} (h : HDown lt f n i) (hn : ∀ k, 0 < k → k < n → hpar k = i → ¬ lt (f k) (f i)) : IsHeap lt f n := fun k h1 h2 => by
  by_cases e : hpar k = i
  · rw [e]; exact hn k h1 h2 e
  · exact h.rest k h1 h2 e
theorem HDown.none {i : Nat} (h : HDown lt f n i) (hn : n ≤ 2 * i + 1) : IsHeap lt f n :=
  h.done fun k h1 h2 h3 => by rcases (hpar_kid h1).1 h3 with e | e <;> omega
/-- the last item is put in the first place -/
theorem HDown.start {f : Nat → α} {n : Nat} (h : IsHeap lt f (n + 1)) : HDown lt (swp f 0 n) n 0 := by
  refine ⟨fun k h1 h2 h3 => ?_, fun k h1 h2 h3 h4 => by omega⟩
  have hp := hpar_lt h1
  rw [swp_o f (by omega) (by omega), swp_o f h3 (by omega)]
  exact h k h1 (by omega)
/-- the first item is another one -/
theorem HDown.fixed {f g : Nat → α} (h : IsHeap lt f n) (hg : ∀ k, 0 < k → g k = f k) : HDown lt g n 0 := by
  refine ⟨fun k h1 h2 h3 => ?_, fun k h1 h2 h3 h4 => by omega⟩
  rw [hg k h1, hg (hpar k) (by omega)]; exact h k h1 h2
theorem HDown.step (o : HOrd lt) {i j : Nat} (h : HDown lt f n i) (hj : 0 < j) (hjn : j < n) (hp : hpar j = i) (hl : lt (f j) (f i)) (hb : ∀ k, 0 < k → k < n → hpar k = i → ¬ lt (f k) (f j)) : HDown lt (swp f i j) n j := by
  have hij : i < j := hp ▸ hpar_lt hj
  refine ⟨fun k h1 h2 h3 => ?_, fun k h1 h2 h3 h4 => ?_⟩
  · have hpk := hpar_lt h1
    by_cases e : k = j
    · subst e; rw [hp, swp_l, swp_r]; exact o.asymm _ _ hl
    · by_cases e2 : k = i
      · subst e2
        rw [swp_l, swp_o f (k := hpar k) (by omega) h3]
        exact h.kids j hj hjn hp h1
      · rw [swp_o f e2 e]
        by_cases e3 : hpar k = i
        · rw [e3, swp_l]; exact hb k h1 h2 e3
        · rw [swp_o f e3 h3]; exact h.rest k h1 h2 e3
  · have hpk := hpar_lt h1
    rw [hp, swp_l, swp_o f (by omega) (by omega)]
    have h5 := h.rest k h1 h2 (by omega)
    rw [h3] at h5
    exact h5

/-! ### what lies in it -/
def HHas (f : Nat → α) (n : Nat) (x : α) : Prop := ∃ k, k < n ∧ f k = x
theorem has_swp {i j : Nat} (hi : i < n) (hj : j < n) (x : α) : HHas (swp f i j) n x ↔ HHas f n x := by
  constructor
  · rintro ⟨k, hk, rfl⟩
    unfold swp
    split
    · exact ⟨j, hj, rfl⟩
    · split
      · exact ⟨i, hi, rfl⟩
      · exact ⟨k, hk, rfl⟩
  · rintro ⟨k, hk, rfl⟩
    by_cases e : k = i
    · subst e; exact ⟨j, hj, swp_r f k j⟩
    · by_cases e2 : k = j
      · subst e2; exact ⟨i, hi, swp_l f i k⟩
      · exact ⟨k, hk, swp_o f e e2⟩
theorem tas_swp {β : Type} {g : α → β} (h : ∀ a b, a < n → b < n → g (f a) = g (f b) → a = b) {i j : Nat} (hi : i < n) (hj : j < n) :
    ∀ a b, a < n → b < n → g (swp f i j a) = g (swp f i j b) → a = b := by
  have key : ∀ a, a < n → ∃ a', a' < n ∧ swp f i j a = f a' ∧ (a' = if a = i then j else if a = j then i else a) := fun a ha => by
    refine ⟨if a = i then j else if a = j then i else a, ?_, ?_, rfl⟩
    · split; exact hj; split; exact hi; exact ha
    · unfold swp; split; rfl; split <;> rfl
  intro a b ha hb e
  obtain ⟨a', h1, h2, h3⟩ := key a ha
  obtain ⟨b', h4, h5, h6⟩ := key b hb
  rw [h2, h5] at e
  have e2 := h a' b' h1 h4 e
  rw [h3, h6] at e2
  by_cases x1 : a = i <;> by_cases x2 : b = i <;> by_cases x3 : a = j <;> by_cases x4 : b = j <;> simp [x1, x2, x3, x4] at e2 <;> first | omega | (subst_vars; simp_all; done) | (simp_all; omega)

/-! ### the queue of tasks that wait -/
structure Pend where
  task : Int
  due : Int
  left : Int
def ahead (a b : Pend) : Prop := a.due < b.due ∨ (a.due = b.due ∧ a.task < b.task)
theorem ordAhead : HOrd ahead := ⟨fun a b h => by unfold ahead at *; omega, fun a b c h1 h2 => by unfold ahead at *; omega⟩
/-- the first n of f are the tasks below k that have slots left, each once -/
structure Bag (f : Nat → Pend) (n : Nat) (L D : Nat → Int) (k : Nat) : Prop where
  mem : ∀ x, HHas f n x ↔ ∃ i : Nat, i < k ∧ x = ⟨i, D i, L i⟩ ∧ 0 < L i
  once : ∀ a b, a < n → b < n → (f a).task = (f b).task → a = b
def upd (L : Nat → Int) (c : Nat) (v : Int) : Nat → Int := fun i => if i = c then v else L i
theorem upd_same (L : Nat → Int) (c : Nat) (v : Int) : upd L c v c = v := by simp [upd]
theorem upd_other (L : Nat → Int) {c i : Nat} (v : Int) (h : i ≠ c) : upd L c v i = L i := by simp [upd, h]

variable {f g : Nat → Pend} {n k : Nat} {L D : Nat → Int}
theorem Bag.swp (h : Bag f n L D k) {i j : Nat} (hi : i < n) (hj : j < n) : Bag (swp f i j) n L D k :=
  ⟨fun x => (has_swp hi hj x).trans (h.mem x), tas_swp (g := Pend.task) h.once hi hj⟩
theorem Bag.nil (hL : ∀ i, i < k → ¬ 0 < L i) : Bag f 0 L D k := ⟨fun x => ⟨fun ⟨a, ha, _⟩ => absurd ha (by omega), fun ⟨i, hi, _, hl⟩ => absurd hl (hL i hi)⟩, fun a b ha => absurd ha (by omega)⟩
theorem Bag.at_ (h : Bag f n L D k) {a : Nat} (ha : a < n) : ∃ i : Nat, i < k ∧ f a = ⟨i, D i, L i⟩ ∧ 0 < L i := (h.mem (f a)).1 ⟨a, ha, rfl⟩
/-- nobody waits: no slots are left -/
theorem Bag.none (h : Bag f 0 L D k) : ∀ i, i < k → ¬ 0 < L i := fun i hi hl => by
  obtain ⟨a, ha, _⟩ := (h.mem ⟨i, D i, L i⟩).2 ⟨i, hi, rfl, hl⟩
  omega
/-- the first of the heap is the task that the deadlines ask for -/
theorem Bag.root (h : Bag f n L D k) (hh : IsHeap ahead f n) (hn : 0 < n) :
    ∃ i : Nat, i < k ∧ f 0 = ⟨i, D i, L i⟩ ∧ 0 < L i ∧ ∀ j : Nat, j < k → 0 < L j → D i < D j ∨ (D i = D j ∧ i ≤ j) := by
  obtain ⟨i, hi, e, hl⟩ := h.at_ hn
  refine ⟨i, hi, e, hl, fun j hj hlj => ?_⟩
  obtain ⟨b, hb, e2⟩ := (h.mem ⟨j, D j, L j⟩).2 ⟨j, hj, rfl, hlj⟩
  have := hh.least ordAhead b hb
  rw [e2, e] at this
  unfold ahead at this
  simp only at this
  omega
/-- a task comes -/
theorem Bag.push (h : Bag f n L D k) {c : Nat} {l d : Int} (hc : c < k) (hl : ¬ 0 < L c) (hp : 0 < l) (hg : ∀ j, j < n → g j = f j) (hgn : g n = ⟨c, d, l⟩) : Bag g (n + 1) (upd L c l) (upd D c d) k := by
  have hno : ∀ a, a < n → (f a).task ≠ (c : Int) := fun a ha e => by
    obtain ⟨i, hi, e2, hl2⟩ := h.at_ ha
    rw [e2] at e
    simp only at e
    obtain rfl : i = c := by omega
    exact hl hl2
  refine ⟨fun x => ⟨?_, ?_⟩, fun a b ha hb e => ?_⟩
  · rintro ⟨a, ha, rfl⟩
    by_cases e : a = n
    · subst e; exact ⟨c, hc, by rw [hgn, upd_same, upd_same], by rw [upd_same]; exact hp⟩
    · obtain ⟨i, hi, e2, hl2⟩ := h.at_ (a := a) (by omega)
      have hic : i ≠ c := fun e3 => by subst e3; exact hl hl2
      exact ⟨i, hi, by rw [hg a (by omega), e2, upd_other _ _ hic, upd_other _ _ hic], by rw [upd_other _ _ hic]; exact hl2⟩
  · rintro ⟨i, hi, rfl, hl2⟩
    by_cases e : i = c
    · subst e; exact ⟨n, by omega, by rw [hgn, upd_same, upd_same]⟩
    · rw [upd_other _ _ e] at hl2
      obtain ⟨a, ha, e2⟩ := (h.mem ⟨i, D i, L i⟩).2 ⟨i, hi, rfl, hl2⟩
      exact ⟨a, by omega, by rw [hg a ha, e2, upd_other _ _ e, upd_other _ _ e]⟩
  · by_cases e1 : a = n <;> by_cases e2 : b = n
    · omega
    · subst e1; rw [hgn, hg b (by omega)] at e; exact absurd e.symm (hno b (by omega))
    · subst e2; rw [hgn, hg a (by omega)] at e; exact absurd e (hno a (by omega))
    · rw [hg a (by omega), hg b (by omega)] at e; exact h.once a b (by omega) (by omega) e
/-- the first gets a slot, and has some left -/
theorem Bag.give (h : Bag f n L D k) {c : Nat} {l : Int} (hn : 0 < n) (h0 : f 0 = ⟨c, D c, L c⟩) (hp : 0 < l) (hc : c < k) (hg : ∀ j, 0 < j → j < n → g j = f j) (hg0 : g 0 = ⟨c, D c, l⟩) : Bag g n (upd L c l) D k := by
  have hno : ∀ a, 0 < a → a < n → (f a).task ≠ (c : Int) := fun a h1 h2 e => by
    have := h.once a 0 h2 hn (by rw [h0]; exact e); omega
  have ht : ∀ a, a < n → (g a).task = (f a).task := fun a ha => by
    by_cases e : a = 0
    · subst e; rw [hg0, h0]
    · rw [hg a (by omega) ha]
  refine ⟨fun x => ⟨?_, ?_⟩, fun a b ha hb e => h.once a b ha hb (by rw [← ht a ha, ← ht b hb]; exact e)⟩
  · rintro ⟨a, ha, rfl⟩
    by_cases e : a = 0
    · subst e; exact ⟨c, hc, by rw [hg0, upd_same], by rw [upd_same]; exact hp⟩
    · obtain ⟨i, hi, e2, hl2⟩ := h.at_ ha
      have hic : i ≠ c := fun e3 => by subst e3; exact hno a (by omega) ha (by rw [e2])
      exact ⟨i, hi, by rw [hg a (by omega) ha, e2, upd_other _ _ hic], by rw [upd_other _ _ hic]; exact hl2⟩
  · rintro ⟨i, hi, rfl, hl2⟩
    by_cases e : i = c
    · subst e; exact ⟨0, hn, by rw [hg0, upd_same]⟩
    · rw [upd_other _ _ e] at hl2
      obtain ⟨a, ha, e2⟩ := (h.mem ⟨i, D i, L i⟩).2 ⟨i, hi, rfl, hl2⟩
      have ha0 : a ≠ 0 := fun e3 => by subst e3; rw [h0] at e2; injection e2 with e4 _ _; omega
      exact ⟨a, ha, by rw [hg a (by omega) ha, e2, upd_other _ _ e]⟩
/-- the last goes -/
theorem Bag.drop (h : Bag f (n + 1) L D k) {c : Nat} (hc : f n = ⟨c, D c, L c⟩) (hg : ∀ j, j < n → g j = f j) : Bag g n (upd L c 0) D k := by
  refine ⟨fun x => ⟨?_, ?_⟩, fun a b ha hb e => h.once a b (by omega) (by omega) (by rw [← hg a ha, ← hg b hb]; exact e)⟩
  · rintro ⟨a, ha, rfl⟩
    obtain ⟨i, hi, e2, hl2⟩ := h.at_ (a := a) (by omega)
    have hic : i ≠ c := fun e3 => by
      subst e3
      have := h.once a n (by omega) (by omega) (by rw [e2, hc])
      omega
    exact ⟨i, hi, by rw [hg a ha, e2, upd_other _ _ hic], by rw [upd_other _ _ hic]; exact hl2⟩
  · rintro ⟨i, hi, rfl, hl2⟩
    by_cases e : i = c
    · subst e; rw [upd_same] at hl2; omega
    · rw [upd_other _ _ e] at hl2
      obtain ⟨a, ha, e2⟩ := (h.mem ⟨i, D i, L i⟩).2 ⟨i, hi, rfl, hl2⟩
      have han : a ≠ n := fun e3 => by subst e3; rw [hc] at e2; injection e2 with e4 _ _; omega
      exact ⟨a, by omega, by rw [hg a (by omega), e2, upd_other _ _ e]⟩

/-! ### slots by deadlines, as the model has them -/
/-- the next slot from s on in which a task of period p comes -/
def nxt (p s : Int) : Int := (s + p - 1) / p * p
theorem nxt_q {p s q r : Int} (h0 : 0 ≤ r) (h1 : r < p) (h : r + p * q = s + p - 1) : nxt p s = q * p := by
  unfold nxt
  rw [((Int.ediv_emod_unique (a := s + p - 1) (b := p) (r := r) (q := q) (by omega)).2 ⟨h, h0, h1⟩).1]
theorem emod_q {p s : Int} (hp : 1 ≤ p) : s % p + p * (s / p) = s ∧ 0 ≤ s % p ∧ s % p < p := ⟨Int.emod_add_mul_ediv s p, Int.emod_nonneg s (by omega), Int.emod_lt_of_pos s (by omega)⟩
theorem nxt_at {p s : Int} (hp : 1 ≤ p) (h : s % p = 0) : nxt p s = s := by
  obtain ⟨h1, h2, h3⟩ := emod_q (s := s) hp
  rw [h] at h1
  rw [nxt_q (q := s / p) (r := p - 1) (by omega) (by omega) (by omega), Int.mul_comm]; omega
theorem nxt_come {p s : Int} (hp : 1 ≤ p) (h : s % p = 0) : nxt p (s + 1) = s + p := by
  obtain ⟨h1, h2, h3⟩ := emod_q (s := s) hp
  rw [h] at h1
  have h4 : p * (s / p + 1) = p * (s / p) + p := by rw [Int.mul_add, Int.mul_one]
  rw [nxt_q (q := s / p + 1) (r := 0) (by omega) (by omega) (by omega), Int.mul_comm]; omega
theorem nxt_rest {p s : Int} (hp : 1 ≤ p) (h : s % p ≠ 0) : nxt p (s + 1) = nxt p s := by
  obtain ⟨h1, h2, h3⟩ := emod_q (s := s) hp
  have h4 : p * (s / p + 1) = p * (s / p) + p := by rw [Int.mul_add, Int.mul_one]
  rw [nxt_q (s := s + 1) (q := s / p + 1) (r := s % p) (by omega) (by omega) (by omega), nxt_q (s := s) (q := s / p + 1) (r := s % p - 1) (by omega) (by omega) (by omega)]
/-- ahead of slot s: who has slots left is due in s or later, and not behind the task's next coming -/
def Due (p : Nat → Int) (L D : Nat → Int) (k : Nat) (s : Int) : Prop := ∀ i, i < k → 0 < L i → s ≤ D i ∧ D i ≤ nxt (p i) s
def comeL (p l L : Nat → Int) (s : Int) : Nat → Int := fun i => if s % p i = 0 then l i else L i
def comeD (p d D : Nat → Int) (s : Int) : Nat → Int := fun i => if s % p i = 0 then s + d i else D i
/-- nobody is late in slot s: who comes has no slots left -/
theorem Due.come {p L D : Nat → Int} {k : Nat} {s : Int} (h : Due p L D k s) (hn : ∀ i, i < k → 0 < L i → D i ≠ s) {i : Nat} (hi : i < k) (hp : 1 ≤ p i) (hs : s % p i = 0) : ¬ 0 < L i := fun hl => by
  have h1 := h i hi hl
  have h2 := hn i hi hl
  rw [nxt_at hp hs] at h1
  omega
theorem Due.next {p l d L D L' : Nat → Int} {k : Nat} {s : Int} (h : Due p L D k s) (hn : ∀ i, i < k → 0 < L i → D i ≠ s) (hp : ∀ i, i < k → 1 ≤ p i ∧ 1 ≤ d i ∧ d i ≤ p i) (hL : ∀ i, i < k → 0 < L' i → 0 < comeL p l L s i) :
    Due p L' (comeD p d D s) k (s + 1) := fun i hi hl => by
  have h1 := hL i hi hl
  obtain ⟨p1, p2, p3⟩ := hp i hi
  unfold comeL at h1
  unfold comeD
  by_cases hs : s % p i = 0
  · rw [if_pos hs, nxt_come p1 hs]; omega
  · rw [if_neg hs] at h1
    rw [if_neg hs, nxt_rest p1 hs]
    have h2 := h i hi h1
    have h3 := hn i hi h1
    omega
/-- the model's choice among the tasks below k -/
def bestTo (L D : Nat → Int) : Nat → Int
  | 0 => -1
  | k + 1 => if 0 < L k ∧ (bestTo L D k < 0 ∨ D k < D (bestTo L D k).toNat) then (k : Int) else bestTo L D k
theorem bestTo_spec (L D : Nat → Int) (k : Nat) : (bestTo L D k = -1 ∧ ∀ j, j < k → ¬ 0 < L j) ∨
    ∃ i : Nat, i < k ∧ bestTo L D k = i ∧ 0 < L i ∧ ∀ j, j < k → 0 < L j → D i < D j ∨ (D i = D j ∧ i ≤ j) := by
  induction k with
  | zero => exact .inl ⟨rfl, fun j hj => by omega⟩
  | succ k ih =>
    by_cases hl : 0 < L k
    · rcases ih with ⟨e, hno⟩ | ⟨i, hi, e, hli, hall⟩
      · refine .inr ⟨k, by omega, by unfold bestTo; rw [if_pos ⟨hl, .inl (by omega)⟩], hl, fun j hj hlj => ?_⟩
        by_cases ej : j = k
        · subst ej; exact .inr ⟨rfl, Nat.le_refl _⟩
        · exact absurd hlj (hno j (by omega))
      · by_cases hd : D k < D i
        · refine .inr ⟨k, by omega, by unfold bestTo; rw [if_pos ⟨hl, .inr (by rw [e]; simpa using hd)⟩], hl, fun j hj hlj => ?_⟩
          by_cases ej : j = k
          · subst ej; exact .inr ⟨rfl, Nat.le_refl _⟩
          · have := hall j (by omega) hlj; omega
        · refine .inr ⟨i, by omega, ?_, hli, fun j hj hlj => ?_⟩
          · unfold bestTo; rw [if_neg, e]
            rintro ⟨_, h2 | h2⟩
            · omega
            · rw [e] at h2; exact hd (by simpa using h2)
          · by_cases ej : j = k
            · subst ej; omega
            · exact hall j (by omega) hlj
    · have hb : bestTo L D (k + 1) = bestTo L D k := by conv => lhs; unfold bestTo
                                                        rw [if_neg (fun h => hl h.1)]
      rcases ih with ⟨e, hno⟩ | ⟨i, hi, e, hli, hall⟩
      · refine .inl ⟨hb.trans e, fun j hj => ?_⟩
        by_cases ej : j = k
        · subst ej; exact hl
        · exact hno j (by omega)
      · refine .inr ⟨i, by omega, hb.trans e, hli, fun j hj hlj => ?_⟩
        by_cases ej : j = k
        · subst ej; exact absurd hlj hl
        · exact hall j (by omega) hlj
/-- the first of the heap is the model's choice -/
theorem Bag.best {f : Nat → Pend} {n k : Nat} {L D : Nat → Int} (h : Bag f n L D k) (hh : IsHeap ahead f n) (hn : 0 < n) : ∃ i : Nat, i < k ∧ f 0 = ⟨i, D i, L i⟩ ∧ 0 < L i ∧ bestTo L D k = i := by
  obtain ⟨i, hi, e, hl, hall⟩ := h.root hh hn
  refine ⟨i, hi, e, hl, ?_⟩
  rcases bestTo_spec L D k with ⟨_, hno⟩ | ⟨i2, hi2, e2, hl2, hall2⟩
  · exact absurd hl (hno i hi)
  · have h1 := hall i2 hi2 hl2
    have h2 := hall2 i hi hl
    rw [e2]; omega
theorem Bag.idle {f : Nat → Pend} {k : Nat} {L D : Nat → Int} (h : Bag f 0 L D k) : bestTo L D k = -1 := by
  rcases bestTo_spec L D k with ⟨e, _⟩ | ⟨i, hi, _, hl, _⟩
  · exact e
  · exact absurd hl (h.none i hi)
/-- somebody is late in slot s exactly if the first of the heap is due by s; then it is the least one that is late -/
theorem Bag.late {f : Nat → Pend} {n k : Nat} {p L D : Nat → Int} {s : Int} (h : Bag f n L D k) (hh : IsHeap ahead f n) (hd : Due p L D k s) (hn : 0 < n) (h0 : (f 0).due ≤ s) :
    ∃ i : Nat, i < k ∧ (f 0).task = i ∧ 0 < L i ∧ D i = s ∧ ∀ j, j < i → 0 < L j → D j ≠ s := by
  obtain ⟨i, hi, e, hl, hall⟩ := h.root hh hn
  rw [e] at h0
  simp only at h0
  have h1 := (hd i hi hl).1
  refine ⟨i, hi, by rw [e], hl, by omega, fun j hj hlj => ?_⟩
  have := hall j (by omega) hlj
  omega
theorem Bag.notLate {f : Nat → Pend} {n k : Nat} {L D : Nat → Int} {s : Int} (h : Bag f n L D k) (hh : IsHeap ahead f n) (h0 : 0 < n → ¬ (f 0).due ≤ s) : ∀ i, i < k → 0 < L i → D i ≠ s := fun i hi hl e => by
  obtain ⟨a, ha, _⟩ := (h.mem ⟨i, D i, L i⟩).2 ⟨i, hi, rfl, hl⟩
  have hn : 0 < n := by omega
  obtain ⟨c, _, e2, _, hall⟩ := h.root hh hn
  have h1 := h0 hn
  rw [e2] at h1
  simp only at h1
  have := hall i hi hl
  omega
/-- at the end of the whole period: who has slots left then is late there -/
theorem Due.whole {p L D : Nat → Int} {k : Nat} {s : Int} (h : Due p L D k s) (hs : ∀ i, i < k → 1 ≤ p i ∧ s % p i = 0) {i : Nat} (hi : i < k) (hl : 0 < L i) : D i = s := by
  have h1 := h i hi hl
  obtain ⟨p1, p2⟩ := hs i hi
  rw [nxt_at p1 p2] at h1
  omega

end Go.Proofs.Ytbhpflhopajbfaa
