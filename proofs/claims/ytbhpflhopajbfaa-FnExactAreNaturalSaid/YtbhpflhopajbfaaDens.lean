/-
  DensityOf: greatest common divisors; DensityOf of both.
  Conditions: lists of at most 1048576 elements.
-/
import Derived.Test.YtbhpflhopajbfaaShares
import Derived.Test.YtbhpflhopajbfaaReg
namespace Go.Proofs.Ytbhpflhopajbfaa
open Go.RowKit Go.Shelf
attribute [local go_sem] Oper.semAt_some

def lcmTo (gs : List Nat) : Nat := gs.foldl Nat.lcm 1
def sumTo (gs : List Nat) (L : Nat) : Nat := (gs.map (L / ·)).sum

theorem lcmTo_snoc (gs : List Nat) (g : Nat) : lcmTo (gs ++ [g]) = Nat.lcm (lcmTo gs) g := by simp [lcmTo]
theorem sumTo_snoc (gs : List Nat) (g L : Nat) : sumTo (gs ++ [g]) L = sumTo gs L + L / g := by simp [sumTo]
theorem foldl_lcm_pos (gs : List Nat) (h : ∀ g ∈ gs, 0 < g) (a : Nat) (ha : 0 < a) : 0 < gs.foldl Nat.lcm a := by
  induction gs generalizing a with
  | nil => exact ha
  | cons g gs ih => exact ih (fun x hx => h x (by simp [hx])) _ (Nat.lcm_pos ha (h g (by simp)))
theorem foldl_lcm_dvd (gs : List Nat) (M : Nat) (h : ∀ g ∈ gs, g ∣ M) (a : Nat) (ha : a ∣ M) : gs.foldl Nat.lcm a ∣ M := by
  induction gs generalizing a with
  | nil => exact ha
  | cons g gs ih => exact ih (fun x hx => h x (by simp [hx])) _ (Nat.lcm_dvd ha (h g (by simp)))
theorem dvd_foldl_lcm0 (gs : List Nat) (a : Nat) : a ∣ gs.foldl Nat.lcm a := by
  induction gs generalizing a with
  | nil => exact Nat.dvd_refl _
  | cons g gs ih => exact Nat.dvd_trans (Nat.dvd_lcm_left a g) (ih _)
theorem dvd_foldl_lcm (gs : List Nat) (a : Nat) : ∀ g ∈ gs, g ∣ gs.foldl Nat.lcm a := by
  induction gs generalizing a with
  | nil => simp
  | cons g gs ih =>
    intro x hx
    rcases List.mem_cons.1 hx with rfl | hx
    · exact Nat.dvd_trans (Nat.dvd_lcm_right a x) (dvd_foldl_lcm0 gs _)
    · exact ih _ x hx
theorem lcmTo_pos {gs : List Nat} (h : ∀ g ∈ gs, 0 < g) : 0 < lcmTo gs := foldl_lcm_pos gs h 1 (by omega)
theorem lcmTo_dvd {gs : List Nat} {M : Nat} (h : ∀ g ∈ gs, g ∣ M) : lcmTo gs ∣ M := foldl_lcm_dvd gs M h 1 (Nat.one_dvd _)
theorem dvd_lcmTo {gs : List Nat} {g : Nat} (h : g ∈ gs) : g ∣ lcmTo gs := dvd_foldl_lcm gs 1 g h
/-- the sum over another common multiple -/
theorem sumTo_scale (gs : List Nat) (L c : Nat) (h : ∀ g ∈ gs, g ∣ L) : sumTo gs (L * c) = sumTo gs L * c := by
  induction gs with
  | nil => simp [sumTo]
  | cons g gs ih =>
    have h1 := ih (fun x hx => h x (by simp [hx]))
    have h2 : L * c / g = L / g * c := by
      rw [Nat.mul_comm L c, Nat.mul_comm (L / g) c, Nat.mul_div_assoc c (h g (by simp))]
    simp only [sumTo, List.map_cons, List.sum_cons] at h1 ⊢
    rw [h1, h2, Nat.add_mul]
theorem sumTo_le (gs : List Nat) (L : Nat) : sumTo gs L ≤ gs.length * L := by
  induction gs with
  | nil => simp [sumTo]
  | cons g gs ih =>
    have := Nat.div_le_self L g
    simp only [sumTo, List.map_cons, List.sum_cons, List.length_cons, Nat.add_mul, Nat.one_mul] at ih ⊢
    omega
def lowN (a b : Nat) : Nat := a / Nat.gcd a b
def lowD (a b : Nat) : Nat := b / Nat.gcd a b
theorem low_scale (a b c : Nat) (hc : 0 < c) : lowN (a * c) (b * c) = lowN a b ∧ lowD (a * c) (b * c) = lowD a b := by
  unfold lowN lowD
  rw [Nat.gcd_mul_right]
  exact ⟨Nat.mul_div_mul_right _ _ hc, Nat.mul_div_mul_right _ _ hc⟩
theorem low_cross {a b c d : Nat} (hb : 0 < b) (hd : 0 < d) (h : a * d = c * b) : lowN a b = lowN c d ∧ lowD a b = lowD c d := by
  have h1 := low_scale a b d hd
  have h2 := low_scale c d b hb
  rw [← h1.1, ← h1.2, ← h2.1, ← h2.2, h, Nat.mul_comm b d]
  exact ⟨rfl, rfl⟩
theorem low_mul (a b : Nat) (hb : 0 < b) : lowN a b * b = a * lowD a b := by
  unfold lowN lowD
  obtain ⟨x, hx⟩ := Nat.gcd_dvd_left a b
  obtain ⟨y, hy⟩ := Nat.gcd_dvd_right a b
  have hg : 0 < Nat.gcd a b := Nat.gcd_pos_of_pos_right _ hb
  have ha : a / Nat.gcd a b = x := by rw [Nat.div_eq_iff_eq_mul_right hg (Nat.gcd_dvd_left a b)]; exact hx
  have hb' : b / Nat.gcd a b = y := by rw [Nat.div_eq_iff_eq_mul_right hg (Nat.gcd_dvd_right a b)]; exact hy
  rw [ha, hb']
  calc x * b = x * (Nat.gcd a b * y) := by rw [← hy]
    _ = (Nat.gcd a b * x) * y := by rw [← Nat.mul_assoc, Nat.mul_comm x]
    _ = a * y := by rw [← hx]
theorem lowD_pos {a b : Nat} (hb : 0 < b) : 0 < lowD a b := Nat.div_pos (Nat.le_of_dvd hb (Nat.gcd_dvd_right a b)) (Nat.gcd_pos_of_pos_right _ hb)
theorem lowD_le (a b : Nat) : lowD a b ≤ b := Nat.div_le_self _ _
theorem lowN_le (a b : Nat) : lowN a b ≤ a := Nat.div_le_self _ _

/-- the density of the gaps gs -/
def densN (gs : List Nat) : Nat := lowN (sumTo gs (lcmTo gs)) (lcmTo gs)
def densD (gs : List Nat) : Nat := lowD (sumTo gs (lcmTo gs)) (lcmTo gs)
theorem dens_snoc (gs : List Nat) (g : Nat) (h : ∀ x ∈ gs, 0 < x) (hg : 0 < g) :
    lowN (densN gs * g + densD gs) (densD gs * g) = densN (gs ++ [g]) ∧ lowD (densN gs * g + densD gs) (densD gs * g) = densD (gs ++ [g]) := by
  have hL := lcmTo_pos h
  have h2 : ∀ x ∈ gs ++ [g], 0 < x := fun x hx => by
    rcases List.mem_append.1 hx with h' | h'
    · exact h x h'
    · simp at h'; omega
  have hL2 := lcmTo_pos h2
  have hd : 0 < densD gs := lowD_pos hL
  refine low_cross (Nat.mul_pos hd hg) hL2 ?_
  rw [lcmTo_snoc] at hL2 ⊢
  rw [sumTo_snoc]
  obtain ⟨c, hc⟩ := Nat.dvd_lcm_left (lcmTo gs) g
  obtain ⟨e, he⟩ := Nat.dvd_lcm_right (lcmTo gs) g
  have hde : Nat.lcm (lcmTo gs) g / g = e := by rw [Nat.div_eq_iff_eq_mul_right hg (Nat.dvd_lcm_right _ _)]; exact he
  rw [hde]
  have hs : sumTo gs (Nat.lcm (lcmTo gs) g) = sumTo gs (lcmTo gs) * c := by
    rw [hc]; exact sumTo_scale gs _ c (fun x hx => dvd_lcmTo hx)
  rw [hs]
  have hm : densN gs * lcmTo gs = sumTo gs (lcmTo gs) * densD gs := low_mul _ _ hL
  generalize Nat.lcm (lcmTo gs) g = M at *
  generalize lcmTo gs = L at *
  generalize sumTo gs L = S at *
  generalize densN gs = n at *
  generalize densD gs = d at *
  -- (n*g + d) * M = (S*c + e) * (d*g)
  calc (n * g + d) * M = n * M * g + d * M := by rw [Nat.add_mul]; congr 1; rw [Nat.mul_assoc, Nat.mul_assoc, Nat.mul_comm g M]
    _ = n * (L * c) * g + d * (g * e) := by rw [← hc, ← he]
    _ = (n * L) * c * g + d * (g * e) := by rw [Nat.mul_assoc n L c]
    _ = (S * d) * c * g + d * (g * e) := by rw [hm]
    _ = (S * c + e) * (d * g) := by
      rw [Nat.add_mul]
      congr 1
      · rw [Nat.mul_right_comm S d c, Nat.mul_assoc]
      · rw [← Nat.mul_assoc, Nat.mul_comm]
theorem g_dvd_M {g : Nat} (h0 : 0 < g) (h : g ≤ 40) : g ∣ 5342931457063200 := by
  have : ∀ g : Fin 41, 0 < g.1 → g.1 ∣ 5342931457063200 := by decide
  exact this ⟨g, by omega⟩ h0
theorem lcmTo_le {gs : List Nat} (h : ∀ g ∈ gs, 0 < g ∧ g ≤ 40) : lcmTo gs ≤ 5342931457063200 :=
  Nat.le_of_dvd (by omega) (lcmTo_dvd fun g hg => g_dvd_M (h g hg).1 (h g hg).2)
theorem densD_le {gs : List Nat} (h : ∀ g ∈ gs, 0 < g ∧ g ≤ 40) : densD gs ≤ 5342931457063200 := Nat.le_trans (lowD_le _ _) (lcmTo_le h)
theorem densN_le {gs : List Nat} (h : ∀ g ∈ gs, 0 < g ∧ g ≤ 40) : densN gs ≤ gs.length * 5342931457063200 :=
  Nat.le_trans (lowN_le _ _) (Nat.le_trans (sumTo_le _ _) (Nat.mul_le_mul_left _ (lcmTo_le h)))

set_option maxRecDepth 100000 in
set_option maxHeartbeats 4000000 in
theorem greatestDivisor_c (x y : Nat) (w : World) (hx : x ≤ 4611686018427387904) (hy : y ≤ 4611686018427387904) :
    Calls Try.prog 136 #[.int .i64 x, .int .i64 y] w fun e w' => e = .returned (.int .i64 (Nat.gcd x y : Nat)) ∧ Below w.heap.size w w' := by
  go_enter Try.func136, Try.ntmps136
  go_wp2
  go_loopw [0, 1] (fun p q wr => ∃ k m : Nat, k ≤ 4611686018427387904 ∧ m ≤ 4611686018427387904 ∧ p = .int .i64 k ∧ q = .int .i64 m ∧ Nat.gcd k m = Nat.gcd x y ∧ Below w.heap.size w wr) (fun _ q _ => (intOf q).toNat)
  case atStart => exact ⟨x, y, hx, hy, rfl, rfl, rfl, Below.refl _ _⟩
  case round =>
    obtain ⟨k, m, hk, hm, rfl, rfl, hg, hB⟩ := hrel
    have Hg := Lib.hid hg
    clear hg
    by_cases h0 : m = 0
    · subst h0
      go_wp2
      go_ret
      exact ⟨ret_int (by rw [← Hg.out]; simp), hB⟩
    · have hz : ((m : Nat) : Int) ≠ 0 := by omega
      have hmo : ((k : Int)).tmod m = ((k % m : Nat) : Int) := rfl
      have hme : (k : Int) % m = ((k % m : Nat) : Int) := by simp
      have hlt := Nat.mod_lt k (show 0 < m by omega)
      obtain ⟨r, hr⟩ : ∃ r, k % m = r := ⟨_, rfl⟩
      have hg2 : Nat.gcd m r = Nat.gcd x y := by rw [← hr, ← Hg.out, Nat.gcd_comm k m, Nat.gcd_rec m k, Nat.gcd_comm]
      have Hg2 := Lib.hid hg2
      rw [hr] at hmo hme hlt
      clear hg2 hr
      go_wp2
      go_region
      go_wp2
      go_roundw
      case rel => exact ⟨m, r, by omega, by omega, rfl, rfl, Hg2.out, hB.drew⟩
      case measure => simp [intOf]; omega

set_option maxRecDepth 100000 in
set_option maxHeartbeats 4000000 in
theorem l01Gcd_c (x y : Nat) (w : World) (hx : x ≤ 4611686018427387904) (hy : y ≤ 4611686018427387904) :
    Calls Try.prog 145 #[.int .i64 x, .int .i64 y] w fun e w' => e = .returned (.int .i64 (Nat.gcd x y : Nat)) ∧ Below w.heap.size w w' := by
  go_enter Try.func145, Try.ntmps145
  go_wp2
  go_loopw [0, 1] (fun p q wr => ∃ k m : Nat, k ≤ 4611686018427387904 ∧ m ≤ 4611686018427387904 ∧ p = .int .i64 k ∧ q = .int .i64 m ∧ Nat.gcd k m = Nat.gcd x y ∧ Below w.heap.size w wr) (fun _ q _ => (intOf q).toNat)
  case atStart => exact ⟨x, y, hx, hy, rfl, rfl, rfl, Below.refl _ _⟩
  case round =>
    obtain ⟨k, m, hk, hm, rfl, rfl, hg, hB⟩ := hrel
    have Hg := Lib.hid hg
    clear hg
    by_cases h0 : m = 0
    · subst h0
      go_wp2
      go_ret
      exact ⟨ret_int (by rw [← Hg.out]; simp), hB⟩
    · have hz : ((m : Nat) : Int) ≠ 0 := by omega
      have hmo : ((k : Int)).tmod m = ((k % m : Nat) : Int) := rfl
      have hme : (k : Int) % m = ((k % m : Nat) : Int) := by simp
      have hlt := Nat.mod_lt k (show 0 < m by omega)
      obtain ⟨r, hr⟩ : ∃ r, k % m = r := ⟨_, rfl⟩
      have hg2 : Nat.gcd m r = Nat.gcd x y := by rw [← hr, ← Hg.out, Nat.gcd_comm k m, Nat.gcd_rec m k, Nat.gcd_comm]
      have Hg2 := Lib.hid hg2
      rw [hr] at hmo hme hlt
      clear hg2 hr
      go_wp2
      go_roundw
      case rel => exact ⟨m, r, by omega, by omega, rfl, rfl, Hg2.out, hB⟩
      case measure => simp [intOf]; omega

/-- .. in lowest terms -/
theorem gcd_le_right' {a b : Nat} (hb : 0 < b) : Nat.gcd a b ≤ b := Nat.le_of_dvd hb (Nat.gcd_dvd_right a b)

set_option maxHeartbeats 4000000 in
theorem l01Lowest_c (x y : Nat) (w : World) (hx : x ≤ 4611686018427387904) (hy : y ≤ 4611686018427387904) (h0 : 0 < y) :
    Calls Try.prog 176 #[.int .i64 x, .int .i64 y] w fun e w' => e = .returned (.tuple #[.int .i64 (lowN x y : Nat), .int .i64 (lowD x y : Nat)]) ∧ Below w.heap.size w w' := by
  have hg : 0 < Nat.gcd x y := Nat.gcd_pos_of_pos_right _ h0
  have hgl := gcd_le_right' (a := x) h0
  have q1 : ((x : Nat) : Int).tdiv ((Nat.gcd x y : Nat) : Int) = ((lowN x y : Nat) : Int) := rfl
  have q2 : ((y : Nat) : Int).tdiv ((Nat.gcd x y : Nat) : Int) = ((lowD x y : Nat) : Int) := rfl
  have r1 : ((x : Nat) : Int) / ((Nat.gcd x y : Nat) : Int) = ((lowN x y : Nat) : Int) := by unfold lowN; simp
  have r2 : ((y : Nat) : Int) / ((Nat.gcd x y : Nat) : Int) = ((lowD x y : Nat) : Int) := by unfold lowD; simp
  have b1 := lowN_le x y
  have b2 := lowD_le x y
  go_enter Try.func176, Try.ntmps176
  go_wp2_with fail
  refine (l01Gcd_c x y w hx hy).mono ?_
  rintro e w1 ⟨rfl, hb⟩
  generalize Nat.gcd x y = g at *
  go_wp2
  go_region
  go_wp2
  go_ret2
  exact ⟨rfl, hb.drew⟩

theorem lcm_div (x y : Nat) : x / Nat.gcd x y * y = Nat.lcm x y := by
  unfold Nat.lcm; exact Nat.div_mul_right_comm (Nat.gcd_dvd_left x y) y

set_option maxHeartbeats 4000000 in
theorem l01Lcm_c (x y : Nat) (w : World) (hx : x ≤ 4611686018427387904) (hy : y ≤ 4611686018427387904) (h0 : 0 < y) (hl : Nat.lcm x y ≤ 4611686018427387904) :
    Calls Try.prog 168 #[.int .i64 x, .int .i64 y] w fun e w' => e = .returned (.int .i64 (Nat.lcm x y : Nat)) ∧ Below w.heap.size w w' := by
  have hg : 0 < Nat.gcd x y := Nat.gcd_pos_of_pos_right _ h0
  have hgl := gcd_le_right' (a := x) h0
  have q1 : ((x : Nat) : Int).tdiv ((Nat.gcd x y : Nat) : Int) = ((x / Nat.gcd x y : Nat) : Int) := rfl
  have r1 : ((x : Nat) : Int) / ((Nat.gcd x y : Nat) : Int) = ((x / Nat.gcd x y : Nat) : Int) := by simp
  have b1 : x / Nat.gcd x y ≤ x := Nat.div_le_self _ _
  have hm := lcm_div x y
  have hmi : ((x / Nat.gcd x y : Nat) : Int) * (y : Int) = ((Nat.lcm x y : Nat) : Int) := by rw [← hm, Int.natCast_mul]
  clear hm
  go_enter Try.func168, Try.ntmps168
  go_wp2_with fail
  refine (l01Gcd_c x y w hx hy).mono ?_
  rintro e w1 ⟨rfl, hb⟩
  obtain ⟨m, hmm⟩ : ∃ m, Nat.lcm x y = m := ⟨_, rfl⟩
  rw [hmm] at hmi hl
  have Hm := Lib.hid hmm
  clear hmm
  generalize x / Nat.gcd x y = q at *
  generalize Nat.gcd x y = g at *
  go_wp2
  go_ret
  exact ⟨ret_int (by rw [Hm.out]), hb⟩

/-- the first k gaps, as natural numbers -/
def natsTo (zs : List Int) (k : Nat) : List Nat := (zs.take k).map Int.toNat
theorem natsTo_succ {zs : List Int} {k : Nat} (h : k < zs.length) : natsTo zs (k + 1) = natsTo zs k ++ [(nth zs k).toNat] := by unfold natsTo; rw [take_snoc h]; simp
theorem natsTo_len {zs : List Int} {k : Nat} (h : k ≤ zs.length) : (natsTo zs k).length = k := by simp [natsTo]; omega
theorem natsTo_bd {zs : List Int} (h : tasksOk zs = true) (k : Nat) : ∀ g ∈ natsTo zs k, 0 < g ∧ g ≤ 40 := by
  intro g hg
  obtain ⟨z, hz, rfl⟩ := List.mem_map.1 hg
  unfold tasksOk at h
  rw [Bool.and_eq_true, List.all_eq_true] at h
  have := inB_true.1 (h.1 z (List.mem_of_mem_take hz))
  omega
def dens0 (zs : List Int) : Int := if tasksOk zs then ((densN (natsTo zs zs.length) : Nat) : Int) else 0
def dens1 (zs : List Int) : Int := if tasksOk zs then ((densD (natsTo zs zs.length) : Nat) : Int) else 0
def dens2 (zs : List Int) : Int := if tasksOk zs then 0 else 1
theorem ret_i2d {a b a' b' : Int} (h1 : a = a') (h2 : b = b') : Ending.returned (.tuple #[.int .i64 a, .int .i64 b]) = .returned (.tuple #[.int .i64 a', .int .i64 b']) := by rw [h1, h2]
theorem ret_i3d {a b c a' b' c' : Int} (h1 : a = a') (h2 : b = b') (h3 : c = c') : Ending.returned (.tuple #[.int .i64 a, .int .i64 b, .int .i64 c]) = .returned (.tuple #[.int .i64 a', .int .i64 b', .int .i64 c']) := by rw [h1, h2, h3]

set_option maxRecDepth 100000 in
set_option maxHeartbeats 8000000 in
theorem l01Density_c (c0 : Value) (zs : List Int) (w : World) (hI : Ints w.heap.size w c0 zs) (ht : tasksOk zs = true) :
    Calls Try.prog 143 #[.agg #[c0]] w fun e w' => e = .returned (.tuple #[.int .i64 (densN (natsTo zs zs.length) : Nat), .int .i64 (densD (natsTo zs zs.length) : Nat)]) ∧ Below w.heap.size w w' := by
  obtain ⟨a, cap, rfl⟩ := hI.shape
  have hB0 : Below w.heap.size w (w.alloc (.cells #[.slice a zs.length cap] 28)) := (Below.refl _ w).alloc (Nat.le_refl _) _
  have hl := tasksOk_len ht
  go_enter Try.func143, Try.ntmps143
  go_wp2
  go_loopw [4, 6] (fun al i wr => ∃ k : Nat, k ≤ zs.length ∧ i = .int .i64 k ∧ al = .int .i64 ((lcmTo (natsTo zs k) : Nat) : Int) ∧ Boxed wr w.heap.size 28 (.slice a zs.length cap) ∧ Below w.heap.size w wr) (fun _ i _ => zs.length - (intOf i).toNat)
  case atStart => exact ⟨0, Nat.zero_le _, rfl, rfl, Boxed.new _ _ _, hB0⟩
  case round =>
    obtain ⟨k, hk, rfl, rfl, bk, hB⟩ := hrel
    have ck := bk.cell
    have hbd := natsTo_bd ht k
    have hL := lcmTo_le hbd
    have hLp := lcmTo_pos (fun g hg => (hbd g hg).1)
    have Hbd := Lib.hid hbd
    clear hbd hB0
    by_cases hlt : k < zs.length
    · obtain ⟨b, off, rfl, hb, hc⟩ := (hI.below hB).at_ hlt
      have hcx := hc k hlt
      have hg := tasksOk_nth ht hlt
      have hbd2 := natsTo_bd ht (k + 1)
      have hL2 := lcmTo_le hbd2
      obtain ⟨g, hgz⟩ : ∃ g : Nat, nth zs k = g := ⟨(nth zs k).toNat, by omega⟩
      have hs : lcmTo (natsTo zs (k + 1)) = Nat.lcm (lcmTo (natsTo zs k)) g := by rw [natsTo_succ hlt, lcmTo_snoc, hgz]; rfl
      rw [hgz] at hcx hg
      rw [hs] at hL2
      have Hs := Lib.hid hs
      clear hc hbd2 hs hgz
      go_wp2_with fail
      refine (l01Lcm_c (lcmTo (natsTo zs k)) g wr (by omega) (by omega) (by omega) (by omega)).mono ?_
      rintro e w2 ⟨rfl, hb2⟩
      go_wp2
      go_roundw
      case rel => exact ⟨k + 1, by omega, by simp, by rw [Hs.out], boxed_later bk hb2, hB.trans (hb2.mono hB.size)⟩
      case measure => simp [intOf]; omega
    · obtain rfl : k = zs.length := by omega
      go_wp2
      go_loopw [5, 7] (fun su i wr2 => ∃ k : Nat, k ≤ zs.length ∧ i = .int .i64 k ∧ su = .int .i64 ((sumTo (natsTo zs k) (lcmTo (natsTo zs zs.length)) : Nat) : Int) ∧ Boxed wr2 w.heap.size 28 (.slice a zs.length cap) ∧ Below w.heap.size w wr2) (fun _ i _ => zs.length - (intOf i).toNat)
      case atStart => exact ⟨0, Nat.zero_le _, rfl, by simp [natsTo, sumTo], bk, hB⟩
      case round =>
        obtain ⟨k, hk2, rfl, rfl, bk2, hB2⟩ := hrel
        have ck2 := bk2.cell
        have hsl := sumTo_le (natsTo zs k) (lcmTo (natsTo zs zs.length))
        rw [natsTo_len hk2] at hsl
        have hsl2 : sumTo (natsTo zs k) (lcmTo (natsTo zs zs.length)) ≤ 8 * 5342931457063200 := Nat.le_trans hsl (Nat.mul_le_mul (by omega) hL)
        clear bk hB ck hsl
        by_cases hlt2 : k < zs.length
        · obtain ⟨b, off, rfl, hb, hc⟩ := (hI.below hB2).at_ hlt2
          have hcx := hc k hlt2
          have hg := tasksOk_nth ht hlt2
          obtain ⟨g, hgz⟩ : ∃ g : Nat, nth zs k = g := ⟨(nth zs k).toNat, by omega⟩
          have hs : sumTo (natsTo zs (k + 1)) (lcmTo (natsTo zs zs.length)) = sumTo (natsTo zs k) (lcmTo (natsTo zs zs.length)) + lcmTo (natsTo zs zs.length) / g := by rw [natsTo_succ hlt2, sumTo_snoc, hgz]; rfl
          rw [hgz] at hcx hg
          have hdl : lcmTo (natsTo zs zs.length) / g ≤ lcmTo (natsTo zs zs.length) := Nat.div_le_self _ _
          have q1 : ((lcmTo (natsTo zs zs.length) : Nat) : Int).tdiv ((g : Nat) : Int) = ((lcmTo (natsTo zs zs.length) / g : Nat) : Int) := rfl
          have r1 : ((lcmTo (natsTo zs zs.length) : Nat) : Int) / ((g : Nat) : Int) = ((lcmTo (natsTo zs zs.length) / g : Nat) : Int) := by simp
          obtain ⟨q, hq⟩ : ∃ q, lcmTo (natsTo zs zs.length) / g = q := ⟨_, rfl⟩
          rw [hq] at q1 r1 hdl hs
          have Hs := Lib.hid hs
          clear hc hs hgz hq
          go_wp2
          go_roundw
          case rel => exact ⟨k + 1, by omega, by simp, by rw [Hs.out]; simp, bk2, hB2⟩
          case measure => simp [intOf]; omega
        · obtain rfl : k = zs.length := by omega
          go_wp2_with fail
          refine (l01Lowest_c (sumTo (natsTo zs zs.length) (lcmTo (natsTo zs zs.length))) (lcmTo (natsTo zs zs.length)) wr (by omega) (by omega) hLp).mono ?_
          rintro e w2 ⟨rfl, hb2⟩
          go_wp2
          go_ret2
          exact ⟨rfl, hB2.trans (hb2.mono hB2.size)⟩

end Go.Proofs.Ytbhpflhopajbfaa
