/-
  Natural classes, the model's side: the least common prime of all gaps, and the parts by it.
  Conditions: at most eight classes.
-/
import Derived.Test.YtbhpflhopajbfaaClS
import Derived.Test.YtbhpflhopajbfaaNtr
import Derived.Test.YtbhpflhopajbfaaDens
namespace Go.Proofs.Ytbhpflhopajbfaa
open Go.RowKit Go.Shelf
attribute [local go_sem] Oper.semAt_some

def toN (cs : List (Int × Int)) : List (Nat × Nat) := cs.map fun c => (c.1.toNat, c.2.toNat)
/-- the classes among the first k with the rest r by p, divided -/
def ownF (p r : Nat) (cs : List (Int × Int)) (k : Nat) : List (Int × Int) := ((cs.take k).filter fun c => decide (c.1.toNat % p = r)).map fun c => (((c.1.toNat / p : Nat) : Int), ((c.2.toNat / p : Nat) : Int))
/-- the greatest common divisor of the first k gaps -/
def gcdG (cs : List (Int × Int)) (k : Nat) : Nat := (cs.take k).foldl (fun a c => Nat.gcd c.2.toNat a) 0
theorem rg_eq {cs : List (Int × Int)} {k : Nat} (hk : k < cs.length) : cs[k] = (rst cs k, gp cs k) := by unfold rst gp; simp [List.getElem?_eq_getElem hk]
theorem gcdG_succ {cs : List (Int × Int)} {k : Nat} (hk : k < cs.length) : gcdG cs (k + 1) = Nat.gcd (gp cs k).toNat (gcdG cs k) := by
  unfold gcdG
  rw [List.take_succ_eq_append_getElem hk, List.foldl_append, rg_eq hk]
  rfl
theorem gcdG_le {cs : List (Int × Int)} (h : Clss cs) : ∀ k, k ≤ cs.length → gcdG cs k ≤ 40
  | 0, _ => by simp [gcdG]
  | k + 1, hk => by
    rw [gcdG_succ (by omega)]
    have hb := h k (by omega)
    exact Nat.le_trans (Nat.gcd_le_left _ (by omega)) (by omega)
theorem gcdG_dvd {cs : List (Int × Int)} {q : Nat} : ∀ k, k ≤ cs.length → (q ∣ gcdG cs k ↔ ∀ j, j < k → q ∣ (gp cs j).toNat)
  | 0, _ => ⟨fun _ j hj => by omega, fun _ => by simp [gcdG]⟩
  | k + 1, hk => by
    rw [gcdG_succ (by omega), Nat.dvd_gcd_iff, gcdG_dvd k (by omega)]
    refine ⟨fun h j hj => ?_, fun h => ⟨h k (by omega), fun j hj => h j (by omega)⟩⟩
    by_cases e : j = k
    · rw [e]; exact h.1
    · exact h.2 j (by omega)
theorem gcdG_all {cs : List (Int × Int)} {q : Nat} : q ∣ gcdG cs cs.length ↔ ∀ c ∈ toN cs, q ∣ c.2 := by
  rw [gcdG_dvd _ (Nat.le_refl _)]
  constructor
  · intro h c hc
    unfold toN at hc
    rw [List.mem_map] at hc
    obtain ⟨d, hd, rfl⟩ := hc
    obtain ⟨j, hj, rfl⟩ := List.getElem_of_mem hd
    have := h j hj
    rw [rg_eq hj]
    exact this
  · intro h j hj
    have := h ((cs[j]).1.toNat, (cs[j]).2.toNat) (List.mem_map.2 ⟨_, List.getElem_mem hj, rfl⟩)
    rw [rg_eq hj] at this
    exact this
theorem gcdG_pos {cs : List (Int × Int)} (h : Clss cs) (h0 : 0 < cs.length) : 1 ≤ gcdG cs cs.length := by
  have h1 := (gcdG_dvd (cs := cs) (q := gcdG cs cs.length) cs.length (Nat.le_refl _)).1 (Nat.dvd_refl _) 0 h0
  have hb := h 0 h0
  exact Nat.pos_of_dvd_of_pos h1 (by omega)
theorem ownF_succ {p r : Nat} {cs : List (Int × Int)} {k : Nat} (hk : k < cs.length) : ownF p r cs (k + 1) = if (rst cs k).toNat % p = r then ownF p r cs k ++ [((((rst cs k).toNat / p : Nat) : Int), (((gp cs k).toNat / p : Nat) : Int))] else ownF p r cs k := by
  unfold ownF
  rw [List.take_succ_eq_append_getElem hk, List.filter_append, List.map_append, rg_eq hk]
  by_cases h : (rst cs k).toNat % p = r
  · rw [if_pos h, List.filter_cons_of_pos (by simpa using h)]; rfl
  · rw [if_neg h, List.filter_cons_of_neg (by simpa using h)]; simp
theorem ownF_len (p r : Nat) (cs : List (Int × Int)) (k : Nat) : (ownF p r cs k).length ≤ cs.length := by
  unfold ownF
  rw [List.length_map]
  exact Nat.le_trans (List.length_filter_le _ _) (by rw [List.length_take]; omega)
theorem ownF_sub (p r : Nat) (cs : List (Int × Int)) : toN (ownF p r cs cs.length) = Ntr.sub p r (toN cs) := by
  unfold toN ownF Ntr.sub
  rw [List.take_length, List.map_map, List.filter_map, List.map_map]
  rfl
theorem ownF_mem {p r : Nat} {cs : List (Int × Int)} {c : Int × Int} (h : c ∈ ownF p r cs cs.length) : ∃ d ∈ cs, c = (((d.1.toNat / p : Nat) : Int), ((d.2.toNat / p : Nat) : Int)) := by
  unfold ownF at h
  rw [List.take_length, List.mem_map] at h
  obtain ⟨d, hd, rfl⟩ := h
  exact ⟨d, (List.mem_filter.1 hd).1, rfl⟩
theorem clss_iff {cs : List (Int × Int)} : Clss cs ↔ ∀ c ∈ cs, 1 ≤ c.2 ∧ c.2 ≤ 40 ∧ 0 ≤ c.1 ∧ c.1 < c.2 := by
  constructor
  · intro h c hc
    obtain ⟨j, hj, rfl⟩ := List.getElem_of_mem hc
    have := h j hj
    rw [rg_eq hj]
    exact this
  · intro h k hk
    have := h _ (List.getElem_mem hk)
    rw [rg_eq hk] at this
    exact this
theorem ownF_cls {p r : Nat} {cs : List (Int × Int)} (h2 : 2 ≤ p) (h : Clss cs) (hd : ∀ c ∈ toN cs, p ∣ c.2) : Clss (ownF p r cs cs.length) := by
  rw [clss_iff] at h ⊢
  intro c hc
  obtain ⟨d, hdm, rfl⟩ := ownF_mem hc
  have hb := h d hdm
  obtain ⟨q, hq⟩ := hd (d.1.toNat, d.2.toNat) (List.mem_map.2 ⟨d, hdm, rfl⟩)
  dsimp only at hq ⊢
  rw [hq, Nat.mul_div_cancel_left _ (by omega)]
  have hq1 : 1 ≤ q := by
    rcases Nat.eq_zero_or_pos q with e | e
    · rw [e] at hq; omega
    · exact e
  have hq2 : q ≤ p * q := Nat.le_mul_of_pos_left _ (by omega)
  have hlt : d.1.toNat / p < q := Nat.div_lt_of_lt_mul (by omega)
  obtain ⟨f, hf⟩ : ∃ f, d.1.toNat / p = f := ⟨_, rfl⟩
  obtain ⟨t, ht⟩ : ∃ t, p * q = t := ⟨_, rfl⟩
  rw [hf] at hlt ⊢
  rw [ht] at hq hq2
  omega
theorem nm_one {c : Int × Int} : Ntr.Nm (toN [c]) ↔ c.2.toNat = 1 := by
  constructor
  · intro h
    cases h with
    | one _ h => exact h
    | many p l hl => exact absurd rfl hl
  · intro h
    exact Ntr.Nm.one _ h
theorem nm_inv {l : List (Nat × Nat)} (hl : l.length ≠ 1) (h : Ntr.Nm l) : ∃ p, Ntr.Least p l ∧ ∀ r, r < p → Ntr.sub p r l ≠ [] ∧ Ntr.Nm (Ntr.sub p r l) := by
  cases h with
  | one c _ => exact absurd rfl hl
  | many p l _ hp hn hk => exact ⟨p, hp, fun r hr => ⟨hn r hr, hk r hr⟩⟩
theorem least_one {p q : Nat} {l : List (Nat × Nat)} (hp : Ntr.Least p l) (hq : Ntr.Least q l) : p = q := by
  rcases Nat.lt_trichotomy p q with h | h | h
  · exact absurd hp.2.1 (hq.2.2 p hp.1 h)
  · exact h
  · exact absurd hq.2.1 (hp.2.2 q hq.1 h)

/-- what the model's search answers -/
def NmPost (cs : List (Int × Int)) (w : World) (e : Ending) (w' : World) : Prop := ∃ b : Bool, e = .returned (.bool b) ∧ (b = true ↔ Ntr.Nm (toN cs)) ∧ Below w.heap.size w w'

set_option maxRecDepth 100000 in
set_option maxHeartbeats 16000000 in
theorem nat_one (x y : Nat) (sv : Value) (w : World) (hI : Cls w.heap.size w sv [((x : Int), (y : Int))]) :
    Calls Try.prog 82 #[sv] w (NmPost [((x : Int), (y : Int))] w) := by
  obtain ⟨a, cap, rfl⟩ := hI.shape
  obtain ⟨b', off', rfl, hb', hc'⟩ := hI.at_ (show 0 < [((x : Int), (y : Int))].length by simp)
  obtain ⟨x0, x1⟩ := hc' 0 (by simp)
  rw [show rst [((x : Int), (y : Int))] 0 = (x : Int) from rfl] at x0
  rw [show gp [((x : Int), (y : Int))] 0 = (y : Int) from rfl] at x1
  simp only [Nat.add_zero, Nat.zero_mul] at x0 x1
  rw [show [((x : Int), (y : Int))].length = 1 from rfl]
  have hn := nm_one (c := ((x : Int), (y : Int)))
  obtain ⟨d, hd⟩ : ∃ d, ((y : Int) == 1) = d := ⟨_, rfl⟩
  have hf : d = true ↔ Ntr.Nm (toN [((x : Int), (y : Int))]) := by
    rw [hn, ← hd, beq_iff_eq]
    simp only [Int.toNat_natCast]
    omega
  have Hf := Lib.hid hf
  clear hn hf hc' hI
  go_enter Try.func82, Try.ntmps82
  go_wp2
  go_ret
  exact ⟨d, rfl, Hf.out, Below.refl _ _⟩

set_option maxRecDepth 100000 in
set_option maxHeartbeats 16000000 in
theorem nat_step (cs : List (Int × Int)) (sv : Value) (w : World) (hI : Cls w.heap.size w sv cs) (hcl : Clss cs) (h1 : ¬ cs.length = 1) (h0 : 0 < cs.length) (h8 : cs.length ≤ 8)
    (hrec : ∀ (sv' : Value) (w' : World) (p r : Nat), 2 ≤ p → (∀ c ∈ toN cs, p ∣ c.2) → r < p → ownF p r cs cs.length ≠ [] → Cls w'.heap.size w' sv' (ownF p r cs cs.length) → Calls Try.prog 82 #[sv'] w' (NmPost (ownF p r cs cs.length) w')) :
    Calls Try.prog 82 #[sv] w (NmPost cs w) := by
  obtain ⟨i0, hi0, hz0, hz1, hz2⟩ := info_parts2 Try.infoC
  have hfw : Try.prog.follows Departure.mixedOrders = true := by kernel_rfl
  obtain ⟨a, cap, rfl⟩ := hI.shape
  have Hcl := Lib.hid hcl
  have Hrec := Lib.hid hrec
  have hG1 := gcdG_pos hcl h0
  have hln : (toN cs).length ≠ 1 := by unfold toN; rw [List.length_map]; exact h1
  have hce : ((cs.length : Int) == 1) = false := by rw [beq_eq_false_iff_ne]; omega
  have hz : gcdG cs 0 = 0 := by simp [gcdG]
  clear hrec
  go_enter Try.func82, Try.ntmps82
  go_wp2_with fail
  go_loopw [3, 4] (fun g i wr => ∃ k : Nat, k ≤ cs.length ∧ g = .int .i64 (gcdG cs k : Nat) ∧ i = .int .i64 k ∧ Below w.heap.size w wr) (fun _ i _ => cs.length - (intOf i).toNat)
  case atStart => exact ⟨0, Nat.zero_le _, by rw [hz]; rfl, rfl, Below.refl _ _⟩
  case round =>
    obtain ⟨k, hk, rfl, rfl, hB⟩ := hrel
    clear hz
    have hle := gcdG_le Hcl.out k hk
    by_cases hlt : k < cs.length
    · have hlti : (k : Int) < (cs.length : Int) := by omega
      obtain ⟨b', off', rfl, hb', hc'⟩ := (hI.below hB).at_ hlt
      obtain ⟨x0, x1⟩ := hc' k hlt
      have hcm := hcl k hlt
      obtain ⟨y, hy⟩ : ∃ y : Nat, gp cs k = (y : Int) := ⟨(gp cs k).toNat, by omega⟩
      have Hs := Lib.hid (gcdG_succ hlt)
      rw [hy] at x1 hcm Hs
      have hsz := hB.size
      clear hc' hcl
      go_wp2_with fail
      refine (l01Gcd_c y (gcdG cs k) _ (by omega) (by omega)).mono ?_
      rintro e w2 ⟨rfl, hb2⟩
      go_wp2
      go_roundw
      case rel => exact ⟨k + 1, by omega, by rw [Hs.out]; simp, by simp, hB.trans (hb2.mono hsz)⟩
      case measure => simp [intOf]; omega
    · obtain rfl : k = cs.length := by omega
      obtain ⟨G, hG⟩ : ∃ G, gcdG cs cs.length = G := ⟨_, rfl⟩
      have hGd := fun q => gcdG_all (cs := cs) (q := q)
      rw [hG] at hle hG1 ⊢
      simp only [hG] at hGd
      have HGd := Lib.hid hGd
      clear hG hGd
      by_cases hG2 : G = 1
      · have Hn := Lib.hid (show ¬ Ntr.Nm (toN cs) by
          intro h
          obtain ⟨p, hp, _⟩ := nm_inv hln h
          have := (HGd.out p).2 hp.2.1
          rw [hG2] at this
          have := Nat.le_of_dvd (by omega) this
          have := hp.1
          omega)
        subst hG2
        go_wp2_with fail
        go_ret
        exact ⟨false, rfl, by simp [Hn.out], hB⟩
      · have hGe : ((G : Int) == 1) = false := by rw [beq_eq_false_iff_ne]; omega
        have hG3 : 2 ≤ G := by omega
        go_wp2_with fail
        go_loopw [5] (fun pv wr2 => ∃ p : Nat, pv = .int .i64 (p : Int) ∧ 2 ≤ p ∧ p ≤ G ∧ (∀ q, 2 ≤ q → q < p → ¬ q ∣ G) ∧ Below w.heap.size w wr2) (fun pv _ => G + 1 - (intOf pv).toNat)
        case atStart => exact ⟨2, rfl, by omega, hG3, fun q h2 h3 => by omega, hB⟩
        case round =>
          obtain ⟨p, rfl, hp2, hpG, hno, hB2⟩ := hrel
          have Hno := Lib.hid hno
          clear hno hB
          have hmo : ((G : Nat) : Int).tmod ((p : Nat) : Int) = ((G % p : Nat) : Int) := rfl
          have hme : ((G : Nat) : Int) % ((p : Nat) : Int) = ((G % p : Nat) : Int) := by simp
          have hp0 : ((p : Nat) : Int) ≠ 0 := by omega
          by_cases hd : G % p = 0
          · have hL : Ntr.Least p (toN cs) := ⟨hp2, (HGd.out p).1 (Nat.dvd_of_mod_eq_zero hd), fun q h2 h3 h4 => Hno.out q h2 h3 ((HGd.out q).2 h4)⟩
            have HL := Lib.hid hL
            have hdi : ((G % p : Nat) : Int) = 0 := by omega
            rw [hdi] at hmo hme
            clear hL hdi hd
            have hp40 : p ≤ 40 := by omega
            clear hG3
            go_wp2_with fail
            go_loopw [6] (fun rv wr3 => ∃ r : Nat, rv = .int .i64 (r : Int) ∧ r ≤ p ∧ (∀ q, q < r → Ntr.sub p q (toN cs) ≠ [] ∧ Ntr.Nm (Ntr.sub p q (toN cs))) ∧ Below w.heap.size w wr3) (fun rv _ => p - (intOf rv).toNat)
            case atStart => exact ⟨0, rfl, Nat.zero_le _, fun q hq => by omega, hB2⟩
            case round =>
              obtain ⟨r, rfl, hr, hnr, hB3⟩ := hrel
              have Hnr := Lib.hid hnr
              clear hnr hB2
              by_cases hrp : r < p
              · have hrpi : (r : Int) < (p : Int) := by omega
                have ho0 : OwnC w.heap.size (wr.alloc (.cells #[] 106)) (.slice (some ⟨wr.heap.size, 0, none⟩) 0 0) (ownF p r cs 0).length (flat (ownF p r cs 0)) := World.ownsRow_made wr #[] 0 hB3.size (by unfold maxLen; omega) rfl
                have hB4 : Below w.heap.size w (wr.alloc (.cells #[] 106)) := hB3.alloc hB3.size _
                go_wp2_with fail
                go_loopw [7, 8] (fun v i wr4 => ∃ k : Nat, k ≤ cs.length ∧ i = .int .i64 (k : Int) ∧ OwnC w.heap.size wr4 v (ownF p r cs k).length (flat (ownF p r cs k)) ∧ Below w.heap.size w wr4) (fun _ i _ => cs.length - (intOf i).toNat)
                case atStart => exact ⟨0, Nat.zero_le _, rfl, ho0, hB4⟩
                case round =>
                  obtain ⟨k, hk, rfl, ho, hB⟩ := hrel
                  clear ho0 hB4 hB3
                  by_cases hlt : k < cs.length
                  · have hlti : (k : Int) < (cs.length : Int) := by omega
                    obtain ⟨b', off', rfl, hb', hc'⟩ := (hI.below hB).at_ hlt
                    obtain ⟨x0, x1⟩ := hc' k hlt
                    have hcm := hcl k hlt
                    obtain ⟨y, hy⟩ : ∃ y : Nat, gp cs k = (y : Int) := ⟨(gp cs k).toNat, by omega⟩
                    obtain ⟨x, hx⟩ : ∃ x : Nat, rst cs k = (x : Int) := ⟨(rst cs k).toNat, by omega⟩
                    have hs := ownF_succ (p := p) (r := r) hlt
                    have hll := ownF_len p r cs k
                    obtain ⟨L, hL⟩ : ∃ L, ownF p r cs k = L := ⟨_, rfl⟩
                    rw [hL] at ho hs hll
                    rw [hx, hy] at hs hcm
                    rw [hx] at x0
                    rw [hy] at x1
                    simp only [Int.toNat_natCast] at hs
                    have hsz := hB.size
                    have hmo : ((x : Nat) : Int).tmod ((p : Nat) : Int) = ((x % p : Nat) : Int) := rfl
                    have hme : ((x : Nat) : Int) % ((p : Nat) : Int) = ((x % p : Nat) : Int) := by simp
                    obtain ⟨rr, hrr⟩ : ∃ rr, x % p = rr := ⟨_, rfl⟩
                    rw [hrr] at hmo hme hs
                    clear hc' hcl hL
                    by_cases he : rr = r
                    · have heq : ((rr : Int) == (r : Int)) = true := by rw [he]; exact beq_self_eq_true _
                      rw [if_pos he] at hs
                      have hdx : ((x : Nat) : Int).tdiv ((p : Nat) : Int) = ((x / p : Nat) : Int) := rfl
                      have hdy : ((y : Nat) : Int).tdiv ((p : Nat) : Int) = ((y / p : Nat) : Int) := rfl
                      have hxl := Nat.div_le_self x p
                      have hyl := Nat.div_le_self y p
                      obtain ⟨qx, hqx⟩ : ∃ qx, x / p = qx := ⟨_, rfl⟩
                      obtain ⟨qy, hqy⟩ : ∃ qy, y / p = qy := ⟨_, rfl⟩
                      rw [hqx] at hs hdx hxl
                      rw [hqy] at hs hdy hyl
                      have hex : ((x : Nat) : Int) / ((p : Nat) : Int) = ((qx : Nat) : Int) := by rw [← hqx]; simp
                      have hey : ((y : Nat) : Int) / ((p : Nat) : Int) = ((qy : Nat) : Int) := by rw [← hqy]; simp
                      have hwx : IntKind.i64.wrap ((qx : Nat) : Int) = qx := by rw [IntKind.wrap_i64]; omega
                      have hwy : IntKind.i64.wrap ((qy : Nat) : Int) = qy := by rw [IntKind.wrap_i64]; omega
                      have Hs := Lib.hid hs
                      have hrow : wr.drew.ownsRow w.heap.size 106 2 u7 L.length ((flat L).map (.int .i64)) := World.ownsRow.drew ho
                      clear hs hqx hqy hrr
                      go_wp2_with fail
                      refine wp_region_held_drew (S := fun w' => Below w.heap.size w w') hfw hB.drew ?_
                      intro hS0
                      refine wpAnyH_take (i := 0) (v := ?vn1q0) rfl (by kernel_rfl) (by kernel_rfl) (by kernel_rfl) (fun _ _ _ h => h) (.inl ⟨by first | kernel_rfl | rfl, ?yn1q0⟩) hS0 ?_
                      case yn1q0 =>
                        intro w' hS
                        (have k1 := (hS.cell (p := ⟨b', off' + k * 2, none⟩) hb').trans ((hB.cell (p := ⟨b', off' + k * 2, none⟩) hb').symm.trans x0); clear hS)
                        go_simp
                        try with_reducible rfl
                      refine wpAnyH_take (i := 1) (v := ?vn1q1) rfl (by kernel_rfl) (by kernel_rfl) (by kernel_rfl) (fun _ _ _ h => h) (.inl ⟨by first | kernel_rfl | rfl, ?yn1q1⟩) hS0 ?_
                      case yn1q1 =>
                        intro w' hS
                        (have k1 := (hS.cell (p := ⟨b', off' + k * 2, none⟩) hb').trans ((hB.cell (p := ⟨b', off' + k * 2, none⟩) hb').symm.trans x0); clear hS)
                        go_simp
                        try with_reducible rfl
                      refine wpAnyH_take (i := 2) (v := ?vn1q2) rfl (by kernel_rfl) (by kernel_rfl) (by kernel_rfl) (fun _ _ _ h => h) (.inl ⟨by first | kernel_rfl | rfl, ?yn1q2⟩) hS0 ?_
                      case yn1q2 =>
                        intro w' hS
                        (have k1 := (hS.cell (p := ⟨b', off' + k * 2, none⟩) hb').trans ((hB.cell (p := ⟨b', off' + k * 2, none⟩) hb').symm.trans x0); clear hS)
                        go_simp
                        try with_reducible rfl
                      refine wpAnyH_take (i := 3) (v := ?vn1q3) rfl (by kernel_rfl) (by kernel_rfl) (by kernel_rfl) (fun _ _ _ h => h) (.inl ⟨by first | kernel_rfl | rfl, ?yn1q3⟩) hS0 ?_
                      case yn1q3 =>
                        intro w' hS
                        (have k1 := (hS.cell (p := ⟨b', off' + k * 2, none⟩) hb').trans ((hB.cell (p := ⟨b', off' + k * 2, none⟩) hb').symm.trans x0); clear hS)
                        go_simp
                        try with_reducible rfl
                      refine wpAnyH_take (i := 4) (v := ?vn1q4) rfl (by kernel_rfl) (by kernel_rfl) (by kernel_rfl) (fun _ _ _ h => h) (.inl ⟨by first | kernel_rfl | rfl, ?yn1q4⟩) hS0 ?_
                      case yn1q4 =>
                        intro w' hS
                        (have k1 := (hS.cell (p := ⟨b', off' + k * 2, none⟩) hb').trans ((hB.cell (p := ⟨b', off' + k * 2, none⟩) hb').symm.trans x0); clear hS)
                        go_simp
                        try with_reducible rfl
                      refine wpAnyH_take (i := 5) (v := ?vn1q5) rfl (by kernel_rfl) (by kernel_rfl) (by kernel_rfl) (fun _ _ _ h => h) (.inl ⟨by first | kernel_rfl | rfl, ?yn1q5⟩) hS0 ?_
                      case yn1q5 =>
                        intro w' hS
                        (have k1 := (hS.cell (p := ⟨b', off' + k * 2, none⟩) hb').trans ((hB.cell (p := ⟨b', off' + k * 2, none⟩) hb').symm.trans x0); clear hS)
                        go_simp
                        try with_reducible rfl
                      refine wpAnyH_take (i := 6) (v := ?vn1q6) rfl (by kernel_rfl) (by kernel_rfl) (by kernel_rfl) (fun _ _ _ h => h) (.inl ⟨by first | kernel_rfl | rfl, ?yn1q6⟩) hS0 ?_
                      case yn1q6 =>
                        intro w' hS
                        (have k1 := (hS.cell (p := ⟨b', off' + k * 2, none⟩) hb').trans ((hB.cell (p := ⟨b', off' + k * 2, none⟩) hb').symm.trans x0); clear hS)
                        go_simp
                        try with_reducible rfl
                      refine wpAnyH_take (i := 7) (v := (.int .i64 qx)) rfl (by kernel_rfl) (by kernel_rfl) (by kernel_rfl) (fun _ _ _ h => h) (.inl ⟨by first | kernel_rfl | rfl, ?yn2q7⟩) hS0 ?_
                      case yn2q7 =>
                        intro w' hS
                        (clear hS)
                        go_simp
                        first | done | (simp; done) | (simp; omega) | omega | (simp [*]; done)
                      refine wpAnyH_take (i := 8) (v := ?vn3q8) rfl (by kernel_rfl) (by kernel_rfl) (by kernel_rfl) (fun _ _ _ h => h) (.inl ⟨by first | kernel_rfl | rfl, ?yn3q8⟩) hS0 ?_
                      case yn3q8 =>
                        intro w' hS
                        (have k1 := (hS.cell (p := ⟨b', off' + k * 2 + 1, none⟩) hb').trans ((hB.cell (p := ⟨b', off' + k * 2 + 1, none⟩) hb').symm.trans x1); clear hS)
                        go_simp
                        try with_reducible rfl
                      refine wpAnyH_take (i := 9) (v := ?vn3q9) rfl (by kernel_rfl) (by kernel_rfl) (by kernel_rfl) (fun _ _ _ h => h) (.inl ⟨by first | kernel_rfl | rfl, ?yn3q9⟩) hS0 ?_
                      case yn3q9 =>
                        intro w' hS
                        (have k1 := (hS.cell (p := ⟨b', off' + k * 2 + 1, none⟩) hb').trans ((hB.cell (p := ⟨b', off' + k * 2 + 1, none⟩) hb').symm.trans x1); clear hS)
                        go_simp
                        try with_reducible rfl
                      refine wpAnyH_take (i := 10) (v := ?vn3q10) rfl (by kernel_rfl) (by kernel_rfl) (by kernel_rfl) (fun _ _ _ h => h) (.inl ⟨by first | kernel_rfl | rfl, ?yn3q10⟩) hS0 ?_
                      case yn3q10 =>
                        intro w' hS
                        (have k1 := (hS.cell (p := ⟨b', off' + k * 2 + 1, none⟩) hb').trans ((hB.cell (p := ⟨b', off' + k * 2 + 1, none⟩) hb').symm.trans x1); clear hS)
                        go_simp
                        try with_reducible rfl
                      refine wpAnyH_take (i := 11) (v := ?vn3q11) rfl (by kernel_rfl) (by kernel_rfl) (by kernel_rfl) (fun _ _ _ h => h) (.inl ⟨by first | kernel_rfl | rfl, ?yn3q11⟩) hS0 ?_
                      case yn3q11 =>
                        intro w' hS
                        (have k1 := (hS.cell (p := ⟨b', off' + k * 2 + 1, none⟩) hb').trans ((hB.cell (p := ⟨b', off' + k * 2 + 1, none⟩) hb').symm.trans x1); clear hS)
                        go_simp
                        try with_reducible rfl
                      refine wpAnyH_take (i := 12) (v := ?vn3q12) rfl (by kernel_rfl) (by kernel_rfl) (by kernel_rfl) (fun _ _ _ h => h) (.inl ⟨by first | kernel_rfl | rfl, ?yn3q12⟩) hS0 ?_
                      case yn3q12 =>
                        intro w' hS
                        (have k1 := (hS.cell (p := ⟨b', off' + k * 2 + 1, none⟩) hb').trans ((hB.cell (p := ⟨b', off' + k * 2 + 1, none⟩) hb').symm.trans x1); clear hS)
                        go_simp
                        try with_reducible rfl
                      refine wpAnyH_take (i := 13) (v := ?vn3q13) rfl (by kernel_rfl) (by kernel_rfl) (by kernel_rfl) (fun _ _ _ h => h) (.inl ⟨by first | kernel_rfl | rfl, ?yn3q13⟩) hS0 ?_
                      case yn3q13 =>
                        intro w' hS
                        (have k1 := (hS.cell (p := ⟨b', off' + k * 2 + 1, none⟩) hb').trans ((hB.cell (p := ⟨b', off' + k * 2 + 1, none⟩) hb').symm.trans x1); clear hS)
                        go_simp
                        try with_reducible rfl
                      refine wpAnyH_take (i := 14) (v := (.int .i64 qy)) rfl (by kernel_rfl) (by kernel_rfl) (by kernel_rfl) (fun _ _ _ h => h) (.inl ⟨by first | kernel_rfl | rfl, ?yn4q14⟩) hS0 ?_
                      case yn4q14 =>
                        intro w' hS
                        (clear hS)
                        go_simp
                        first | done | (simp; done) | (simp; omega) | omega | (simp [*]; done)
                      refine wpAnyH_take (i := 15) (v := ?vn5q15) rfl (by kernel_rfl) (by kernel_rfl) (by kernel_rfl) (fun _ _ _ h => h) (.inl ⟨by first | kernel_rfl | rfl, ?yn5q15⟩) hS0 ?_
                      case yn5q15 =>
                        intro w' hS
                        (clear hS)
                        go_simp
                        try with_reducible rfl
                      refine wpAnyH_ready (rs := [16]) (by kernel_rfl) (by simp) ?_
                      refine AllReadyH.cons rfl (fun K' hK' => ?_) AllReadyH.nil
                      rw [if_pos (by first | kernel_rfl | rfl)]
                      go_simp
                      refine hK'.out _ _ (hS0.alloc hS0.size _) fun hS2 => ?_
                      refine wpAnyH_ready (rs := [17]) (by kernel_rfl) (by simp) ?_
                      refine AllReadyH.cons rfl (fun K' hK' => ?_) AllReadyH.nil
                      rw [if_pos (by first | kernel_rfl | rfl)]
                      refine wp_append_own _ (.tmp 59) (.tmp 75) 54 rfl w.heap.size 106 i0 (.agg #[.int .i64 0, .int .i64 0]) 2 16 Try.underlying54 hi0 hz0 hz1 hz2 rfl (by decide) _ _ _ rfl (World.ownsRow.alloc hrow _) ⟨wr.heap.size, 0, none⟩ 1 1 [.int .i64 (qx : Int), .int .i64 (qy : Int)] rfl rfl (cell_two_new _ _ _ _) (by simp [Value.oneCell']) (by unfold maxLen; omega) (by omega) (by simp; omega) ?_
                      intro v' w5 hown' hgrow hfar
                      have ho6 := ownC_snoc hown'
                      rw [← Hs.out] at ho6
                      have hb5 : ∀ j, u7.ownBlock = some j → w.heap.size ≤ j := fun j e => (ho.blk j e).1
                      have s4 : Below w.heap.size w w5 := hS2.grown hgrow hS2.size (fun j e => by have := hb5 j e; omega)
                      clear hown' hgrow hfar hS2 hS0 ho hrow hB
                      refine hK'.out _ _ s4 fun hS3 => ?_
                      refine wpAnyH_take (i := 18) (v := ?vn7q18) rfl (by kernel_rfl) (by kernel_rfl) (by kernel_rfl) (fun _ _ _ h => h) (.inl ⟨by first | kernel_rfl | rfl, ?yn7q18⟩) hS3 ?_
                      case yn7q18 =>
                        intro w' hS
                        (clear hS)
                        go_simp
                        try with_reducible rfl
                      refine wpAnyH_done (by kernel_rfl) ?_ _
                      clear hS3
                      go_wp2
                      go_roundw
                      case rel => exact ⟨k + 1, by omega, by simp, ho6, s4⟩
                      case measure => simp [intOf]; omega
                    · have heq : ((rr : Int) == (r : Int)) = false := by rw [beq_eq_false_iff_ne]; omega
                      rw [if_neg he] at hs
                      have Hs := Lib.hid hs
                      clear hs hrr
                      go_wp2_with fail
                      go_roundw
                      case rel => exact ⟨k + 1, by omega, by simp, by rw [Hs.out]; exact ho, hB⟩
                      case measure => simp [intOf]; omega
                  · obtain rfl : k = cs.length := by omega
                    have hsz := hB.size
                    have hos := ownF_sub p r cs
                    have hq := fun sv' => Hrec.out sv' wr p r hp2 HL.out.2.1 hrp
                    obtain ⟨L, hL⟩ : ∃ L, ownF p r cs cs.length = L := ⟨_, rfl⟩
                    rw [hL] at ho hos hq
                    have hll : L.length ≤ cs.length := by rw [← hL]; exact ownF_len _ _ _ _
                    obtain ⟨av, cv, rfl⟩ := (show Cls wr.heap.size wr u7 L from ho.prs).shape
                    by_cases hL0 : L = []
                    · have Hn := Lib.hid (show ¬ Ntr.Nm (toN cs) by
                        intro h
                        obtain ⟨p', hp', hk'⟩ := nm_inv hln h
                        obtain rfl := least_one HL.out hp'
                        refine (hk' r hrp).1 ?_
                        rw [← hos, hL0]
                        rfl)
                      have hl0 : L.length = 0 := by rw [hL0]; rfl
                      rw [hl0]
                      clear hq
                      go_wp2_with fail
                      go_ret
                      exact ⟨false, rfl, by simp [Hn.out], hB⟩
                    · have hl0 : L.length ≠ 0 := fun h => hL0 (List.eq_nil_of_length_eq_zero h)
                      have hl0i : ((L.length : Int) == 0) = false := by rw [beq_eq_false_iff_ne]; omega
                      have Hq := Lib.hid (hq _ hL0 ho.prs)
                      clear hq
                      go_wp2_with fail
                      refine Hq.out.mono ?_
                      rintro e w5 ⟨d, rfl, hd, hb5⟩
                      have hB5 := hB.trans (hb5.mono hsz)
                      rw [hos] at hd
                      cases d
                      · have Hn := Lib.hid (show ¬ Ntr.Nm (toN cs) by
                          intro h
                          obtain ⟨p', hp', hk'⟩ := nm_inv hln h
                          obtain rfl := least_one HL.out hp'
                          have := hd.2 (hk' r hrp).2
                          cases this)
                        clear hd
                        go_wp2_with fail
                        go_ret
                        exact ⟨false, rfl, by simp [Hn.out], hB5⟩
                      · have Hn := Lib.hid (hd.1 rfl)
                        have Hnn := Lib.hid (show Ntr.sub p r (toN cs) ≠ [] by
                          rw [← hos]
                          intro h
                          unfold toN at h
                          exact hL0 (List.map_eq_nil_iff.1 h))
                        clear hd
                        go_wp2_with fail
                        go_roundw
                        case rel => exact ⟨r + 1, by simp, by omega, fun q hq => by
                          by_cases e : q = r
                          · rw [e]; exact ⟨Hnn.out, Hn.out⟩
                          · exact Hnr.out q (by omega), hB5⟩
                        case measure => simp [intOf]; omega
              · obtain rfl : r = p := by omega
                have Hn := Lib.hid (show Ntr.Nm (toN cs) from Ntr.Nm.many r _ hln HL.out (fun q hq => (Hnr.out q hq).1) fun q hq => (Hnr.out q hq).2)
                go_wp2_with fail
                go_ret
                exact ⟨true, rfl, by simp [Hn.out], hB3⟩
          · have hdi : ¬ ((G % p : Nat) : Int) = 0 := by omega
            have hpl : p < G := by
              rcases Nat.lt_or_ge p G with h | h
              · exact h
              · obtain rfl : p = G := by omega
                rw [Nat.mod_self] at hd
                exact absurd rfl hd
            have Hd := Lib.hid hd
            obtain ⟨rr, hrr⟩ : ∃ rr, G % p = rr := ⟨_, rfl⟩
            rw [hrr] at hmo hme hdi
            clear hd hrr
            go_wp2
            go_roundw
            case rel => exact ⟨p + 1, by simp, by omega, by omega, fun q h2 h3 h4 => by
              by_cases e : q = p
              · rw [e] at h4; exact Hd.out (Nat.mod_eq_zero_of_dvd h4)
              · exact Hno.out q h2 (by omega) h4, hB2⟩
            case measure => simp [intOf]; omega

theorem nat_any : ∀ (n : Nat) (cs : List (Int × Int)) (sv : Value) (w : World), Cls w.heap.size w sv cs → Clss cs → 0 < cs.length → cs.length ≤ 8 → (∀ c ∈ cs, c.2.toNat ≤ n) → Calls Try.prog 82 #[sv] w (NmPost cs w) := by
  intro n
  induction n with
  | zero =>
    intro cs sv w hI hcl h0 h8 hb
    have h := clss_iff.1 hcl _ (List.getElem_mem h0)
    have h2 := hb _ (List.getElem_mem h0)
    omega
  | succ n ih =>
    intro cs sv w hI hcl h0 h8 hb
    by_cases h1 : cs.length = 1
    · obtain ⟨c, rfl⟩ := List.length_eq_one_iff.1 h1
      have h := clss_iff.1 hcl c List.mem_cons_self
      obtain ⟨x, y⟩ := c
      dsimp only at h
      have hI' := hI
      rw [show x = ((x.toNat : Nat) : Int) by omega, show y = ((y.toNat : Nat) : Int) by omega] at hI' ⊢
      exact nat_one x.toNat y.toNat sv w hI'
    · refine nat_step cs sv w hI hcl h1 h0 h8 fun sv' w' p r h2 hd hr hne hI2 => ?_
      refine ih _ sv' w' hI2 (ownF_cls h2 hcl hd) (List.length_pos_iff.2 hne) (Nat.le_trans (ownF_len _ _ _ _) h8) fun c hc => ?_
      obtain ⟨d, hdm, rfl⟩ := ownF_mem hc
      have h3 := hb d hdm
      have h4 := Nat.div_le_div_left h2 (show 0 < 2 by omega) (a := d.2.toNat)
      dsimp only
      rw [Int.toNat_natCast]
      have h5 : d.2.toNat / 2 ≤ n := by omega
      exact Nat.le_trans h4 h5
/-- THE MODEL's SEARCH. -/
theorem l05Natural_c (cs : List (Int × Int)) (sv : Value) (w : World) (hI : Cls w.heap.size w sv cs) (hcl : Clss cs) (h0 : 0 < cs.length) (h8 : cs.length ≤ 8) : Calls Try.prog 82 #[sv] w (NmPost cs w) :=
  nat_any 40 cs sv w hI hcl h0 h8 fun c hc => by have := clss_iff.1 hcl c hc; omega

end Go.Proofs.Ytbhpflhopajbfaa
