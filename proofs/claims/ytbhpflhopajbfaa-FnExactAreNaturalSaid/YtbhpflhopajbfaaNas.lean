/-
  Natural classes, the program's side: comeBySplits.
  Conditions: at most eight classes.
-/
import Derived.Test.YtbhpflhopajbfaaNap
import Derived.Test.YtbhpflhopajbfaaClR
import Derived.Test.YtbhpflhopajbfaaEqc
import Derived.WalkMore
namespace Go.Proofs.Ytbhpflhopajbfaa
open Go.RowKit Go.Shelf
attribute [local go_sem] Oper.semAt_some

/-- the classes of a list in the part j of a split of (r, g) by m -/
def inP (cs : List (Int × Int)) (r g m j : Nat) : List (Int × Int) := cs.filter (insB (r + j * g) (m * g))
/-- do the first k parts come by splits? -/
def okTo (f : List (Int × Int) → Nat → Nat → Bool) (cs : List (Int × Int)) (r g m k : Nat) : Bool := (List.range k).all fun j => f (inP cs r g m j) (r + j * g) (m * g)
/-- how many classes are left behind the first k parts -/
def leftTo (cs : List (Int × Int)) (r g m k : Nat) : Int := (cs.length : Int) - (((List.range k).map fun j => (inP cs r g m j).length).sum : Nat)
/-- one round of the program's comeBySplits: f tells of the parts -/
def cbsS (f : List (Int × Int) → Nat → Nat → Bool) (cs : List (Int × Int)) (r g : Nat) : Bool :=
  if cs.length = 1 then decide (cs = [((r : Int), (g : Int))]) else (List.range (cs.length - 1)).any fun i => okTo f cs r g (i + 2) (i + 2) && decide (leftTo cs r g (i + 2) (i + 2) = 0)
/-- the program's comeBySplits, by at most n splits one behind the other -/
def cbs : Nat → List (Int × Int) → Nat → Nat → Bool
  | 0 => cbsS fun _ _ _ => false
  | n + 1 => cbsS (cbs n)
theorem okTo_succ (f : List (Int × Int) → Nat → Nat → Bool) (cs : List (Int × Int)) (r g m k : Nat) : okTo f cs r g m (k + 1) = (okTo f cs r g m k && f (inP cs r g m k) (r + k * g) (m * g)) := by
  simp [okTo, List.range_succ, List.all_append]
theorem okTo_no {f : List (Int × Int) → Nat → Nat → Bool} {cs : List (Int × Int)} {r g m k n : Nat} (hk : k < n) (h : f (inP cs r g m k) (r + k * g) (m * g) = false) : okTo f cs r g m n = false := by
  unfold okTo; rw [List.all_eq_false]; exact ⟨k, by simpa using hk, by simp [h]⟩
theorem leftTo_succ (cs : List (Int × Int)) (r g m k : Nat) : leftTo cs r g m (k + 1) = leftTo cs r g m k - ((inP cs r g m k).length : Int) := by
  simp only [leftTo, List.range_succ, List.map_append, List.map_cons, List.map_nil, List.sum_append, List.sum_cons, List.sum_nil]; omega
theorem leftTo_zero (cs : List (Int × Int)) (r g m : Nat) : leftTo cs r g m 0 = (cs.length : Int) := by simp [leftTo]
theorem inP_len (cs : List (Int × Int)) (r g m j : Nat) : (inP cs r g m j).length ≤ cs.length := List.length_filter_le _ _
theorem leftTo_bd (cs : List (Int × Int)) (r g m : Nat) {k : Nat} (hk : k ≤ 8) (h8 : cs.length ≤ 8) : -64 ≤ leftTo cs r g m k ∧ leftTo cs r g m k ≤ 8 := by
  have key : ∀ k, (((List.range k).map fun j => (inP cs r g m j).length).sum) ≤ k * 8 := by
    intro k
    induction k with
    | zero => simp
    | succ k ih =>
      rw [List.range_succ, List.map_append, List.sum_append]
      have := inP_len cs r g m k
      simp
      omega
  have := key k
  unfold leftTo
  omega
theorem inP_mem {cs : List (Int × Int)} {r g m j : Nat} {c : Int × Int} (h : c ∈ inP cs r g m j) : c ∈ cs ∧ c.2.toNat % (m * g) = 0 := by
  unfold inP at h
  rw [List.mem_filter] at h
  refine ⟨h.1, ?_⟩
  have h2 := h.2
  unfold insB at h2
  rw [Bool.and_eq_true] at h2
  simpa using h2.1

theorem clss_filter {cs : List (Int × Int)} {p : Int × Int → Bool} (h : Clss cs) : Clss (cs.filter p) := fun k hk => by
  have hm : (cs.filter p)[k] ∈ cs := (List.mem_filter.1 (List.getElem_mem hk)).1
  obtain ⟨j, hj, e⟩ := List.getElem_of_mem hm
  have h2 := h j hj
  unfold rst gp at h2 ⊢
  rw [List.getElem?_eq_getElem hj] at h2
  rw [List.getElem?_eq_getElem hk, ← e]
  exact h2
theorem parts_at {r g m j : Nat} (h : j < m) : rst (partsTo r g m m) j = ((r + j * g : Nat) : Int) ∧ gp (partsTo r g m m) j = ((m * g : Nat) : Int) := by
  unfold rst gp partsTo
  rw [List.getElem?_map, List.getElem?_range h]
  simp


set_option maxRecDepth 100000 in
set_option maxHeartbeats 16000000 in
theorem come_one (x y : Int) (r g : Nat) (sv : Value) (w : World) (hI : Cls w.heap.size w sv [(x, y)]) :
    Calls Try.prog 85 #[sv, .agg #[.int .i64 r, .int .i64 g]] w fun e w' => e = .returned (.bool (decide (x = (r : Int) ∧ y = (g : Int)))) ∧ Below w.heap.size w w' := by
  obtain ⟨a, cap, rfl⟩ := hI.shape
  have hB0 : Below w.heap.size w (w.alloc (.cells #[.int .i64 r, .int .i64 g] 106)) := (Below.refl _ _).alloc (Nat.le_refl _) _
  have b0 := Box2.new w 106 (.int .i64 (r : Int)) (.int .i64 (g : Int))
  obtain ⟨b', off', rfl, hb', hc'⟩ := (hI.below hB0).at_ (show 0 < [(x, y)].length by simp)
  obtain ⟨x0, x1⟩ := hc' 0 (by simp)
  rw [show rst [(x, y)] 0 = x from rfl] at x0
  rw [show gp [(x, y)] 0 = y from rfl] at x1
  simp only [Nat.add_zero, Nat.zero_mul] at x0 x1
  have k0 := b0.c0
  have k1 := b0.c1
  rw [show [(x, y)].length = 1 from rfl]
  have heq := fun W => eqcl x y (r : Int) (g : Int) W _ rfl
  obtain ⟨d, hd⟩ : ∃ d, decide (x = (r : Int) ∧ y = (g : Int)) = d := ⟨_, rfl⟩
  rw [hd] at heq ⊢
  clear hd hc' hI
  go_enter Try.func85, Try.ntmps85
  go_wp2_with fail
  refine wp_scope_straight ?_
  go_wp2
  have hlt0 : (0 : Int) < 1 := by omega
  go_quiet (fail)
  go_wp2
  rw [Exit.noGoto_ret]
  go_ret
  exact ⟨rfl, below_drewN hB0 _⟩

set_option maxRecDepth 100000 in
set_option maxHeartbeats 16000000 in
theorem come_step (f : List (Int × Int) → Nat → Nat → Bool) (cs : List (Int × Int)) (r g : Nat) (sv : Value) (w : World) (hI : Cls w.heap.size w sv cs) (hcl : Clss cs) (h1 : ¬ cs.length = 1) (h8 : cs.length ≤ 8) (hg : 1 ≤ g) (hr : r < g) (hg3 : cs = [] ∨ g ≤ 40)
    (hrec : ∀ (sv' : Value) (w' : World) (m j : Nat), 2 ≤ m → m ≤ cs.length → j < m → Cls w'.heap.size w' sv' (inP cs r g m j) →
      Calls Try.prog 85 #[sv', .agg #[.int .i64 ((r + j * g : Nat) : Int), .int .i64 ((m * g : Nat) : Int)]] w' fun e w2 => e = .returned (.bool (f (inP cs r g m j) (r + j * g) (m * g))) ∧ Below w'.heap.size w' w2) :
    Calls Try.prog 85 #[sv, .agg #[.int .i64 r, .int .i64 g]] w fun e w' => e = .returned (.bool (cbsS f cs r g)) ∧ Below w.heap.size w w' := by
  obtain ⟨a, cap, rfl⟩ := hI.shape
  have hB0 : Below w.heap.size w (w.alloc (.cells #[.int .i64 r, .int .i64 g] 106)) := (Below.refl _ _).alloc (Nat.le_refl _) _
  have b0 := Box2.new w 106 (.int .i64 (r : Int)) (.int .i64 (g : Int))
  have Hcl := Lib.hid hcl
  have Hrec := Lib.hid hrec
  have Hg3 := Lib.hid hg3
  have Hc := Lib.hid (show cbsS f cs r g = (List.range (cs.length - 1)).any fun i => okTo f cs r g (i + 2) (i + 2) && decide (leftTo cs r g (i + 2) (i + 2) = 0) by simp only [cbsS]; rw [if_neg h1])
  clear hcl hrec hg3
  have hce : ((cs.length : Int) == 1) = false := by rw [beq_eq_false_iff_ne]; omega
  go_enter Try.func85, Try.ntmps85
  go_wp2_with fail
  refine wp_scope_straight ?_
  go_wp2_with fail
  refine wp_label ?_
  go_wp2_with fail
  go_loopw [5] (fun v wr => ∃ i : Nat, v = .int .i64 ((i + 2 : Nat) : Int) ∧ (i = 0 ∨ i + 1 ≤ cs.length) ∧ (∀ q, q < i → (okTo f cs r g (q + 2) (q + 2) && decide (leftTo cs r g (q + 2) (q + 2) = 0)) = false) ∧ Box2 wr w.heap.size 106 (.int .i64 (r : Int)) (.int .i64 (g : Int)) ∧ Below w.heap.size w wr) (fun v _ => cs.length + 2 - (intOf v).toNat)
  case atStart => exact ⟨0, rfl, .inl rfl, fun q hq => by omega, b0, hB0⟩
  case round =>
    obtain ⟨i, rfl, hi, hno, b1, hB⟩ := hrel
    have Hno := Lib.hid hno
    clear hno b0 hB0
    obtain ⟨m, hm⟩ : ∃ m, i + 2 = m := ⟨_, rfl⟩
    rw [hm]
    have Hm := Lib.hid hm
    have hm2 : 2 ≤ m := by omega
    have him : m ≤ i + 2 ∧ i + 2 ≤ m := by omega
    clear hm
    have k0 := b1.c0
    have k1 := b1.c1
    have hsz := hB.size
    by_cases hlt : m ≤ cs.length
    · have hlti : (m : Int) ≤ (cs.length : Int) := by omega
      have hg40 : g ≤ 40 := by
        rcases Hg3.out with e | h
        · rw [e] at hlt; simp at hlt; omega
        · exact h
      go_wp2_with fail
      refine (parts_c r g m _ (by omega) (by omega) (by omega)).mono ?_
      rintro e w2 ⟨v2, rfl, ho2, hb2⟩
      have hpl : (partsTo r g m m).length = m := by unfold partsTo; simp
      rw [hpl] at ho2
      obtain ⟨g2, cap2, rfl, hg2, hg2'⟩ := ho2.shape (by omega)
      have b2 := b1.later hb2
      have hB2 := hB.trans (hb2.mono hsz)
      have hs2 := hB2.size
      have hlz := leftTo_zero cs r g m
      clear k0 k1 b1 hB hb2
      go_wp2_with fail
      go_loopw [6, 30] (fun l ii wr2 => ∃ j : Nat, j ≤ m ∧ l = .int .i64 (leftTo cs r g m j) ∧ ii = .int .i64 (j : Int) ∧ okTo f cs r g m j = true ∧ Below w2.heap.size w2 wr2) (fun _ ii _ => m - (intOf ii).toNat)
      case atStart => exact ⟨0, Nat.zero_le _, by rw [hlz], rfl, by simp [okTo], Below.refl _ _⟩
      case round =>
        obtain ⟨j, hj, rfl, rfl, hok, hB3⟩ := hrel
        have hlb := leftTo_bd cs r g m (k := j) (by omega) h8
        obtain ⟨lf, hlf⟩ : ∃ lf, leftTo cs r g m j = lf := ⟨_, rfl⟩
        rw [hlf] at hlb ⊢
        have Hlf := Lib.hid hlf
        have Hok := Lib.hid hok
        clear hlf hok hlz
        have hs3 := hB3.size
        by_cases hjm : j < m
        · have hjmi : (j : Int) < (m : Int) := by omega
          have hpp := (show Cls w2.heap.size wr (.slice (some ⟨g2, 0, none⟩) (partsTo r g m m).length cap2) (partsTo r g m m) from by rw [show Cls w2.heap.size wr (.slice (some ⟨g2, 0, none⟩) (partsTo r g m m).length cap2) (partsTo r g m m) = Prs w2.heap.size wr (.slice (some ⟨g2, 0, none⟩) (partsTo r g m m).length cap2) (partsTo r g m m).length (flat (partsTo r g m m)) from rfl, hpl]; exact ho2.prs.below hB3)
          obtain ⟨b2', off2', e2, hb2, hc2⟩ := hpp.at_ (show j < (partsTo r g m m).length by omega)
          cases e2
          obtain ⟨x0, x1⟩ := hc2 j (by omega)
          simp only [Nat.zero_add] at x0 x1
          rw [(parts_at hjm).1] at x0
          rw [(parts_at hjm).2] at x1
          clear hpp hc2
          obtain ⟨R, hR⟩ : ∃ R, r + j * g = R := ⟨_, rfl⟩
          obtain ⟨G, hG⟩ : ∃ G, m * g = G := ⟨_, rfl⟩
          have hG1 : 0 < G := by rw [← hG]; exact Nat.mul_pos (by omega) (by omega)
          have hG2 : G ≤ 320 := by
            rw [← hG]
            exact Nat.le_trans (Nat.mul_le_mul (show m ≤ 8 by omega) hg40) (by omega)
          have hq := Hrec.out
          rw [hR] at x0
          rw [hG] at x1
          have HR := Lib.hid hR
          have HG := Lib.hid hG
          have hba : Below wr.heap.size wr (wr.alloc (.cells #[.int .i64 (R : Int), .int .i64 (G : Int)] 106)) := (Below.refl _ _).alloc (Nat.le_refl _) _
          have b8 := Box2.new wr 106 (.int .i64 (R : Int)) (.int .i64 (G : Int))
          have k0 := b8.c0
          have k1 := b8.c1
          have hI8 := (hI.below hB2).below (hB3.mono hs2)
          clear hR hG hq
          go_wp2_with fail
          refine (classesInside_c _ cs R G _ ((hI8.mono (by omega)).later hba) Hcl.out h8 hG1 (by omega)).mono ?_
          rintro e w3 ⟨v3, rfl, ho3, hb3⟩
          have b3 := b8.later hb3
          have hB4 := (hB3.alloc hs3 (.cells #[.int .i64 (R : Int), .int .i64 (G : Int)] 106)).trans (hb3.mono (by simp; omega))
          have hin : cs.filter (insB R G) = inP cs r g m j := by unfold inP; rw [HR.out, HG.out]
          rw [hin] at ho3
          have hq := Hrec.out v3 w3 m j hm2 hlt hjm ho3.prs
          have hil := inP_len cs r g m j
          obtain ⟨d, hd⟩ : ∃ d, f (inP cs r g m j) (r + j * g) (m * g) = d := ⟨_, rfl⟩
          rw [hd, HR.out, HG.out] at hq
          have Hq := Lib.hid hq
          have Hd := Lib.hid hd
          have Hls := Lib.hid (leftTo_succ cs r g m j)
          have k2 := b3.c0
          have k3 := b3.c1
          have hs4 := hB4.size
          obtain ⟨ci, hci⟩ : ∃ ci, inP cs r g m j = ci := ⟨_, rfl⟩
          rw [hci] at ho3 hil Hls
          obtain ⟨a3, cap3, hv3⟩ : ∃ a3 cap3, v3 = .slice a3 ci.length cap3 := (show Cls w3.heap.size w3 v3 ci from ho3.prs).shape
          subst hv3
          clear hq hd k0 k1 b8 hb3 hba hin hI8
          cases d
          · go_wp2_with fail
            refine Hq.out.mono ?_
            rintro e w5 ⟨rfl, hb5⟩
            have hB5 := hB4.trans (hb5.mono hs4)
            have hn : okTo f cs r g m m = false := okTo_no hjm Hd.out
            go_wp2
            go_roundw
            case rel => exact ⟨i + 1, by simp; omega, .inr (by omega), fun q hq => by
              by_cases e : q < i
              · exact Hno.out q e
              · obtain rfl : q = i := by omega
                rw [Hm.out, hn]; rfl, b2.later hB5, hB2.trans (hB5.mono hs2)⟩
            case measure => simp [intOf]; omega
          · go_wp2_with fail
            refine Hq.out.mono ?_
            rintro e w5 ⟨rfl, hb5⟩
            have hB5 := hB4.trans (hb5.mono hs4)
            have hn : okTo f cs r g m (j + 1) = true := by rw [okTo_succ, Hok.out, Hd.out]; rfl
            have hli : (ci.length : Int) ≤ 8 := by omega
            go_wp2
            go_roundw
            case rel => exact ⟨j + 1, by omega, by rw [Hls.out, Hlf.out], by simp, hn, hB5⟩
            case measure => simp [intOf]; omega
        · obtain rfl : j = m := by omega
          have b3 := b2.later hB3
          have hB4 := hB2.trans (hB3.mono hs2)
          by_cases hz : lf = 0
          · have Hv := Lib.hid (show cbsS f cs r g = true by
              rw [Hc.out, List.any_eq_true]
              refine ⟨i, by rw [List.mem_range]; omega, ?_⟩
              rw [Hm.out, Hok.out, Hlf.out, hz]
              rfl)
            subst hz
            go_wp2
            rw [Exit.noGoto_ret]
            go_ret
            exact ⟨by rw [Hv.out]; rfl, hB4⟩
          · have Hv := Lib.hid (show (okTo f cs r g (i + 2) (i + 2) && decide (leftTo cs r g (i + 2) (i + 2) = 0)) = false by
              rw [Hm.out, Hok.out, Hlf.out, decide_eq_false hz]
              rfl)
            go_wp2
            go_roundw
            case rel => exact ⟨i + 1, by simp; omega, .inr (by omega), fun q hq => by
              by_cases e : q < i
              · exact Hno.out q e
              · obtain rfl : q = i := by omega
                exact Hv.out, b3, hB4⟩
            case measure => simp [intOf]; omega
    · have hlti : ¬ (m : Int) ≤ (cs.length : Int) := by omega
      have Hr := Lib.hid (show cbsS f cs r g = false by
        rw [Hc.out, List.any_eq_false]
        intro q hq
        rw [List.mem_range] at hq
        rw [Hno.out q (by omega)]
        simp)
      go_wp2_with fail
      go_ret
      exact ⟨by rw [Hr.out]; rfl, hB⟩

end Go.Proofs.Ytbhpflhopajbfaa
