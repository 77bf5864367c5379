/-
  Clashes of the program: channelsWith, the iterator clashesOn, haveClash.
  Conditions: at most 1048576 lists, of at most 1048576 elements each.
-/
import Derived.Test.YtlgjnceedjbakaaWtS
import Derived.Test.YtlgjnceedjbakaaReg
namespace Go.Proofs.Ytlgjnceedjbakaa
open Go.RowKit Go.Shelf
attribute [local go_sem] Oper.semAt_some

theorem grown_of_below8 {w w' : World} {row : Option Nat} (h : Below w.heap.size w w') : w.grownBy w' row := ⟨h.os, h.tape, h.output, h.size, fun k hk _ => h.block k hk⟩
theorem OwnFrom.below8 {β : Type} {B : Nat} {I : β → World → Prop} (h : OwnFrom B I) {s : β} {W W' : World} (hb : Below W.heap.size W W') (hs : I s W) : I s W' := h s W W' none hs (grown_of_below8 hb) (by simp)

set_option maxRecDepth 100000 in
set_option maxHeartbeats 8000000 in
theorem channelsWith_c (c0 : Value) (xss : List (List Int)) (s : Nat) (i : Int) (k : Int) (w : World) (hX : Lsts w.heap.size w c0 xss) (hC : Chans k xss) (hs : s < chN xss) :
    Calls Try.prog 99 #[c0, .int .i64 s, .int .i64 i] w (GivesI w (asI (chL xss s i)) id) := by
  obtain ⟨i0, hi, hz0, hz1, hz2⟩ := info_parts Try.infoI
  obtain ⟨u, hU⟩ := hX
  obtain ⟨a, cap, rfl⟩ := hU.shape
  have hm4 := hC.m4
  have hn120 := hC.n
  have HU := Lib.hid hU
  have HC := Lib.hid hC
  have Hn := Lib.hid hs
  clear hU hC hs
  have hs120 : s ≤ 120 := by have := Hn.out; omega
  clear hn120
  go_enter Try.func99, Try.ntmps99
  go_wp2
  go_loopw [7, 12] (fun v q wr => ∃ c : Nat, c ≤ xss.length ∧ q = .int .i64 c ∧ OwnI w.heap.size wr v (asI (chTo xss s i c)) ∧ Below w.heap.size w wr) (fun _ q _ => xss.length - (intOf q).toNat)
  case atStart => exact ⟨0, Nat.zero_le _, rfl, ownI_nil _ _, Below.refl _ _⟩
  case round =>
    obtain ⟨c, hc, rfl, ho, hB⟩ := hrel
    by_cases hlt : c < xss.length
    · obtain ⟨b, off, a3, c3, rfl, hb, k1, i1⟩ := (HU.out.later hB).read hlt
      have hlr := HC.out.at_ hlt
      have hsr : s < (lst xss c).length := by rw [hlr]; exact Hn.out
      obtain ⟨b2, off2, rfl, hb2, hc2⟩ := i1.at_ hsr
      have k2 := hc2 s hsr
      have hki : (c : Int) < (xss.length : Int) := by omega
      have hsi : (s : Int) < ((lst xss c).length : Int) := by omega
      have hcl := chTo_len xss s i c
      rw [← asI_length] at hcl
      have hsw := hB.size
      clear hc2 i1 hlr
      by_cases he : nth (lst xss c) s = i
      · have hq : (nth (lst xss c) s == i) = true := by simp [he]
        have Hy := Lib.hid (show asI (chTo xss s i (c + 1)) = asI (chTo xss s i c) ++ [(c : Int)] by rw [chTo_yes he, asI_snoc])
        clear he
        obtain ⟨xs, hxs⟩ : ∃ xs, asI (chTo xss s i c) = xs := ⟨_, rfl⟩
        rw [hxs] at ho hcl Hy
        clear hxs
        go_wp2_with (at_builtin; refine wpList_append_own _ rfl _ _ 37 rfl w.heap.size 2 i0 (.int .i64 0) 1 8 Try.underlying37 hi hz0 hz1 hz2 rfl (by decide) _ _ _ rfl (World.ownsRow.alloc ho _) ⟨wr.heap.size, 0, none⟩ 1 1 [.int .i64 ((c : Int))] rfl rfl (Go.cell_one_new _ _ _) (by simp [Value.oneCell']) (by unfold maxLen; omega) (by omega) (by simp; omega) ?_)
        intro v' w1 hown' hgrow _
        have ho2 := ownI_snoc hown'
        have hB2 : Below w.heap.size w w1 := (hB.alloc hsw _).grown hgrow (by simp; omega) (fun j e => by have := (ho.blk j e).1; omega)
        have hgr : wr.grownBy w1 _ := (World.grownBy_alloc _ _ _).trans hgrow
        clear hown' hgrow
        clear hgr
        go_wp2
        go_roundw
        case rel => exact ⟨c + 1, by omega, by simp, by rw [Hy.out]; exact ho2, hB2⟩
        case measure => simp [intOf]; omega
      · have hq : (nth (lst xss c) s == i) = false := by simpa using he
        have Hy := Lib.hid (chTo_no he)
        clear he
        go_wp2
        go_roundw
        case rel => exact ⟨c + 1, by omega, by simp, by rw [Hy.out]; exact ho, hB⟩
        case measure => simp [intOf]; omega
    · obtain rfl : c = xss.length := by omega
      go_wp2
      go_ret
      exact ⟨_, rfl, ho, hB⟩

/-! ### the iterator -/
theorem LstsU.kps {S : Nat → Prop} {n₀ : Nat} {A B : World} {sv : Value} {xss : List (List Int)} {u : Nat → Value} (h : LstsU n₀ A sv xss u) (hk : Kps S A B) (hS : ∀ k, k < n₀ → S k) : LstsU n₀ B sv xss u := by
  obtain ⟨⟨a, c, e, h1⟩, h2⟩ := h
  refine ⟨⟨a, c, e, ?_⟩, fun k hk' => (h2 k hk').kps hk hS⟩
  rcases h1 with h1 | ⟨b, off, ha, hbb, hc⟩
  · exact .inl h1
  · refine .inr ⟨b, off, ha, hbb, fun j hj => ?_⟩
    have h1 := hc j hj
    exact (World.cell?_of_block (w := A) (a := ⟨b, off + j, none⟩) (hk.same b (hS b hbb) (World.block_lt_of_cell? A _ h1))).trans h1
def clAt (K : Nat) (xss : List (List Int)) (j : Nat) : Array Value := #[.int .i64 ((clN K xss j / K : Nat) : Int), .int .i64 ((clN K xss j % K : Nat) : Int)]
theorem clAt_eq {K : Nat} {xss : List (List Int)} {s i : Nat} (hs : s < chN xss) (hi : i < K) (h : 1 < (chL xss s (i : Int)).length) : clAt K xss (clTo K xss (s * K + i)).length = #[.int .i64 ((s : Nat) : Int), .int .i64 ((i : Nat) : Int)] := by
  unfold clAt
  rw [clN_eq (place_lt hi hs) (by rw [clashB_at hi, decide_eq_true h]), place_div hi, place_mod hi]
theorem clTo_lt2 {K : Nat} {xss : List (List Int)} {s i : Nat} (hs : s < chN xss) (hi : i < K) (h : 1 < (chL xss s (i : Int)).length) : (clTo K xss (s * K + i)).length < (clL K xss).length :=
  clTo_lt (place_lt hi hs) (by rw [clashB_at hi, decide_eq_true h])
theorem clTo_yes2 {K : Nat} {xss : List (List Int)} {s i : Nat} (hi : i < K) (h : 1 < (chL xss s (i : Int)).length) : (clTo K xss (s * K + (i + 1))).length = (clTo K xss (s * K + i)).length + 1 := by
  rw [← Nat.add_assoc, clTo_yes (by rw [clashB_at hi, decide_eq_true h])]; simp
theorem clTo_no2 {K : Nat} {xss : List (List Int)} {s i : Nat} (hi : i < K) (h : ¬ 1 < (chL xss s (i : Int)).length) : clTo K xss (s * K + (i + 1)) = clTo K xss (s * K + i) := by
  rw [← Nat.add_assoc, clTo_no (by rw [clashB_at hi, decide_eq_false h])]

theorem clashesOn_c (a : Option Addr) (len cap : Nat) (k : Int) (w : World) :
    Calls Try.prog 60 #[.int .i64 k, .slice a len cap] w fun e w' => e = .returned (.func (.func 98) #[] #[.pointer (some ⟨w.heap.size + 1, 0, none⟩), .pointer (some ⟨w.heap.size, 0, none⟩)]) ∧ w' = (w.alloc (.cells #[.int .i64 k] 2)).alloc (.cells #[.slice a len cap] 30) := by
  go_enter Try.func60, Try.ntmps60
  go_wp2
  go_ret
  exact ⟨rfl, rfl⟩

set_option maxRecDepth 100000 in
set_option maxHeartbeats 8000000 in
theorem clashesOn_at (n : Nat) (bL bK n₀ : Nat) (c0 : Value) (xss : List (List Int)) (K : Nat) (w : World) (hL : Boxed w bL 30 c0) (hK : Boxed w bK 2 (.int .i64 (K : Int))) (hn₀ : n₀ ≤ w.heap.size) (hX : Lsts n₀ w c0 xss) (hC : Chans (K : Int) xss) :
    SeqAt Fence.wide n Try.prog 98 #[.pointer (some ⟨bL, 0, none⟩), .pointer (some ⟨bK, 0, none⟩)] (clAt K xss) (fun b => b < n₀ ∨ b = bL ∨ b = bK) 4 (clL K xss).length w := fun l J Jx W hW hJ hJx hY h0 => by
  refine callsIn_wide.2 ((callsIn_wide (n := 9)).1 ?_)
  obtain ⟨u, hU0⟩ := hX
  have hU := hU0.below (hW.mono hn₀)
  have bL1 := boxed_later hL hW
  have bK1 := boxed_later hK hW
  have hws := hW.size
  have hbL := bL1.lt
  have hbK := bK1.lt
  have hm0 := hC.m0
  have hk8 := hC.k8
  have hN := hC.n
  obtain ⟨a, cap, rfl⟩ := hU.shape
  obtain ⟨b, off, a0, c0, ha, hb, k0, i1⟩ := hU.read (show 0 < xss.length by omega)
  subst ha
  rw [Nat.add_zero] at k0
  have hl0 : (lst xss 0).length = chN xss := rfl
  rw [hl0] at k0 i1
  obtain ⟨zs, hzs⟩ : ∃ zs, lst xss 0 = zs := ⟨_, rfl⟩
  obtain ⟨N, hNN⟩ : ∃ N, chN xss = N := ⟨_, rfl⟩
  rw [hzs] at i1 hl0
  rw [hNN] at k0 i1 hl0 hN
  have hl1 : 0 < xss.length := by omega
  have cL := (bL1.alloc (.cells #[.func (.yield l) #[] #[]] 104)).cell
  have kY : (W.alloc (.cells #[.func (.yield l) #[] #[]] 104)).cell? ⟨b, off, none⟩ = some (.slice a0 N c0) := (((Below.refl _ W).alloc (Nat.le_refl _) _).cell (p := ⟨b, off, none⟩) (show b < W.heap.size by omega)).trans k0
  have HU := Lib.hid hU
  have HC := Lib.hid hC
  have HN := Lib.hid hNN
  have HY := Lib.hid hY
  have I1 := Lib.hid i1
  have hzl : zs.length = N := hl0
  have Hzl := Lib.hid hzl
  clear hU0 hU hC hNN hzs k0 hY i1 hl0 hzl
  refine callsIn_of_wp_marks Try.func98 rfl trivial ?_ rfl
  simp only [Try.ntmps98, List.size_toArray, List.length_cons, List.length_nil, Nat.reduceAdd, Nat.reduceSub, Array.replicate_succ, Array.replicate_zero, List.push_toArray, List.append_toArray, List.nil_append, List.cons_append]
  gi_wp2_with (first | (gi_at_call 66; refine (callsIn_wide.2 (numbered_c _ _ _ _)).mono ?_; rintro e w' ⟨rfl, rfl⟩) | (refine ⟨trivial, ?_⟩; gi_at_call 66; refine (callsIn_wide.2 (numbered_c _ _ _ _)).mono ?_; rintro e w' ⟨rfl, rfl⟩))
  obtain ⟨W0, hW0⟩ : ∃ W0, (W.alloc (.cells #[.func (.yield l) #[] #[]] 104)).alloc (.cells #[.slice a0 N c0] 37) = W0 := ⟨_, rfl⟩
  have hB0 : Below W.heap.size W W0 := by rw [← hW0]; exact ((Below.refl _ W).alloc (Nat.le_refl _) _).alloc (by simp) _
  have hsz : W0.heap.size = W.heap.size + 2 := by rw [← hW0]; simp
  have bY : Boxed W0 W.heap.size 104 (.func (.yield l) #[] #[]) := by rw [← hW0]; exact (Boxed.new W _ _).alloc _
  have bN : Boxed W0 (W.heap.size + 1) 37 (.slice a0 N c0) := by rw [← hW0]; simpa using Boxed.new (W.alloc (.cells #[.func (.yield l) #[] #[]] 104)) 37 (.slice a0 N c0)
  have bL2 := boxed_below bL1 hB0 hbL
  have bK2 := boxed_below bK1 hB0 hbK
  have hJ0 : J 0 W0 := OwnFrom.below8 hJ hB0 h0
  have hI0 : Ints n₀ W0 (.slice a0 N c0) zs := I1.out.below (hB0.mono (by omega))
  rw [hW0]
  clear hW0 cL kY
  have Hsz := Lib.hid hsz
  have hs1 : W.heap.size + 2 ≤ W0.heap.size := by omega
  clear hsz
  refine range_outA rfl (by omega) rfl trivial (enters_of Try.func101 (by kernel_rfl) rfl) (numbered_at Fence.wide 8 trivial rfl (by omega) (W.heap.size + 1) n₀ _ zs (by rw [Hzl.out]; omega) W0 bN (by omega) hI0) (fun b hb => by omega) (fun _ => rfl)
    (fun s W' => J (clTo K xss (s * K)).length W' ∧ Boxed W' bL 30 (.slice (some ⟨b, off, none⟩) xss.length cap) ∧ Boxed W' bK 2 (.int .i64 (K : Int)) ∧ Boxed W' W.heap.size 104 (.func (.yield l) #[] #[]) ∧ Kps (fun z => z < n₀) W W')
    (fun c _ W' => c = .ret ∧ ∃ m, m ≤ (clL K xss).length ∧ Jx m W')
    ?hI ?hIx ⟨by simpa [clTo_zero] using hJ0, bL2, bK2, bY, Kps.below hB0⟩ ?a1 ?assign ?body ?done ?stop
  case hI => exact OwnFrom.and (fun s A B row hs hg hr => OwnFrom.up hJ (by omega) _ A B row hs hg hr) (OwnFrom.and (Own.from (boxed_own _ _ _) _) (OwnFrom.and (Own.from (boxed_own _ _ _) _) (OwnFrom.and (Own.from (boxed_own _ _ _) _) (ownFrom_kps (by omega)))))
  case hIx =>
    rintro c s A B row ⟨h1, m, h2, h3⟩ hg hr
    exact ⟨h1, m, h2, OwnFrom.up hJx (by omega) _ A B row h3 hg hr⟩
  case assign =>
    intro l2 k W' K' hk hK
    simp only [numAt]
    gi_wp2
    exact hK
  case body =>
    rintro l2 s W' hl2 hr2 ⟨hj, bL3, bK3, bY3, hkp⟩ hsN hs
    have cK := bK3.cell
    have hsN2 : s < chN xss := by rw [HN.out, ← Hzl.out]; exact hsN
    have Hs := Lib.hid hsN2
    have hszs := Hsz.out
    clear hsN hsN2 hW hL hK hr2
    gi_wp2_with fail
    gi_loopw [13] (fun v wr => ∃ i : Nat, i ≤ K ∧ v = .int .i64 i ∧ J (clTo K xss (s * K + i)).length wr ∧ (Boxed wr bL 30 (.slice (some ⟨b, off, none⟩) xss.length cap) ∧ Boxed wr bK 2 (.int .i64 (K : Int)) ∧ Boxed wr W.heap.size 104 (.func (.yield l) #[] #[])) ∧ Kps (Band (fun z => z < n₀) W0.heap.size (W0.heap.size + 2 + 0)) W' wr) (fun v _ => K - (intOf v).toNat)
    case atStart => exact ⟨0, Nat.zero_le _, rfl, by simpa using hj, ⟨bL3, bK3, bY3⟩, Kps.refl _ _⟩
    case round =>
      obtain ⟨i, hi, rfl, hji, ⟨bL4, bK4, bY4⟩, hkp4⟩ := hrel
      have hkr : Kps (fun z => z < n₀) W wr := hkp.trans (hkp4.mono fun z hz => .inl hz)
      have hsr := hkp4.size
      have hX4 : Lsts wr.heap.size wr (.slice (some ⟨b, off, none⟩) xss.length cap) xss := ⟨u, (HU.out.kps hkr (fun z hz => hz)).mono (by omega)⟩
      have cL := bL4.cell
      clear cK bL3 bK3 bY3 hj
      by_cases hlt : i < K
      · have hki : (i : Int) < (K : Int) := by omega
        have Hji := Lib.hid hji
        have Hk4 := Lib.hid hkp4
        clear hji hkp4 hkp hkr
        gi_wp2_with fail
        refine ⟨trivial, ((callsIn_wide.2 (channelsWith_c _ xss s i (K : Int) wr hX4 HC.out Hs.out)).inRound _).mono ?_⟩
        rintro e W5 ⟨v, rfl, ho5, hb5⟩
        simp only [id]
        have hJ5 := OwnFrom.below8 hJ hb5 Hji.out
        have bL5 := boxed_later bL4 hb5
        have bK5 := boxed_later bK4 hb5
        have bY5 := boxed_later bY4 hb5
        have hk5 := Hk4.out.trans (Kps.below hb5)
        have hs5 := hb5.size
        obtain ⟨av, cv, rfl⟩ := ho5.ints.shape
        rw [asI_length]
        have cY := bY5.cell
        clear bL4 bK4 bY4 cL hX4 hb5 ho5 Hji Hk4
        by_cases hp : 1 < (chL xss s (i : Int)).length
        · have hpi : (1 : Int) < (((chL xss s (i : Int)).length : Nat) : Int) := by omega
          have hen := clAt_eq Hs.out hlt hp
          obtain ⟨fn, tmps, assign, body, hy, hR⟩ := yieldAt_wide 6 (HY.out _ W5 hJ5 (clTo_lt2 Hs.out hlt hp) (by omega))
          rw [hen] at hy
          have Hyes := Lib.hid (clTo_yes2 (s := s) hlt hp)
          have Hlt2 := Lib.hid (clTo_lt2 Hs.out hlt hp)
          have Hk5 := Lib.hid hk5
          clear hp hJ5 hk5 hen
          gi_wp2
          refine RoundIn.mono (F := Fence.wide.inRound l2) hR ?_
          rintro e W6 ⟨hk6, (⟨rfl, hJ6⟩ | ⟨rfl, hJx6⟩)⟩
          · gi_wp2
            go_roundw
            case rel =>
              refine ⟨i + 1, by omega, by simp, by rw [Hyes.out]; exact hJ6, ⟨hk6.boxed (.inl (.inr (.inl rfl))) bL5, hk6.boxed (.inl (.inr (.inr rfl))) bK5, hk6.boxed (.inr (by omega)) bY5⟩, Hk5.out.trans (hk6.mono fun z hz => ?_)⟩
              rcases hz with hz | hz
              · exact .inl (.inl hz)
              · exact .inr (by omega)
            case measure => simp [intOf]; omega
          · gi_wp2
            refine ⟨Hk5.out.trans (hk6.mono fun z hz => ?_), rfl, _, Hlt2.out, hJx6⟩
            rcases hz with hz | hz
            · exact .inl (.inl hz)
            · exact .inr (by omega)
        · have hpi : ¬ (1 : Int) < (((chL xss s (i : Int)).length : Nat) : Int) := by omega
          have Hno := Lib.hid (clTo_no2 (s := s) hlt hp)
          clear hp
          gi_wp2
          refine ⟨fun _ h => (by cases h), ?_⟩
          gi_wp2
          go_roundw
          case rel => exact ⟨i + 1, by omega, by simp, by rw [Hno.out]; exact hJ5, ⟨bL5, bK5, bY5⟩, hk5⟩
          case measure => simp [intOf]; omega
      · obtain rfl : i = K := by omega
        gi_wp2
        exact ⟨hkp4, by rw [Nat.succ_mul]; exact hji, bL4, bK4, bY4, hkr⟩
  case done =>
    rintro D W' hD ⟨hj, bL3, bK3, bY3, hkp⟩ hK
    rw [Hzl.out, ← HN.out] at hj
    gi_wp2
    refine retM1' hK ⟨_, results_none rfl _ _ _, ⟨_, rfl⟩, .inl ?_⟩
    exact hJ.putObj _ hj (by omega) hK rfl
  case stop =>
    rintro D c k W' hD hk ⟨rfl, m, hm, hj⟩ hK
    gi_wp2
    refine retM1 hK ⟨_, results_none rfl _ _ _, ⟨_, rfl⟩, .inr ⟨m, hm, ?_⟩⟩
    exact hJx.putObj _ hj (by omega) hK rfl

end Go.Proofs.Ytlgjnceedjbakaa
