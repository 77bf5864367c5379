/-
  ClashesOf of both; haveClash.
  Conditions: at most 1048576 lists, of at most 1048576 elements each.
-/
import Derived.Test.YtlgjnceedjbakaaCoL
import Derived.Maps.AppendAt
namespace Go.Proofs.Ytlgjnceedjbakaa
open Go.RowKit Go.Shelf
attribute [local go_sem] Oper.semAt_some

theorem clPairs_length (K : Nat) (ps : List Nat) : (clPairs K ps).length = ps.length := by simp [clPairs]
theorem clPairs_snoc (K : Nat) (ps : List Nat) (p : Nat) : clPairs K (ps ++ [p]) = clPairs K ps ++ [[((p / K : Nat) : Int), ((p % K : Nat) : Int)]] := by simp [clPairs]
theorem clPairs_each (K : Nat) (ps : List Nat) {j : Nat} (h : j < (clPairs K ps).length) : (lst (clPairs K ps) j).length = 2 := by
  rw [clPairs_length] at h
  simp [lst, clPairs, h]
theorem clPairs_yes {K s i : Nat} {xss : List (List Int)} (hi : i < K) (h : 1 < (chL xss s (i : Int)).length) : clPairs K (clTo K xss (s * K + (i + 1))) = clPairs K (clTo K xss (s * K + i)) ++ [[((s : Nat) : Int), ((i : Nat) : Int)]] := by
  rw [← Nat.add_assoc, clTo_yes (by rw [clashB_at hi, decide_eq_true h]), clPairs_snoc, place_div hi, place_mod hi]
def clR (k : Int) (xss : List (List Int)) : List (List Int) := if chOk k xss then clPairs k.toNat (clL k.toNat xss) else []
def clC (k : Int) (xss : List (List Int)) : Int := if chOk k xss then 0 else 2
theorem clL_len {k : Int} {xss : List (List Int)} (h : Chans k xss) : (clL k.toNat xss).length ≤ 960 := by
  have h1 := clTo_len k.toNat xss (chN xss * k.toNat)
  have h2 : chN xss * k.toNat ≤ 120 * 8 := Nat.mul_le_mul h.n.2 (by have := h.k8; omega)
  unfold clL; omega
theorem clR_len (k : Int) (xss : List (List Int)) : (clR k xss).length ≤ 960 := by
  unfold clR
  split
  · rename_i h
    rw [clPairs_length]; exact clL_len (chOk_iff.1 h)
  · simp
theorem clR_each (k : Int) (xss : List (List Int)) {j : Nat} (h : j < (clR k xss).length) : (lst (clR k xss) j).length = 2 := by
  unfold clR at h ⊢
  split at h
  · rename_i hc
    rw [if_pos hc]; exact clPairs_each _ _ h
  · simp at h
theorem clR_offs (k : Int) (xss : List (List Int)) : (1 : Int) + offs (clR k xss) (clR k xss).length ≤ 1099511627776 := by
  have h1 := offs_bd (xss := clR k xss) (B := 2) (i := (clR k xss).length) (fun j hj => by rw [clR_each k xss hj]; exact Nat.le_refl _) (Nat.le_refl _)
  have h2 := clR_len k xss
  omega

theorem wpListIn_append_own_at8 {F : Fence} {n : Nat} {P : Program} (w : World) {ops : Array Oper} {rest : List Oper} {o : Oper} {a : Act} {Q : Exit → Act → World → Prop}
    (hg : o.guard = none) (s x : Operand) (t : TypeId) (hop : o.op = Op.call { callee := Callee.builtin Builtin.append, args := #[s, x], argTypes := #[t, t] })
    (base : Nat) (e : TypeId) (i : TypeInfo) (z : Value) (size bytes : Nat) (h1 : P.underlying t = some (.slice e)) (h2 : P.info? e = some i) (h3 : i.zero = some z) (h4 : i.size = size) (h5 : i.bytes = bytes) (h6 : z.cells.size = size) (h7 : 0 < size)
    (v : Value) (k : Nat) (xs : List Value) (hs : a.eval s = v) (hown : w.ownsRow base e size v k xs) (ad : Addr) (m c : Nat) (news : List Value) (hx : a.eval x = .slice (some ad) m c) (hn : news.length = m * size)
    (hc : ∀ j u, news[j]? = some u → w.cell? (ad.add j) = some u) (h1c : ∀ u ∈ news, u.oneCell' = true) (b1 : k + m ≤ maxLen) (b2 : (k + m) * bytes ≤ 140737488355328) (b3 : base ≤ w.heap.size)
    (hK : ∀ v' w', w'.ownsRow base e size v' (k + m) (xs ++ news) → w.grownBy w' v.ownBlock → (v'.ownBlock = v.ownBlock ∨ v'.ownBlock = some w.heap.size) → wpListIn F n P ops Q rest (a.put o.dst v') w') :
    wpListIn F n P ops Q (o :: rest) a w := by
  refine wpListIn_plain hg fun K hK' => ?_
  obtain ⟨v', w', hrun, r1, r2, _, r3⟩ := run_append_own_at (P := P) w base t o.type e i z size bytes h1 h2 h3 h4 h5 h6 h7 v k xs hown ad m c news hn hc h1c b1 b2 b3
  unfold Oper.wpIn
  refine ⟨?_, ?_⟩
  · simp [Oper.about, hop, resolve, Target.leads, Sem.run_pure]
  · rw [Oper.semAt_plain F _ _ (by rw [hop]; intro c hc'; cases hc')]
    simp [execOp, hop, resolve, invoke, builtin, hs, hx, hrun, Result.andThen]
    exact hK' _ _ (hK v' w' r1 r2 r3)

theorem ownI_two8 (w : World) (x y : Int) : OwnI w.heap.size (w.alloc (.cells #[.int .i64 x, .int .i64 y] 2)) (.slice (some ⟨w.heap.size, 0, none⟩) 2 2) [x, y] :=
  ⟨rfl, .inr ⟨w.heap.size, 2, _, rfl, Nat.le_refl _, World.alloc_heap_new w _, Nat.le_refl _, by unfold maxLen; omega, rfl, rfl⟩⟩
/-- a pair more, in a row of its own -/
theorem pair_snoc {lo : Nat} {W w1 : World} {v v' : Value} {xss : List (List Int)} {u : Nat → Value} {x y : Int} (h : OwnU lo W v xss u) (hlo : lo ≤ W.heap.size)
    (hown' : w1.ownsRow lo 37 1 v' (xss.length + 1) ((List.range xss.length).map u ++ [.slice (some ⟨W.heap.size, 0, none⟩) 2 2]))
    (hgrow : ((W.alloc (.cells #[.int .i64 x, .int .i64 y] 2)).alloc (.cells #[.slice (some ⟨W.heap.size, 0, none⟩) 2 2] 37)).grownBy w1 v.ownBlock)
    (hat : v'.ownBlock = v.ownBlock ∨ v'.ownBlock = some (W.heap.size + 1 + 1)) : OwnLL lo w1 v' (xss ++ [[x, y]]) := by
  have h1 : OwnU lo (W.alloc (.cells #[.int .i64 x, .int .i64 y] 2)) v xss u := h.of_blocks fun b hb => Below.heap_alloc _ _ _ (h.blks hb).2
  refine h1.snoc ((ownI_two8 W x y).base hlo) (fun b e hb => ?_) ((World.grownBy_alloc _ _ _).trans hgrow) hown' (fun b e => ?_)
  · simp [Value.ownBlock] at e
    subst e
    have := (h.blks hb).2; omega
  · rcases hat with h2 | h2
    · exact .inl (h2 ▸ e)
    · rw [h2] at e
      simp at e
      right; simp; omega

/-! ### the model -/
set_option maxRecDepth 100000 in
set_option maxHeartbeats 8000000 in
theorem l08Clashes_c (K : Nat) (c1 : Value) (xss : List (List Int)) (w : World) (hX : Lsts w.heap.size w c1 xss) (hC : Chans (K : Int) xss) :
    Calls Try.prog 59 #[.int .i64 (K : Int), c1] w (GivesLL w (clPairs K (clL K xss)) id) := by
  obtain ⟨il, hl0, hl1, hl2, hl3⟩ := info_parts Try.infoSl8
  obtain ⟨u, hU⟩ := hX
  obtain ⟨a, cap, rfl⟩ := hU.shape
  have hn := hC.n
  have hk8 := hC.k8
  have hm0 := hC.m0
  obtain ⟨N, hN⟩ : ∃ N, chN xss = N := ⟨_, rfl⟩
  rw [hN] at hn
  have hNK : N * K ≤ 120 * 8 := Nat.mul_le_mul hn.2 (by omega)
  have Hend := Lib.hid (show clL K xss = clTo K xss (N * K) by unfold clL; rw [hN])
  have HN := Lib.hid hN
  have HU := Lib.hid hU
  have HC := Lib.hid hC
  clear hU hC hN
  go_enter Try.func59, Try.ntmps59
  go_wp2
  have hB0 : Below w.heap.size w (w.alloc (.cells #[] 37)) := (Below.refl _ _).alloc (Nat.le_refl _) _
  have hO0 : OwnLL w.heap.size (w.alloc (.cells #[] 37)) (.slice (some ⟨w.heap.size, 0, none⟩) 0 0) (clPairs K (clTo K xss (0 * K))) := by
    rw [Nat.zero_mul, clTo_zero]
    exact ⟨fun _ => .slice none 0 0, World.ownsRow_made w #[] 0 (Nat.le_refl _) (by unfold maxLen; omega) rfl, fun k hk => by simp [clPairs] at hk, ⟨fun i j hi => by simp [clPairs] at hi, fun i hi => by simp [clPairs] at hi⟩⟩
  go_loopw [5, 6] (fun v q wr => ∃ s : Nat, s ≤ N ∧ q = .int .i64 s ∧ OwnLL w.heap.size wr v (clPairs K (clTo K xss (s * K))) ∧ Below w.heap.size w wr) (fun _ q _ => N - (intOf q).toNat)
  case atStart => exact ⟨0, Nat.zero_le _, rfl, hO0, hB0⟩
  case round =>
    obtain ⟨s, hs, rfl, hO, hB⟩ := hrel
    clear hO0 hB0
    obtain ⟨b, off, a3, c3, rfl, hb, k1, _⟩ := (HU.out.later hB).read (show 0 < xss.length by omega)
    rw [Nat.add_zero] at k1
    rw [show (lst xss 0).length = N from HN.out] at k1
    have hlx : 0 < xss.length := by omega
    by_cases hlt : s < N
    · have hki : (s : Int) < (N : Int) := by omega
      have hpl : s * K + K ≤ 960 := by
        have h1 : (s + 1) * K ≤ N * K := Nat.mul_le_mul_right K hlt
        rw [Nat.succ_mul] at h1; omega
      obtain ⟨p, hp⟩ : ∃ p, s * K = p := ⟨_, rfl⟩
      have Hp := Lib.hid hp
      rw [hp] at hpl hO
      clear hp
      go_wp2
      go_loopw [5, 7] (fun v q wr => ∃ i : Nat, i ≤ K ∧ q = .int .i64 i ∧ OwnLL w.heap.size wr v (clPairs K (clTo K xss (p + i))) ∧ Below w.heap.size w wr) (fun _ q _ => K - (intOf q).toNat)
      case atStart => exact ⟨0, Nat.zero_le _, rfl, hO, hB⟩
      case round =>
        obtain ⟨i, hi, rfl, hO2, hB2⟩ := hrel
        clear hO hB k1
        by_cases hli : i < K
        · have hii : (i : Int) < (K : Int) := by omega
          have hs2 := hB2.size
          go_wp2_with fail
          refine (l08Has_c _ xss s i (K : Int) _ ⟨u, HU.out.later hB2⟩ HC.out (by rw [HN.out]; exact hlt)).mono ?_
          rintro e w5 ⟨rfl, rfl⟩
          by_cases hq : 1 < (chL xss s (i : Int)).length
          · have hqi : (1 : Int) < (((chL xss s (i : Int)).length : Nat) : Int) := by omega
            have Hy := Lib.hid (show clPairs K (clTo K xss (p + (i + 1))) = clPairs K (clTo K xss (p + i)) ++ [[((s : Nat) : Int), ((i : Nat) : Int)]] by have := clPairs_yes (s := s) hli hq; rwa [Hp.out] at this)
            obtain ⟨u2, hU2⟩ := hO2
            have hcl := clTo_len K xss (p + i)
            rw [← clPairs_length K] at hcl
            obtain ⟨ys, hys⟩ : ∃ ys, clPairs K (clTo K xss (p + i)) = ys := ⟨_, rfl⟩
            rw [hys] at hU2 hcl Hy
            have hyl : ys.length ≤ 960 := by omega
            have hrow := ((hU2.list.alloc (.cells #[.int .i64 s, .int .i64 i] 2)).alloc (.cells #[.slice (some ⟨wr.heap.size, 0, none⟩) 2 2] 37))
            clear hq hys hcl
            go_wp2_with (at_builtin; refine wpList_append_own_at _ rfl _ _ 30 rfl w.heap.size 37 il (.slice none 0 0) 1 24 Try.underlying30 hl0 hl1 hl2 hl3 rfl (by decide) _ _ _ rfl hrow ⟨wr.heap.size + 1, 0, none⟩ 1 1 [.slice (some ⟨wr.heap.size, 0, none⟩) 2 2] rfl rfl (by have := Go.cell_one_new (wr.alloc (.cells #[.int .i64 s, .int .i64 i] 2)) (.slice (some ⟨wr.heap.size, 0, none⟩) 2 2) 37; simpa using this) (by simp [Value.oneCell']) (by unfold maxLen; omega) (by omega) (by simp; omega) ?_)
            intro v' w6 hown' hgrow _ hat
            have hO6 := pair_snoc hU2 hs2 hown' hgrow hat
            rw [← Hy.out] at hO6
            have hB6 : Below w.heap.size w w6 := ((hB2.alloc hs2 _).alloc (by simp; omega) _).grown hgrow (by simp; omega) (fun j e => (hU2.lblk j e).1)
            obtain ⟨a6, c6, rfl⟩ := hO6.shape
            clear hown' hgrow hat hU2 hrow hB2
            go_wp2
            go_roundw
            case rel => exact ⟨i + 1, by omega, by simp, hO6, hB6⟩
            case measure => simp [intOf]; omega
          · have hqi : ¬ (1 : Int) < (((chL xss s (i : Int)).length : Nat) : Int) := by omega
            have Hy := Lib.hid (show clTo K xss (p + (i + 1)) = clTo K xss (p + i) by have := clTo_no2 (s := s) hli hq; rwa [Hp.out] at this)
            clear hq
            go_wp2
            go_roundw
            case rel => exact ⟨i + 1, by omega, by simp, by rw [Hy.out]; exact hO2, hB2⟩
            case measure => simp [intOf]; omega
        · obtain rfl : i = K := by omega
          go_wp2
          go_roundw
          case rel => exact ⟨s + 1, by omega, by simp, by rw [Nat.succ_mul, Hp.out]; exact hO2, hB2⟩
          case measure => simp [intOf]; omega
    · obtain rfl : s = N := by omega
      go_wp2
      go_ret
      exact ⟨_, rfl, by rw [Hend.out]; exact hO, hB⟩

theorem ret_v2c {v : Value} {a b : Int} (h : a = b) : Ending.returned (.tuple #[v, .int .i64 a]) = .returned (.tuple #[v, .int .i64 b]) := by rw [h]

set_option maxRecDepth 100000 in
set_option maxHeartbeats 4000000 in
theorem s_ClashesOf (k : Int) (c1 : Value) (xss : List (List Int)) (w : World) (hk : I64 k) (hX : Lsts w.heap.size w c1 xss) (hm : xss.length ≤ 1048576) (hm2 : ∀ c, c < xss.length → (lst xss c).length ≤ 1048576) :
    Calls Try.prog 23 #[.int .i64 k, c1] w (GivesLL w (clR k xss) fun v => .tuple #[v, .int .i64 (clC k xss)]) := by
  obtain ⟨a, cap, rfl⟩ := hX.shape
  have HX := Lib.hid hX
  have Hm2 := Lib.hid hm2
  clear hX hm2
  cases hc : chOk k xss
  · have Hr := Lib.hid (show clR k xss = [] by unfold clR; rw [hc]; rfl)
    have Hq := Lib.hid (show clC k xss = 2 by unfold clC; rw [hc]; rfl)
    have Hc := Lib.hid hc
    clear hc
    go_enter Try.func23, Try.ntmps23
    go_wp2_with fail
    refine (l08Are_c k _ xss _ hk HX.out hm Hm2.out).mono ?_
    rintro e w1 ⟨he, hb⟩
    rw [Hc.out] at he
    subst he
    go_wp2
    go_ret2
    exact ⟨_, ret_v2c Hq.out.symm, by rw [Hr.out]; exact ownLL_nil _ _, hb⟩
  · have hC := chOk_iff.1 hc
    obtain ⟨K, rfl⟩ : ∃ K : Nat, k = K := ⟨k.toNat, by have := hC.k0; omega⟩
    have Hr := Lib.hid (show clR K xss = clPairs K (clL K xss) by unfold clR; rw [hc, if_pos rfl, Int.toNat_natCast])
    have Hq := Lib.hid (show clC K xss = 0 by unfold clC; rw [hc]; rfl)
    have Hc := Lib.hid hc
    have HC := Lib.hid hC
    clear hc hC
    go_enter Try.func23, Try.ntmps23
    go_wp2_with fail
    refine (l08Are_c _ _ xss _ hk HX.out hm Hm2.out).mono ?_
    rintro e w1 ⟨he, hb⟩
    rw [Hc.out] at he
    subst he
    go_wp2_with fail
    refine (l08Clashes_c K _ xss _ (HX.out.later hb) HC.out).mono ?_
    rintro e w2 ⟨v, rfl, ho, hb2⟩
    simp only [id]
    go_wp2
    go_ret2
    exact ⟨_, ret_v2c Hq.out.symm, by rw [Hr.out]; exact ho.base hb.size, hb.trans (hb2.mono hb.size)⟩

/-! ### the program -/
set_option maxRecDepth 100000 in
set_option maxHeartbeats 8000000 in
theorem haveClash_c (K : Nat) (c1 : Value) (xss : List (List Int)) (w : World) (hX : Lsts w.heap.size w c1 xss) (hC : Chans (K : Int) xss) :
    Calls Try.prog 65 #[.int .i64 (K : Int), c1] w fun e w' => e = .returned (.bool (decide (0 < (clL K xss).length))) ∧ Below w.heap.size w w' := by
  obtain ⟨a, cap, rfl⟩ := hX.shape
  refine (callsIn_wide (n := 9)).1 ?_
  refine callsIn_of_wp_marks Try.func65 rfl trivial ?_ rfl
  simp only [Try.ntmps65, List.size_toArray, List.length_cons, List.length_nil, Nat.reduceAdd, Nat.reduceSub, Array.replicate_succ, Array.replicate_zero, List.push_toArray, List.append_toArray, List.nil_append, List.cons_append]
  gi_wp2_with fail
  refine ⟨trivial, (callsIn_wide.2 (clashesOn_c _ _ _ _ _)).mono ?_⟩
  rintro e w' ⟨rfl, rfl⟩
  obtain ⟨W0, hW0⟩ : ∃ W0, (((w.alloc (.cells #[.bool false] 4)).alloc (.cells #[.int .i64 (K : Int)] 2)).alloc (.cells #[.slice a xss.length cap] 30)) = W0 := ⟨_, rfl⟩
  have hB0 : Below w.heap.size w W0 := by rw [← hW0]; exact ((((Below.refl _ w).alloc (Nat.le_refl _) _).alloc (by simp; try omega) _).alloc (by simp; try omega) _)
  have hs0 : w.heap.size + 3 ≤ W0.heap.size := by rw [← hW0]; simp
  have bR : Boxed W0 (w.heap.size) 4 (.bool false) := by rw [← hW0]; repeat first | (refine boxed_at ?_; (simp; done)) | refine Boxed.alloc ?_ _
  have bK : Boxed W0 (w.heap.size + 1) 2 (.int .i64 (K : Int)) := by rw [← hW0]; repeat first | (refine boxed_at ?_; (simp; done)) | refine Boxed.alloc ?_ _
  have bL : Boxed W0 (w.heap.size + 1 + 1) 30 (.slice a xss.length cap) := by rw [← hW0]; repeat first | (refine boxed_at ?_; (simp; done)) | refine Boxed.alloc ?_ _
  rw [hW0]
  clear hW0
  gi_wp2_with fail
  refine range_outA (Keep := fun b => b < w.heap.size ∨ b = w.heap.size + 1 + 1 ∨ b = w.heap.size + 1) (c := 4) rfl (by omega) rfl trivial (enters_of Try.func98 (by kernel_rfl) rfl) (clashesOn_at 8 _ _ w.heap.size _ xss K W0 bL bK (by omega) (hX.below hB0) hC) (fun b hb => by omega) (fun _ => rfl)
    (fun n W => n = 0 ∧ Boxed W w.heap.size 4 (.bool false) ∧ Below w.heap.size w W)
    (fun c n W => (c = .ret ∧ 0 < (clL K xss).length) ∧ Boxed W w.heap.size 4 (.bool true) ∧ Below w.heap.size w W)
    (by repeat' (first | exact ownFrom_pure _ _ | exact Own.from (boxed_own _ _ _) _ | exact Own.from (ownI_Own _ _ _) _ | exact Own.from (ownB_Own _ _ _) _ | exact ownFrom_below (Nat.le_refl _) (by omega) | exact ownFrom_kps (by omega) | apply OwnFrom.and)) (fun _ => (by repeat' (first | exact ownFrom_pure _ _ | exact Own.from (boxed_own _ _ _) _ | exact Own.from (ownI_Own _ _ _) _ | exact Own.from (ownB_Own _ _ _) _ | exact ownFrom_below (Nat.le_refl _) (by omega) | exact ownFrom_kps (by omega) | apply OwnFrom.and))) ⟨rfl, bR, hB0⟩ ?a1 ?assign ?body ?done ?stop
  case assign =>
    intro l n U K' hi hK
    simp only [clAt]
    gi_wp2
    exact hK
  case body =>
    rintro l n U hl' hr ⟨rfl, bR1, hB1⟩ hn hsU
    have cR := bR1.cell
    have fR := bR1.frozen
    have hnb : ¬ Band (fun b => b < w.heap.size ∨ b = w.heap.size + 1 + 1 ∨ b = w.heap.size + 1) W0.heap.size (W0.heap.size + 2 + 4) w.heap.size := fun hb' => by
      rcases hb' with (hb' | hb' | hb') | hb' <;> omega
    gi_wp2
    exact ⟨Kps.setCell _ _ _ _ hnb, ⟨rfl, hn⟩, bR1.set _, hB1.setCell (p := ⟨w.heap.size, 0, none⟩) (by simp) _⟩
  case done =>
    rintro D U hD ⟨h0, bR1, hB1⟩ hK
    have cR := bR1.cell
    have fR := bR1.frozen
    gi_wp2
    have hK' := (KeepsOthers.setCell U ⟨w.heap.size, 0, none⟩ (.bool false)).same D _ hK rfl
    have bR2 := boxed_shut (bR1.set (.bool false)) hK'
    have cR2 := bR2.cell
    exact retM1 hK' ⟨.bool false, by simp [results, Try.f65, go_sem, cR2], ret_bool (by rw [h0]; rfl), below_shut (hB1.setCell (p := ⟨w.heap.size, 0, none⟩) (by simp) _) (by omega)⟩
  case stop =>
    rintro D c n U hD hn ⟨⟨rfl, hp⟩, bR1, hB1⟩ hK
    gi_wp2
    have cR2 := (boxed_shut bR1 hK).cell
    exact retM1 hK ⟨.bool true, by simp [results, Try.f65, go_sem, cR2], ret_bool (decide_eq_true hp).symm, below_shut hB1 (by omega)⟩

/-! ### ClashesOf of the program -/
theorem ownsRow_cells {lo : Nat} {W : World} {t : TypeId} {s n : Nat} {v : Value} {xs : List Value} (h : W.ownsRow lo t s v n xs) {k : Nat} (hk : v.ownBlock = some k) : ∃ o : Obj, W.heap[k]? = some o ∧ o.isCells = true := by
  obtain ⟨_, h2⟩ := h
  rcases h2 with ⟨rfl, _⟩ | ⟨g, cap, cur, rfl, _, hh, _⟩
  · simp [Value.ownBlock] at hk
  · obtain rfl : g = k := by simpa [Value.ownBlock] using hk
    exact ⟨_, hh, rfl⟩
theorem ownLL_Own {β : Type} (lo : Nat) (v : Value) (f : β → List (List Int)) : Own (fun s W => OwnLL lo W v (f s)) := fun s X Y row ⟨u, hs⟩ hg hrow => by
  refine ⟨u, hs.of_blocks fun b hb => hg.block b (hs.blks hb).2 (fun e' => ?_)⟩
  obtain ⟨o, ho, hc⟩ := hrow b e'.symm
  have : ∃ o : Obj, X.heap[b]? = some o ∧ o.isCells = true := by
    rcases hb with hb | ⟨i, hi, hb⟩
    · exact ownsRow_cells hs.list hb
    · exact ownsRow_cells (hs.rows i hi) hb
  obtain ⟨o', ho', hc'⟩ := this
  rw [ho] at ho'; cases ho'
  rw [hc] at hc'; cases hc'
theorem boxLL_Own {β : Type} (B top : Nat) (t : TypeId) (f : β → List (List Int)) : Own (fun s W => ∃ v, Boxed W B t v ∧ OwnLL top W v (f s)) := by
  rintro s X Y row ⟨v, hv, ho⟩ hg hrow
  exact ⟨v, boxed_own B t (fun (_ : Unit) => v) () X Y row hv hg hrow, ownLL_Own top v (fun (_ : Unit) => f s) () X Y row ho hg hrow⟩
theorem clL_take {K : Nat} {xss : List (List Int)} {n : Nat} (hn : n < (clL K xss).length) : clPairs K ((clL K xss).take (n + 1)) = clPairs K ((clL K xss).take n) ++ [[((clN K xss n / K : Nat) : Int), ((clN K xss n % K : Nat) : Int)]] := by
  rw [List.take_add_one, show (clL K xss)[n]? = some (clN K xss n) by unfold clN; rw [List.getElem?_eq_getElem hn]; rfl]
  exact clPairs_snoc _ _ _

set_option maxRecDepth 100000 in
set_option maxHeartbeats 16000000 in
theorem i_ClashesOf (k : Int) (c1 : Value) (xss : List (List Int)) (w : World) (hk : I64 k) (hX : Lsts w.heap.size w c1 xss) (hm : xss.length ≤ 1048576) (hm2 : ∀ c, c < xss.length → (lst xss c).length ≤ 1048576) :
    Calls Try.prog 24 #[.int .i64 k, c1] w (GivesLL w (clR k xss) fun v => .tuple #[v, .int .i64 (clC k xss)]) := by
  obtain ⟨il, hl0, hl1, hl2, hl3⟩ := info_parts Try.infoSl8
  obtain ⟨a, cap, rfl⟩ := hX.shape
  have HX := Lib.hid hX
  have Hm2 := Lib.hid hm2
  clear hX hm2
  cases hc : chOk k xss
  · have Hr := Lib.hid (show clR k xss = [] by unfold clR; rw [hc]; rfl)
    have Hq := Lib.hid (show clC k xss = 2 by unfold clC; rw [hc]; rfl)
    have Hc := Lib.hid hc
    clear hc
    refine (callsIn_wide (n := 9)).1 ?_
    refine callsIn_of_wp_marks Try.func24 rfl trivial ?_ rfl
    simp only [Try.ntmps24, List.size_toArray, List.length_cons, List.length_nil, Nat.reduceAdd, Nat.reduceSub, Array.replicate_succ, Array.replicate_zero, List.push_toArray, List.append_toArray, List.nil_append, List.cons_append]
    gi_wp2_with fail
    refine ⟨trivial, (callsIn_wide.2 (i_AreChannels k _ xss _ hk HX.out hm Hm2.out)).mono ?_⟩
    rintro e w1 ⟨he, hb⟩
    rw [Hc.out] at he
    subst he
    gi_wp2
    refine retM0 ⟨_, results_tmp2 rfl _ _ _, ?_⟩
    exact ⟨_, ret_v2c Hq.out.symm, by rw [Hr.out]; exact ownLL_nil _ _, hb⟩
  · have hC := chOk_iff.1 hc
    obtain ⟨K, rfl⟩ : ∃ K : Nat, k = K := ⟨k.toNat, by have := hC.k0; omega⟩
    have Hr := Lib.hid (show clR K xss = clPairs K (clL K xss) by unfold clR; rw [hc, if_pos rfl, Int.toNat_natCast])
    have hcl := clL_len hC
    rw [Int.toNat_natCast] at hcl
    have Hq := Lib.hid (show clC K xss = 0 by unfold clC; rw [hc]; rfl)
    have Hc := Lib.hid hc
    have HC := Lib.hid hC
    clear hc hC
    refine (callsIn_wide (n := 9)).1 ?_
    refine callsIn_of_wp_marks Try.func24 rfl trivial ?_ rfl
    simp only [Try.ntmps24, List.size_toArray, List.length_cons, List.length_nil, Nat.reduceAdd, Nat.reduceSub, Array.replicate_succ, Array.replicate_zero, List.push_toArray, List.append_toArray, List.nil_append, List.cons_append]
    gi_wp2_with fail
    refine ⟨trivial, (callsIn_wide.2 (i_AreChannels _ _ xss _ hk HX.out hm Hm2.out)).mono ?_⟩
    rintro e w1 ⟨he, hb⟩
    rw [Hc.out] at he
    subst he
    have hX1 := HX.out.later hb
    gi_wp2_with fail
    refine ⟨trivial, (callsIn_wide.2 (clashesOn_c _ _ _ _ _)).mono ?_⟩
    rintro e w' ⟨rfl, rfl⟩
    have hsb := hb.size
    obtain ⟨W0, hW0⟩ : ∃ W0, (((w1.alloc (.cells #[.slice none 0 0] 30)).alloc (.cells #[.int .i64 (K : Int)] 2)).alloc (.cells #[.slice a xss.length cap] 30)) = W0 := ⟨_, rfl⟩
    have hB0 : Below w1.heap.size w1 W0 := by rw [← hW0]; exact ((((Below.refl _ w1).alloc (Nat.le_refl _) _).alloc (by simp; try omega) _).alloc (by simp; try omega) _)
    have hs0 : w1.heap.size + 3 ≤ W0.heap.size := by rw [← hW0]; simp
    have bR : Boxed W0 (w1.heap.size) 30 (.slice none 0 0) := by rw [← hW0]; repeat first | (refine boxed_at ?_; (simp; done)) | refine Boxed.alloc ?_ _
    have bK : Boxed W0 (w1.heap.size + 1) 2 (.int .i64 (K : Int)) := by rw [← hW0]; repeat first | (refine boxed_at ?_; (simp; done)) | refine Boxed.alloc ?_ _
    have bL : Boxed W0 (w1.heap.size + 1 + 1) 30 (.slice a xss.length cap) := by rw [← hW0]; repeat first | (refine boxed_at ?_; (simp; done)) | refine Boxed.alloc ?_ _
    rw [hW0]
    clear hW0
    obtain ⟨top, htop⟩ : ∃ top, W0.heap.size + 2 + 4 = top := ⟨_, rfl⟩
    have Htop := Lib.hid htop
    have htop1 : w1.heap.size + 9 ≤ top := by omega
    gi_wp2_with fail
    refine range_outA (Keep := fun b => b < w1.heap.size ∨ b = w1.heap.size + 1 + 1 ∨ b = w1.heap.size + 1) (c := 4) rfl (by omega) rfl trivial (enters_of Try.func98 (by kernel_rfl) rfl) (clashesOn_at 8 _ _ w1.heap.size _ xss K W0 bL bK (by omega) (hX1.below hB0) HC.out) (fun b hb => by omega) (fun _ => rfl)
      (fun n W => ((∃ v, Boxed W w1.heap.size 30 v ∧ OwnLL top W v (clPairs K ((clL K xss).take n))) ∧ Below w1.heap.size w1 W) ∧ (n = 0 ∨ top ≤ W.heap.size))
      (fun _ _ _ => False)
      (OwnFrom.and (OwnFrom.and (Own.from (boxLL_Own _ _ _ _) _) (ownFrom_below (Nat.le_refl _) (by omega))) (ownFrom_size _ _))
      (fun _ _ _ _ _ hs _ _ => hs)
      ⟨⟨⟨_, bR, ownLL_nil _ _⟩, hB0⟩, .inl rfl⟩ ?a1 ?assign ?body ?done ?stop
    case assign =>
      intro l n U K' hi hK
      simp only [clAt]
      gi_wp2
      exact hK
    case body =>
      rintro l n W hl' hr ⟨⟨⟨v, bR1, ho⟩, hB1⟩, _⟩ hn hsU
      clear htop
      have htop := Htop.out
      have hsW : top ≤ W.heap.size := by omega
      have hband : ∀ z, Band (fun b => b < w1.heap.size ∨ b = w1.heap.size + 1 + 1 ∨ b = w1.heap.size + 1) W0.heap.size (W0.heap.size + 2 + 4) z → ¬ (z = w1.heap.size ∨ top ≤ z) := fun z hz => by
        rcases hz with hz | hz <;> omega
      have Hband := Lib.hid hband
      have Htake := Lib.hid (clL_take hn)
      clear htop hband hsU
      have hpl : (clPairs K ((clL K xss).take n)).length ≤ 960 := by rw [clPairs_length, List.length_take]; omega
      obtain ⟨x, hx⟩ : ∃ x : Int, ((clN K xss n : Nat) : Int) / (K : Int) = x := ⟨_, rfl⟩
      obtain ⟨y, hy⟩ : ∃ y : Int, ((clN K xss n : Nat) : Int) % (K : Int) = y := ⟨_, rfl⟩
      obtain ⟨ys, hys⟩ : ∃ ys, clPairs K ((clL K xss).take n) = ys := ⟨_, rfl⟩
      rw [Int.natCast_ediv, Int.natCast_emod, hx, hy, hys] at Htake
      rw [hx, hy]
      rw [hys] at ho hpl
      obtain ⟨u2, hU2⟩ := ho
      have cR := bR1.cell
      have hrow := ((hU2.list.alloc (.cells #[.int .i64 x, .int .i64 y] 2)).alloc (.cells #[.slice (some ⟨W.heap.size, 0, none⟩) 2 2] 37))
      clear hx hy hys
      gi_wp2_with (gi_at_builtin; refine wpListIn_append_own_at8 _ rfl _ _ 30 rfl top 37 il (.slice none 0 0) 1 24 Try.underlying30 hl0 hl1 hl2 hl3 rfl (by decide) _ _ _ rfl hrow ⟨W.heap.size + 1, 0, none⟩ 1 1 [.slice (some ⟨W.heap.size, 0, none⟩) 2 2] rfl rfl (by have := Go.cell_one_new (W.alloc (.cells #[.int .i64 x, .int .i64 y] 2)) (.slice (some ⟨W.heap.size, 0, none⟩) 2 2) 37; simpa using this) (by simp [Value.oneCell']) (by unfold maxLen; omega) (by omega) (by simp; omega) ?_)
      intro v' w6 hown' hgrow hat
      have hO6 := pair_snoc hU2 (by omega) hown' hgrow hat
      have hb6 : Boxed w6 w1.heap.size 30 v := ((bR1.alloc _).alloc _).kept hgrow (fun e => by have := (hU2.lblk _ e.symm).1; omega)
      have hch : Chg (fun z => z = w1.heap.size ∨ top ≤ z) W (w6.setCell ⟨w1.heap.size, 0, none⟩ v') := ((Chg.alloc _ _ _).trans (Chg.alloc _ _ _)).trans ((Chg.grown hgrow (fun z e => .inr (hU2.lblk z e).1)).trans (Chg.setCell _ _ _ _ (.inl rfl)))
      obtain ⟨u6, hU6⟩ := hO6
      have hO7 : OwnLL top (w6.setCell ⟨w1.heap.size, 0, none⟩ v') v' (ys ++ [[x, y]]) := ⟨u6, hU6.of_blocks fun b hb => Below.heap_setCell _ _ _ b (fun e => by have h1 := (hU6.blks hb).1; have h2 : b = w1.heap.size := e; omega)⟩
      have bR7 := hb6.set v'
      have c6 := hb6.cell
      have f6 := hb6.frozen
      have HO7 := Lib.hid hO7
      obtain ⟨a7, c7, e7⟩ := hO7.shape
      rw [show (ys ++ [[x, y]]).length = ys.length + 1 by simp] at e7
      subst e7
      clear hown' hgrow hat hU2 hrow cR hU6 hO7
      gi_wp2
      exact ⟨hch.kps Hband.out, ⟨⟨_, bR7, by rw [Htake.out]; exact HO7.out⟩, hch.below hB1 (fun z hz => by omega) (by omega)⟩, .inr (Nat.le_trans hsW hch.size)⟩
    case done =>
      rintro D W hD ⟨⟨⟨v, bR1, ho⟩, hB1⟩, _⟩ hK
      have cR := bR1.cell
      rw [List.take_length] at ho
      have ho2 : OwnLL w.heap.size (W.putObj D (.deferred none)) v (clPairs K (clL K xss)) := by
        obtain ⟨u, hu⟩ := ho
        refine ⟨u, OwnU.base (hu.of_blocks fun b hb => World.putObj_heap_other (fun e => ?_)) (by omega)⟩
        have : ∃ o : Obj, W.heap[b]? = some o ∧ o.isCells = true := by
          rcases hb with hb | ⟨i, hi, hb⟩
          · exact ownsRow_cells hu.list hb
          · exact ownsRow_cells (hu.rows i hi) hb
        obtain ⟨o', ho', hc'⟩ := this
        subst e
        rw [hK] at ho'
        cases ho'
        cases hc'
      have HO := Lib.hid ho2
      obtain ⟨a7, c7, rfl⟩ := ho.shape
      clear ho ho2
      gi_wp2
      refine retM1 hK ⟨_, results_tmp2 rfl _ _ _, ?_⟩
      exact ⟨_, ret_v2c Hq.out.symm, by rw [Hr.out]; exact HO.out, hb.trans ((below_shut hB1 (by omega)).mono hsb)⟩
    case stop =>
      rintro D c' k' W' hD hk h
      exact h.elim

end Go.Proofs.Ytlgjnceedjbakaa
