/-
  extendApart's walk.
-/
import Derived.Test.YtnhdfpmjebfjmaaApt
namespace Go.Proofs.Ytnhdfpmjebfjmaa
open Go.RowKit Go.Shelf
attribute [local go_sem] Oper.semAt_some

set_option maxRecDepth 100000 in
set_option maxHeartbeats 8000000 in
theorem extend_nil {A L : Nat} {w0 : World} {S0 : Nat → Prop} {E : List (List (Int × Int))} {I : Nat → World → Prop} {Jx : World → Prop} (hC : CallerA A L w0 S0 E I Jx) (a : Option Addr) (cap : Nat) (cl : Value) (p : List (Int × Int)) (k : Nat) (W : World)
    (hA : A ≤ W.heap.size) (ho : OwnC A W cl p.length (flat p)) (hs : SegA E k (Rst.ext p [])) (hi : I k W) :
    Calls Try.prog 90 #[cl, .slice a 0 cap, .func (.yield L) #[] #[]] W (ApPost A I Jx k p [] cl W) := by
  obtain ⟨fn, tmps, assign, body, hy, hR⟩ := hC.round k p cl W (by simpa [Rst.ext] using hs 0 p rfl) hA ho hi
  refine (callsIn_wide (n := 10)).1 ?_
  refine callsIn_of_wp Try.func90 rfl trivial ?_ rfl
  simp only [Try.ntmps90, List.size_toArray, List.length_cons, List.length_nil, Nat.reduceAdd, Nat.reduceSub, Array.replicate_succ, Array.replicate_zero, List.push_toArray, List.append_toArray, List.nil_append, List.cons_append]
  gi_wp2_with fail
  refine wpIn_scopeA ?_
  gi_wp2
  refine hR.mono ?_
  rintro e W3 ⟨hk3, (⟨rfl, hJ3⟩ | ⟨rfl, hJx3⟩)⟩
  · gi_wp2
    rw [Exit.noGoto_ret]
    go_ret
    exact ⟨hk3.mono fun _ h => h.1, .inl ⟨rfl, ho.of_block fun j hj => hk3.same j (ho.blk j hj).1 (ho.blk j hj).2, by simpa [Rst.ext] using hJ3⟩⟩
  · gi_wp2
    rw [Exit.noGoto_ret]
    go_ret
    exact ⟨hk3.mono fun _ h => h.1, .inr ⟨rfl, hJx3⟩⟩

set_option maxRecDepth 100000 in
set_option maxHeartbeats 16000000 in
theorem extend_c {A L n₀ : Nat} {w0 : World} {S0 : Nat → Prop} {E : List (List (Int × Int))} {I : Nat → World → Prop} {Jx : World → Prop} (hC : CallerA A L w0 S0 E I Jx) (hn : ∀ j, j < n₀ → S0 j) : ∀ (gs : List Int) (c0 cl : Value) (p : List (Int × Int)) (k : Nat) (W : World),
    Ints n₀ w0 c0 gs → CapOk c0 gs.length → A ≤ W.heap.size → OwnC A W cl p.length (flat p) → 1 ≤ p.length → p.length + gs.length ≤ 8 → Clss p → (∀ g ∈ gs, 1 ≤ g ∧ g ≤ 40) → SegA E k (Rst.ext p gs) → I k W →
    Calls Try.prog 90 #[cl, c0, .func (.yield L) #[] #[]] W (ApPost A I Jx k p gs cl W) := by
  obtain ⟨i0, hi0, hz0, hz1, hz2⟩ := info_parts2 Try.infoC
  intro gs
  induction gs with
  | nil =>
    intro c0 cl p k W hI _ hA ho _ _ _ _ hs hi
    obtain ⟨a, cap, rfl⟩ := hI.shape
    exact extend_nil hC a cap cl p k W hA ho hs hi
  | cons g gs ih =>
    intro c0 cl p k W hI hcp hA ho hp1 h8 hcl hg hs hi
    obtain ⟨a, cap, rfl⟩ := hI.shape
    obtain ⟨_, _, hce, hcap, hcapm⟩ := hcp
    cases hce
    unfold maxLen at hcapm
    rw [List.length_cons] at hcap h8
    obtain ⟨g2, cap2, rfl, hg2, hg3⟩ := ho.shape (by omega)
    have hfw : Try.prog.follows Departure.mixedOrders = true := by kernel_rfl
    have hgb := hg g (List.mem_cons_self ..)
    have hgs : ∀ x ∈ gs, 1 ≤ x ∧ x ≤ 40 := fun x hx => hg x (List.mem_cons_of_mem _ hx)
    obtain ⟨b, off, rfl, hb, hc⟩ := hI.at_ (show 0 < (g :: gs).length by simp)
    have cg := hc 0 (by simp)
    rw [show nth (g :: gs) 0 = g from rfl] at cg
    obtain ⟨gN, rfl⟩ : ∃ gN : Nat, g = (gN : Int) := ⟨g.toNat, by omega⟩
    have hs2 : SegA E k (exTo p (gN : Int) gs gN) := by
      rw [Rst.ext, Int.toNat_natCast] at hs; exact hs
    have hlen : Rst.ext p ((gN : Int) :: gs) = exTo p (gN : Int) gs gN := by rw [Rst.ext, Int.toNat_natCast]; rfl
    obtain ⟨ad, had, had1, had2⟩ : ∃ ad : Addr, (if cap = 1 then some (⟨b, off, none⟩ : Addr) else some ⟨b, off + 1, none⟩) = some ad ∧ (cap = 1 → ad = ⟨b, off, none⟩) ∧ (¬ cap = 1 → ad = ⟨b, off + 1, none⟩) := by
      by_cases hq : cap = 1
      · exact ⟨_, if_pos hq, fun _ => rfl, fun h => absurd hq h⟩
      · exact ⟨_, if_neg hq, fun h => absurd h hq, fun _ => rfl⟩
    have hIt : Ints n₀ w0 (.slice (some ad) gs.length (cap - 1)) gs := by
      by_cases hq : cap = 1
      · have : gs = [] := List.eq_nil_of_length_eq_zero (by omega)
        subst this
        exact ⟨_, _, rfl, .inl rfl⟩
      · have h := ints_drop (n := 1) hI (by simp)
        rw [had2 hq]
        exact h
    have hct : CapOk (.slice (some ad) gs.length (cap - 1)) gs.length := ⟨_, _, rfl, by omega, by unfold maxLen; omega⟩
    have e0 : ApEnv A I (k + (exTo p (gN : Int) gs 0).length) p (.slice (some ⟨g2, 0, none⟩) p.length cap2) W W := ⟨ho, Kps.refl _ _, hi, hA⟩
    have Had := Lib.hid had
    have HIt := Lib.hid hIt
    have Hct := Lib.hid hct
    have Hih := Lib.hid ih
    have Hgs := Lib.hid hgs
    have Hcl := Lib.hid hcl
    have Hs2 := Lib.hid hs2
    have Hlen := Lib.hid hlen
    have HC := Lib.hid hC
    have hgi : (gN : Int) ≤ 40 := hgb.2
    have hlc : ((gN : Int) :: gs).length = gs.length + 1 := rfl
    have hB0 := hC.old _ _ hi
    have cgW : ∀ wr, Kps S0 w0 wr → wr.cell? ⟨b, off + 0, none⟩ = some (.int .i64 gN) := fun wr hk => (World.cell?_of_block (w := w0) (a := ⟨b, off + 0, none⟩) (hk.same b (hn b hb) (World.block_lt_of_cell? w0 _ cg))).trans cg
    have HcW := Lib.hid cgW
    have cgS := cgW W hB0
    clear ih hg hs hcl hc cg hs2 hlen hC had had1 had2 hIt hct hgs cgW ho hI
    simp only [Nat.add_zero] at cgS
    rw [hlc]
    have hbe : (((gs.length : Nat) : Int) + 1 == 0) = false := by rw [beq_eq_false_iff_ne]; omega
    go_enter Try.func90, Try.ntmps90
    go_wp2_with fail
    refine wp_scope_straight ?_
    go_wp2
    refine wp_label ?_
    go_wp2
    go_loopw [20] (fun rr wr => ∃ r : Nat, r ≤ gN ∧ rr = .int .i64 r ∧ ApEnv A I (k + (exTo p (gN : Int) gs r).length) p (.slice (some ⟨g2, 0, none⟩) p.length cap2) W wr) (fun rr _ => gN - (intOf rr).toNat)
    case atStart => exact ⟨0, Nat.zero_le _, rfl, e0⟩
    case round =>
      obtain ⟨r, hr, rfl, E1⟩ := hrel
      clear e0 cgS hB0
      by_cases hlt : r < gN
      · have hrg : (r : Int) < (gN : Int) := by omega
        have cgS := HcW.out _ (HC.out.old _ _ E1.inv)
        simp only [Nat.add_zero] at cgS
        have E2 : ApEnv A I (k + (exTo p (gN : Int) gs r).length) p (.slice (some ⟨g2, 0, none⟩) p.length cap2) W (wr.alloc (.cells #[.int .i64 r, .int .i64 gN] 73)) := E1.later HC.out ((Below.refl _ _).alloc (Nat.le_refl _) _)
        have B2 := Box2.new wr 73 (.int .i64 r) (.int .i64 gN)
        have hA1 := E1.size
        have hgw := (E1.own.blk g2 rfl).2
        go_wp2
        obtain ⟨W1, hW1⟩ : ∃ W1, wr.alloc (.cells #[.int .i64 r, .int .i64 gN] 73) = W1 := ⟨_, rfl⟩
        obtain ⟨b8, hb8⟩ : ∃ b8, wr.heap.size = b8 := ⟨_, rfl⟩
        rw [hW1] at E2 B2 ⊢
        rw [hb8] at B2 hA1 hgw ⊢
        have hl8 := B2.lt
        clear hW1 hb8 E1 cgS
        go_loopw [30] (fun i wr2 => ∃ m : Nat, m ≤ p.length ∧ i = .int .i64 m ∧ fitTo p ((r : Int), (gN : Int)) m = true ∧ Below W1.heap.size W1 wr2) (fun i _ => p.length - (intOf i).toNat)
        case atStart => exact ⟨0, Nat.zero_le _, rfl, rfl, Below.refl _ _⟩
        case round =>
          obtain ⟨m, hm, rfl, hgd, hB2⟩ := hrel
          have hs2 := hB2.size
          have B3 := B2.later hB2
          by_cases hml : m < p.length
          · have hmli : (m : Int) < (p.length : Int) := by omega
            have hfs := fitTo_succ (c := ((r : Int), (gN : Int))) hml
            rw [hgd] at hfs
            obtain ⟨b2', off2', e2, hb2, hc2⟩ := (show Cls W1.heap.size wr (.slice (some ⟨g2, 0, none⟩) p.length cap2) p from Prs.below E2.own.prs hB2).at_ hml
            cases e2
            obtain ⟨x0, x1⟩ := hc2 m hml
            simp only [Nat.zero_add] at x0 x1
            have hcm := Hcl.out m hml
            have k0 := B3.c0
            have k1 := B3.c1
            have hBa : Below W1.heap.size W1 (wr.alloc (.cells #[.int .i64 (rst p m), .int .i64 (gp p m)] 73)) := hB2.alloc hs2 _
            have B4 := B3.alloc (.cells #[.int .i64 (rst p m), .int .i64 (gp p m)] 73)
            have k2 := B4.c0
            have k3 := B4.c1
            rw [meet2_mt, Rst.mt_comm, ← meet2_mt] at hfs
            cases he : meet2 (r : Int) (gN : Int) (rst p m) (gp p m)
            · have Hfs := Lib.hid (show fitTo p ((r : Int), (gN : Int)) (m + 1) = true by rw [hfs, he]; rfl)
              have Hq := Lib.hid (And.intro hcm he)
              clear hfs he hc2 hcm hgd
              go_wp2_with fail
              refine (meets_d false _ _ _ _ _ (by omega) (by have := Hq.out.1; omega) (by omega) (by have := Hq.out.1; omega) Hq.out.2).mono ?_
              rintro e w5 ⟨rfl, hb5⟩
              have hB5 := hBa.trans (hb5.mono (by simp; omega))
              clear k0 k1 k2 k3 B4 hBa hb5
              go_wp2
              go_roundw
              case rel => exact ⟨m + 1, by omega, by simp, Hfs.out, hB5⟩
              case measure => simp [intOf]; omega
            · have hfn : fitTo p ((r : Int), (gN : Int)) (m + 1) = false := by rw [hfs, he]; rfl
              have Hfn := Lib.hid (exTo_not (gs := gs) (fitTo_false hfn))
              have Hq := Lib.hid (And.intro hcm he)
              clear hfs he hc2 hcm hgd hfn
              go_wp2_with fail
              refine (meets_d true _ _ _ _ _ (by omega) (by have := Hq.out.1; omega) (by omega) (by have := Hq.out.1; omega) Hq.out.2).mono ?_
              rintro e w5 ⟨rfl, hb5⟩
              have hB5 := hBa.trans (hb5.mono (by simp; omega))
              clear k0 k1 k2 k3 B4 hBa hb5
              go_wp2
              go_roundw
              case rel => exact ⟨r + 1, by omega, by simp, by rw [Hfn.out]; exact E2.later HC.out hB5⟩
              case measure => simp [intOf]; omega
          · obtain rfl : m = p.length := by omega
            rw [fitTo_all] at hgd
            have Hgd := Lib.hid hgd
            clear hgd
            have hnl : ¬ (p.length : Int) < (p.length : Int) := by omega
            have E3 := E2.later HC.out hB2
            have hl3 := B3.lt
            clear E2 B2 hB2 hs2
            go_wp2_with fail
            refine wp_region_held_drew (S := fun w' => Box2 w' b8 73 (.int .i64 r) (.int .i64 gN)) hfw B3 ?_
            intro hS0
            refine wpAnyH_take (i := 0) (v := ?va1q0) rfl (by kernel_rfl) (by kernel_rfl) (by kernel_rfl) (fun _ _ _ h => h) (.inl ⟨by first | kernel_rfl | rfl, ?ya1q0⟩) hS0 ?_
            case ya1q0 =>
              intro w' hS
              (have k0 := hS.c0; have k1 := hS.c1; clear hS)
              go_simp
              try with_reducible rfl
            refine wpAnyH_take (i := 1) (v := ?va1q1) rfl (by kernel_rfl) (by kernel_rfl) (by kernel_rfl) (fun _ _ _ h => h) (.inl ⟨by first | kernel_rfl | rfl, ?ya1q1⟩) hS0 ?_
            case ya1q1 =>
              intro w' hS
              (have k0 := hS.c0; have k1 := hS.c1; clear hS)
              go_simp
              try with_reducible rfl
            refine wpAnyH_take (i := 4) (v := ?va1q4) rfl (by kernel_rfl) (by kernel_rfl) (by kernel_rfl) (fun _ _ _ h => h) (.inl ⟨by first | kernel_rfl | rfl, ?ya1q4⟩) hS0 ?_
            case ya1q4 =>
              intro w' hS
              (have k0 := hS.c0; have k1 := hS.c1; clear hS)
              go_simp
              try with_reducible rfl
            refine wpAnyH_take (i := 6) (v := ?va1q6) rfl (by kernel_rfl) (by kernel_rfl) (by kernel_rfl) (fun _ _ _ h => h) (.inl ⟨by first | kernel_rfl | rfl, ?ya1q6⟩) hS0 ?_
            case ya1q6 =>
              intro w' hS
              (have k0 := hS.c0; have k1 := hS.c1; clear hS)
              go_simp
              try with_reducible rfl
            refine wpAnyH_take (i := 5) (v := (.slice (some ad) gs.length (cap - 1))) rfl (by kernel_rfl) (by kernel_rfl) (by kernel_rfl) (fun _ _ _ h => h) (.inl ⟨by first | kernel_rfl | rfl, ?ya2q5⟩) hS0 ?_
            case ya2q5 =>
              intro w' hS
              (clear hS)
              go_simp
              (rw [← Had.out])
              first | done | (simp; done) | (simp; omega) | omega | (simp [*]; done)
            have E4 := E3.later HC.out (Below.refl _ _).drew
            obtain ⟨wd, hwd⟩ : ∃ wd, wr.drew = wd := ⟨_, rfl⟩
            rw [hwd] at hS0 E4 ⊢
            clear hwd E3 B3 hl3 hl8
            refine wpAnyH_ready (rs := [2]) (by kernel_rfl) (by simp) ?_
            refine AllReadyH.cons rfl (fun K' hK' => ?_) AllReadyH.nil
            rw [if_pos (by first | kernel_rfl | rfl)]
            go_simp
            obtain ⟨xw, hxw⟩ : ∃ x, wd.heap.size = x := ⟨_, rfl⟩
            obtain ⟨wa, hwa⟩ : ∃ W, wd.alloc (.cells #[.int .i64 r, .int .i64 gN] 73) = W := ⟨_, rfl⟩
            have hba : Below wd.heap.size wd wa := by rw [← hwa]; exact (Below.refl _ _).alloc (Nat.le_refl _) _
            have bx : Box2 wa xw 73 (.int .i64 r) (.int .i64 gN) := by rw [← hwa, ← hxw]; exact Box2.new _ _ _ _
            rw [hwa, hxw]
            have E5 := E4.later HC.out hba
            have B6 := hS0.later hba
            refine hK'.out _ _ B6 fun hSa => ?_
            clear hwa hxw hK' hS0 hba E4
            refine wpAnyH_ready (rs := [3]) (by kernel_rfl) (by simp) ?_
            refine AllReadyH.cons rfl (fun K' hK' => ?_) AllReadyH.nil
            rw [if_pos (by first | kernel_rfl | rfl)]
            refine wp_app_two _ (.tmp 38) (.tmp 40) 26 rfl A 73 i0 (.agg #[.int .i64 0, .int .i64 0]) 2 16 Try.underlying26 hi0 hz0 hz1 hz2 rfl (by decide) g2 p.length cap2 _ rfl E5.own ⟨xw, 0, none⟩ 1 1 [.int .i64 r, .int .i64 gN] rfl rfl (box2_src bx) (by simp [Value.oneCell']) (by unfold maxLen; omega) (by omega) E5.size ?_
            intro v9 w9 hown' hap
            have ho9 := ownC_snoc hown'
            have B9 : Box2 w9 b8 73 (.int .i64 r) (.int .i64 gN) := by
              rcases hap with ⟨_, hg⟩ | ⟨_, hg⟩
              · exact B6.kept hg (by simp; omega)
              · exact B6.kept hg (by simp)
            have hb9 : Below A wa w9 := by
              rcases hap with ⟨_, hg⟩ | ⟨_, hg⟩
              · exact (Below.refl _ _).grown hg E5.size (fun j e => by cases e; exact hg2)
              · exact (Below.refl _ _).grown hg E5.size (fun j e => by cases e)
            have hi9 := HC.out.move _ _ _ E5.inv E5.size hb9
            refine hK'.out _ _ B9 fun hS9 => ?_
            clear hown' hK' hSa
            have hc10 := Lib.hid (Hih.out (.slice (some ad) gs.length (cap - 1)) v9 (p ++ [((r : Int), (gN : Int))]) (k + (exTo p (gN : Int) gs r).length) w9 HIt.out Hct.out (Nat.le_trans E5.size hb9.size) ho9 (by simp) (by simp; omega) (clss_snoc Hcl.out (by omega) (by omega)) Hgs.out (exTo_seg Hs2.out hlt Hgd.out) hi9)
            have Hap := Lib.hid hap
            clear hap B9
            refine wpAnyH_ready (rs := [7]) (by kernel_rfl) (by simp) ?_
            refine AllReadyH.cons rfl (fun K' hK' => ?_) AllReadyH.nil
            rw [if_pos (by first | kernel_rfl | rfl)]
            go_simp
            refine hc10.out.mono ?_
            rintro e w10 hp
            obtain ⟨hk10, hres⟩ := E5.behind ho9 Hap.out hp
            have B10 : Box2 w10 b8 73 (.int .i64 r) (.int .i64 gN) := (hk10.same b8 ⟨hA1, fun he => by have : g2 = b8 := Option.some.inj he; omega⟩ B6.lt).trans B6
            have hkW := E5.kps.trans hk10
            clear hp hc10 hk10 ho9 hS9 E5 B6 bx
            rcases hres with ⟨rfl, E10⟩ | ⟨rfl, hJ⟩
            · refine hK'.out _ _ B10 fun hS10 => ?_
              refine wpAnyH_take (i := 8) (v := ?va3q8) rfl (by kernel_rfl) (by kernel_rfl) (by kernel_rfl) (fun _ _ _ h => h) (.inl ⟨by first | kernel_rfl | rfl, ?ya3q8⟩) hS10 ?_
              case ya3q8 =>
                intro w' hS
                (clear hS)
                go_simp
                try with_reducible rfl
              refine wpAnyH_done (by kernel_rfl) ?_ _
              clear hS10 B10
              go_wp2
              go_roundw
              case rel => exact ⟨r + 1, by omega, by simp, by rw [exTo_yes Hgd.out, ← Nat.add_assoc]; exact E10⟩
              case measure => simp [intOf]; omega
            · refine hK'.out _ _ B10 fun hS10 => ?_
              refine wpAnyH_take (i := 8) (v := ?va4q8) rfl (by kernel_rfl) (by kernel_rfl) (by kernel_rfl) (fun _ _ _ h => h) (.inl ⟨by first | kernel_rfl | rfl, ?ya4q8⟩) hS10 ?_
              case ya4q8 =>
                intro w' hS
                (clear hS)
                go_simp
                try with_reducible rfl
              refine wpAnyH_done (by kernel_rfl) ?_ _
              clear hS10 B10
              go_wp2
              rw [Exit.noGoto_ret]
              go_ret
              exact ⟨hkW, .inr ⟨rfl, hJ⟩⟩
      · obtain rfl : r = gN := by omega
        go_wp2
        rw [Exit.noGoto_ret]
        go_ret
        exact ⟨E1.kps, .inl ⟨rfl, E1.own, by rw [Hlen.out]; exact E1.inv⟩⟩

end Go.Proofs.Ytnhdfpmjebfjmaa
