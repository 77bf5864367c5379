/-
  What classes are: the model's l05Are, AreClasses; the program's methods of a class, AreClasses.
  Conditions: lists of at most 1048576 elements.
-/
import Derived.Test.YtbhpflhopajbfaaCls
import Derived.Test.YtbhpflhopajbfaaReg
namespace Go.Proofs.Ytbhpflhopajbfaa
open Go.RowKit Go.Shelf
attribute [local go_sem] Oper.semAt_some

/-! ### the model -/
theorem clOk_gap {x g : Int} (h : inB g 1 40 = false) : clOk (x, g) = false := by unfold clOk; rw [h]; rfl
theorem clOk_rest {x g : Int} (h1 : inB g 1 40 = true) (h : inB x 0 (g - 1) = false) : clOk (x, g) = false := by unfold clOk; rw [h1, h]; rfl
theorem clOk_yes {x g : Int} (h1 : inB g 1 40 = true) (h : inB x 0 (g - 1) = true) : clOk (x, g) = true := by unfold clOk; rw [h1, h]; rfl

set_option maxRecDepth 100000 in
set_option maxHeartbeats 4000000 in
theorem l05Are_c (sv : Value) (cs : List (Int × Int)) (w : World) (hI : Cls w.heap.size w sv cs) (hm : cs.length ≤ 1048576) :
    Calls Try.prog 80 #[sv] w fun e w' => e = .returned (.bool (clsOk cs)) ∧ Below w.heap.size w w' := by
  obtain ⟨a, cap, rfl⟩ := hI.shape
  go_enter Try.func80, Try.ntmps80
  go_wp2
  go_loopw [3] (fun i wr => ∃ k : Nat, k ≤ cs.length ∧ i = .int .i64 k ∧ (∀ j, j < k → clOk (rst cs j, gp cs j) = true) ∧ Below w.heap.size w wr) (fun i _ => cs.length - (intOf i).toNat)
  case atStart => exact ⟨0, Nat.zero_le _, rfl, by simp, Below.refl _ _⟩
  case round =>
    obtain ⟨k, hk, rfl, hall, hB⟩ := hrel
    have Hall := Lib.hid hall
    clear hall
    by_cases hlt : k < cs.length
    · obtain ⟨b, off, rfl, hb, hc⟩ := (hI.below hB).at_ hlt
      obtain ⟨e1, e2⟩ := hc k hlt
      have HB := Lib.hid hB
      have i1 : (k : Int) < (cs.length : Int) := by omega
      have hfw : Try.prog.follows Departure.mixedOrders = true := by kernel_rfl
      replace e1 : wr.drew.cell? ⟨b, off + k * 2, none⟩ = some (.int .i64 (rst cs k)) := e1
      replace e2 : wr.drew.cell? ⟨b, off + k * 2 + 1, none⟩ = some (.int .i64 (gp cs k)) := e2
      clear hc hI hB
      cases h1 : inB (gp cs k) 1 40
      · have Hf := Lib.hid (clsOk_no hlt (clOk_gap h1))
        have H1 := Lib.hid h1
        clear h1
        go_wp2_with fail
        refine wp_region_held_drew (S := fun w' => w' = wr.drew) hfw rfl ?_
        intro hS0
        refine wpAnyH_take (i := 0) (v := ?vz1q0) rfl (by kernel_rfl) (by kernel_rfl) (by kernel_rfl) (fun _ _ _ h => h) (.inl ⟨by first | kernel_rfl | rfl, ?yz1q0⟩) rfl ?_
        case yz1q0 =>
          intro w' hS
          (subst hS)
          go_simp
          try with_reducible rfl
        refine wpAnyH_take (i := 1) (v := ?vz1q1) rfl (by kernel_rfl) (by kernel_rfl) (by kernel_rfl) (fun _ _ _ h => h) (.inl ⟨by first | kernel_rfl | rfl, ?yz1q1⟩) rfl ?_
        case yz1q1 =>
          intro w' hS
          (subst hS)
          go_simp
          try with_reducible rfl
        refine wpAnyH_take (i := 2) (v := ?vz1q2) rfl (by kernel_rfl) (by kernel_rfl) (by kernel_rfl) (fun _ _ _ h => h) (.inl ⟨by first | kernel_rfl | rfl, ?yz1q2⟩) rfl ?_
        case yz1q2 =>
          intro w' hS
          (subst hS)
          go_simp
          try with_reducible rfl
        refine wpAnyH_take (i := 3) (v := ?vz1q3) rfl (by kernel_rfl) (by kernel_rfl) (by kernel_rfl) (fun _ _ _ h => h) (.inl ⟨by first | kernel_rfl | rfl, ?yz1q3⟩) rfl ?_
        case yz1q3 =>
          intro w' hS
          (subst hS)
          go_simp
          try with_reducible rfl
        refine wpAnyH_take (i := 4) (v := ?vz1q4) rfl (by kernel_rfl) (by kernel_rfl) (by kernel_rfl) (fun _ _ _ h => h) (.inl ⟨by first | kernel_rfl | rfl, ?yz1q4⟩) rfl ?_
        case yz1q4 =>
          intro w' hS
          (subst hS)
          go_simp
          try with_reducible rfl
        try simp only [Act.put, List.getElem_toArray, List.getElem_cons_zero, List.getElem_cons_succ, List.setIfInBounds_toArray, List.set_cons_zero, List.set_cons_succ]
        refine wpAnyH_ready (rs := [5]) (by kernel_rfl) (by simp) ?_
        refine AllReadyH.cons rfl (fun K' hK' => ?_) AllReadyH.nil
        rw [if_pos (by first | kernel_rfl | rfl)]
        go_simp
        refine (l01In_d false _ _ _ _ H1.out).mono ?_
        rintro e w' ⟨rfl, rfl⟩
        refine hK'.out _ _ rfl fun hS1 => ?_
        refine wpAnyH_take (i := 6) (v := ?vz2q6) rfl (by kernel_rfl) (by kernel_rfl) (by kernel_rfl) (fun _ _ _ h => h) (.inl ⟨by first | kernel_rfl | rfl, ?yz2q6⟩) rfl ?_
        case yz2q6 =>
          intro w' hS
          (subst hS)
          go_simp
          try with_reducible rfl
        refine wpAnyH_take (i := 7) (v := ?vz2q7) rfl (by kernel_rfl) (by kernel_rfl) (by kernel_rfl) (fun _ _ _ h => h) (.inl ⟨by first | kernel_rfl | rfl, ?yz2q7⟩) rfl ?_
        case yz2q7 =>
          intro w' hS
          (subst hS)
          go_simp
          try with_reducible rfl
        try simp only [Act.put, List.getElem_toArray, List.getElem_cons_zero, List.getElem_cons_succ, List.setIfInBounds_toArray, List.set_cons_zero, List.set_cons_succ]
        refine wpAnyH_take (i := 8) (v := undef) rfl (by kernel_rfl) (by kernel_rfl) (by kernel_rfl) (fun _ _ _ h => h) (.inr ⟨by kernel_rfl, rfl⟩) rfl ?_
        refine wpAnyH_take (i := 9) (v := undef) rfl (by kernel_rfl) (by kernel_rfl) (by kernel_rfl) (fun _ _ _ h => h) (.inr ⟨by kernel_rfl, rfl⟩) rfl ?_
        refine wpAnyH_take (i := 10) (v := undef) rfl (by kernel_rfl) (by kernel_rfl) (by kernel_rfl) (fun _ _ _ h => h) (.inr ⟨by kernel_rfl, rfl⟩) rfl ?_
        refine wpAnyH_take (i := 11) (v := undef) rfl (by kernel_rfl) (by kernel_rfl) (by kernel_rfl) (fun _ _ _ h => h) (.inr ⟨by kernel_rfl, rfl⟩) rfl ?_
        refine wpAnyH_take (i := 12) (v := undef) rfl (by kernel_rfl) (by kernel_rfl) (by kernel_rfl) (fun _ _ _ h => h) (.inr ⟨by kernel_rfl, rfl⟩) rfl ?_
        refine wpAnyH_take (i := 13) (v := undef) rfl (by kernel_rfl) (by kernel_rfl) (by kernel_rfl) (fun _ _ _ h => h) (.inr ⟨by kernel_rfl, rfl⟩) rfl ?_
        refine wpAnyH_take (i := 14) (v := undef) rfl (by kernel_rfl) (by kernel_rfl) (by kernel_rfl) (fun _ _ _ h => h) (.inr ⟨by kernel_rfl, rfl⟩) rfl ?_
        refine wpAnyH_take (i := 15) (v := undef) rfl (by kernel_rfl) (by kernel_rfl) (by kernel_rfl) (fun _ _ _ h => h) (.inr ⟨by kernel_rfl, rfl⟩) rfl ?_
        refine wpAnyH_take (i := 16) (v := undef) rfl (by kernel_rfl) (by kernel_rfl) (by kernel_rfl) (fun _ _ _ h => h) (.inr ⟨by kernel_rfl, rfl⟩) rfl ?_
        refine wpAnyH_take (i := 17) (v := undef) rfl (by kernel_rfl) (by kernel_rfl) (by kernel_rfl) (fun _ _ _ h => h) (.inr ⟨by kernel_rfl, rfl⟩) rfl ?_
        refine wpAnyH_take (i := 18) (v := undef) rfl (by kernel_rfl) (by kernel_rfl) (by kernel_rfl) (fun _ _ _ h => h) (.inr ⟨by kernel_rfl, rfl⟩) rfl ?_
        refine wpAnyH_take (i := 19) (v := undef) rfl (by kernel_rfl) (by kernel_rfl) (by kernel_rfl) (fun _ _ _ h => h) (.inr ⟨by kernel_rfl, rfl⟩) rfl ?_
        refine wpAnyH_take (i := 20) (v := undef) rfl (by kernel_rfl) (by kernel_rfl) (by kernel_rfl) (fun _ _ _ h => h) (.inr ⟨by kernel_rfl, rfl⟩) rfl ?_
        try simp only [Act.put, List.getElem_toArray, List.getElem_cons_zero, List.getElem_cons_succ, List.setIfInBounds_toArray, List.set_cons_zero, List.set_cons_succ]
        refine wpAnyH_take (i := 21) (v := ?vz3q21) rfl (by kernel_rfl) (by kernel_rfl) (by kernel_rfl) (fun _ _ _ h => h) (.inl ⟨by first | kernel_rfl | rfl, ?yz3q21⟩) rfl ?_
        case yz3q21 =>
          intro w' hS
          (subst hS)
          go_simp
          try with_reducible rfl
        try simp only [Act.put, List.getElem_toArray, List.getElem_cons_zero, List.getElem_cons_succ, List.setIfInBounds_toArray, List.set_cons_zero, List.set_cons_succ]
        refine wpAnyH_done (by kernel_rfl) ?_ _
        go_wp2
        go_ret
        exact ⟨ret_bool Hf.out.symm, HB.out.drew⟩
      · have H1 := Lib.hid h1
        have hg : 1 ≤ gp cs k ∧ gp cs k ≤ 40 := inB_true.1 h1
        have hr : IntKind.i64.wrap (gp cs k - 1) = gp cs k - 1 := by have := hg.1; have := hg.2; rw [IntKind.wrap_i64]; omega
        cases h2 : inB (rst cs k) 0 (gp cs k - 1)
        · have Hf := Lib.hid (clsOk_no hlt (clOk_rest h1 h2))
          have H2 := Lib.hid h2
          clear h1 h2
          go_wp2_with fail
          refine wp_region_held_drew (S := fun w' => w' = wr.drew) hfw rfl ?_
          intro hS0
          refine wpAnyH_take (i := 0) (v := ?vz4q0) rfl (by kernel_rfl) (by kernel_rfl) (by kernel_rfl) (fun _ _ _ h => h) (.inl ⟨by first | kernel_rfl | rfl, ?yz4q0⟩) rfl ?_
          case yz4q0 =>
            intro w' hS
            (subst hS)
            go_simp
            try with_reducible rfl
          refine wpAnyH_take (i := 1) (v := ?vz4q1) rfl (by kernel_rfl) (by kernel_rfl) (by kernel_rfl) (fun _ _ _ h => h) (.inl ⟨by first | kernel_rfl | rfl, ?yz4q1⟩) rfl ?_
          case yz4q1 =>
            intro w' hS
            (subst hS)
            go_simp
            try with_reducible rfl
          refine wpAnyH_take (i := 2) (v := ?vz4q2) rfl (by kernel_rfl) (by kernel_rfl) (by kernel_rfl) (fun _ _ _ h => h) (.inl ⟨by first | kernel_rfl | rfl, ?yz4q2⟩) rfl ?_
          case yz4q2 =>
            intro w' hS
            (subst hS)
            go_simp
            try with_reducible rfl
          refine wpAnyH_take (i := 3) (v := ?vz4q3) rfl (by kernel_rfl) (by kernel_rfl) (by kernel_rfl) (fun _ _ _ h => h) (.inl ⟨by first | kernel_rfl | rfl, ?yz4q3⟩) rfl ?_
          case yz4q3 =>
            intro w' hS
            (subst hS)
            go_simp
            try with_reducible rfl
          refine wpAnyH_take (i := 4) (v := ?vz4q4) rfl (by kernel_rfl) (by kernel_rfl) (by kernel_rfl) (fun _ _ _ h => h) (.inl ⟨by first | kernel_rfl | rfl, ?yz4q4⟩) rfl ?_
          case yz4q4 =>
            intro w' hS
            (subst hS)
            go_simp
            try with_reducible rfl
          try simp only [Act.put, List.getElem_toArray, List.getElem_cons_zero, List.getElem_cons_succ, List.setIfInBounds_toArray, List.set_cons_zero, List.set_cons_succ]
          refine wpAnyH_ready (rs := [5]) (by kernel_rfl) (by simp) ?_
          refine AllReadyH.cons rfl (fun K' hK' => ?_) AllReadyH.nil
          rw [if_pos (by first | kernel_rfl | rfl)]
          go_simp
          refine (l01In_d true _ _ _ _ H1.out).mono ?_
          rintro e w' ⟨rfl, rfl⟩
          refine hK'.out _ _ rfl fun hS1 => ?_
          refine wpAnyH_take (i := 6) (v := ?vz5q6) rfl (by kernel_rfl) (by kernel_rfl) (by kernel_rfl) (fun _ _ _ h => h) (.inl ⟨by first | kernel_rfl | rfl, ?yz5q6⟩) rfl ?_
          case yz5q6 =>
            intro w' hS
            (subst hS)
            go_simp
            try with_reducible rfl
          refine wpAnyH_take (i := 7) (v := ?vz5q7) rfl (by kernel_rfl) (by kernel_rfl) (by kernel_rfl) (fun _ _ _ h => h) (.inl ⟨by first | kernel_rfl | rfl, ?yz5q7⟩) rfl ?_
          case yz5q7 =>
            intro w' hS
            (subst hS)
            go_simp
            try with_reducible rfl
          refine wpAnyH_take (i := 8) (v := ?vz5q8) rfl (by kernel_rfl) (by kernel_rfl) (by kernel_rfl) (fun _ _ _ h => h) (.inl ⟨by first | kernel_rfl | rfl, ?yz5q8⟩) rfl ?_
          case yz5q8 =>
            intro w' hS
            (subst hS)
            go_simp
            try with_reducible rfl
          refine wpAnyH_take (i := 9) (v := ?vz5q9) rfl (by kernel_rfl) (by kernel_rfl) (by kernel_rfl) (fun _ _ _ h => h) (.inl ⟨by first | kernel_rfl | rfl, ?yz5q9⟩) rfl ?_
          case yz5q9 =>
            intro w' hS
            (subst hS)
            go_simp
            try with_reducible rfl
          refine wpAnyH_take (i := 10) (v := ?vz5q10) rfl (by kernel_rfl) (by kernel_rfl) (by kernel_rfl) (fun _ _ _ h => h) (.inl ⟨by first | kernel_rfl | rfl, ?yz5q10⟩) rfl ?_
          case yz5q10 =>
            intro w' hS
            (subst hS)
            go_simp
            try with_reducible rfl
          refine wpAnyH_take (i := 11) (v := ?vz5q11) rfl (by kernel_rfl) (by kernel_rfl) (by kernel_rfl) (fun _ _ _ h => h) (.inl ⟨by first | kernel_rfl | rfl, ?yz5q11⟩) rfl ?_
          case yz5q11 =>
            intro w' hS
            (subst hS)
            go_simp
            try with_reducible rfl
          refine wpAnyH_take (i := 12) (v := ?vz5q12) rfl (by kernel_rfl) (by kernel_rfl) (by kernel_rfl) (fun _ _ _ h => h) (.inl ⟨by first | kernel_rfl | rfl, ?yz5q12⟩) rfl ?_
          case yz5q12 =>
            intro w' hS
            (subst hS)
            go_simp
            try with_reducible rfl
          refine wpAnyH_take (i := 13) (v := ?vz5q13) rfl (by kernel_rfl) (by kernel_rfl) (by kernel_rfl) (fun _ _ _ h => h) (.inl ⟨by first | kernel_rfl | rfl, ?yz5q13⟩) rfl ?_
          case yz5q13 =>
            intro w' hS
            (subst hS)
            go_simp
            try with_reducible rfl
          refine wpAnyH_take (i := 14) (v := ?vz5q14) rfl (by kernel_rfl) (by kernel_rfl) (by kernel_rfl) (fun _ _ _ h => h) (.inl ⟨by first | kernel_rfl | rfl, ?yz5q14⟩) rfl ?_
          case yz5q14 =>
            intro w' hS
            (subst hS)
            go_simp
            try with_reducible rfl
          refine wpAnyH_take (i := 15) (v := ?vz5q15) rfl (by kernel_rfl) (by kernel_rfl) (by kernel_rfl) (fun _ _ _ h => h) (.inl ⟨by first | kernel_rfl | rfl, ?yz5q15⟩) rfl ?_
          case yz5q15 =>
            intro w' hS
            (subst hS)
            go_simp
            try with_reducible rfl
          refine wpAnyH_take (i := 16) (v := ?vz5q16) rfl (by kernel_rfl) (by kernel_rfl) (by kernel_rfl) (fun _ _ _ h => h) (.inl ⟨by first | kernel_rfl | rfl, ?yz5q16⟩) rfl ?_
          case yz5q16 =>
            intro w' hS
            (subst hS)
            go_simp
            try with_reducible rfl
          refine wpAnyH_take (i := 17) (v := ?vz5q17) rfl (by kernel_rfl) (by kernel_rfl) (by kernel_rfl) (fun _ _ _ h => h) (.inl ⟨by first | kernel_rfl | rfl, ?yz5q17⟩) rfl ?_
          case yz5q17 =>
            intro w' hS
            (subst hS)
            go_simp
            try with_reducible rfl
          refine wpAnyH_take (i := 18) (v := ?vz5q18) rfl (by kernel_rfl) (by kernel_rfl) (by kernel_rfl) (fun _ _ _ h => h) (.inl ⟨by first | kernel_rfl | rfl, ?yz5q18⟩) rfl ?_
          case yz5q18 =>
            intro w' hS
            (subst hS)
            go_simp
            try with_reducible rfl
          try simp only [Act.put, List.getElem_toArray, List.getElem_cons_zero, List.getElem_cons_succ, List.setIfInBounds_toArray, List.set_cons_zero, List.set_cons_succ]
          refine wpAnyH_ready (rs := [19]) (by kernel_rfl) (by simp) ?_
          refine AllReadyH.cons rfl (fun K' hK' => ?_) AllReadyH.nil
          rw [if_pos (by first | kernel_rfl | rfl)]
          go_simp
          refine (l01In_d false _ _ _ _ H2.out).mono ?_
          rintro e w' ⟨rfl, rfl⟩
          refine hK'.out _ _ rfl fun hS1 => ?_
          refine wpAnyH_take (i := 20) (v := ?vz6q20) rfl (by kernel_rfl) (by kernel_rfl) (by kernel_rfl) (fun _ _ _ h => h) (.inl ⟨by first | kernel_rfl | rfl, ?yz6q20⟩) rfl ?_
          case yz6q20 =>
            intro w' hS
            (subst hS)
            go_simp
            try with_reducible rfl
          refine wpAnyH_take (i := 21) (v := ?vz6q21) rfl (by kernel_rfl) (by kernel_rfl) (by kernel_rfl) (fun _ _ _ h => h) (.inl ⟨by first | kernel_rfl | rfl, ?yz6q21⟩) rfl ?_
          case yz6q21 =>
            intro w' hS
            (subst hS)
            go_simp
            try with_reducible rfl
          try simp only [Act.put, List.getElem_toArray, List.getElem_cons_zero, List.getElem_cons_succ, List.setIfInBounds_toArray, List.set_cons_zero, List.set_cons_succ]
          refine wpAnyH_done (by kernel_rfl) ?_ _
          go_wp2
          go_ret
          exact ⟨ret_bool Hf.out.symm, HB.out.drew⟩
        · have Hf := Lib.hid (clOk_yes h1 h2)
          have H2 := Lib.hid h2
          clear h1 h2
          go_wp2_with fail
          refine wp_region_held_drew (S := fun w' => w' = wr.drew) hfw rfl ?_
          intro hS0
          refine wpAnyH_take (i := 0) (v := ?vz7q0) rfl (by kernel_rfl) (by kernel_rfl) (by kernel_rfl) (fun _ _ _ h => h) (.inl ⟨by first | kernel_rfl | rfl, ?yz7q0⟩) rfl ?_
          case yz7q0 =>
            intro w' hS
            (subst hS)
            go_simp
            try with_reducible rfl
          refine wpAnyH_take (i := 1) (v := ?vz7q1) rfl (by kernel_rfl) (by kernel_rfl) (by kernel_rfl) (fun _ _ _ h => h) (.inl ⟨by first | kernel_rfl | rfl, ?yz7q1⟩) rfl ?_
          case yz7q1 =>
            intro w' hS
            (subst hS)
            go_simp
            try with_reducible rfl
          refine wpAnyH_take (i := 2) (v := ?vz7q2) rfl (by kernel_rfl) (by kernel_rfl) (by kernel_rfl) (fun _ _ _ h => h) (.inl ⟨by first | kernel_rfl | rfl, ?yz7q2⟩) rfl ?_
          case yz7q2 =>
            intro w' hS
            (subst hS)
            go_simp
            try with_reducible rfl
          refine wpAnyH_take (i := 3) (v := ?vz7q3) rfl (by kernel_rfl) (by kernel_rfl) (by kernel_rfl) (fun _ _ _ h => h) (.inl ⟨by first | kernel_rfl | rfl, ?yz7q3⟩) rfl ?_
          case yz7q3 =>
            intro w' hS
            (subst hS)
            go_simp
            try with_reducible rfl
          refine wpAnyH_take (i := 4) (v := ?vz7q4) rfl (by kernel_rfl) (by kernel_rfl) (by kernel_rfl) (fun _ _ _ h => h) (.inl ⟨by first | kernel_rfl | rfl, ?yz7q4⟩) rfl ?_
          case yz7q4 =>
            intro w' hS
            (subst hS)
            go_simp
            try with_reducible rfl
          try simp only [Act.put, List.getElem_toArray, List.getElem_cons_zero, List.getElem_cons_succ, List.setIfInBounds_toArray, List.set_cons_zero, List.set_cons_succ]
          refine wpAnyH_ready (rs := [5]) (by kernel_rfl) (by simp) ?_
          refine AllReadyH.cons rfl (fun K' hK' => ?_) AllReadyH.nil
          rw [if_pos (by first | kernel_rfl | rfl)]
          go_simp
          refine (l01In_d true _ _ _ _ H1.out).mono ?_
          rintro e w' ⟨rfl, rfl⟩
          refine hK'.out _ _ rfl fun hS1 => ?_
          refine wpAnyH_take (i := 6) (v := ?vz8q6) rfl (by kernel_rfl) (by kernel_rfl) (by kernel_rfl) (fun _ _ _ h => h) (.inl ⟨by first | kernel_rfl | rfl, ?yz8q6⟩) rfl ?_
          case yz8q6 =>
            intro w' hS
            (subst hS)
            go_simp
            try with_reducible rfl
          refine wpAnyH_take (i := 7) (v := ?vz8q7) rfl (by kernel_rfl) (by kernel_rfl) (by kernel_rfl) (fun _ _ _ h => h) (.inl ⟨by first | kernel_rfl | rfl, ?yz8q7⟩) rfl ?_
          case yz8q7 =>
            intro w' hS
            (subst hS)
            go_simp
            try with_reducible rfl
          refine wpAnyH_take (i := 8) (v := ?vz8q8) rfl (by kernel_rfl) (by kernel_rfl) (by kernel_rfl) (fun _ _ _ h => h) (.inl ⟨by first | kernel_rfl | rfl, ?yz8q8⟩) rfl ?_
          case yz8q8 =>
            intro w' hS
            (subst hS)
            go_simp
            try with_reducible rfl
          refine wpAnyH_take (i := 9) (v := ?vz8q9) rfl (by kernel_rfl) (by kernel_rfl) (by kernel_rfl) (fun _ _ _ h => h) (.inl ⟨by first | kernel_rfl | rfl, ?yz8q9⟩) rfl ?_
          case yz8q9 =>
            intro w' hS
            (subst hS)
            go_simp
            try with_reducible rfl
          refine wpAnyH_take (i := 10) (v := ?vz8q10) rfl (by kernel_rfl) (by kernel_rfl) (by kernel_rfl) (fun _ _ _ h => h) (.inl ⟨by first | kernel_rfl | rfl, ?yz8q10⟩) rfl ?_
          case yz8q10 =>
            intro w' hS
            (subst hS)
            go_simp
            try with_reducible rfl
          refine wpAnyH_take (i := 11) (v := ?vz8q11) rfl (by kernel_rfl) (by kernel_rfl) (by kernel_rfl) (fun _ _ _ h => h) (.inl ⟨by first | kernel_rfl | rfl, ?yz8q11⟩) rfl ?_
          case yz8q11 =>
            intro w' hS
            (subst hS)
            go_simp
            try with_reducible rfl
          refine wpAnyH_take (i := 12) (v := ?vz8q12) rfl (by kernel_rfl) (by kernel_rfl) (by kernel_rfl) (fun _ _ _ h => h) (.inl ⟨by first | kernel_rfl | rfl, ?yz8q12⟩) rfl ?_
          case yz8q12 =>
            intro w' hS
            (subst hS)
            go_simp
            try with_reducible rfl
          refine wpAnyH_take (i := 13) (v := ?vz8q13) rfl (by kernel_rfl) (by kernel_rfl) (by kernel_rfl) (fun _ _ _ h => h) (.inl ⟨by first | kernel_rfl | rfl, ?yz8q13⟩) rfl ?_
          case yz8q13 =>
            intro w' hS
            (subst hS)
            go_simp
            try with_reducible rfl
          refine wpAnyH_take (i := 14) (v := ?vz8q14) rfl (by kernel_rfl) (by kernel_rfl) (by kernel_rfl) (fun _ _ _ h => h) (.inl ⟨by first | kernel_rfl | rfl, ?yz8q14⟩) rfl ?_
          case yz8q14 =>
            intro w' hS
            (subst hS)
            go_simp
            try with_reducible rfl
          refine wpAnyH_take (i := 15) (v := ?vz8q15) rfl (by kernel_rfl) (by kernel_rfl) (by kernel_rfl) (fun _ _ _ h => h) (.inl ⟨by first | kernel_rfl | rfl, ?yz8q15⟩) rfl ?_
          case yz8q15 =>
            intro w' hS
            (subst hS)
            go_simp
            try with_reducible rfl
          refine wpAnyH_take (i := 16) (v := ?vz8q16) rfl (by kernel_rfl) (by kernel_rfl) (by kernel_rfl) (fun _ _ _ h => h) (.inl ⟨by first | kernel_rfl | rfl, ?yz8q16⟩) rfl ?_
          case yz8q16 =>
            intro w' hS
            (subst hS)
            go_simp
            try with_reducible rfl
          refine wpAnyH_take (i := 17) (v := ?vz8q17) rfl (by kernel_rfl) (by kernel_rfl) (by kernel_rfl) (fun _ _ _ h => h) (.inl ⟨by first | kernel_rfl | rfl, ?yz8q17⟩) rfl ?_
          case yz8q17 =>
            intro w' hS
            (subst hS)
            go_simp
            try with_reducible rfl
          refine wpAnyH_take (i := 18) (v := ?vz8q18) rfl (by kernel_rfl) (by kernel_rfl) (by kernel_rfl) (fun _ _ _ h => h) (.inl ⟨by first | kernel_rfl | rfl, ?yz8q18⟩) rfl ?_
          case yz8q18 =>
            intro w' hS
            (subst hS)
            go_simp
            try with_reducible rfl
          try simp only [Act.put, List.getElem_toArray, List.getElem_cons_zero, List.getElem_cons_succ, List.setIfInBounds_toArray, List.set_cons_zero, List.set_cons_succ]
          refine wpAnyH_ready (rs := [19]) (by kernel_rfl) (by simp) ?_
          refine AllReadyH.cons rfl (fun K' hK' => ?_) AllReadyH.nil
          rw [if_pos (by first | kernel_rfl | rfl)]
          go_simp
          refine (l01In_d true _ _ _ _ H2.out).mono ?_
          rintro e w' ⟨rfl, rfl⟩
          refine hK'.out _ _ rfl fun hS1 => ?_
          refine wpAnyH_take (i := 20) (v := ?vz9q20) rfl (by kernel_rfl) (by kernel_rfl) (by kernel_rfl) (fun _ _ _ h => h) (.inl ⟨by first | kernel_rfl | rfl, ?yz9q20⟩) rfl ?_
          case yz9q20 =>
            intro w' hS
            (subst hS)
            go_simp
            try with_reducible rfl
          refine wpAnyH_take (i := 21) (v := ?vz9q21) rfl (by kernel_rfl) (by kernel_rfl) (by kernel_rfl) (fun _ _ _ h => h) (.inl ⟨by first | kernel_rfl | rfl, ?yz9q21⟩) rfl ?_
          case yz9q21 =>
            intro w' hS
            (subst hS)
            go_simp
            try with_reducible rfl
          try simp only [Act.put, List.getElem_toArray, List.getElem_cons_zero, List.getElem_cons_succ, List.setIfInBounds_toArray, List.set_cons_zero, List.set_cons_succ]
          refine wpAnyH_done (by kernel_rfl) ?_ _
          go_wp2
          go_roundw
          case rel => exact ⟨k + 1, by omega, by simp, fun j hj => by by_cases e : j = k; exact e ▸ Hf.out; exact Hall.out j (by omega), HB.out.drew⟩
          case measure => simp [intOf]; omega
    · obtain rfl : k = cs.length := by omega
      have Hf := Lib.hid (clsOk_all Hall.out)
      go_wp2_with fail
      refine (l01In_d _ _ _ _ _ rfl).mono ?_
      rintro e w' ⟨rfl, rfl⟩
      go_wp2
      go_ret
      exact ⟨ret_bool (by rw [Hf.out]), hB⟩

/-! ### the program: a class's methods -/
theorem rest_c (x y : Int) (w : World) : Calls Try.prog 179 #[.agg #[.int .i64 x, .int .i64 y]] w fun e w' => e = .returned (.int .i64 x) ∧ Below w.heap.size w w' := by
  have hB0 : Below w.heap.size w (w.alloc (.cells #[.int .i64 x, .int .i64 y] 106)) := (Below.refl _ _).alloc (Nat.le_refl _) _
  go_enter Try.func179, Try.ntmps179
  go_wp2
  go_ret
  exact ⟨rfl, hB0⟩
theorem gap_c (x y : Int) (w : World) : Calls Try.prog 178 #[.agg #[.int .i64 x, .int .i64 y]] w fun e w' => e = .returned (.int .i64 y) ∧ Below w.heap.size w w' := by
  have hB0 : Below w.heap.size w (w.alloc (.cells #[.int .i64 x, .int .i64 y] 106)) := (Below.refl _ _).alloc (Nat.le_refl _) _
  go_enter Try.func178, Try.ntmps178
  go_wp2
  go_ret
  exact ⟨rfl, hB0⟩

set_option maxRecDepth 100000 in
set_option maxHeartbeats 8000000 in
theorem isClass_c (x y : Int) (w : World) : Calls Try.prog 146 #[.agg #[.int .i64 x, .int .i64 y]] w fun e w' => e = .returned (.bool (clOk (x, y))) ∧ Below w.heap.size w w' := by
  have hfw : Try.prog.follows Departure.mixedOrders = true := by kernel_rfl
  have hS : Box2 (w.alloc (.cells #[.int .i64 x, .int .i64 y] 106)).drew w.heap.size 106 (.int .i64 x) (.int .i64 y) ∧ Below w.heap.size w (w.alloc (.cells #[.int .i64 x, .int .i64 y] 106)).drew := ⟨Box2.new _ _ _ _, ((Below.refl _ _).alloc (Nat.le_refl _) _).drew⟩
  by_cases h1 : 1 ≤ y
  case neg =>
    have Hf := Lib.hid (show clOk (x, y) = false from clOk_gap (inB_false.2 (by omega)))
    go_enter Try.func146, Try.ntmps146
    go_wp2_with fail
    refine wp_region_held_drew (S := fun w' => Box2 w' w.heap.size 106 (.int .i64 x) (.int .i64 y) ∧ Below w.heap.size w w') hfw hS ?_
    intro hS0
    refine wpAnyH_take (i := 0) (v := ?vc1x11q0) rfl (by kernel_rfl) (by kernel_rfl) (by kernel_rfl) (fun _ _ _ h => h) (.inl ⟨by first | kernel_rfl | rfl, ?yc1x11q0⟩) hS0 ?_
    case yc1x11q0 =>
      intro w' hS
      (have a0 := hS.1.c0; have a1 := hS.1.c1; clear hS)
      go_simp
      try with_reducible rfl
    refine wpAnyH_ready (rs := [1]) (by kernel_rfl) (by simp) ?_
    refine AllReadyH.cons rfl (fun K' hK' => ?_) AllReadyH.nil
    rw [if_pos (by first | kernel_rfl | rfl)]
    go_simp
    refine (gap_c x y _).mono ?_
    rintro e w1 ⟨rfl, hb1⟩
    refine hK'.out _ _ ⟨hS0.1.later hb1, hS0.2.trans (hb1.mono hS0.2.size)⟩ fun hS1 => ?_
    refine wpAnyH_take (i := 2) (v := (.bool false)) rfl (by kernel_rfl) (by kernel_rfl) (by kernel_rfl) (fun _ _ _ h => h) (.inl ⟨by first | kernel_rfl | rfl, ?yc1x21q2⟩) hS1 ?_
    case yc1x21q2 =>
      intro w' hS
      (have a0 := hS.1.c0; have a1 := hS.1.c1; clear hS)
      go_simp
      first | done | (simp; done) | (simp; omega) | omega | (simp [*]; done)
    refine wpAnyH_take (i := 3) (v := ?vc1x22q3) rfl (by kernel_rfl) (by kernel_rfl) (by kernel_rfl) (fun _ _ _ h => h) (.inl ⟨by first | kernel_rfl | rfl, ?yc1x22q3⟩) hS1 ?_
    case yc1x22q3 =>
      intro w' hS
      (have a0 := hS.1.c0; have a1 := hS.1.c1; clear hS)
      go_simp
      try with_reducible rfl
    try simp only [Act.put, List.getElem_toArray, List.getElem_cons_zero, List.getElem_cons_succ, List.setIfInBounds_toArray, List.set_cons_zero, List.set_cons_succ]
    refine wpAnyH_take (i := 4) (v := undef) rfl (by kernel_rfl) (by kernel_rfl) (by kernel_rfl) (fun _ _ _ h => h) (.inr ⟨by kernel_rfl, rfl⟩) hS1 ?_
    refine wpAnyH_take (i := 5) (v := undef) rfl (by kernel_rfl) (by kernel_rfl) (by kernel_rfl) (fun _ _ _ h => h) (.inr ⟨by kernel_rfl, rfl⟩) hS1 ?_
    refine wpAnyH_take (i := 6) (v := undef) rfl (by kernel_rfl) (by kernel_rfl) (by kernel_rfl) (fun _ _ _ h => h) (.inr ⟨by kernel_rfl, rfl⟩) hS1 ?_
    try simp only [Act.put, List.getElem_toArray, List.getElem_cons_zero, List.getElem_cons_succ, List.setIfInBounds_toArray, List.set_cons_zero, List.set_cons_succ]
    refine wpAnyH_take (i := 7) (v := ?vc1x31q7) rfl (by kernel_rfl) (by kernel_rfl) (by kernel_rfl) (fun _ _ _ h => h) (.inl ⟨by first | kernel_rfl | rfl, ?yc1x31q7⟩) hS1 ?_
    case yc1x31q7 =>
      intro w' hS
      (have a0 := hS.1.c0; have a1 := hS.1.c1; clear hS)
      go_simp
      try with_reducible rfl
    refine wpAnyH_take (i := 8) (v := ?vc1x31q8) rfl (by kernel_rfl) (by kernel_rfl) (by kernel_rfl) (fun _ _ _ h => h) (.inl ⟨by first | kernel_rfl | rfl, ?yc1x31q8⟩) hS1 ?_
    case yc1x31q8 =>
      intro w' hS
      (have a0 := hS.1.c0; have a1 := hS.1.c1; clear hS)
      go_simp
      try with_reducible rfl
    try simp only [Act.put, List.getElem_toArray, List.getElem_cons_zero, List.getElem_cons_succ, List.setIfInBounds_toArray, List.set_cons_zero, List.set_cons_succ]
    refine wpAnyH_take (i := 9) (v := undef) rfl (by kernel_rfl) (by kernel_rfl) (by kernel_rfl) (fun _ _ _ h => h) (.inr ⟨by kernel_rfl, rfl⟩) hS1 ?_
    refine wpAnyH_take (i := 10) (v := undef) rfl (by kernel_rfl) (by kernel_rfl) (by kernel_rfl) (fun _ _ _ h => h) (.inr ⟨by kernel_rfl, rfl⟩) hS1 ?_
    refine wpAnyH_take (i := 11) (v := undef) rfl (by kernel_rfl) (by kernel_rfl) (by kernel_rfl) (fun _ _ _ h => h) (.inr ⟨by kernel_rfl, rfl⟩) hS1 ?_
    try simp only [Act.put, List.getElem_toArray, List.getElem_cons_zero, List.getElem_cons_succ, List.setIfInBounds_toArray, List.set_cons_zero, List.set_cons_succ]
    refine wpAnyH_take (i := 12) (v := ?vc1x41q12) rfl (by kernel_rfl) (by kernel_rfl) (by kernel_rfl) (fun _ _ _ h => h) (.inl ⟨by first | kernel_rfl | rfl, ?yc1x41q12⟩) hS1 ?_
    case yc1x41q12 =>
      intro w' hS
      (have a0 := hS.1.c0; have a1 := hS.1.c1; clear hS)
      go_simp
      try with_reducible rfl
    refine wpAnyH_take (i := 13) (v := ?vc1x41q13) rfl (by kernel_rfl) (by kernel_rfl) (by kernel_rfl) (fun _ _ _ h => h) (.inl ⟨by first | kernel_rfl | rfl, ?yc1x41q13⟩) hS1 ?_
    case yc1x41q13 =>
      intro w' hS
      (have a0 := hS.1.c0; have a1 := hS.1.c1; clear hS)
      go_simp
      try with_reducible rfl
    try simp only [Act.put, List.getElem_toArray, List.getElem_cons_zero, List.getElem_cons_succ, List.setIfInBounds_toArray, List.set_cons_zero, List.set_cons_succ]
    refine wpAnyH_take (i := 14) (v := undef) rfl (by kernel_rfl) (by kernel_rfl) (by kernel_rfl) (fun _ _ _ h => h) (.inr ⟨by kernel_rfl, rfl⟩) hS1 ?_
    refine wpAnyH_take (i := 15) (v := undef) rfl (by kernel_rfl) (by kernel_rfl) (by kernel_rfl) (fun _ _ _ h => h) (.inr ⟨by kernel_rfl, rfl⟩) hS1 ?_
    refine wpAnyH_take (i := 16) (v := undef) rfl (by kernel_rfl) (by kernel_rfl) (by kernel_rfl) (fun _ _ _ h => h) (.inr ⟨by kernel_rfl, rfl⟩) hS1 ?_
    refine wpAnyH_take (i := 17) (v := undef) rfl (by kernel_rfl) (by kernel_rfl) (by kernel_rfl) (fun _ _ _ h => h) (.inr ⟨by kernel_rfl, rfl⟩) hS1 ?_
    refine wpAnyH_take (i := 18) (v := undef) rfl (by kernel_rfl) (by kernel_rfl) (by kernel_rfl) (fun _ _ _ h => h) (.inr ⟨by kernel_rfl, rfl⟩) hS1 ?_
    try simp only [Act.put, List.getElem_toArray, List.getElem_cons_zero, List.getElem_cons_succ, List.setIfInBounds_toArray, List.set_cons_zero, List.set_cons_succ]
    refine wpAnyH_take (i := 19) (v := ?vc1x51q19) rfl (by kernel_rfl) (by kernel_rfl) (by kernel_rfl) (fun _ _ _ h => h) (.inl ⟨by first | kernel_rfl | rfl, ?yc1x51q19⟩) hS1 ?_
    case yc1x51q19 =>
      intro w' hS
      (have a0 := hS.1.c0; have a1 := hS.1.c1; clear hS)
      go_simp
      try with_reducible rfl
    refine wpAnyH_take (i := 20) (v := ?vc1x51q20) rfl (by kernel_rfl) (by kernel_rfl) (by kernel_rfl) (fun _ _ _ h => h) (.inl ⟨by first | kernel_rfl | rfl, ?yc1x51q20⟩) hS1 ?_
    case yc1x51q20 =>
      intro w' hS
      (have a0 := hS.1.c0; have a1 := hS.1.c1; clear hS)
      go_simp
      try with_reducible rfl
    try simp only [Act.put, List.getElem_toArray, List.getElem_cons_zero, List.getElem_cons_succ, List.setIfInBounds_toArray, List.set_cons_zero, List.set_cons_succ]
    refine wpAnyH_done (by kernel_rfl) ?_ _
    go_wp2
    go_ret
    exact ⟨ret_bool (by rw [Hf.out]; first | done | (simp; done) | (simp; omega)), hS1.2⟩
  by_cases h2 : y ≤ 40
  case neg =>
    have Hf := Lib.hid (show clOk (x, y) = false from clOk_gap (inB_false.2 (by omega)))
    go_enter Try.func146, Try.ntmps146
    go_wp2_with fail
    refine wp_region_held_drew (S := fun w' => Box2 w' w.heap.size 106 (.int .i64 x) (.int .i64 y) ∧ Below w.heap.size w w') hfw hS ?_
    intro hS0
    refine wpAnyH_take (i := 0) (v := ?vc2x11q0) rfl (by kernel_rfl) (by kernel_rfl) (by kernel_rfl) (fun _ _ _ h => h) (.inl ⟨by first | kernel_rfl | rfl, ?yc2x11q0⟩) hS0 ?_
    case yc2x11q0 =>
      intro w' hS
      (have a0 := hS.1.c0; have a1 := hS.1.c1; clear hS)
      go_simp
      try with_reducible rfl
    refine wpAnyH_ready (rs := [1]) (by kernel_rfl) (by simp) ?_
    refine AllReadyH.cons rfl (fun K' hK' => ?_) AllReadyH.nil
    rw [if_pos (by first | kernel_rfl | rfl)]
    go_simp
    refine (gap_c x y _).mono ?_
    rintro e w1 ⟨rfl, hb1⟩
    refine hK'.out _ _ ⟨hS0.1.later hb1, hS0.2.trans (hb1.mono hS0.2.size)⟩ fun hS1 => ?_
    refine wpAnyH_take (i := 2) (v := (.bool true)) rfl (by kernel_rfl) (by kernel_rfl) (by kernel_rfl) (fun _ _ _ h => h) (.inl ⟨by first | kernel_rfl | rfl, ?yc2x21q2⟩) hS1 ?_
    case yc2x21q2 =>
      intro w' hS
      (have a0 := hS.1.c0; have a1 := hS.1.c1; clear hS)
      go_simp
      first | done | (simp; done) | (simp; omega) | omega | (simp [*]; done)
    refine wpAnyH_take (i := 3) (v := ?vc2x22q3) rfl (by kernel_rfl) (by kernel_rfl) (by kernel_rfl) (fun _ _ _ h => h) (.inl ⟨by first | kernel_rfl | rfl, ?yc2x22q3⟩) hS1 ?_
    case yc2x22q3 =>
      intro w' hS
      (have a0 := hS.1.c0; have a1 := hS.1.c1; clear hS)
      go_simp
      try with_reducible rfl
    refine wpAnyH_take (i := 4) (v := ?vc2x22q4) rfl (by kernel_rfl) (by kernel_rfl) (by kernel_rfl) (fun _ _ _ h => h) (.inl ⟨by first | kernel_rfl | rfl, ?yc2x22q4⟩) hS1 ?_
    case yc2x22q4 =>
      intro w' hS
      (have a0 := hS.1.c0; have a1 := hS.1.c1; clear hS)
      go_simp
      try with_reducible rfl
    try simp only [Act.put, List.getElem_toArray, List.getElem_cons_zero, List.getElem_cons_succ, List.setIfInBounds_toArray, List.set_cons_zero, List.set_cons_succ]
    refine wpAnyH_ready (rs := [5]) (by kernel_rfl) (by simp) ?_
    refine AllReadyH.cons rfl (fun K' hK' => ?_) AllReadyH.nil
    rw [if_pos (by first | kernel_rfl | rfl)]
    go_simp
    refine (gap_c x y _).mono ?_
    rintro e w2 ⟨rfl, hb2⟩
    refine hK'.out _ _ ⟨hS1.1.later hb2, hS1.2.trans (hb2.mono hS1.2.size)⟩ fun hS2 => ?_
    refine wpAnyH_take (i := 6) (v := (.bool false)) rfl (by kernel_rfl) (by kernel_rfl) (by kernel_rfl) (fun _ _ _ h => h) (.inl ⟨by first | kernel_rfl | rfl, ?yc2x31q6⟩) hS2 ?_
    case yc2x31q6 =>
      intro w' hS
      (have a0 := hS.1.c0; have a1 := hS.1.c1; clear hS)
      go_simp
      first | done | (simp; done) | (simp; omega) | omega | (simp [*]; done)
    refine wpAnyH_take (i := 7) (v := ?vc2x32q7) rfl (by kernel_rfl) (by kernel_rfl) (by kernel_rfl) (fun _ _ _ h => h) (.inl ⟨by first | kernel_rfl | rfl, ?yc2x32q7⟩) hS2 ?_
    case yc2x32q7 =>
      intro w' hS
      (have a0 := hS.1.c0; have a1 := hS.1.c1; clear hS)
      go_simp
      try with_reducible rfl
    refine wpAnyH_take (i := 8) (v := ?vc2x32q8) rfl (by kernel_rfl) (by kernel_rfl) (by kernel_rfl) (fun _ _ _ h => h) (.inl ⟨by first | kernel_rfl | rfl, ?yc2x32q8⟩) hS2 ?_
    case yc2x32q8 =>
      intro w' hS
      (have a0 := hS.1.c0; have a1 := hS.1.c1; clear hS)
      go_simp
      try with_reducible rfl
    try simp only [Act.put, List.getElem_toArray, List.getElem_cons_zero, List.getElem_cons_succ, List.setIfInBounds_toArray, List.set_cons_zero, List.set_cons_succ]
    refine wpAnyH_take (i := 9) (v := undef) rfl (by kernel_rfl) (by kernel_rfl) (by kernel_rfl) (fun _ _ _ h => h) (.inr ⟨by kernel_rfl, rfl⟩) hS2 ?_
    refine wpAnyH_take (i := 10) (v := undef) rfl (by kernel_rfl) (by kernel_rfl) (by kernel_rfl) (fun _ _ _ h => h) (.inr ⟨by kernel_rfl, rfl⟩) hS2 ?_
    refine wpAnyH_take (i := 11) (v := undef) rfl (by kernel_rfl) (by kernel_rfl) (by kernel_rfl) (fun _ _ _ h => h) (.inr ⟨by kernel_rfl, rfl⟩) hS2 ?_
    try simp only [Act.put, List.getElem_toArray, List.getElem_cons_zero, List.getElem_cons_succ, List.setIfInBounds_toArray, List.set_cons_zero, List.set_cons_succ]
    refine wpAnyH_take (i := 12) (v := ?vc2x41q12) rfl (by kernel_rfl) (by kernel_rfl) (by kernel_rfl) (fun _ _ _ h => h) (.inl ⟨by first | kernel_rfl | rfl, ?yc2x41q12⟩) hS2 ?_
    case yc2x41q12 =>
      intro w' hS
      (have a0 := hS.1.c0; have a1 := hS.1.c1; clear hS)
      go_simp
      try with_reducible rfl
    refine wpAnyH_take (i := 13) (v := ?vc2x41q13) rfl (by kernel_rfl) (by kernel_rfl) (by kernel_rfl) (fun _ _ _ h => h) (.inl ⟨by first | kernel_rfl | rfl, ?yc2x41q13⟩) hS2 ?_
    case yc2x41q13 =>
      intro w' hS
      (have a0 := hS.1.c0; have a1 := hS.1.c1; clear hS)
      go_simp
      try with_reducible rfl
    try simp only [Act.put, List.getElem_toArray, List.getElem_cons_zero, List.getElem_cons_succ, List.setIfInBounds_toArray, List.set_cons_zero, List.set_cons_succ]
    refine wpAnyH_take (i := 14) (v := undef) rfl (by kernel_rfl) (by kernel_rfl) (by kernel_rfl) (fun _ _ _ h => h) (.inr ⟨by kernel_rfl, rfl⟩) hS2 ?_
    refine wpAnyH_take (i := 15) (v := undef) rfl (by kernel_rfl) (by kernel_rfl) (by kernel_rfl) (fun _ _ _ h => h) (.inr ⟨by kernel_rfl, rfl⟩) hS2 ?_
    refine wpAnyH_take (i := 16) (v := undef) rfl (by kernel_rfl) (by kernel_rfl) (by kernel_rfl) (fun _ _ _ h => h) (.inr ⟨by kernel_rfl, rfl⟩) hS2 ?_
    refine wpAnyH_take (i := 17) (v := undef) rfl (by kernel_rfl) (by kernel_rfl) (by kernel_rfl) (fun _ _ _ h => h) (.inr ⟨by kernel_rfl, rfl⟩) hS2 ?_
    refine wpAnyH_take (i := 18) (v := undef) rfl (by kernel_rfl) (by kernel_rfl) (by kernel_rfl) (fun _ _ _ h => h) (.inr ⟨by kernel_rfl, rfl⟩) hS2 ?_
    try simp only [Act.put, List.getElem_toArray, List.getElem_cons_zero, List.getElem_cons_succ, List.setIfInBounds_toArray, List.set_cons_zero, List.set_cons_succ]
    refine wpAnyH_take (i := 19) (v := ?vc2x51q19) rfl (by kernel_rfl) (by kernel_rfl) (by kernel_rfl) (fun _ _ _ h => h) (.inl ⟨by first | kernel_rfl | rfl, ?yc2x51q19⟩) hS2 ?_
    case yc2x51q19 =>
      intro w' hS
      (have a0 := hS.1.c0; have a1 := hS.1.c1; clear hS)
      go_simp
      try with_reducible rfl
    refine wpAnyH_take (i := 20) (v := ?vc2x51q20) rfl (by kernel_rfl) (by kernel_rfl) (by kernel_rfl) (fun _ _ _ h => h) (.inl ⟨by first | kernel_rfl | rfl, ?yc2x51q20⟩) hS2 ?_
    case yc2x51q20 =>
      intro w' hS
      (have a0 := hS.1.c0; have a1 := hS.1.c1; clear hS)
      go_simp
      try with_reducible rfl
    try simp only [Act.put, List.getElem_toArray, List.getElem_cons_zero, List.getElem_cons_succ, List.setIfInBounds_toArray, List.set_cons_zero, List.set_cons_succ]
    refine wpAnyH_done (by kernel_rfl) ?_ _
    go_wp2
    go_ret
    exact ⟨ret_bool (by rw [Hf.out]; first | done | (simp; done) | (simp; omega)), hS2.2⟩
  by_cases h3 : 0 ≤ x
  case neg =>
    have Hf := Lib.hid (show clOk (x, y) = false from clOk_rest (inB_true.2 (by omega)) (inB_false.2 (by omega)))
    go_enter Try.func146, Try.ntmps146
    go_wp2_with fail
    refine wp_region_held_drew (S := fun w' => Box2 w' w.heap.size 106 (.int .i64 x) (.int .i64 y) ∧ Below w.heap.size w w') hfw hS ?_
    intro hS0
    refine wpAnyH_take (i := 0) (v := ?vc3x11q0) rfl (by kernel_rfl) (by kernel_rfl) (by kernel_rfl) (fun _ _ _ h => h) (.inl ⟨by first | kernel_rfl | rfl, ?yc3x11q0⟩) hS0 ?_
    case yc3x11q0 =>
      intro w' hS
      (have a0 := hS.1.c0; have a1 := hS.1.c1; clear hS)
      go_simp
      try with_reducible rfl
    refine wpAnyH_ready (rs := [1]) (by kernel_rfl) (by simp) ?_
    refine AllReadyH.cons rfl (fun K' hK' => ?_) AllReadyH.nil
    rw [if_pos (by first | kernel_rfl | rfl)]
    go_simp
    refine (gap_c x y _).mono ?_
    rintro e w1 ⟨rfl, hb1⟩
    refine hK'.out _ _ ⟨hS0.1.later hb1, hS0.2.trans (hb1.mono hS0.2.size)⟩ fun hS1 => ?_
    refine wpAnyH_take (i := 2) (v := (.bool true)) rfl (by kernel_rfl) (by kernel_rfl) (by kernel_rfl) (fun _ _ _ h => h) (.inl ⟨by first | kernel_rfl | rfl, ?yc3x21q2⟩) hS1 ?_
    case yc3x21q2 =>
      intro w' hS
      (have a0 := hS.1.c0; have a1 := hS.1.c1; clear hS)
      go_simp
      first | done | (simp; done) | (simp; omega) | omega | (simp [*]; done)
    refine wpAnyH_take (i := 3) (v := ?vc3x22q3) rfl (by kernel_rfl) (by kernel_rfl) (by kernel_rfl) (fun _ _ _ h => h) (.inl ⟨by first | kernel_rfl | rfl, ?yc3x22q3⟩) hS1 ?_
    case yc3x22q3 =>
      intro w' hS
      (have a0 := hS.1.c0; have a1 := hS.1.c1; clear hS)
      go_simp
      try with_reducible rfl
    refine wpAnyH_take (i := 4) (v := ?vc3x22q4) rfl (by kernel_rfl) (by kernel_rfl) (by kernel_rfl) (fun _ _ _ h => h) (.inl ⟨by first | kernel_rfl | rfl, ?yc3x22q4⟩) hS1 ?_
    case yc3x22q4 =>
      intro w' hS
      (have a0 := hS.1.c0; have a1 := hS.1.c1; clear hS)
      go_simp
      try with_reducible rfl
    try simp only [Act.put, List.getElem_toArray, List.getElem_cons_zero, List.getElem_cons_succ, List.setIfInBounds_toArray, List.set_cons_zero, List.set_cons_succ]
    refine wpAnyH_ready (rs := [5]) (by kernel_rfl) (by simp) ?_
    refine AllReadyH.cons rfl (fun K' hK' => ?_) AllReadyH.nil
    rw [if_pos (by first | kernel_rfl | rfl)]
    go_simp
    refine (gap_c x y _).mono ?_
    rintro e w2 ⟨rfl, hb2⟩
    refine hK'.out _ _ ⟨hS1.1.later hb2, hS1.2.trans (hb2.mono hS1.2.size)⟩ fun hS2 => ?_
    refine wpAnyH_take (i := 6) (v := (.bool true)) rfl (by kernel_rfl) (by kernel_rfl) (by kernel_rfl) (fun _ _ _ h => h) (.inl ⟨by first | kernel_rfl | rfl, ?yc3x31q6⟩) hS2 ?_
    case yc3x31q6 =>
      intro w' hS
      (have a0 := hS.1.c0; have a1 := hS.1.c1; clear hS)
      go_simp
      first | done | (simp; done) | (simp; omega) | omega | (simp [*]; done)
    refine wpAnyH_take (i := 7) (v := ?vc3x32q7) rfl (by kernel_rfl) (by kernel_rfl) (by kernel_rfl) (fun _ _ _ h => h) (.inl ⟨by first | kernel_rfl | rfl, ?yc3x32q7⟩) hS2 ?_
    case yc3x32q7 =>
      intro w' hS
      (have a0 := hS.1.c0; have a1 := hS.1.c1; clear hS)
      go_simp
      try with_reducible rfl
    refine wpAnyH_take (i := 8) (v := ?vc3x32q8) rfl (by kernel_rfl) (by kernel_rfl) (by kernel_rfl) (fun _ _ _ h => h) (.inl ⟨by first | kernel_rfl | rfl, ?yc3x32q8⟩) hS2 ?_
    case yc3x32q8 =>
      intro w' hS
      (have a0 := hS.1.c0; have a1 := hS.1.c1; clear hS)
      go_simp
      try with_reducible rfl
    refine wpAnyH_take (i := 9) (v := ?vc3x32q9) rfl (by kernel_rfl) (by kernel_rfl) (by kernel_rfl) (fun _ _ _ h => h) (.inl ⟨by first | kernel_rfl | rfl, ?yc3x32q9⟩) hS2 ?_
    case yc3x32q9 =>
      intro w' hS
      (have a0 := hS.1.c0; have a1 := hS.1.c1; clear hS)
      go_simp
      try with_reducible rfl
    try simp only [Act.put, List.getElem_toArray, List.getElem_cons_zero, List.getElem_cons_succ, List.setIfInBounds_toArray, List.set_cons_zero, List.set_cons_succ]
    refine wpAnyH_ready (rs := [10]) (by kernel_rfl) (by simp) ?_
    refine AllReadyH.cons rfl (fun K' hK' => ?_) AllReadyH.nil
    rw [if_pos (by first | kernel_rfl | rfl)]
    go_simp
    refine (rest_c x y _).mono ?_
    rintro e w3 ⟨rfl, hb3⟩
    refine hK'.out _ _ ⟨hS2.1.later hb3, hS2.2.trans (hb3.mono hS2.2.size)⟩ fun hS3 => ?_
    refine wpAnyH_take (i := 11) (v := (.bool false)) rfl (by kernel_rfl) (by kernel_rfl) (by kernel_rfl) (fun _ _ _ h => h) (.inl ⟨by first | kernel_rfl | rfl, ?yc3x41q11⟩) hS3 ?_
    case yc3x41q11 =>
      intro w' hS
      (have a0 := hS.1.c0; have a1 := hS.1.c1; clear hS)
      go_simp
      first | done | (simp; done) | (simp; omega) | omega | (simp [*]; done)
    refine wpAnyH_take (i := 12) (v := ?vc3x42q12) rfl (by kernel_rfl) (by kernel_rfl) (by kernel_rfl) (fun _ _ _ h => h) (.inl ⟨by first | kernel_rfl | rfl, ?yc3x42q12⟩) hS3 ?_
    case yc3x42q12 =>
      intro w' hS
      (have a0 := hS.1.c0; have a1 := hS.1.c1; clear hS)
      go_simp
      try with_reducible rfl
    refine wpAnyH_take (i := 13) (v := ?vc3x42q13) rfl (by kernel_rfl) (by kernel_rfl) (by kernel_rfl) (fun _ _ _ h => h) (.inl ⟨by first | kernel_rfl | rfl, ?yc3x42q13⟩) hS3 ?_
    case yc3x42q13 =>
      intro w' hS
      (have a0 := hS.1.c0; have a1 := hS.1.c1; clear hS)
      go_simp
      try with_reducible rfl
    try simp only [Act.put, List.getElem_toArray, List.getElem_cons_zero, List.getElem_cons_succ, List.setIfInBounds_toArray, List.set_cons_zero, List.set_cons_succ]
    refine wpAnyH_take (i := 14) (v := undef) rfl (by kernel_rfl) (by kernel_rfl) (by kernel_rfl) (fun _ _ _ h => h) (.inr ⟨by kernel_rfl, rfl⟩) hS3 ?_
    refine wpAnyH_take (i := 15) (v := undef) rfl (by kernel_rfl) (by kernel_rfl) (by kernel_rfl) (fun _ _ _ h => h) (.inr ⟨by kernel_rfl, rfl⟩) hS3 ?_
    refine wpAnyH_take (i := 16) (v := undef) rfl (by kernel_rfl) (by kernel_rfl) (by kernel_rfl) (fun _ _ _ h => h) (.inr ⟨by kernel_rfl, rfl⟩) hS3 ?_
    refine wpAnyH_take (i := 17) (v := undef) rfl (by kernel_rfl) (by kernel_rfl) (by kernel_rfl) (fun _ _ _ h => h) (.inr ⟨by kernel_rfl, rfl⟩) hS3 ?_
    refine wpAnyH_take (i := 18) (v := undef) rfl (by kernel_rfl) (by kernel_rfl) (by kernel_rfl) (fun _ _ _ h => h) (.inr ⟨by kernel_rfl, rfl⟩) hS3 ?_
    try simp only [Act.put, List.getElem_toArray, List.getElem_cons_zero, List.getElem_cons_succ, List.setIfInBounds_toArray, List.set_cons_zero, List.set_cons_succ]
    refine wpAnyH_take (i := 19) (v := ?vc3x51q19) rfl (by kernel_rfl) (by kernel_rfl) (by kernel_rfl) (fun _ _ _ h => h) (.inl ⟨by first | kernel_rfl | rfl, ?yc3x51q19⟩) hS3 ?_
    case yc3x51q19 =>
      intro w' hS
      (have a0 := hS.1.c0; have a1 := hS.1.c1; clear hS)
      go_simp
      try with_reducible rfl
    refine wpAnyH_take (i := 20) (v := ?vc3x51q20) rfl (by kernel_rfl) (by kernel_rfl) (by kernel_rfl) (fun _ _ _ h => h) (.inl ⟨by first | kernel_rfl | rfl, ?yc3x51q20⟩) hS3 ?_
    case yc3x51q20 =>
      intro w' hS
      (have a0 := hS.1.c0; have a1 := hS.1.c1; clear hS)
      go_simp
      try with_reducible rfl
    try simp only [Act.put, List.getElem_toArray, List.getElem_cons_zero, List.getElem_cons_succ, List.setIfInBounds_toArray, List.set_cons_zero, List.set_cons_succ]
    refine wpAnyH_done (by kernel_rfl) ?_ _
    go_wp2
    go_ret
    exact ⟨ret_bool (by rw [Hf.out]; first | done | (simp; done) | (simp; omega)), hS3.2⟩
  by_cases h4 : x < y
  case pos =>
    have Hf := Lib.hid (show clOk (x, y) = true from clOk_yes (inB_true.2 (by omega)) (inB_true.2 (by omega)))
    go_enter Try.func146, Try.ntmps146
    go_wp2_with fail
    refine wp_region_held_drew (S := fun w' => Box2 w' w.heap.size 106 (.int .i64 x) (.int .i64 y) ∧ Below w.heap.size w w') hfw hS ?_
    intro hS0
    refine wpAnyH_take (i := 0) (v := ?vc4x11q0) rfl (by kernel_rfl) (by kernel_rfl) (by kernel_rfl) (fun _ _ _ h => h) (.inl ⟨by first | kernel_rfl | rfl, ?yc4x11q0⟩) hS0 ?_
    case yc4x11q0 =>
      intro w' hS
      (have a0 := hS.1.c0; have a1 := hS.1.c1; clear hS)
      go_simp
      try with_reducible rfl
    refine wpAnyH_ready (rs := [1]) (by kernel_rfl) (by simp) ?_
    refine AllReadyH.cons rfl (fun K' hK' => ?_) AllReadyH.nil
    rw [if_pos (by first | kernel_rfl | rfl)]
    go_simp
    refine (gap_c x y _).mono ?_
    rintro e w1 ⟨rfl, hb1⟩
    refine hK'.out _ _ ⟨hS0.1.later hb1, hS0.2.trans (hb1.mono hS0.2.size)⟩ fun hS1 => ?_
    refine wpAnyH_take (i := 2) (v := (.bool true)) rfl (by kernel_rfl) (by kernel_rfl) (by kernel_rfl) (fun _ _ _ h => h) (.inl ⟨by first | kernel_rfl | rfl, ?yc4x21q2⟩) hS1 ?_
    case yc4x21q2 =>
      intro w' hS
      (have a0 := hS.1.c0; have a1 := hS.1.c1; clear hS)
      go_simp
      first | done | (simp; done) | (simp; omega) | omega | (simp [*]; done)
    refine wpAnyH_take (i := 3) (v := ?vc4x22q3) rfl (by kernel_rfl) (by kernel_rfl) (by kernel_rfl) (fun _ _ _ h => h) (.inl ⟨by first | kernel_rfl | rfl, ?yc4x22q3⟩) hS1 ?_
    case yc4x22q3 =>
      intro w' hS
      (have a0 := hS.1.c0; have a1 := hS.1.c1; clear hS)
      go_simp
      try with_reducible rfl
    refine wpAnyH_take (i := 4) (v := ?vc4x22q4) rfl (by kernel_rfl) (by kernel_rfl) (by kernel_rfl) (fun _ _ _ h => h) (.inl ⟨by first | kernel_rfl | rfl, ?yc4x22q4⟩) hS1 ?_
    case yc4x22q4 =>
      intro w' hS
      (have a0 := hS.1.c0; have a1 := hS.1.c1; clear hS)
      go_simp
      try with_reducible rfl
    try simp only [Act.put, List.getElem_toArray, List.getElem_cons_zero, List.getElem_cons_succ, List.setIfInBounds_toArray, List.set_cons_zero, List.set_cons_succ]
    refine wpAnyH_ready (rs := [5]) (by kernel_rfl) (by simp) ?_
    refine AllReadyH.cons rfl (fun K' hK' => ?_) AllReadyH.nil
    rw [if_pos (by first | kernel_rfl | rfl)]
    go_simp
    refine (gap_c x y _).mono ?_
    rintro e w2 ⟨rfl, hb2⟩
    refine hK'.out _ _ ⟨hS1.1.later hb2, hS1.2.trans (hb2.mono hS1.2.size)⟩ fun hS2 => ?_
    refine wpAnyH_take (i := 6) (v := (.bool true)) rfl (by kernel_rfl) (by kernel_rfl) (by kernel_rfl) (fun _ _ _ h => h) (.inl ⟨by first | kernel_rfl | rfl, ?yc4x31q6⟩) hS2 ?_
    case yc4x31q6 =>
      intro w' hS
      (have a0 := hS.1.c0; have a1 := hS.1.c1; clear hS)
      go_simp
      first | done | (simp; done) | (simp; omega) | omega | (simp [*]; done)
    refine wpAnyH_take (i := 7) (v := ?vc4x32q7) rfl (by kernel_rfl) (by kernel_rfl) (by kernel_rfl) (fun _ _ _ h => h) (.inl ⟨by first | kernel_rfl | rfl, ?yc4x32q7⟩) hS2 ?_
    case yc4x32q7 =>
      intro w' hS
      (have a0 := hS.1.c0; have a1 := hS.1.c1; clear hS)
      go_simp
      try with_reducible rfl
    refine wpAnyH_take (i := 8) (v := ?vc4x32q8) rfl (by kernel_rfl) (by kernel_rfl) (by kernel_rfl) (fun _ _ _ h => h) (.inl ⟨by first | kernel_rfl | rfl, ?yc4x32q8⟩) hS2 ?_
    case yc4x32q8 =>
      intro w' hS
      (have a0 := hS.1.c0; have a1 := hS.1.c1; clear hS)
      go_simp
      try with_reducible rfl
    refine wpAnyH_take (i := 9) (v := ?vc4x32q9) rfl (by kernel_rfl) (by kernel_rfl) (by kernel_rfl) (fun _ _ _ h => h) (.inl ⟨by first | kernel_rfl | rfl, ?yc4x32q9⟩) hS2 ?_
    case yc4x32q9 =>
      intro w' hS
      (have a0 := hS.1.c0; have a1 := hS.1.c1; clear hS)
      go_simp
      try with_reducible rfl
    try simp only [Act.put, List.getElem_toArray, List.getElem_cons_zero, List.getElem_cons_succ, List.setIfInBounds_toArray, List.set_cons_zero, List.set_cons_succ]
    refine wpAnyH_ready (rs := [10]) (by kernel_rfl) (by simp) ?_
    refine AllReadyH.cons rfl (fun K' hK' => ?_) AllReadyH.nil
    rw [if_pos (by first | kernel_rfl | rfl)]
    go_simp
    refine (rest_c x y _).mono ?_
    rintro e w3 ⟨rfl, hb3⟩
    refine hK'.out _ _ ⟨hS2.1.later hb3, hS2.2.trans (hb3.mono hS2.2.size)⟩ fun hS3 => ?_
    refine wpAnyH_take (i := 11) (v := (.bool true)) rfl (by kernel_rfl) (by kernel_rfl) (by kernel_rfl) (fun _ _ _ h => h) (.inl ⟨by first | kernel_rfl | rfl, ?yc4x41q11⟩) hS3 ?_
    case yc4x41q11 =>
      intro w' hS
      (have a0 := hS.1.c0; have a1 := hS.1.c1; clear hS)
      go_simp
      first | done | (simp; done) | (simp; omega) | omega | (simp [*]; done)
    refine wpAnyH_take (i := 12) (v := ?vc4x42q12) rfl (by kernel_rfl) (by kernel_rfl) (by kernel_rfl) (fun _ _ _ h => h) (.inl ⟨by first | kernel_rfl | rfl, ?yc4x42q12⟩) hS3 ?_
    case yc4x42q12 =>
      intro w' hS
      (have a0 := hS.1.c0; have a1 := hS.1.c1; clear hS)
      go_simp
      try with_reducible rfl
    refine wpAnyH_take (i := 13) (v := ?vc4x42q13) rfl (by kernel_rfl) (by kernel_rfl) (by kernel_rfl) (fun _ _ _ h => h) (.inl ⟨by first | kernel_rfl | rfl, ?yc4x42q13⟩) hS3 ?_
    case yc4x42q13 =>
      intro w' hS
      (have a0 := hS.1.c0; have a1 := hS.1.c1; clear hS)
      go_simp
      try with_reducible rfl
    refine wpAnyH_take (i := 14) (v := ?vc4x42q14) rfl (by kernel_rfl) (by kernel_rfl) (by kernel_rfl) (fun _ _ _ h => h) (.inl ⟨by first | kernel_rfl | rfl, ?yc4x42q14⟩) hS3 ?_
    case yc4x42q14 =>
      intro w' hS
      (have a0 := hS.1.c0; have a1 := hS.1.c1; clear hS)
      go_simp
      try with_reducible rfl
    refine wpAnyH_take (i := 16) (v := ?vc4x42q16) rfl (by kernel_rfl) (by kernel_rfl) (by kernel_rfl) (fun _ _ _ h => h) (.inl ⟨by first | kernel_rfl | rfl, ?yc4x42q16⟩) hS3 ?_
    case yc4x42q16 =>
      intro w' hS
      (have a0 := hS.1.c0; have a1 := hS.1.c1; clear hS)
      go_simp
      try with_reducible rfl
    try simp only [Act.put, List.getElem_toArray, List.getElem_cons_zero, List.getElem_cons_succ, List.setIfInBounds_toArray, List.set_cons_zero, List.set_cons_succ]
    refine wpAnyH_ready (rs := [15]) (by kernel_rfl) (by simp) ?_
    refine AllReadyH.cons rfl (fun K' hK' => ?_) AllReadyH.nil
    rw [if_pos (by first | kernel_rfl | rfl)]
    go_simp
    refine (rest_c x y _).mono ?_
    rintro e w4 ⟨rfl, hb4⟩
    refine hK'.out _ _ ⟨hS3.1.later hb4, hS3.2.trans (hb4.mono hS3.2.size)⟩ fun hS4 => ?_
    refine wpAnyH_ready (rs := [17]) (by kernel_rfl) (by simp) ?_
    refine AllReadyH.cons rfl (fun K' hK' => ?_) AllReadyH.nil
    rw [if_pos (by first | kernel_rfl | rfl)]
    go_simp
    refine (gap_c x y _).mono ?_
    rintro e w5 ⟨rfl, hb5⟩
    refine hK'.out _ _ ⟨hS4.1.later hb5, hS4.2.trans (hb5.mono hS4.2.size)⟩ fun hS5 => ?_
    refine wpAnyH_take (i := 18) (v := (.bool true)) rfl (by kernel_rfl) (by kernel_rfl) (by kernel_rfl) (fun _ _ _ h => h) (.inl ⟨by first | kernel_rfl | rfl, ?yc4x51q18⟩) hS5 ?_
    case yc4x51q18 =>
      intro w' hS
      (have a0 := hS.1.c0; have a1 := hS.1.c1; clear hS)
      go_simp
      first | done | (simp; done) | (simp; omega) | omega | (simp [*]; done)
    refine wpAnyH_take (i := 19) (v := ?vc4x52q19) rfl (by kernel_rfl) (by kernel_rfl) (by kernel_rfl) (fun _ _ _ h => h) (.inl ⟨by first | kernel_rfl | rfl, ?yc4x52q19⟩) hS5 ?_
    case yc4x52q19 =>
      intro w' hS
      (have a0 := hS.1.c0; have a1 := hS.1.c1; clear hS)
      go_simp
      try with_reducible rfl
    refine wpAnyH_take (i := 20) (v := ?vc4x52q20) rfl (by kernel_rfl) (by kernel_rfl) (by kernel_rfl) (fun _ _ _ h => h) (.inl ⟨by first | kernel_rfl | rfl, ?yc4x52q20⟩) hS5 ?_
    case yc4x52q20 =>
      intro w' hS
      (have a0 := hS.1.c0; have a1 := hS.1.c1; clear hS)
      go_simp
      try with_reducible rfl
    try simp only [Act.put, List.getElem_toArray, List.getElem_cons_zero, List.getElem_cons_succ, List.setIfInBounds_toArray, List.set_cons_zero, List.set_cons_succ]
    refine wpAnyH_done (by kernel_rfl) ?_ _
    go_wp2
    go_ret
    exact ⟨ret_bool (by rw [Hf.out]; first | done | (simp; done) | (simp; omega)), hS5.2⟩
  case neg =>
    have Hf := Lib.hid (show clOk (x, y) = false from clOk_rest (inB_true.2 (by omega)) (inB_false.2 (by omega)))
    go_enter Try.func146, Try.ntmps146
    go_wp2_with fail
    refine wp_region_held_drew (S := fun w' => Box2 w' w.heap.size 106 (.int .i64 x) (.int .i64 y) ∧ Below w.heap.size w w') hfw hS ?_
    intro hS0
    refine wpAnyH_take (i := 0) (v := ?vc5x11q0) rfl (by kernel_rfl) (by kernel_rfl) (by kernel_rfl) (fun _ _ _ h => h) (.inl ⟨by first | kernel_rfl | rfl, ?yc5x11q0⟩) hS0 ?_
    case yc5x11q0 =>
      intro w' hS
      (have a0 := hS.1.c0; have a1 := hS.1.c1; clear hS)
      go_simp
      try with_reducible rfl
    refine wpAnyH_ready (rs := [1]) (by kernel_rfl) (by simp) ?_
    refine AllReadyH.cons rfl (fun K' hK' => ?_) AllReadyH.nil
    rw [if_pos (by first | kernel_rfl | rfl)]
    go_simp
    refine (gap_c x y _).mono ?_
    rintro e w1 ⟨rfl, hb1⟩
    refine hK'.out _ _ ⟨hS0.1.later hb1, hS0.2.trans (hb1.mono hS0.2.size)⟩ fun hS1 => ?_
    refine wpAnyH_take (i := 2) (v := (.bool true)) rfl (by kernel_rfl) (by kernel_rfl) (by kernel_rfl) (fun _ _ _ h => h) (.inl ⟨by first | kernel_rfl | rfl, ?yc5x21q2⟩) hS1 ?_
    case yc5x21q2 =>
      intro w' hS
      (have a0 := hS.1.c0; have a1 := hS.1.c1; clear hS)
      go_simp
      first | done | (simp; done) | (simp; omega) | omega | (simp [*]; done)
    refine wpAnyH_take (i := 3) (v := ?vc5x22q3) rfl (by kernel_rfl) (by kernel_rfl) (by kernel_rfl) (fun _ _ _ h => h) (.inl ⟨by first | kernel_rfl | rfl, ?yc5x22q3⟩) hS1 ?_
    case yc5x22q3 =>
      intro w' hS
      (have a0 := hS.1.c0; have a1 := hS.1.c1; clear hS)
      go_simp
      try with_reducible rfl
    refine wpAnyH_take (i := 4) (v := ?vc5x22q4) rfl (by kernel_rfl) (by kernel_rfl) (by kernel_rfl) (fun _ _ _ h => h) (.inl ⟨by first | kernel_rfl | rfl, ?yc5x22q4⟩) hS1 ?_
    case yc5x22q4 =>
      intro w' hS
      (have a0 := hS.1.c0; have a1 := hS.1.c1; clear hS)
      go_simp
      try with_reducible rfl
    try simp only [Act.put, List.getElem_toArray, List.getElem_cons_zero, List.getElem_cons_succ, List.setIfInBounds_toArray, List.set_cons_zero, List.set_cons_succ]
    refine wpAnyH_ready (rs := [5]) (by kernel_rfl) (by simp) ?_
    refine AllReadyH.cons rfl (fun K' hK' => ?_) AllReadyH.nil
    rw [if_pos (by first | kernel_rfl | rfl)]
    go_simp
    refine (gap_c x y _).mono ?_
    rintro e w2 ⟨rfl, hb2⟩
    refine hK'.out _ _ ⟨hS1.1.later hb2, hS1.2.trans (hb2.mono hS1.2.size)⟩ fun hS2 => ?_
    refine wpAnyH_take (i := 6) (v := (.bool true)) rfl (by kernel_rfl) (by kernel_rfl) (by kernel_rfl) (fun _ _ _ h => h) (.inl ⟨by first | kernel_rfl | rfl, ?yc5x31q6⟩) hS2 ?_
    case yc5x31q6 =>
      intro w' hS
      (have a0 := hS.1.c0; have a1 := hS.1.c1; clear hS)
      go_simp
      first | done | (simp; done) | (simp; omega) | omega | (simp [*]; done)
    refine wpAnyH_take (i := 7) (v := ?vc5x32q7) rfl (by kernel_rfl) (by kernel_rfl) (by kernel_rfl) (fun _ _ _ h => h) (.inl ⟨by first | kernel_rfl | rfl, ?yc5x32q7⟩) hS2 ?_
    case yc5x32q7 =>
      intro w' hS
      (have a0 := hS.1.c0; have a1 := hS.1.c1; clear hS)
      go_simp
      try with_reducible rfl
    refine wpAnyH_take (i := 8) (v := ?vc5x32q8) rfl (by kernel_rfl) (by kernel_rfl) (by kernel_rfl) (fun _ _ _ h => h) (.inl ⟨by first | kernel_rfl | rfl, ?yc5x32q8⟩) hS2 ?_
    case yc5x32q8 =>
      intro w' hS
      (have a0 := hS.1.c0; have a1 := hS.1.c1; clear hS)
      go_simp
      try with_reducible rfl
    refine wpAnyH_take (i := 9) (v := ?vc5x32q9) rfl (by kernel_rfl) (by kernel_rfl) (by kernel_rfl) (fun _ _ _ h => h) (.inl ⟨by first | kernel_rfl | rfl, ?yc5x32q9⟩) hS2 ?_
    case yc5x32q9 =>
      intro w' hS
      (have a0 := hS.1.c0; have a1 := hS.1.c1; clear hS)
      go_simp
      try with_reducible rfl
    try simp only [Act.put, List.getElem_toArray, List.getElem_cons_zero, List.getElem_cons_succ, List.setIfInBounds_toArray, List.set_cons_zero, List.set_cons_succ]
    refine wpAnyH_ready (rs := [10]) (by kernel_rfl) (by simp) ?_
    refine AllReadyH.cons rfl (fun K' hK' => ?_) AllReadyH.nil
    rw [if_pos (by first | kernel_rfl | rfl)]
    go_simp
    refine (rest_c x y _).mono ?_
    rintro e w3 ⟨rfl, hb3⟩
    refine hK'.out _ _ ⟨hS2.1.later hb3, hS2.2.trans (hb3.mono hS2.2.size)⟩ fun hS3 => ?_
    refine wpAnyH_take (i := 11) (v := (.bool true)) rfl (by kernel_rfl) (by kernel_rfl) (by kernel_rfl) (fun _ _ _ h => h) (.inl ⟨by first | kernel_rfl | rfl, ?yc5x41q11⟩) hS3 ?_
    case yc5x41q11 =>
      intro w' hS
      (have a0 := hS.1.c0; have a1 := hS.1.c1; clear hS)
      go_simp
      first | done | (simp; done) | (simp; omega) | omega | (simp [*]; done)
    refine wpAnyH_take (i := 12) (v := ?vc5x42q12) rfl (by kernel_rfl) (by kernel_rfl) (by kernel_rfl) (fun _ _ _ h => h) (.inl ⟨by first | kernel_rfl | rfl, ?yc5x42q12⟩) hS3 ?_
    case yc5x42q12 =>
      intro w' hS
      (have a0 := hS.1.c0; have a1 := hS.1.c1; clear hS)
      go_simp
      try with_reducible rfl
    refine wpAnyH_take (i := 13) (v := ?vc5x42q13) rfl (by kernel_rfl) (by kernel_rfl) (by kernel_rfl) (fun _ _ _ h => h) (.inl ⟨by first | kernel_rfl | rfl, ?yc5x42q13⟩) hS3 ?_
    case yc5x42q13 =>
      intro w' hS
      (have a0 := hS.1.c0; have a1 := hS.1.c1; clear hS)
      go_simp
      try with_reducible rfl
    refine wpAnyH_take (i := 14) (v := ?vc5x42q14) rfl (by kernel_rfl) (by kernel_rfl) (by kernel_rfl) (fun _ _ _ h => h) (.inl ⟨by first | kernel_rfl | rfl, ?yc5x42q14⟩) hS3 ?_
    case yc5x42q14 =>
      intro w' hS
      (have a0 := hS.1.c0; have a1 := hS.1.c1; clear hS)
      go_simp
      try with_reducible rfl
    refine wpAnyH_take (i := 16) (v := ?vc5x42q16) rfl (by kernel_rfl) (by kernel_rfl) (by kernel_rfl) (fun _ _ _ h => h) (.inl ⟨by first | kernel_rfl | rfl, ?yc5x42q16⟩) hS3 ?_
    case yc5x42q16 =>
      intro w' hS
      (have a0 := hS.1.c0; have a1 := hS.1.c1; clear hS)
      go_simp
      try with_reducible rfl
    try simp only [Act.put, List.getElem_toArray, List.getElem_cons_zero, List.getElem_cons_succ, List.setIfInBounds_toArray, List.set_cons_zero, List.set_cons_succ]
    refine wpAnyH_ready (rs := [15]) (by kernel_rfl) (by simp) ?_
    refine AllReadyH.cons rfl (fun K' hK' => ?_) AllReadyH.nil
    rw [if_pos (by first | kernel_rfl | rfl)]
    go_simp
    refine (rest_c x y _).mono ?_
    rintro e w4 ⟨rfl, hb4⟩
    refine hK'.out _ _ ⟨hS3.1.later hb4, hS3.2.trans (hb4.mono hS3.2.size)⟩ fun hS4 => ?_
    refine wpAnyH_ready (rs := [17]) (by kernel_rfl) (by simp) ?_
    refine AllReadyH.cons rfl (fun K' hK' => ?_) AllReadyH.nil
    rw [if_pos (by first | kernel_rfl | rfl)]
    go_simp
    refine (gap_c x y _).mono ?_
    rintro e w5 ⟨rfl, hb5⟩
    refine hK'.out _ _ ⟨hS4.1.later hb5, hS4.2.trans (hb5.mono hS4.2.size)⟩ fun hS5 => ?_
    refine wpAnyH_take (i := 18) (v := (.bool false)) rfl (by kernel_rfl) (by kernel_rfl) (by kernel_rfl) (fun _ _ _ h => h) (.inl ⟨by first | kernel_rfl | rfl, ?yc5x51q18⟩) hS5 ?_
    case yc5x51q18 =>
      intro w' hS
      (have a0 := hS.1.c0; have a1 := hS.1.c1; clear hS)
      go_simp
      first | done | (simp; done) | (simp; omega) | omega | (simp [*]; done)
    refine wpAnyH_take (i := 19) (v := ?vc5x52q19) rfl (by kernel_rfl) (by kernel_rfl) (by kernel_rfl) (fun _ _ _ h => h) (.inl ⟨by first | kernel_rfl | rfl, ?yc5x52q19⟩) hS5 ?_
    case yc5x52q19 =>
      intro w' hS
      (have a0 := hS.1.c0; have a1 := hS.1.c1; clear hS)
      go_simp
      try with_reducible rfl
    refine wpAnyH_take (i := 20) (v := ?vc5x52q20) rfl (by kernel_rfl) (by kernel_rfl) (by kernel_rfl) (fun _ _ _ h => h) (.inl ⟨by first | kernel_rfl | rfl, ?yc5x52q20⟩) hS5 ?_
    case yc5x52q20 =>
      intro w' hS
      (have a0 := hS.1.c0; have a1 := hS.1.c1; clear hS)
      go_simp
      try with_reducible rfl
    try simp only [Act.put, List.getElem_toArray, List.getElem_cons_zero, List.getElem_cons_succ, List.setIfInBounds_toArray, List.set_cons_zero, List.set_cons_succ]
    refine wpAnyH_done (by kernel_rfl) ?_ _
    go_wp2
    go_ret
    exact ⟨ret_bool (by rw [Hf.out]; first | done | (simp; done) | (simp; omega)), hS5.2⟩

end Go.Proofs.Ytbhpflhopajbfaa
