/-
  Jobs of the model: what jobs are, whole periods, the code of jobs; demands, rooms.
  Conditions: lists of at most 1048576 elements.
-/
import Derived.Test.YtbhpflhopajbfaaJobM
namespace Go.Proofs.Ytbhpflhopajbfaa
open Go.RowKit Go.Shelf
attribute [local go_sem] Oper.semAt_some

/-- the cells of a slice, from its fact -/
theorem Ints.cellOf {n₀ : Nat} {W : World} {a : Option Addr} {len cap : Nat} {zs : List Int} (h : Ints n₀ W (.slice a len cap) zs) {k : Nat} (hk : k < zs.length) :
    ∃ b off, a = some ⟨b, off, none⟩ ∧ W.cell? ⟨b, off + k, none⟩ = some (.int .i64 (nth zs k)) := by
  obtain ⟨b, off, h1, _, h3⟩ := h.at_ hk
  exact ⟨b, off, h1, h3 k hk⟩

set_option maxRecDepth 100000 in
set_option maxHeartbeats 4000000 in
theorem l04Is_c (cl cp cd : Value) (ls ps ds : List Int) (w : World) (hI : Jobs3 w.heap.size w cl cp cd ls ps ds) (hm : JLen ls ps ds) :
    Calls Try.prog 133 #[.agg #[cl, cp, cd]] w fun e w' => e = .returned (.bool (jobsOk ls ps ds)) ∧ Below w.heap.size w w' := by
  obtain ⟨al, capl, rfl⟩ := hI.l.shape
  obtain ⟨ap, capp, rfl⟩ := hI.p.shape
  obtain ⟨ad, capd, rfl⟩ := hI.d.shape
  have m1 := hm.l
  have m2 := hm.p
  have m3 := hm.d
  have hB0 : Below w.heap.size w (w.alloc (.cells #[.slice al ls.length capl, .slice ap ps.length capp, .slice ad ds.length capd] 37)) := (Below.refl _ w).alloc (Nat.le_refl _) _
  by_cases h1 : ls.length < 1
  · have Hf := Lib.hid (jobsOk_no (ls := ls) (ps := ps) (ds := ds) (.inl h1))
    go_enter Try.func133, Try.ntmps133
    go_wp2
    go_ret
    exact ⟨ret_bool Hf.out.symm, hB0⟩
  by_cases h8 : 8 < ls.length
  · have Hf := Lib.hid (jobsOk_no (ls := ls) (ps := ps) (ds := ds) (.inr (.inl h8)))
    go_enter Try.func133, Try.ntmps133
    go_wp2
    go_ret
    exact ⟨ret_bool Hf.out.symm, hB0⟩
  by_cases hp : ps.length = ls.length
  case neg =>
    have Hf := Lib.hid (jobsOk_no (ls := ls) (ps := ps) (ds := ds) (.inr (.inr (.inl hp))))
    have hq : ((ps.length : Int) != (ls.length : Int)) = true := by rw [bne_iff_ne]; omega
    clear hp
    go_enter Try.func133, Try.ntmps133
    go_wp2
    go_ret
    exact ⟨ret_bool Hf.out.symm, hB0⟩
  by_cases hd : ds.length = ls.length
  case neg =>
    have Hf := Lib.hid (jobsOk_no (ls := ls) (ps := ps) (ds := ds) (.inr (.inr (.inr (.inl hd)))))
    have hq : ((ps.length : Int) != (ls.length : Int)) = false := by rw [bne_eq_false_iff_eq]; omega
    have hq2 : ((ds.length : Int) != (ls.length : Int)) = true := by rw [bne_iff_ne]; omega
    clear hd hp
    go_enter Try.func133, Try.ntmps133
    go_wp2
    go_ret
    exact ⟨ret_bool Hf.out.symm, hB0⟩
  have hq : ((ps.length : Int) != (ls.length : Int)) = false := by rw [bne_eq_false_iff_eq]; omega
  have hq2 : ((ds.length : Int) != (ls.length : Int)) = false := by rw [bne_eq_false_iff_eq]; omega
  have Hp := Lib.hid hp
  have Hd := Lib.hid hd
  have hpl : ls.length ≤ ps.length := by omega
  have hdl : ls.length ≤ ds.length := by omega
  clear hp hd
  go_enter Try.func133, Try.ntmps133
  go_wp2
  go_loopw [4] (fun i wr => ∃ k : Nat, k ≤ ls.length ∧ i = .int .i64 k ∧ (∀ j, j < k → jobOk (nth ls j) (nth ps j) (nth ds j) = true) ∧ Box3 wr w.heap.size 37 (.slice al ls.length capl) (.slice ap ps.length capp) (.slice ad ds.length capd) ∧ Below w.heap.size w wr) (fun i _ => ls.length - (intOf i).toNat)
  case atStart => exact ⟨0, Nat.zero_le _, rfl, by simp, Box3.new _ _ _ _ _, hB0⟩
  case round =>
    obtain ⟨k, hk, rfl, hall, bx, hB⟩ := hrel
    have Hall := Lib.hid hall
    clear hall hB0
    by_cases hlt : k < ls.length
    · obtain ⟨b1, o1, rfl, e1⟩ := (hI.l.below hB).cellOf hlt
      obtain ⟨b2, o2, rfl, e2⟩ := (hI.p.below hB).cellOf (k := k) (by omega)
      obtain ⟨b3, o3, rfl, e3⟩ := (hI.d.below hB).cellOf (k := k) (by omega)
      have i1 : (k : Int) < (ls.length : Int) := by omega
      have i2 : (k : Int) < (ps.length : Int) := by omega
      have i3 : (k : Int) < (ds.length : Int) := by omega
      have HB := Lib.hid hB
      have Hbx := Lib.hid bx
      have HI := Lib.hid hI
      have hfw : Try.prog.follows Departure.mixedOrders = true := by kernel_rfl
      have c0 : wr.drew.cell? ⟨w.heap.size, 0, none⟩ = some (.slice (some ⟨b1, o1, none⟩) ls.length capl) := bx.c0
      have c1 : wr.drew.cell? ⟨w.heap.size, 1, none⟩ = some (.slice (some ⟨b2, o2, none⟩) ps.length capp) := bx.c1
      have c2 : wr.drew.cell? ⟨w.heap.size, 2, none⟩ = some (.slice (some ⟨b3, o3, none⟩) ds.length capd) := bx.c2
      replace e1 : wr.drew.cell? ⟨b1, o1 + k, none⟩ = some (.int .i64 (nth ls k)) := e1
      replace e2 : wr.drew.cell? ⟨b2, o2 + k, none⟩ = some (.int .i64 (nth ps k)) := e2
      replace e3 : wr.drew.cell? ⟨b3, o3 + k, none⟩ = some (.int .i64 (nth ds k)) := e3
      clear hB bx hI
      cases hb1 : inB (nth ls k) 1 20
      · have Hf := Lib.hid (jobsOk_no (ls := ls) (ps := ps) (ds := ds) (.inr (.inr (.inr (.inr ⟨k, hlt, by unfold jobOk; rw [hb1]; rfl⟩)))))
        have Hb1 := Lib.hid hb1
        clear hb1
        go_wp2_with fail
        refine wp_region_held_drew (S := fun w' => w' = wr.drew) hfw rfl ?_
        intro hS0
        refine wpAnyH_take (i := 0) (v := ?vz1q0) rfl (by kernel_rfl) (by kernel_rfl) (by kernel_rfl) (fun _ _ _ h => h) (.inl ⟨by first | kernel_rfl | rfl, ?yz1q0⟩) rfl ?_
        case yz1q0 =>
          intro w' hS
          (subst hS)
          go_simp
          try with_reducible rfl
        refine wpAnyH_take (i := 1) (v := ?vz1q1) rfl (by kernel_rfl) (by kernel_rfl) (by kernel_rfl) (fun _ _ _ h => h) (.inl ⟨by first | kernel_rfl | rfl, ?yz1q1⟩) rfl ?_
        case yz1q1 =>
          intro w' hS
          (subst hS)
          go_simp
          try with_reducible rfl
        refine wpAnyH_take (i := 2) (v := ?vz1q2) rfl (by kernel_rfl) (by kernel_rfl) (by kernel_rfl) (fun _ _ _ h => h) (.inl ⟨by first | kernel_rfl | rfl, ?yz1q2⟩) rfl ?_
        case yz1q2 =>
          intro w' hS
          (subst hS)
          go_simp
          try with_reducible rfl
        refine wpAnyH_take (i := 3) (v := ?vz1q3) rfl (by kernel_rfl) (by kernel_rfl) (by kernel_rfl) (fun _ _ _ h => h) (.inl ⟨by first | kernel_rfl | rfl, ?yz1q3⟩) rfl ?_
        case yz1q3 =>
          intro w' hS
          (subst hS)
          go_simp
          try with_reducible rfl
        refine wpAnyH_take (i := 4) (v := ?vz1q4) rfl (by kernel_rfl) (by kernel_rfl) (by kernel_rfl) (fun _ _ _ h => h) (.inl ⟨by first | kernel_rfl | rfl, ?yz1q4⟩) rfl ?_
        case yz1q4 =>
          intro w' hS
          (subst hS)
          go_simp
          try with_reducible rfl
        try simp only [Act.put, List.getElem_toArray, List.getElem_cons_zero, List.getElem_cons_succ, List.setIfInBounds_toArray, List.set_cons_zero, List.set_cons_succ]
        refine wpAnyH_ready (rs := [5]) (by kernel_rfl) (by simp) ?_
        refine AllReadyH.cons rfl (fun K' hK' => ?_) AllReadyH.nil
        rw [if_pos (by first | kernel_rfl | rfl)]
        go_simp
        refine (l01In_d false _ _ _ _ Hb1.out).mono ?_
        rintro e w' ⟨rfl, rfl⟩
        refine hK'.out _ _ rfl fun hS1 => ?_
        refine wpAnyH_take (i := 6) (v := ?vz2q6) rfl (by kernel_rfl) (by kernel_rfl) (by kernel_rfl) (fun _ _ _ h => h) (.inl ⟨by first | kernel_rfl | rfl, ?yz2q6⟩) rfl ?_
        case yz2q6 =>
          intro w' hS
          (subst hS)
          go_simp
          try with_reducible rfl
        refine wpAnyH_take (i := 7) (v := ?vz2q7) rfl (by kernel_rfl) (by kernel_rfl) (by kernel_rfl) (fun _ _ _ h => h) (.inl ⟨by first | kernel_rfl | rfl, ?yz2q7⟩) rfl ?_
        case yz2q7 =>
          intro w' hS
          (subst hS)
          go_simp
          try with_reducible rfl
        try simp only [Act.put, List.getElem_toArray, List.getElem_cons_zero, List.getElem_cons_succ, List.setIfInBounds_toArray, List.set_cons_zero, List.set_cons_succ]
        refine wpAnyH_take (i := 8) (v := undef) rfl (by kernel_rfl) (by kernel_rfl) (by kernel_rfl) (fun _ _ _ h => h) (.inr ⟨by kernel_rfl, rfl⟩) rfl ?_
        refine wpAnyH_take (i := 9) (v := undef) rfl (by kernel_rfl) (by kernel_rfl) (by kernel_rfl) (fun _ _ _ h => h) (.inr ⟨by kernel_rfl, rfl⟩) rfl ?_
        refine wpAnyH_take (i := 10) (v := undef) rfl (by kernel_rfl) (by kernel_rfl) (by kernel_rfl) (fun _ _ _ h => h) (.inr ⟨by kernel_rfl, rfl⟩) rfl ?_
        refine wpAnyH_take (i := 11) (v := undef) rfl (by kernel_rfl) (by kernel_rfl) (by kernel_rfl) (fun _ _ _ h => h) (.inr ⟨by kernel_rfl, rfl⟩) rfl ?_
        refine wpAnyH_take (i := 12) (v := undef) rfl (by kernel_rfl) (by kernel_rfl) (by kernel_rfl) (fun _ _ _ h => h) (.inr ⟨by kernel_rfl, rfl⟩) rfl ?_
        refine wpAnyH_take (i := 13) (v := undef) rfl (by kernel_rfl) (by kernel_rfl) (by kernel_rfl) (fun _ _ _ h => h) (.inr ⟨by kernel_rfl, rfl⟩) rfl ?_
        refine wpAnyH_take (i := 14) (v := undef) rfl (by kernel_rfl) (by kernel_rfl) (by kernel_rfl) (fun _ _ _ h => h) (.inr ⟨by kernel_rfl, rfl⟩) rfl ?_
        try simp only [Act.put, List.getElem_toArray, List.getElem_cons_zero, List.getElem_cons_succ, List.setIfInBounds_toArray, List.set_cons_zero, List.set_cons_succ]
        refine wpAnyH_take (i := 15) (v := ?vz3q15) rfl (by kernel_rfl) (by kernel_rfl) (by kernel_rfl) (fun _ _ _ h => h) (.inl ⟨by first | kernel_rfl | rfl, ?yz3q15⟩) rfl ?_
        case yz3q15 =>
          intro w' hS
          (subst hS)
          go_simp
          try with_reducible rfl
        refine wpAnyH_take (i := 16) (v := ?vz3q16) rfl (by kernel_rfl) (by kernel_rfl) (by kernel_rfl) (fun _ _ _ h => h) (.inl ⟨by first | kernel_rfl | rfl, ?yz3q16⟩) rfl ?_
        case yz3q16 =>
          intro w' hS
          (subst hS)
          go_simp
          try with_reducible rfl
        try simp only [Act.put, List.getElem_toArray, List.getElem_cons_zero, List.getElem_cons_succ, List.setIfInBounds_toArray, List.set_cons_zero, List.set_cons_succ]
        refine wpAnyH_take (i := 17) (v := undef) rfl (by kernel_rfl) (by kernel_rfl) (by kernel_rfl) (fun _ _ _ h => h) (.inr ⟨by kernel_rfl, rfl⟩) rfl ?_
        refine wpAnyH_take (i := 18) (v := undef) rfl (by kernel_rfl) (by kernel_rfl) (by kernel_rfl) (fun _ _ _ h => h) (.inr ⟨by kernel_rfl, rfl⟩) rfl ?_
        refine wpAnyH_take (i := 19) (v := undef) rfl (by kernel_rfl) (by kernel_rfl) (by kernel_rfl) (fun _ _ _ h => h) (.inr ⟨by kernel_rfl, rfl⟩) rfl ?_
        refine wpAnyH_take (i := 20) (v := undef) rfl (by kernel_rfl) (by kernel_rfl) (by kernel_rfl) (fun _ _ _ h => h) (.inr ⟨by kernel_rfl, rfl⟩) rfl ?_
        refine wpAnyH_take (i := 21) (v := undef) rfl (by kernel_rfl) (by kernel_rfl) (by kernel_rfl) (fun _ _ _ h => h) (.inr ⟨by kernel_rfl, rfl⟩) rfl ?_
        refine wpAnyH_take (i := 22) (v := undef) rfl (by kernel_rfl) (by kernel_rfl) (by kernel_rfl) (fun _ _ _ h => h) (.inr ⟨by kernel_rfl, rfl⟩) rfl ?_
        refine wpAnyH_take (i := 23) (v := undef) rfl (by kernel_rfl) (by kernel_rfl) (by kernel_rfl) (fun _ _ _ h => h) (.inr ⟨by kernel_rfl, rfl⟩) rfl ?_
        refine wpAnyH_take (i := 24) (v := undef) rfl (by kernel_rfl) (by kernel_rfl) (by kernel_rfl) (fun _ _ _ h => h) (.inr ⟨by kernel_rfl, rfl⟩) rfl ?_
        refine wpAnyH_take (i := 25) (v := undef) rfl (by kernel_rfl) (by kernel_rfl) (by kernel_rfl) (fun _ _ _ h => h) (.inr ⟨by kernel_rfl, rfl⟩) rfl ?_
        refine wpAnyH_take (i := 26) (v := undef) rfl (by kernel_rfl) (by kernel_rfl) (by kernel_rfl) (fun _ _ _ h => h) (.inr ⟨by kernel_rfl, rfl⟩) rfl ?_
        refine wpAnyH_take (i := 27) (v := undef) rfl (by kernel_rfl) (by kernel_rfl) (by kernel_rfl) (fun _ _ _ h => h) (.inr ⟨by kernel_rfl, rfl⟩) rfl ?_
        refine wpAnyH_take (i := 28) (v := undef) rfl (by kernel_rfl) (by kernel_rfl) (by kernel_rfl) (fun _ _ _ h => h) (.inr ⟨by kernel_rfl, rfl⟩) rfl ?_
        try simp only [Act.put, List.getElem_toArray, List.getElem_cons_zero, List.getElem_cons_succ, List.setIfInBounds_toArray, List.set_cons_zero, List.set_cons_succ]
        refine wpAnyH_take (i := 29) (v := ?vz4q29) rfl (by kernel_rfl) (by kernel_rfl) (by kernel_rfl) (fun _ _ _ h => h) (.inl ⟨by first | kernel_rfl | rfl, ?yz4q29⟩) rfl ?_
        case yz4q29 =>
          intro w' hS
          (subst hS)
          go_simp
          try with_reducible rfl
        try simp only [Act.put, List.getElem_toArray, List.getElem_cons_zero, List.getElem_cons_succ, List.setIfInBounds_toArray, List.set_cons_zero, List.set_cons_succ]
        refine wpAnyH_done (by kernel_rfl) ?_ _
        go_wp2
        go_ret
        exact ⟨ret_bool Hf.out.symm, HB.out.drew⟩
      · have Hb1 := Lib.hid hb1
        cases hb2 : inB (nth ps k) 1 60
        · have Hf := Lib.hid (jobsOk_no (ls := ls) (ps := ps) (ds := ds) (.inr (.inr (.inr (.inr ⟨k, hlt, by unfold jobOk; rw [hb1, hb2]; rfl⟩)))))
          have Hb2 := Lib.hid hb2
          clear hb1 hb2
          go_wp2_with fail
          refine wp_region_held_drew (S := fun w' => w' = wr.drew) hfw rfl ?_
          intro hS0
          refine wpAnyH_take (i := 0) (v := ?vz5q0) rfl (by kernel_rfl) (by kernel_rfl) (by kernel_rfl) (fun _ _ _ h => h) (.inl ⟨by first | kernel_rfl | rfl, ?yz5q0⟩) rfl ?_
          case yz5q0 =>
            intro w' hS
            (subst hS)
            go_simp
            try with_reducible rfl
          refine wpAnyH_take (i := 1) (v := ?vz5q1) rfl (by kernel_rfl) (by kernel_rfl) (by kernel_rfl) (fun _ _ _ h => h) (.inl ⟨by first | kernel_rfl | rfl, ?yz5q1⟩) rfl ?_
          case yz5q1 =>
            intro w' hS
            (subst hS)
            go_simp
            try with_reducible rfl
          refine wpAnyH_take (i := 2) (v := ?vz5q2) rfl (by kernel_rfl) (by kernel_rfl) (by kernel_rfl) (fun _ _ _ h => h) (.inl ⟨by first | kernel_rfl | rfl, ?yz5q2⟩) rfl ?_
          case yz5q2 =>
            intro w' hS
            (subst hS)
            go_simp
            try with_reducible rfl
          refine wpAnyH_take (i := 3) (v := ?vz5q3) rfl (by kernel_rfl) (by kernel_rfl) (by kernel_rfl) (fun _ _ _ h => h) (.inl ⟨by first | kernel_rfl | rfl, ?yz5q3⟩) rfl ?_
          case yz5q3 =>
            intro w' hS
            (subst hS)
            go_simp
            try with_reducible rfl
          refine wpAnyH_take (i := 4) (v := ?vz5q4) rfl (by kernel_rfl) (by kernel_rfl) (by kernel_rfl) (fun _ _ _ h => h) (.inl ⟨by first | kernel_rfl | rfl, ?yz5q4⟩) rfl ?_
          case yz5q4 =>
            intro w' hS
            (subst hS)
            go_simp
            try with_reducible rfl
          try simp only [Act.put, List.getElem_toArray, List.getElem_cons_zero, List.getElem_cons_succ, List.setIfInBounds_toArray, List.set_cons_zero, List.set_cons_succ]
          refine wpAnyH_ready (rs := [5]) (by kernel_rfl) (by simp) ?_
          refine AllReadyH.cons rfl (fun K' hK' => ?_) AllReadyH.nil
          rw [if_pos (by first | kernel_rfl | rfl)]
          go_simp
          refine (l01In_d true _ _ _ _ Hb1.out).mono ?_
          rintro e w' ⟨rfl, rfl⟩
          refine hK'.out _ _ rfl fun hS1 => ?_
          refine wpAnyH_take (i := 6) (v := ?vz6q6) rfl (by kernel_rfl) (by kernel_rfl) (by kernel_rfl) (fun _ _ _ h => h) (.inl ⟨by first | kernel_rfl | rfl, ?yz6q6⟩) rfl ?_
          case yz6q6 =>
            intro w' hS
            (subst hS)
            go_simp
            try with_reducible rfl
          refine wpAnyH_take (i := 7) (v := ?vz6q7) rfl (by kernel_rfl) (by kernel_rfl) (by kernel_rfl) (fun _ _ _ h => h) (.inl ⟨by first | kernel_rfl | rfl, ?yz6q7⟩) rfl ?_
          case yz6q7 =>
            intro w' hS
            (subst hS)
            go_simp
            try with_reducible rfl
          refine wpAnyH_take (i := 8) (v := ?vz6q8) rfl (by kernel_rfl) (by kernel_rfl) (by kernel_rfl) (fun _ _ _ h => h) (.inl ⟨by first | kernel_rfl | rfl, ?yz6q8⟩) rfl ?_
          case yz6q8 =>
            intro w' hS
            (subst hS)
            go_simp
            try with_reducible rfl
          refine wpAnyH_take (i := 9) (v := ?vz6q9) rfl (by kernel_rfl) (by kernel_rfl) (by kernel_rfl) (fun _ _ _ h => h) (.inl ⟨by first | kernel_rfl | rfl, ?yz6q9⟩) rfl ?_
          case yz6q9 =>
            intro w' hS
            (subst hS)
            go_simp
            try with_reducible rfl
          refine wpAnyH_take (i := 10) (v := ?vz6q10) rfl (by kernel_rfl) (by kernel_rfl) (by kernel_rfl) (fun _ _ _ h => h) (.inl ⟨by first | kernel_rfl | rfl, ?yz6q10⟩) rfl ?_
          case yz6q10 =>
            intro w' hS
            (subst hS)
            go_simp
            try with_reducible rfl
          refine wpAnyH_take (i := 11) (v := ?vz6q11) rfl (by kernel_rfl) (by kernel_rfl) (by kernel_rfl) (fun _ _ _ h => h) (.inl ⟨by first | kernel_rfl | rfl, ?yz6q11⟩) rfl ?_
          case yz6q11 =>
            intro w' hS
            (subst hS)
            go_simp
            try with_reducible rfl
          refine wpAnyH_take (i := 12) (v := ?vz6q12) rfl (by kernel_rfl) (by kernel_rfl) (by kernel_rfl) (fun _ _ _ h => h) (.inl ⟨by first | kernel_rfl | rfl, ?yz6q12⟩) rfl ?_
          case yz6q12 =>
            intro w' hS
            (subst hS)
            go_simp
            try with_reducible rfl
          try simp only [Act.put, List.getElem_toArray, List.getElem_cons_zero, List.getElem_cons_succ, List.setIfInBounds_toArray, List.set_cons_zero, List.set_cons_succ]
          refine wpAnyH_ready (rs := [13]) (by kernel_rfl) (by simp) ?_
          refine AllReadyH.cons rfl (fun K' hK' => ?_) AllReadyH.nil
          rw [if_pos (by first | kernel_rfl | rfl)]
          go_simp
          refine (l01In_d false _ _ _ _ Hb2.out).mono ?_
          rintro e w' ⟨rfl, rfl⟩
          refine hK'.out _ _ rfl fun hS1 => ?_
          refine wpAnyH_take (i := 14) (v := ?vz7q14) rfl (by kernel_rfl) (by kernel_rfl) (by kernel_rfl) (fun _ _ _ h => h) (.inl ⟨by first | kernel_rfl | rfl, ?yz7q14⟩) rfl ?_
          case yz7q14 =>
            intro w' hS
            (subst hS)
            go_simp
            try with_reducible rfl
          refine wpAnyH_take (i := 15) (v := ?vz7q15) rfl (by kernel_rfl) (by kernel_rfl) (by kernel_rfl) (fun _ _ _ h => h) (.inl ⟨by first | kernel_rfl | rfl, ?yz7q15⟩) rfl ?_
          case yz7q15 =>
            intro w' hS
            (subst hS)
            go_simp
            try with_reducible rfl
          refine wpAnyH_take (i := 16) (v := ?vz7q16) rfl (by kernel_rfl) (by kernel_rfl) (by kernel_rfl) (fun _ _ _ h => h) (.inl ⟨by first | kernel_rfl | rfl, ?yz7q16⟩) rfl ?_
          case yz7q16 =>
            intro w' hS
            (subst hS)
            go_simp
            try with_reducible rfl
          try simp only [Act.put, List.getElem_toArray, List.getElem_cons_zero, List.getElem_cons_succ, List.setIfInBounds_toArray, List.set_cons_zero, List.set_cons_succ]
          refine wpAnyH_take (i := 17) (v := undef) rfl (by kernel_rfl) (by kernel_rfl) (by kernel_rfl) (fun _ _ _ h => h) (.inr ⟨by kernel_rfl, rfl⟩) rfl ?_
          refine wpAnyH_take (i := 18) (v := undef) rfl (by kernel_rfl) (by kernel_rfl) (by kernel_rfl) (fun _ _ _ h => h) (.inr ⟨by kernel_rfl, rfl⟩) rfl ?_
          refine wpAnyH_take (i := 19) (v := undef) rfl (by kernel_rfl) (by kernel_rfl) (by kernel_rfl) (fun _ _ _ h => h) (.inr ⟨by kernel_rfl, rfl⟩) rfl ?_
          refine wpAnyH_take (i := 20) (v := undef) rfl (by kernel_rfl) (by kernel_rfl) (by kernel_rfl) (fun _ _ _ h => h) (.inr ⟨by kernel_rfl, rfl⟩) rfl ?_
          refine wpAnyH_take (i := 21) (v := undef) rfl (by kernel_rfl) (by kernel_rfl) (by kernel_rfl) (fun _ _ _ h => h) (.inr ⟨by kernel_rfl, rfl⟩) rfl ?_
          refine wpAnyH_take (i := 22) (v := undef) rfl (by kernel_rfl) (by kernel_rfl) (by kernel_rfl) (fun _ _ _ h => h) (.inr ⟨by kernel_rfl, rfl⟩) rfl ?_
          refine wpAnyH_take (i := 23) (v := undef) rfl (by kernel_rfl) (by kernel_rfl) (by kernel_rfl) (fun _ _ _ h => h) (.inr ⟨by kernel_rfl, rfl⟩) rfl ?_
          refine wpAnyH_take (i := 24) (v := undef) rfl (by kernel_rfl) (by kernel_rfl) (by kernel_rfl) (fun _ _ _ h => h) (.inr ⟨by kernel_rfl, rfl⟩) rfl ?_
          refine wpAnyH_take (i := 25) (v := undef) rfl (by kernel_rfl) (by kernel_rfl) (by kernel_rfl) (fun _ _ _ h => h) (.inr ⟨by kernel_rfl, rfl⟩) rfl ?_
          refine wpAnyH_take (i := 26) (v := undef) rfl (by kernel_rfl) (by kernel_rfl) (by kernel_rfl) (fun _ _ _ h => h) (.inr ⟨by kernel_rfl, rfl⟩) rfl ?_
          refine wpAnyH_take (i := 27) (v := undef) rfl (by kernel_rfl) (by kernel_rfl) (by kernel_rfl) (fun _ _ _ h => h) (.inr ⟨by kernel_rfl, rfl⟩) rfl ?_
          refine wpAnyH_take (i := 28) (v := undef) rfl (by kernel_rfl) (by kernel_rfl) (by kernel_rfl) (fun _ _ _ h => h) (.inr ⟨by kernel_rfl, rfl⟩) rfl ?_
          try simp only [Act.put, List.getElem_toArray, List.getElem_cons_zero, List.getElem_cons_succ, List.setIfInBounds_toArray, List.set_cons_zero, List.set_cons_succ]
          refine wpAnyH_take (i := 29) (v := ?vz8q29) rfl (by kernel_rfl) (by kernel_rfl) (by kernel_rfl) (fun _ _ _ h => h) (.inl ⟨by first | kernel_rfl | rfl, ?yz8q29⟩) rfl ?_
          case yz8q29 =>
            intro w' hS
            (subst hS)
            go_simp
            try with_reducible rfl
          try simp only [Act.put, List.getElem_toArray, List.getElem_cons_zero, List.getElem_cons_succ, List.setIfInBounds_toArray, List.set_cons_zero, List.set_cons_succ]
          refine wpAnyH_done (by kernel_rfl) ?_ _
          go_wp2
          go_ret
          exact ⟨ret_bool Hf.out.symm, HB.out.drew⟩
        · have Hb2 := Lib.hid hb2
          cases hb3 : inB (nth ds k) 1 (nth ps k)
          · have Hf := Lib.hid (jobsOk_no (ls := ls) (ps := ps) (ds := ds) (.inr (.inr (.inr (.inr ⟨k, hlt, by unfold jobOk; rw [hb1, hb2, hb3]; rfl⟩)))))
            have Hb3 := Lib.hid hb3
            clear hb1 hb2 hb3
            go_wp2_with fail
            refine wp_region_held_drew (S := fun w' => w' = wr.drew) hfw rfl ?_
            intro hS0
            refine wpAnyH_take (i := 0) (v := ?vz9q0) rfl (by kernel_rfl) (by kernel_rfl) (by kernel_rfl) (fun _ _ _ h => h) (.inl ⟨by first | kernel_rfl | rfl, ?yz9q0⟩) rfl ?_
            case yz9q0 =>
              intro w' hS
              (subst hS)
              go_simp
              try with_reducible rfl
            refine wpAnyH_take (i := 1) (v := ?vz9q1) rfl (by kernel_rfl) (by kernel_rfl) (by kernel_rfl) (fun _ _ _ h => h) (.inl ⟨by first | kernel_rfl | rfl, ?yz9q1⟩) rfl ?_
            case yz9q1 =>
              intro w' hS
              (subst hS)
              go_simp
              try with_reducible rfl
            refine wpAnyH_take (i := 2) (v := ?vz9q2) rfl (by kernel_rfl) (by kernel_rfl) (by kernel_rfl) (fun _ _ _ h => h) (.inl ⟨by first | kernel_rfl | rfl, ?yz9q2⟩) rfl ?_
            case yz9q2 =>
              intro w' hS
              (subst hS)
              go_simp
              try with_reducible rfl
            refine wpAnyH_take (i := 3) (v := ?vz9q3) rfl (by kernel_rfl) (by kernel_rfl) (by kernel_rfl) (fun _ _ _ h => h) (.inl ⟨by first | kernel_rfl | rfl, ?yz9q3⟩) rfl ?_
            case yz9q3 =>
              intro w' hS
              (subst hS)
              go_simp
              try with_reducible rfl
            refine wpAnyH_take (i := 4) (v := ?vz9q4) rfl (by kernel_rfl) (by kernel_rfl) (by kernel_rfl) (fun _ _ _ h => h) (.inl ⟨by first | kernel_rfl | rfl, ?yz9q4⟩) rfl ?_
            case yz9q4 =>
              intro w' hS
              (subst hS)
              go_simp
              try with_reducible rfl
            try simp only [Act.put, List.getElem_toArray, List.getElem_cons_zero, List.getElem_cons_succ, List.setIfInBounds_toArray, List.set_cons_zero, List.set_cons_succ]
            refine wpAnyH_ready (rs := [5]) (by kernel_rfl) (by simp) ?_
            refine AllReadyH.cons rfl (fun K' hK' => ?_) AllReadyH.nil
            rw [if_pos (by first | kernel_rfl | rfl)]
            go_simp
            refine (l01In_d true _ _ _ _ Hb1.out).mono ?_
            rintro e w' ⟨rfl, rfl⟩
            refine hK'.out _ _ rfl fun hS1 => ?_
            refine wpAnyH_take (i := 6) (v := ?vz10q6) rfl (by kernel_rfl) (by kernel_rfl) (by kernel_rfl) (fun _ _ _ h => h) (.inl ⟨by first | kernel_rfl | rfl, ?yz10q6⟩) rfl ?_
            case yz10q6 =>
              intro w' hS
              (subst hS)
              go_simp
              try with_reducible rfl
            refine wpAnyH_take (i := 7) (v := ?vz10q7) rfl (by kernel_rfl) (by kernel_rfl) (by kernel_rfl) (fun _ _ _ h => h) (.inl ⟨by first | kernel_rfl | rfl, ?yz10q7⟩) rfl ?_
            case yz10q7 =>
              intro w' hS
              (subst hS)
              go_simp
              try with_reducible rfl
            refine wpAnyH_take (i := 8) (v := ?vz10q8) rfl (by kernel_rfl) (by kernel_rfl) (by kernel_rfl) (fun _ _ _ h => h) (.inl ⟨by first | kernel_rfl | rfl, ?yz10q8⟩) rfl ?_
            case yz10q8 =>
              intro w' hS
              (subst hS)
              go_simp
              try with_reducible rfl
            refine wpAnyH_take (i := 9) (v := ?vz10q9) rfl (by kernel_rfl) (by kernel_rfl) (by kernel_rfl) (fun _ _ _ h => h) (.inl ⟨by first | kernel_rfl | rfl, ?yz10q9⟩) rfl ?_
            case yz10q9 =>
              intro w' hS
              (subst hS)
              go_simp
              try with_reducible rfl
            refine wpAnyH_take (i := 10) (v := ?vz10q10) rfl (by kernel_rfl) (by kernel_rfl) (by kernel_rfl) (fun _ _ _ h => h) (.inl ⟨by first | kernel_rfl | rfl, ?yz10q10⟩) rfl ?_
            case yz10q10 =>
              intro w' hS
              (subst hS)
              go_simp
              try with_reducible rfl
            refine wpAnyH_take (i := 11) (v := ?vz10q11) rfl (by kernel_rfl) (by kernel_rfl) (by kernel_rfl) (fun _ _ _ h => h) (.inl ⟨by first | kernel_rfl | rfl, ?yz10q11⟩) rfl ?_
            case yz10q11 =>
              intro w' hS
              (subst hS)
              go_simp
              try with_reducible rfl
            refine wpAnyH_take (i := 12) (v := ?vz10q12) rfl (by kernel_rfl) (by kernel_rfl) (by kernel_rfl) (fun _ _ _ h => h) (.inl ⟨by first | kernel_rfl | rfl, ?yz10q12⟩) rfl ?_
            case yz10q12 =>
              intro w' hS
              (subst hS)
              go_simp
              try with_reducible rfl
            try simp only [Act.put, List.getElem_toArray, List.getElem_cons_zero, List.getElem_cons_succ, List.setIfInBounds_toArray, List.set_cons_zero, List.set_cons_succ]
            refine wpAnyH_ready (rs := [13]) (by kernel_rfl) (by simp) ?_
            refine AllReadyH.cons rfl (fun K' hK' => ?_) AllReadyH.nil
            rw [if_pos (by first | kernel_rfl | rfl)]
            go_simp
            refine (l01In_d true _ _ _ _ Hb2.out).mono ?_
            rintro e w' ⟨rfl, rfl⟩
            refine hK'.out _ _ rfl fun hS1 => ?_
            refine wpAnyH_take (i := 14) (v := ?vz11q14) rfl (by kernel_rfl) (by kernel_rfl) (by kernel_rfl) (fun _ _ _ h => h) (.inl ⟨by first | kernel_rfl | rfl, ?yz11q14⟩) rfl ?_
            case yz11q14 =>
              intro w' hS
              (subst hS)
              go_simp
              try with_reducible rfl
            refine wpAnyH_take (i := 15) (v := ?vz11q15) rfl (by kernel_rfl) (by kernel_rfl) (by kernel_rfl) (fun _ _ _ h => h) (.inl ⟨by first | kernel_rfl | rfl, ?yz11q15⟩) rfl ?_
            case yz11q15 =>
              intro w' hS
              (subst hS)
              go_simp
              try with_reducible rfl
            refine wpAnyH_take (i := 16) (v := ?vz11q16) rfl (by kernel_rfl) (by kernel_rfl) (by kernel_rfl) (fun _ _ _ h => h) (.inl ⟨by first | kernel_rfl | rfl, ?yz11q16⟩) rfl ?_
            case yz11q16 =>
              intro w' hS
              (subst hS)
              go_simp
              try with_reducible rfl
            refine wpAnyH_take (i := 17) (v := ?vz11q17) rfl (by kernel_rfl) (by kernel_rfl) (by kernel_rfl) (fun _ _ _ h => h) (.inl ⟨by first | kernel_rfl | rfl, ?yz11q17⟩) rfl ?_
            case yz11q17 =>
              intro w' hS
              (subst hS)
              go_simp
              try with_reducible rfl
            refine wpAnyH_take (i := 18) (v := ?vz11q18) rfl (by kernel_rfl) (by kernel_rfl) (by kernel_rfl) (fun _ _ _ h => h) (.inl ⟨by first | kernel_rfl | rfl, ?yz11q18⟩) rfl ?_
            case yz11q18 =>
              intro w' hS
              (subst hS)
              go_simp
              try with_reducible rfl
            refine wpAnyH_take (i := 19) (v := ?vz11q19) rfl (by kernel_rfl) (by kernel_rfl) (by kernel_rfl) (fun _ _ _ h => h) (.inl ⟨by first | kernel_rfl | rfl, ?yz11q19⟩) rfl ?_
            case yz11q19 =>
              intro w' hS
              (subst hS)
              go_simp
              try with_reducible rfl
            refine wpAnyH_take (i := 20) (v := ?vz11q20) rfl (by kernel_rfl) (by kernel_rfl) (by kernel_rfl) (fun _ _ _ h => h) (.inl ⟨by first | kernel_rfl | rfl, ?yz11q20⟩) rfl ?_
            case yz11q20 =>
              intro w' hS
              (subst hS)
              go_simp
              try with_reducible rfl
            refine wpAnyH_take (i := 21) (v := ?vz11q21) rfl (by kernel_rfl) (by kernel_rfl) (by kernel_rfl) (fun _ _ _ h => h) (.inl ⟨by first | kernel_rfl | rfl, ?yz11q21⟩) rfl ?_
            case yz11q21 =>
              intro w' hS
              (subst hS)
              go_simp
              try with_reducible rfl
            refine wpAnyH_take (i := 22) (v := ?vz11q22) rfl (by kernel_rfl) (by kernel_rfl) (by kernel_rfl) (fun _ _ _ h => h) (.inl ⟨by first | kernel_rfl | rfl, ?yz11q22⟩) rfl ?_
            case yz11q22 =>
              intro w' hS
              (subst hS)
              go_simp
              try with_reducible rfl
            refine wpAnyH_take (i := 23) (v := ?vz11q23) rfl (by kernel_rfl) (by kernel_rfl) (by kernel_rfl) (fun _ _ _ h => h) (.inl ⟨by first | kernel_rfl | rfl, ?yz11q23⟩) rfl ?_
            case yz11q23 =>
              intro w' hS
              (subst hS)
              go_simp
              try with_reducible rfl
            refine wpAnyH_take (i := 24) (v := ?vz11q24) rfl (by kernel_rfl) (by kernel_rfl) (by kernel_rfl) (fun _ _ _ h => h) (.inl ⟨by first | kernel_rfl | rfl, ?yz11q24⟩) rfl ?_
            case yz11q24 =>
              intro w' hS
              (subst hS)
              go_simp
              try with_reducible rfl
            refine wpAnyH_take (i := 25) (v := ?vz11q25) rfl (by kernel_rfl) (by kernel_rfl) (by kernel_rfl) (fun _ _ _ h => h) (.inl ⟨by first | kernel_rfl | rfl, ?yz11q25⟩) rfl ?_
            case yz11q25 =>
              intro w' hS
              (subst hS)
              go_simp
              try with_reducible rfl
            refine wpAnyH_take (i := 26) (v := ?vz11q26) rfl (by kernel_rfl) (by kernel_rfl) (by kernel_rfl) (fun _ _ _ h => h) (.inl ⟨by first | kernel_rfl | rfl, ?yz11q26⟩) rfl ?_
            case yz11q26 =>
              intro w' hS
              (subst hS)
              go_simp
              try with_reducible rfl
            try simp only [Act.put, List.getElem_toArray, List.getElem_cons_zero, List.getElem_cons_succ, List.setIfInBounds_toArray, List.set_cons_zero, List.set_cons_succ]
            refine wpAnyH_ready (rs := [27]) (by kernel_rfl) (by simp) ?_
            refine AllReadyH.cons rfl (fun K' hK' => ?_) AllReadyH.nil
            rw [if_pos (by first | kernel_rfl | rfl)]
            go_simp
            refine (l01In_d false _ _ _ _ Hb3.out).mono ?_
            rintro e w' ⟨rfl, rfl⟩
            refine hK'.out _ _ rfl fun hS1 => ?_
            refine wpAnyH_take (i := 28) (v := ?vz12q28) rfl (by kernel_rfl) (by kernel_rfl) (by kernel_rfl) (fun _ _ _ h => h) (.inl ⟨by first | kernel_rfl | rfl, ?yz12q28⟩) rfl ?_
            case yz12q28 =>
              intro w' hS
              (subst hS)
              go_simp
              try with_reducible rfl
            refine wpAnyH_take (i := 29) (v := ?vz12q29) rfl (by kernel_rfl) (by kernel_rfl) (by kernel_rfl) (fun _ _ _ h => h) (.inl ⟨by first | kernel_rfl | rfl, ?yz12q29⟩) rfl ?_
            case yz12q29 =>
              intro w' hS
              (subst hS)
              go_simp
              try with_reducible rfl
            try simp only [Act.put, List.getElem_toArray, List.getElem_cons_zero, List.getElem_cons_succ, List.setIfInBounds_toArray, List.set_cons_zero, List.set_cons_succ]
            refine wpAnyH_done (by kernel_rfl) ?_ _
            go_wp2
            go_ret
            exact ⟨ret_bool Hf.out.symm, HB.out.drew⟩
          · have Hj := Lib.hid (show jobOk (nth ls k) (nth ps k) (nth ds k) = true by unfold jobOk; rw [hb1, hb2, hb3]; rfl)
            have Hb3 := Lib.hid hb3
            clear hb1 hb2 hb3
            go_wp2_with fail
            refine wp_region_held_drew (S := fun w' => w' = wr.drew) hfw rfl ?_
            intro hS0
            refine wpAnyH_take (i := 0) (v := ?vz13q0) rfl (by kernel_rfl) (by kernel_rfl) (by kernel_rfl) (fun _ _ _ h => h) (.inl ⟨by first | kernel_rfl | rfl, ?yz13q0⟩) rfl ?_
            case yz13q0 =>
              intro w' hS
              (subst hS)
              go_simp
              try with_reducible rfl
            refine wpAnyH_take (i := 1) (v := ?vz13q1) rfl (by kernel_rfl) (by kernel_rfl) (by kernel_rfl) (fun _ _ _ h => h) (.inl ⟨by first | kernel_rfl | rfl, ?yz13q1⟩) rfl ?_
            case yz13q1 =>
              intro w' hS
              (subst hS)
              go_simp
              try with_reducible rfl
            refine wpAnyH_take (i := 2) (v := ?vz13q2) rfl (by kernel_rfl) (by kernel_rfl) (by kernel_rfl) (fun _ _ _ h => h) (.inl ⟨by first | kernel_rfl | rfl, ?yz13q2⟩) rfl ?_
            case yz13q2 =>
              intro w' hS
              (subst hS)
              go_simp
              try with_reducible rfl
            refine wpAnyH_take (i := 3) (v := ?vz13q3) rfl (by kernel_rfl) (by kernel_rfl) (by kernel_rfl) (fun _ _ _ h => h) (.inl ⟨by first | kernel_rfl | rfl, ?yz13q3⟩) rfl ?_
            case yz13q3 =>
              intro w' hS
              (subst hS)
              go_simp
              try with_reducible rfl
            refine wpAnyH_take (i := 4) (v := ?vz13q4) rfl (by kernel_rfl) (by kernel_rfl) (by kernel_rfl) (fun _ _ _ h => h) (.inl ⟨by first | kernel_rfl | rfl, ?yz13q4⟩) rfl ?_
            case yz13q4 =>
              intro w' hS
              (subst hS)
              go_simp
              try with_reducible rfl
            try simp only [Act.put, List.getElem_toArray, List.getElem_cons_zero, List.getElem_cons_succ, List.setIfInBounds_toArray, List.set_cons_zero, List.set_cons_succ]
            refine wpAnyH_ready (rs := [5]) (by kernel_rfl) (by simp) ?_
            refine AllReadyH.cons rfl (fun K' hK' => ?_) AllReadyH.nil
            rw [if_pos (by first | kernel_rfl | rfl)]
            go_simp
            refine (l01In_d true _ _ _ _ Hb1.out).mono ?_
            rintro e w' ⟨rfl, rfl⟩
            refine hK'.out _ _ rfl fun hS1 => ?_
            refine wpAnyH_take (i := 6) (v := ?vz14q6) rfl (by kernel_rfl) (by kernel_rfl) (by kernel_rfl) (fun _ _ _ h => h) (.inl ⟨by first | kernel_rfl | rfl, ?yz14q6⟩) rfl ?_
            case yz14q6 =>
              intro w' hS
              (subst hS)
              go_simp
              try with_reducible rfl
            refine wpAnyH_take (i := 7) (v := ?vz14q7) rfl (by kernel_rfl) (by kernel_rfl) (by kernel_rfl) (fun _ _ _ h => h) (.inl ⟨by first | kernel_rfl | rfl, ?yz14q7⟩) rfl ?_
            case yz14q7 =>
              intro w' hS
              (subst hS)
              go_simp
              try with_reducible rfl
            refine wpAnyH_take (i := 8) (v := ?vz14q8) rfl (by kernel_rfl) (by kernel_rfl) (by kernel_rfl) (fun _ _ _ h => h) (.inl ⟨by first | kernel_rfl | rfl, ?yz14q8⟩) rfl ?_
            case yz14q8 =>
              intro w' hS
              (subst hS)
              go_simp
              try with_reducible rfl
            refine wpAnyH_take (i := 9) (v := ?vz14q9) rfl (by kernel_rfl) (by kernel_rfl) (by kernel_rfl) (fun _ _ _ h => h) (.inl ⟨by first | kernel_rfl | rfl, ?yz14q9⟩) rfl ?_
            case yz14q9 =>
              intro w' hS
              (subst hS)
              go_simp
              try with_reducible rfl
            refine wpAnyH_take (i := 10) (v := ?vz14q10) rfl (by kernel_rfl) (by kernel_rfl) (by kernel_rfl) (fun _ _ _ h => h) (.inl ⟨by first | kernel_rfl | rfl, ?yz14q10⟩) rfl ?_
            case yz14q10 =>
              intro w' hS
              (subst hS)
              go_simp
              try with_reducible rfl
            refine wpAnyH_take (i := 11) (v := ?vz14q11) rfl (by kernel_rfl) (by kernel_rfl) (by kernel_rfl) (fun _ _ _ h => h) (.inl ⟨by first | kernel_rfl | rfl, ?yz14q11⟩) rfl ?_
            case yz14q11 =>
              intro w' hS
              (subst hS)
              go_simp
              try with_reducible rfl
            refine wpAnyH_take (i := 12) (v := ?vz14q12) rfl (by kernel_rfl) (by kernel_rfl) (by kernel_rfl) (fun _ _ _ h => h) (.inl ⟨by first | kernel_rfl | rfl, ?yz14q12⟩) rfl ?_
            case yz14q12 =>
              intro w' hS
              (subst hS)
              go_simp
              try with_reducible rfl
            try simp only [Act.put, List.getElem_toArray, List.getElem_cons_zero, List.getElem_cons_succ, List.setIfInBounds_toArray, List.set_cons_zero, List.set_cons_succ]
            refine wpAnyH_ready (rs := [13]) (by kernel_rfl) (by simp) ?_
            refine AllReadyH.cons rfl (fun K' hK' => ?_) AllReadyH.nil
            rw [if_pos (by first | kernel_rfl | rfl)]
            go_simp
            refine (l01In_d true _ _ _ _ Hb2.out).mono ?_
            rintro e w' ⟨rfl, rfl⟩
            refine hK'.out _ _ rfl fun hS1 => ?_
            refine wpAnyH_take (i := 14) (v := ?vz15q14) rfl (by kernel_rfl) (by kernel_rfl) (by kernel_rfl) (fun _ _ _ h => h) (.inl ⟨by first | kernel_rfl | rfl, ?yz15q14⟩) rfl ?_
            case yz15q14 =>
              intro w' hS
              (subst hS)
              go_simp
              try with_reducible rfl
            refine wpAnyH_take (i := 15) (v := ?vz15q15) rfl (by kernel_rfl) (by kernel_rfl) (by kernel_rfl) (fun _ _ _ h => h) (.inl ⟨by first | kernel_rfl | rfl, ?yz15q15⟩) rfl ?_
            case yz15q15 =>
              intro w' hS
              (subst hS)
              go_simp
              try with_reducible rfl
            refine wpAnyH_take (i := 16) (v := ?vz15q16) rfl (by kernel_rfl) (by kernel_rfl) (by kernel_rfl) (fun _ _ _ h => h) (.inl ⟨by first | kernel_rfl | rfl, ?yz15q16⟩) rfl ?_
            case yz15q16 =>
              intro w' hS
              (subst hS)
              go_simp
              try with_reducible rfl
            refine wpAnyH_take (i := 17) (v := ?vz15q17) rfl (by kernel_rfl) (by kernel_rfl) (by kernel_rfl) (fun _ _ _ h => h) (.inl ⟨by first | kernel_rfl | rfl, ?yz15q17⟩) rfl ?_
            case yz15q17 =>
              intro w' hS
              (subst hS)
              go_simp
              try with_reducible rfl
            refine wpAnyH_take (i := 18) (v := ?vz15q18) rfl (by kernel_rfl) (by kernel_rfl) (by kernel_rfl) (fun _ _ _ h => h) (.inl ⟨by first | kernel_rfl | rfl, ?yz15q18⟩) rfl ?_
            case yz15q18 =>
              intro w' hS
              (subst hS)
              go_simp
              try with_reducible rfl
            refine wpAnyH_take (i := 19) (v := ?vz15q19) rfl (by kernel_rfl) (by kernel_rfl) (by kernel_rfl) (fun _ _ _ h => h) (.inl ⟨by first | kernel_rfl | rfl, ?yz15q19⟩) rfl ?_
            case yz15q19 =>
              intro w' hS
              (subst hS)
              go_simp
              try with_reducible rfl
            refine wpAnyH_take (i := 20) (v := ?vz15q20) rfl (by kernel_rfl) (by kernel_rfl) (by kernel_rfl) (fun _ _ _ h => h) (.inl ⟨by first | kernel_rfl | rfl, ?yz15q20⟩) rfl ?_
            case yz15q20 =>
              intro w' hS
              (subst hS)
              go_simp
              try with_reducible rfl
            refine wpAnyH_take (i := 21) (v := ?vz15q21) rfl (by kernel_rfl) (by kernel_rfl) (by kernel_rfl) (fun _ _ _ h => h) (.inl ⟨by first | kernel_rfl | rfl, ?yz15q21⟩) rfl ?_
            case yz15q21 =>
              intro w' hS
              (subst hS)
              go_simp
              try with_reducible rfl
            refine wpAnyH_take (i := 22) (v := ?vz15q22) rfl (by kernel_rfl) (by kernel_rfl) (by kernel_rfl) (fun _ _ _ h => h) (.inl ⟨by first | kernel_rfl | rfl, ?yz15q22⟩) rfl ?_
            case yz15q22 =>
              intro w' hS
              (subst hS)
              go_simp
              try with_reducible rfl
            refine wpAnyH_take (i := 23) (v := ?vz15q23) rfl (by kernel_rfl) (by kernel_rfl) (by kernel_rfl) (fun _ _ _ h => h) (.inl ⟨by first | kernel_rfl | rfl, ?yz15q23⟩) rfl ?_
            case yz15q23 =>
              intro w' hS
              (subst hS)
              go_simp
              try with_reducible rfl
            refine wpAnyH_take (i := 24) (v := ?vz15q24) rfl (by kernel_rfl) (by kernel_rfl) (by kernel_rfl) (fun _ _ _ h => h) (.inl ⟨by first | kernel_rfl | rfl, ?yz15q24⟩) rfl ?_
            case yz15q24 =>
              intro w' hS
              (subst hS)
              go_simp
              try with_reducible rfl
            refine wpAnyH_take (i := 25) (v := ?vz15q25) rfl (by kernel_rfl) (by kernel_rfl) (by kernel_rfl) (fun _ _ _ h => h) (.inl ⟨by first | kernel_rfl | rfl, ?yz15q25⟩) rfl ?_
            case yz15q25 =>
              intro w' hS
              (subst hS)
              go_simp
              try with_reducible rfl
            refine wpAnyH_take (i := 26) (v := ?vz15q26) rfl (by kernel_rfl) (by kernel_rfl) (by kernel_rfl) (fun _ _ _ h => h) (.inl ⟨by first | kernel_rfl | rfl, ?yz15q26⟩) rfl ?_
            case yz15q26 =>
              intro w' hS
              (subst hS)
              go_simp
              try with_reducible rfl
            try simp only [Act.put, List.getElem_toArray, List.getElem_cons_zero, List.getElem_cons_succ, List.setIfInBounds_toArray, List.set_cons_zero, List.set_cons_succ]
            refine wpAnyH_ready (rs := [27]) (by kernel_rfl) (by simp) ?_
            refine AllReadyH.cons rfl (fun K' hK' => ?_) AllReadyH.nil
            rw [if_pos (by first | kernel_rfl | rfl)]
            go_simp
            refine (l01In_d true _ _ _ _ Hb3.out).mono ?_
            rintro e w' ⟨rfl, rfl⟩
            refine hK'.out _ _ rfl fun hS1 => ?_
            refine wpAnyH_take (i := 28) (v := ?vz16q28) rfl (by kernel_rfl) (by kernel_rfl) (by kernel_rfl) (fun _ _ _ h => h) (.inl ⟨by first | kernel_rfl | rfl, ?yz16q28⟩) rfl ?_
            case yz16q28 =>
              intro w' hS
              (subst hS)
              go_simp
              try with_reducible rfl
            refine wpAnyH_take (i := 29) (v := ?vz16q29) rfl (by kernel_rfl) (by kernel_rfl) (by kernel_rfl) (fun _ _ _ h => h) (.inl ⟨by first | kernel_rfl | rfl, ?yz16q29⟩) rfl ?_
            case yz16q29 =>
              intro w' hS
              (subst hS)
              go_simp
              try with_reducible rfl
            try simp only [Act.put, List.getElem_toArray, List.getElem_cons_zero, List.getElem_cons_succ, List.setIfInBounds_toArray, List.set_cons_zero, List.set_cons_succ]
            refine wpAnyH_done (by kernel_rfl) ?_ _
            go_wp2
            go_roundw
            case rel => exact ⟨k + 1, by omega, by simp, fun j hj => by by_cases e : j = k; exact e ▸ Hj.out; exact Hall.out j (by omega), Hbx.out, HB.out.drew⟩
            case measure => simp [intOf]; omega
    · obtain rfl : k = ls.length := by omega
      go_wp2
      go_ret
      exact ⟨ret_bool (jobsOk_yes (by omega) (by omega) Hp.out Hd.out Hall.out).symm, hB⟩

end Go.Proofs.Ytbhpflhopajbfaa
