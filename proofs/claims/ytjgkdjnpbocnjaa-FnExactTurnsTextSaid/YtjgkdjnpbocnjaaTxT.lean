/-
  TurnsText of both.
  Conditions: lists of at most 1048576 elements.
-/
import Derived.Test.YtjgkdjnpbocnjaaTxI
namespace Go.Proofs.Ytjgkdjnpbocnjaa
open Go.RowKit Go.Shelf
attribute [local go_sem] Oper.semAt_some

def ttR (ts : List Int) : ByteArray := if turnsOk ts 8 then textL ts else ⟨#[]⟩
def ttC (ts : List Int) : Int := if turnsOk ts 8 then 0 else 2
theorem ret_st {a a' : ByteArray} {b b' : Int} (h : a = a') (k : b = b') : Ending.returned (.tuple #[.string a, .int .i64 b]) = .returned (.tuple #[.string a', .int .i64 b']) := by rw [h, k]

set_option maxRecDepth 100000 in
set_option maxHeartbeats 8000000 in
theorem i_TurnsText (c0 : Value) (ts : List Int) (w : World) (hI : Ints w.heap.size w c0 ts) (_hN : I64s ts) (hm : ts.length ≤ 1048576) :
    Calls Try.prog 16 #[c0] w fun e w' => e = .returned (.tuple #[.string (ttR ts), .int .i64 (ttC ts)]) ∧ Below w.heap.size w w' := by
  obtain ⟨a, cap, rfl⟩ := hI.shape
  go_enter Try.func16, Try.ntmps16
  go_wp2_with fail
  refine (areTurns_c _ ts 8 _ hI (by omega)).mono ?_
  rintro e w1 ⟨rfl, hb⟩
  cases ht : turnsOk ts 8
  · have Hr := Lib.hid (show ttR ts = ⟨#[]⟩ by unfold ttR; rw [ht]; rfl)
    have Hc := Lib.hid (show ttC ts = 2 by unfold ttC; rw [ht]; rfl)
    clear ht
    go_wp2
    go_ret2
    exact ⟨ret_st Hr.out.symm Hc.out.symm, hb⟩
  · have Hr := Lib.hid (show ttR ts = textL ts by unfold ttR; rw [ht]; rfl)
    have Hc := Lib.hid (show ttC ts = 0 by unfold ttC; rw [ht]; rfl)
    have Ht := Lib.hid ht
    clear ht
    go_wp2_with fail
    refine (textOfTurns_c _ ts _ (hI.later hb) hm (fun k hk => by have := turnsOk_nth Ht.out hk; omega)).mono ?_
    rintro e w2 ⟨rfl, hb2⟩
    go_wp2
    go_ret2
    exact ⟨ret_st Hr.out.symm Hc.out.symm, hb.trans (hb2.mono hb.size)⟩

set_option maxRecDepth 100000 in
set_option maxHeartbeats 8000000 in
theorem s_TurnsText (c0 : Value) (ts : List Int) (w : World) (hI : Ints w.heap.size w c0 ts) (_hN : I64s ts) (hm : ts.length ≤ 1048576) :
    Calls Try.prog 15 #[c0] w fun e w' => e = .returned (.tuple #[.string (ttR ts), .int .i64 (ttC ts)]) ∧ Below w.heap.size w w' := by
  obtain ⟨a, cap, rfl⟩ := hI.shape
  go_enter Try.func15, Try.ntmps15
  go_wp2_with fail
  refine (l01Turns_c _ ts 8 _ hI (by omega) (by omega) (by omega)).mono ?_
  rintro e w1 ⟨rfl, rfl⟩
  cases ht : turnsOk ts 8
  · have Hr := Lib.hid (show ttR ts = ⟨#[]⟩ by unfold ttR; rw [ht]; rfl)
    have Hc := Lib.hid (show ttC ts = 2 by unfold ttC; rw [ht]; rfl)
    clear ht
    go_wp2
    go_ret2
    exact ⟨ret_st Hr.out.symm Hc.out.symm, Below.refl _ _⟩
  · have Hr := Lib.hid (show ttR ts = textL ts by unfold ttR; rw [ht]; rfl)
    have Hc := Lib.hid (show ttC ts = 0 by unfold ttC; rw [ht]; rfl)
    have Ht := Lib.hid ht
    clear ht
    go_wp2_with fail
    refine (l01Text_c _ ts _ hI (by have := turnsOk_len Ht.out; omega) hm (fun k hk => by have := turnsOk_nth Ht.out hk; omega)).mono ?_
    rintro e w2 ⟨rfl, hb2⟩
    go_wp2
    go_ret2
    exact ⟨ret_st Hr.out.symm Hc.out.symm, hb2⟩

end Go.Proofs.Ytjgkdjnpbocnjaa
