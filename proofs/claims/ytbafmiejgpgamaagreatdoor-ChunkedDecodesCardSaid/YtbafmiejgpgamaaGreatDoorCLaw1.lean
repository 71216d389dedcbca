/-
  The law ChunkedDecodes, for every text.
-/
import Derived.Test.YtbafmiejgpgamaaGreatDoorCAwake
import Derived.Test.YtbafmiejgpgamaaGreatDoorCRefF
namespace Go.Proofs.YtbafmiejgpgamaaGreatDoor
open Go.RowKit
set_option maxHeartbeats 8000000 in
theorem decodes_law (l : List UInt8) (w : World) (hN : NTab w) :
    Calls Tryz.prog 3 #[.string ⟨l.toArray⟩] w fun e w' => e = .returned (.bool true) ∧ Below w.heap.size w w' := by
  by_cases hl : 3000 < l.length
  · have a1 : decide ((3000 : Int) < (l.length : Int)) = true := decide_eq_true (by omega)
    have a2 : decide (3000 < l.length) = true := decide_eq_true hl
    have HA := Lib.hid (awake_any w hN)
    clear hl hN
    go_enter Tryz.func3, Tryz.ntmps3
    go_wp2_with fail
    refine HA.out.mono ?_
    rintro e w1 ⟨rfl, hb⟩
    go_wp2_with fail
    go_ret
    exact ⟨rfl, hb⟩
  · have a1 : decide ((3000 : Int) < (l.length : Int)) = false := decide_eq_false (by omega)
    have a2 : decide (3000 < l.length) = false := decide_eq_false hl
    have HD := Lib.hid fun W h => decode_any l (by omega) W h
    have HR := Lib.hid fun W => refDecode_any l (by omega) W
    obtain ⟨b, n, s, hd⟩ : ∃ b n s, dcdR l = (b, n, s) := ⟨_, _, _, rfl⟩
    have HV : Hid (dcdV l = .tuple #[.string ⟨b.toArray⟩, .int .i64 (n : Nat), .int .i64 (s : Nat)]) := Lib.hid (by unfold dcdV; rw [hd])
    have hb : (b == b) = true := by simp
    have HN := Lib.hid hN
    clear hd hl hN
    go_enter Tryz.func3, Tryz.ntmps3
    go_wp2_with fail
    refine (HD.out w HN.out).mono ?_
    rintro e w1 ⟨rfl, hb1⟩
    rw [HV.out]
    go_wp2_with fail
    refine (HR.out w1).mono ?_
    rintro e w2 ⟨rfl, hb2⟩
    rw [HV.out]
    have hB2 := hb1.trans (hb2.mono hb1.size)
    go_wp2_with fail
    refine (awake_any w2 (HN.out.below hB2)).mono ?_
    rintro e w3 ⟨rfl, hb3⟩
    go_wp2_with fail
    go_ret
    exact ⟨by first | rfl | simp, hB2.trans (hb3.mono hB2.size)⟩
end Go.Proofs.YtbafmiejgpgamaaGreatDoor
