/-
  number.Digit for every byte, and number.HexText for every number; what the laws need of package-level variables.
-/
import Derived.Test.YtbafmiejgpgamaaGreatDoorNFacts
import Derived.Test.YtbafmiejgpgamaaGreatDoorCBlk
import Derived.Below
import Derived.Deep.DeepCutAuto
import Derived.Shelf.Spec.TrailingZeros
import Derived.Shelf.Strconv.Itoa2
import Derived.Lib.AppendIntMem
namespace Go.Proofs.YtbafmiejgpgamaaGreatDoor
open Go.RowKit Go.Sort
def lays727_ren : Go.Shelf.Ren := ⟨fun | 27 => 90 | 28 => 99 | 29 => 100 | n => n, fun | 25 => 78 | 3 => 3 | 27 => 103 | 22 => 61 | 4 => 4 | 53 => 114 | 0 => 0 | 5 => 5 | 54 => 115 | n => n, fun | 0 => 3 | 1 => 4 | n => n⟩
theorem lays727 : Go.Proofs.Lays7.n27 Tryz.prog lays727_ren := {
  mixed := by kernel_rfl
  f27 := Tryz.func90.trans (congrArg some (by kernel_rfl))
  f28 := Tryz.func99.trans (congrArg some (by kernel_rfl))
  f29 := Tryz.func100.trans (congrArg some (by kernel_rfl))
  t0 := Tryz.underlying0
  a0 := Tryz.isAgg0
  z0 := Tryz.sizeOf0
  v0 := Tryz.zeroValue0
  i0 := by kernel_rfl
  t3 := Tryz.underlying3
  a3 := Tryz.isAgg3
  z3 := Tryz.sizeOf3
  v3 := Tryz.zeroValue3
  i3 := by kernel_rfl
  t4 := Tryz.underlying4
  a4 := Tryz.isAgg4
  z4 := Tryz.sizeOf4
  v4 := Tryz.zeroValue4
  i4 := by kernel_rfl
  t5 := Tryz.underlying5
  a5 := Tryz.isAgg5
  z5 := Tryz.sizeOf5
  v5 := Tryz.zeroValue5
  i5 := by kernel_rfl
  t22 := Tryz.underlying61
  a22 := Tryz.isAgg61
  z22 := Tryz.sizeOf61
  v22 := Tryz.zeroValue61
  i22 := by kernel_rfl
  t25 := Tryz.underlying78
  a25 := Tryz.isAgg78
  z25 := Tryz.sizeOf78
  v25 := Tryz.zeroValue78
  i25 := by kernel_rfl
  t27 := Tryz.underlying103
  a27 := Tryz.isAgg103
  z27 := Tryz.sizeOf103
  v27 := Tryz.zeroValue103
  i27 := by kernel_rfl
  t53 := Tryz.underlying114
  a53 := Tryz.isAgg114
  z53 := Tryz.sizeOf114
  v53 := Tryz.zeroValue114
  i53 := by kernel_rfl
  t54 := Tryz.underlying115
  a54 := Tryz.isAgg115
  z54 := Tryz.sizeOf115
  g0 := by kernel_rfl
  g1 := by kernel_rfl }
/-- What the laws need of package-level variables: the library's table of trailing zeros as it is laid, and four values of any kind in package token's variable. -/
structure NTab (w : World) : Prop where
  tz : ∀ j, j < 64 → w.cell? ⟨4, j, none⟩ = some (.int .u8 (Lib.deBruijn64tab.getD j 0))
  vb : ∃ x0 x1 x2 x3 : Value, w.cell? ⟨2, 0, none⟩ = some x0 ∧ w.cell? ⟨2, 1, none⟩ = some x1 ∧ w.cell? ⟨2, 2, none⟩ = some x2 ∧ w.cell? ⟨2, 3, none⟩ = some x3
theorem NTab.below {w w' : World} (h : NTab w) (hb : Below w.heap.size w w') : NTab w' := by
  refine ⟨fun j hj => (hb.cell (p := ⟨4, j, none⟩) (block_lt_of_cell (h.tz j hj))).trans (h.tz j hj), ?_⟩
  obtain ⟨x0, x1, x2, x3, h0, h1, h2, h3⟩ := h.vb
  exact ⟨x0, x1, x2, x3, (hb.cell (p := ⟨2, 0, none⟩) (block_lt_of_cell h0)).trans h0, (hb.cell (p := ⟨2, 1, none⟩) (block_lt_of_cell h1)).trans h1, (hb.cell (p := ⟨2, 2, none⟩) (block_lt_of_cell h2)).trans h2, (hb.cell (p := ⟨2, 3, none⟩) (block_lt_of_cell h3)).trans h3⟩
theorem tz16_any (w : World) (hT : NTab w) :
    Calls Tryz.prog 90 #[.int .u64 16] w fun e w' => e = .returned (.int .i64 4) ∧ w = w' :=
  (Any7.bits_TrailingZeros lays727 16 (by omega) w (fun _ j hj => hT.tz j (Nat.lt_of_lt_of_eq hj (by decide)))).mono fun _ _ ⟨h1, h2⟩ => ⟨h1.trans (congrArg (fun n : Nat => Ending.returned (.int .i64 (n : Int))) (show Lib.ctz 64 16 = 4 by decide +kernel)), h2.symm⟩
/-- What Digit answers. -/
def digitV (hex : Bool) (n : Nat) : Value := if valN hex n < 0 then .tuple #[.int .i64 0, .int .i64 3] else .tuple #[.int .i64 (valN hex n), .int .i64 0]
set_option maxHeartbeats 1000000 in
theorem digit_eq (n : Nat) (hn : n < 256) (hex : Bool) (w : World) :
    Calls Tryz.prog 81 #[.int .u8 (n : Int), .bool hex] w fun e w' => e = .returned (digitV hex n) ∧ w = w' := by
  have h : (48 ≤ n ∧ n ≤ 57) ∨ (97 ≤ n ∧ n ≤ 102) ∨ (65 ≤ n ∧ n ≤ 70) ∨ n < 48 ∨ (57 < n ∧ n < 65) ∨ (70 < n ∧ n < 97) ∨ 102 < n := by omega
  obtain ⟨v, hv⟩ : ∃ v, digitV hex n = v := ⟨_, rfl⟩
  rw [hv]
  have q1 : 48 ≤ n → n ≤ 57 → IntKind.u8.wrap ((n : Int) - 48) = (n : Int) - 48 := by intros; simp only [IntKind.wrap, IntKind.bits, IntKind.signed]; simp; omega
  have q2 : 97 ≤ n → n ≤ 102 → IntKind.u8.wrap ((n : Int) - 97) = (n : Int) - 97 := by intros; simp only [IntKind.wrap, IntKind.bits, IntKind.signed]; simp; omega
  have q3 : 65 ≤ n → n ≤ 70 → IntKind.u8.wrap ((n : Int) - 65) = (n : Int) - 65 := by intros; simp only [IntKind.wrap, IntKind.bits, IntKind.signed]; simp; omega
  have q4 : 48 ≤ n → n ≤ 57 → IntKind.i64.wrap ((n : Int) - 48) = (n : Int) - 48 := by intros; simp only [IntKind.wrap, IntKind.bits, IntKind.signed]; simp; omega
  have q5 : 97 ≤ n → n ≤ 102 → IntKind.i64.wrap ((n : Int) - 97) = (n : Int) - 97 := by intros; simp only [IntKind.wrap, IntKind.bits, IntKind.signed]; simp; omega
  have q6 : 65 ≤ n → n ≤ 70 → IntKind.i64.wrap ((n : Int) - 65) = (n : Int) - 65 := by intros; simp only [IntKind.wrap, IntKind.bits, IntKind.signed]; simp; omega
  have q7 : 97 ≤ n → n ≤ 102 → IntKind.i64.wrap ((n : Int) - 97 + 10) = (n : Int) - 97 + 10 := by intros; simp only [IntKind.wrap, IntKind.bits, IntKind.signed]; simp; omega
  have q8 : 65 ≤ n → n ≤ 70 → IntKind.i64.wrap ((n : Int) - 65 + 10) = (n : Int) - 65 + 10 := by intros; simp only [IntKind.wrap, IntKind.bits, IntKind.signed]; simp; omega
  cases hex
  all_goals
    rcases h with h | h | h | h | h | h | h
    all_goals
      unfold digitV valN at hv
      first
        | (rw [if_pos (by omega : 48 ≤ n ∧ n ≤ 57), if_neg (by omega)] at hv)
        | (rw [if_neg (by omega : ¬ (48 ≤ n ∧ n ≤ 57)), if_pos (⟨rfl, by omega⟩ : true = true ∧ 97 ≤ n ∧ n ≤ 102), if_neg (by omega)] at hv)
        | (rw [if_neg (by omega : ¬ (48 ≤ n ∧ n ≤ 57)), if_neg (fun h => by have := h.2; omega : ¬ (true = true ∧ 97 ≤ n ∧ n ≤ 102)), if_pos (⟨rfl, by omega⟩ : true = true ∧ 65 ≤ n ∧ n ≤ 70), if_neg (by omega)] at hv)
        | (rw [if_neg (by omega : ¬ (48 ≤ n ∧ n ≤ 57)), if_neg (fun h => by have := h.2; omega : ¬ (true = true ∧ 97 ≤ n ∧ n ≤ 102)), if_neg (fun h => by have := h.2; omega : ¬ (true = true ∧ 65 ≤ n ∧ n ≤ 70)), if_pos (by omega)] at hv)
        | (rw [if_neg (by omega : ¬ (48 ≤ n ∧ n ≤ 57)), if_neg (by simp : ¬ (false = true ∧ 97 ≤ n ∧ n ≤ 102)), if_neg (by simp : ¬ (false = true ∧ 65 ≤ n ∧ n ≤ 70)), if_pos (by omega)] at hv)
      have HV2 := Lib.hid hv
      clear hv
      first | have a3 : decide ((48 : Int) ≤ (n : Int)) = true := decide_eq_true (by omega) | have a3 : decide ((48 : Int) ≤ (n : Int)) = false := decide_eq_false (by omega)
      first | have a4 : decide ((n : Int) ≤ 57) = true := decide_eq_true (by omega) | have a4 : decide ((n : Int) ≤ 57) = false := decide_eq_false (by omega)
      first | have a1 : decide ((97 : Int) ≤ (n : Int)) = true := decide_eq_true (by omega) | have a1 : decide ((97 : Int) ≤ (n : Int)) = false := decide_eq_false (by omega)
      first | have a2 : decide ((n : Int) ≤ 102) = true := decide_eq_true (by omega) | have a2 : decide ((n : Int) ≤ 102) = false := decide_eq_false (by omega)
      first | have a5 : decide ((65 : Int) ≤ (n : Int)) = true := decide_eq_true (by omega) | have a5 : decide ((65 : Int) ≤ (n : Int)) = false := decide_eq_false (by omega)
      first | have a6 : decide ((n : Int) ≤ 70) = true := decide_eq_true (by omega) | have a6 : decide ((n : Int) ≤ 70) = false := decide_eq_false (by omega)
      first | (have b1 := q1 (by omega) (by omega); have b2 := q4 (by omega) (by omega); clear q1 q2 q3 q4 q5 q6 q7 q8) | (have b1 := q2 (by omega) (by omega); have b2 := q5 (by omega) (by omega); have b3 := q7 (by omega) (by omega); clear q1 q2 q3 q4 q5 q6 q7 q8) | (have b1 := q3 (by omega) (by omega); have b2 := q6 (by omega) (by omega); have b3 := q8 (by omega) (by omega); clear q1 q2 q3 q4 q5 q6 q7 q8) | clear q1 q2 q3 q4 q5 q6 q7 q8
      go_enter Tryz.func81, Tryz.ntmps81
      go_wp2_with fail
      go_ret2
      refine ⟨?_, rfl⟩
      rw [← HV2.out]
      first
        | rfl
        | (rw [show (n : Int) - 97 + 10 = (n : Int) - 87 by omega]; rfl)
        | (rw [show (n : Int) - 65 + 10 = (n : Int) - 55 by omega]; rfl)
/-- What Digit answers of a byte that is a digit, and of one that is none. -/
theorem digitV_yes {hex : Bool} {b : UInt8} (h : isD hex b = true) : digitV hex b.toNat = .tuple #[.int .i64 (digN hex b : Int), .int .i64 0] := by
  unfold digitV
  have := valN_yes h
  rw [if_neg (by omega), this]
theorem digitV_no {hex : Bool} {b : UInt8} (h : isD hex b = false) : digitV hex b.toNat = .tuple #[.int .i64 0, .int .i64 3] := by
  unfold digitV
  have := valN_no h
  rw [if_pos (by omega)]
theorem mask15 (a : Nat) (ha : a < 18446744073709551616) : bits .and .u64 (a : Int) 15 = ((a % 16 : Nat) : Int) := by
  have h := bits_and_u64_nat a 15 ha (by omega)
  have e : a &&& 15 = a % 16 := Nat.and_two_pow_sub_one_eq_mod a 4
  rw [e] at h
  exact h
/-- The library's digits. -/
def digA : List UInt8 := [48, 49, 50, 51, 52, 53, 54, 55, 56, 57, 97, 98, 99, 100, 101, 102, 103, 104, 105, 106, 107, 108, 109, 110, 111, 112, 113, 114, 115, 116, 117, 118, 119, 120, 121, 122]
theorem digA_at : ∀ a : Fin 16, digA[a.val]? = some (digC a.val) := by decide +kernel
def byteV (b : UInt8) : Value := .int .u8 (b.toNat : Int)
def zero8 : Value := .int .u8 0
/-- The array's cells when T is written at its end. -/
def cells65 (k : Nat) (T : List UInt8) : List Value := List.replicate k zero8 ++ T.map byteV
theorem cells65_set (k : Nat) (T : List UInt8) (c : UInt8) : (cells65 (k + 1) T).set k (byteV c) = cells65 k (c :: T) := by
  unfold cells65
  rw [List.replicate_succ', List.append_assoc, List.set_append_right _ _ (by simp)]
  simp
theorem cells65_length (k : Nat) (T : List UInt8) : (cells65 k T).length = k + T.length := by simp [cells65]
theorem cells65_low {k j : Nat} (T : List UInt8) (h : j < k) : (cells65 k T)[j]? = some zero8 := by
  unfold cells65
  rw [List.getElem?_append_left (by simpa using h)]
  simp [h]
theorem cells65_high {k j : Nat} (T : List UInt8) (h : j < T.length) : (cells65 k T)[k + j]? = some (byteV T[j]) := by
  unfold cells65
  rw [List.getElem?_append_right (by simp)]
  simp [h]
theorem cell65 {t : TypeId} {w : World} {B : Nat} {cs : List Value} (h : CBlk t w B cs) {i : Nat} {v : Value} (hi : cs[i]? = some v) : w.cell? ⟨B, i, none⟩ = some v := by
  obtain ⟨hl, e⟩ := List.getElem?_eq_some_iff.1 hi
  rw [h.cell i hl, e]
theorem pow2_any (w : World) :
    Calls Tryz.prog 89 #[.int .i64 16] w fun e w' => e = .returned (.bool true) ∧ w = w' := by
  have m1 : bits .and .i64 16 15 = 0 := by decide +kernel
  go_enter Tryz.func89, Tryz.ntmps89
  go_wp2_with fail
  go_ret
  exact ⟨rfl, rfl⟩
set_option maxHeartbeats 6400000 in
set_option maxRecDepth 100000 in
theorem bits16 (n : Nat) (hn : n < U64) (w : World) (hT : NTab w) :
    Calls Tryz.prog 76 #[.slice none 0 0, .int .u64 (n : Int), .int .i64 16, .bool false, .bool false] w fun e w' => e = .returned (.tuple #[.slice none 0 0, .string ⟨(digL 16 n).toArray⟩]) ∧ Below w.heap.size w w' := by
  obtain ⟨R, hR⟩ : ∃ R, digL 16 n = R := ⟨_, rfl⟩
  rw [hR]
  have hRl := (digF_length 16 64 n).2
  rw [show digF 16 64 n = R from hR] at hRl
  have HR := Lib.hid hR
  have hal : Tryz.prog.arrayLen 104 = 65 := by simp [Program.arrayLen, Tryz.underlying104]
  have HAL := Lib.hid hal
  clear hR hal
  go_enter Tryz.func76, Tryz.ntmps76
  go_wp2_with fail
  refine (pow2_any _).mono ?_
  rintro e w' ⟨rfl, rfl⟩
  go_wp2_with fail
  refine (tz16_any _ (hT.below (by go_grown))).mono ?_
  rintro e w' ⟨rfl, rfl⟩
  go_wp2_with fail
  go_loopw [1, 13] (fun u i wr => ∃ (m k : Nat) (T : List UInt8), u = .int .u64 (m : Int) ∧ i = .int .i64 (k : Int) ∧ m < U64 ∧ k + T.length = 65 ∧ Hid (digL 16 m ++ T = R) ∧ CBlk 104 wr w.heap.size (cells65 k T) ∧ Below w.heap.size w wr) (fun u _ _ => (intOf u).toNat)
  case atStart =>
    refine ⟨n, 65, [], rfl, rfl, hn, rfl, Lib.hid (by rw [List.append_nil]; exact HR.out), CBlk.new _ w (cells65 65 []), ?_⟩
    go_grown
  case round =>
    obtain ⟨m, k, T, rfl, rfl, hm, hk, hd, hC, hB⟩ := hrel
    have hst := digL_step (base := 16) (by omega) hm
    have hla := (digF_length 16 64 m).1
    have hle : (digL 16 m).length + T.length = R.length := by rw [← hd.out, List.length_append]
    have hle1 : 0 < (digL 16 m).length := hla
    obtain ⟨j, rfl⟩ : ∃ j, k = j + 1 := ⟨k - 1, by omega⟩
    have HD := Lib.hid hd.out
    have hc0 := cell65 hC (cells65_low T (Nat.lt_succ_self j))
    unfold zero8 at hc0
    have hf0 := hC.free j
    have mk := mask15 m (by unfold U64 at hm; omega)
    obtain ⟨a, ha⟩ : ∃ a, m % 16 = a := ⟨_, rfl⟩
    have ha16 : a < 16 := by rw [← ha]; exact Nat.mod_lt _ (by omega)
    rw [ha] at mk hst
    have hdg := digA_at ⟨a, ha16⟩
    have q1 : IntKind.i64.wrap (((j + 1 : Nat) : Int) - 1) = (j : Int) := by rw [IntKind.wrap_i64]; omega
    have hj65 : j < 65 := by omega
    have hset : CBlk 104 (wr.setCell ⟨w.heap.size, j, none⟩ (.int .u8 ((digC a).toNat : Int))) w.heap.size (cells65 j (digC a :: T)) := by
      have := hC.set j (byteV (digC a))
      rw [cells65_set] at this
      exact this
    obtain ⟨x, hx⟩ : ∃ x, digC a = x := ⟨_, rfl⟩
    rw [hx] at hset hst
    have hdg2 : digA[a]? = some x := by rw [← hx]; exact hdg
    have hlt36 : a < 36 := by omega
    have hget : ∀ h : a < (ByteArray.mk #[48, 49, 50, 51, 52, 53, 54, 55, 56, 57, 97, 98, 99, 100, 101, 102, 103, 104, 105, 106, 107, 108, 109, 110, 111, 112, 113, 114, 115, 116, 117, 118, 119, 120, 121, 122]).size, (ByteArray.mk #[48, 49, 50, 51, 52, 53, 54, 55, 56, 57, 97, 98, 99, 100, 101, 102, 103, 104, 105, 106, 107, 108, 109, 110, 111, 112, 113, 114, 115, 116, 117, 118, 119, 120, 121, 122])[a]'h = x := fun h => by
      obtain ⟨hl, e⟩ := List.getElem?_eq_some_iff.1 hdg2
      exact e
    have hBs : Below w.heap.size w (wr.setCell ⟨w.heap.size, j, none⟩ (.int .u8 (x.toNat : Int))) := hB.setCell (Nat.le_refl _) _
    rw [hx] at hdg
    clear hx hdg2 hd
    have HX := Lib.hid hset
    have HBS := Lib.hid hBs
    clear hset hBs
    by_cases hlt : m < 16
    · obtain rfl : a = m := by omega
      have d1 : decide ((16 : Int) ≤ (a : Int)) = false := decide_eq_false (by omega)
      have hres : Hid (R = x :: T) := Lib.hid (by rw [← HD.out, hst, if_pos hlt]; rfl)
      have hlen : (x :: T).length = 65 - j := by simp; omega
      have hsl : ∀ W, (Instr.sliceAt 104 (.pointer (some ⟨w.heap.size, 0, none⟩)) (some (.int .i64 (j : Int))) none none).run Tryz.prog W = .ok (.slice (some ⟨w.heap.size, j, none⟩) (65 - j) (65 - j)) W := fun W => by
        rw [run_sliceAt_array_l W 104 ⟨w.heap.size, 0, none⟩ (by simp [Program.arrayLen, Program.elem, Tryz.underlying104]) .i64 (j : Int) (by omega) (by rw [HAL.out]; omega), HAL.out]
        go_simp
        intro h
        omega
      have hcv : (convert 53 9 (.slice (some ⟨w.heap.size, j, none⟩) (65 - j) (65 - j))).run Tryz.prog (wr.setCell ⟨w.heap.size, j, none⟩ (.int .u8 (x.toNat : Int))) = .ok (.string ⟨(x :: T).toArray⟩) (wr.setCell ⟨w.heap.size, j, none⟩ (.int .u8 (x.toNat : Int))) := by
        have h := run_convert_bytes_back (P := Tryz.prog) (wr.setCell ⟨w.heap.size, j, none⟩ (.int .u8 (x.toNat : Int))) 53 9 5 ⟨w.heap.size, j, none⟩ (65 - j) (x :: T) Tryz.underlying53 Tryz.underlying5 Tryz.underlying9 (fun i hi => by
          rw [Lib.add_plain]
          exact cell65 HX.out (cells65_high (x :: T) hi))
        rw [hlen] at h
        exact h
      clear hst hdg HD ha hle hle1 hla hlen
      go_wp2_with fail
      go_ret2
      exact ⟨by rw [hres.out]; rfl, HBS.out⟩
    · have d1 : decide ((16 : Int) ≤ (m : Int)) = true := decide_eq_true (by omega)
      have hnext : Hid (digL 16 (m / 16) ++ (x :: T) = R) := Lib.hid (by rw [← HD.out, hst, if_neg hlt]; simp)
      clear hst hdg HD ha hle hle1 hla
      go_wp2_with fail
      go_roundw
      case rel => exact ⟨m / 16, j, x :: T, by go_num, rfl, by omega, by simp; omega, hnext, HX.out, HBS.out⟩
      case measure => simp [intOf]; omega
set_option maxHeartbeats 1000000 in
theorem format16 (n : Nat) (hn : n < U64) (w : World) (hT : NTab w) :
    Calls Tryz.prog 63 #[.int .u64 (n : Int), .int .i64 16] w fun e w' => e = .returned (.string ⟨(digL 16 n).toArray⟩) ∧ Below w.heap.size w w' := by
  go_enter Tryz.func63, Tryz.ntmps63
  go_wp2_with fail
  refine (bits16 n hn _ hT).mono ?_
  rintro e w' ⟨rfl, hb⟩
  go_wp2_with fail
  go_ret
  exact ⟨rfl, hb⟩
set_option maxHeartbeats 1000000 in
theorem public16 (n : Nat) (hn : n < U64) (w : World) (hT : NTab w) :
    Calls Tryz.prog 46 #[.int .u64 (n : Int), .int .i64 16] w fun e w' => e = .returned (.string ⟨(digL 16 n).toArray⟩) ∧ Below w.heap.size w w' := by
  go_enter Tryz.func46, Tryz.ntmps46
  go_wp2_with fail
  refine (format16 n hn _ hT).mono ?_
  rintro e w' ⟨rfl, hb⟩
  go_wp2_with fail
  go_ret
  exact ⟨rfl, hb⟩
set_option maxHeartbeats 1000000 in
theorem hexText_any (n : Nat) (hn : n < U64) (w : World) (hT : NTab w) :
    Calls Tryz.prog 32 #[.int .u64 (n : Int)] w fun e w' => e = .returned (.string ⟨(digL 16 n).toArray⟩) ∧ Below w.heap.size w w' := by
  go_enter Tryz.func32, Tryz.ntmps32
  go_wp2_with fail
  refine (public16 n hn _ hT).mono ?_
  rintro e w' ⟨rfl, hb⟩
  go_wp2_with fail
  go_ret
  exact ⟨rfl, hb⟩
end Go.Proofs.YtbafmiejgpgamaaGreatDoor
