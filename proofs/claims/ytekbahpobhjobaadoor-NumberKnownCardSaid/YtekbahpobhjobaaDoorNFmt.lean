/-
  The program's DecText and HexText: strconv.FormatUint in base 10 and in base 16, for every number.
-/
import Derived.Test.YtekbahpobhjobaaDoorNLay
import Derived.Test.YtekbahpobhjobaaDoorCBlk
import Derived.Test.YtekbahpobhjobaaDoorNWrite
import Derived.Deep.DeepCutAuto
namespace Go.Proofs.YtekbahpobhjobaaDoor
open Go.RowKit Go.Sort
/-- The digits in base 10, as the library's contracts say them. -/
theorem digC_byte : ∀ a : Fin 10, digC a.val = UInt8.ofNat (48 + a.val) := by decide +kernel
theorem decDigits_is : ∀ n, n < U64 → Lib.decDigits n = digL 10 n := by
  intro n
  induction n using Nat.strongRecOn with
  | _ n ih =>
    intro hn
    rw [digL_step (by omega) hn, Lib.decDigits]
    by_cases h : n < 10
    · rw [dif_pos h, if_pos h, Nat.mod_eq_of_lt h, digC_byte ⟨n, h⟩]
    · rw [dif_neg h, if_neg h, ih (n / 10) (by omega) (by omega), digC_byte ⟨n % 10, Nat.mod_lt _ (by omega)⟩]
theorem below_put (w : World) (o : Obj) (dk : Array UInt8) (k : Nat) : Below w.heap.size w ((putRow (fun (b : UInt8) => Value.int .u8 (b.toNat : Int)) (w.alloc o) w.heap.size 0 dk).drewN k) := by
  have e : ∃ os, (putRow (fun (b : UInt8) => Value.int .u8 (b.toNat : Int)) (w.alloc o) w.heap.size 0 dk).drewN k = grow (w.drewN k) os := by
    rw [alloc_eq_grow]
    obtain ⟨os', _, e⟩ := putRow_grow_new (fun (b : UInt8) => Value.int .u8 (b.toNat : Int)) w #[o] w.heap.size 0 dk (Nat.le_refl _)
    exact ⟨os', by rw [e]; rfl⟩
  obtain ⟨os, e⟩ := e
  rw [e]
  refine ⟨rfl, rfl, rfl, by simp [grow], fun j hj => ?_⟩
  show ((w.drewN k).heap ++ os)[j]? = w.heap[j]?
  rw [Array.getElem?_append_left (by simpa using hj)]
  rfl
theorem holds_zero0 (w : World) (T : TypeId) (nd : Nat) (hs : nd ≤ 24) : Holds (fun (b : UInt8) => Value.int .u8 (b.toNat : Int)) (w.alloc (.cells Lib.zeros24 T)) w.heap.size 0 (Array.replicate nd (0 : UInt8)) := fun j hj => by
  have hj' : j < nd := by simpa using hj
  refine ⟨?_, World.frozen?_alloc_new _ _ _ _⟩
  rw [World.cell?_alloc_new, Lib.zeros24_at _ (by omega), getElem!_pos _ j hj]
  simp
set_option maxHeartbeats 6400000 in
set_option maxRecDepth 100000 in
theorem format10 (u : Nat) (hu64 : u < U64) (w : World) (hT : NTab w) :
    Calls Tryd.prog 43 #[.int .u64 (u : Int), .int .i64 10] w fun e w' => e = .returned (.string ⟨(digL 10 u).toArray⟩) ∧ Below w.heap.size w w' := by
  rw [← decDigits_is u hu64]
  unfold U64 at hu64
  by_cases hs : u < 100
  · have d1 : decide ((u : Int) < 100) = true := decide_eq_true (by omega)
    have q1 : IntKind.i64.wrap (u : Int) = (u : Int) := by rw [IntKind.wrap_i64]; omega
    obtain ⟨R, hR⟩ : ∃ R, Lib.decDigits u = R := ⟨_, rfl⟩
    have HR := Lib.hid hR
    go_enter Tryd.func43, Tryd.ntmps43
    go_wp2_with fail
    refine (small_any u hs _).mono ?_
    rintro e w' ⟨rfl, rfl⟩
    rw [HR.out]
    go_wp2_with fail
    go_ret
    exact ⟨by rw [HR.out]; rfl, Below.refl _ _⟩
  · have hu1 : 1 ≤ u := by omega
    have hnd20 : Lib.nDigits u ≤ 20 := by have := Lib.numDigits_eq u hu1 hu64; split at this <;> omega
    have d1 : decide ((u : Int) < 100) = false := decide_eq_false (by omega)
    have hal : Tryd.prog.arrayLen 68 = 24 := by simp [Program.arrayLen, Tryd.underlying68]
    have hH0 := holds_zero0 w 68 (Lib.nDigits u) (by omega)
    have hfmt := Any.internal_strconv_formatBase10 lays285 w.heap.size 0 24 u (Array.replicate (Lib.nDigits u) 0) (w.alloc (.cells Lib.zeros24 68)) hH0 (by rw [Array.size_replicate]; exact Lib.lt_pow_nDigits u) hu64 (by rw [Array.size_replicate]; omega)
    rw [Array.size_replicate] at hfmt
    have HH0 := Lib.hid hH0
    have hnum := fun W h => numDigits_any u hu1 (by unfold U64; omega) W h
    have hlen : (Lib.decDigits u).length = Lib.nDigits u := Lib.decDigits_length u
    have hrow : ∀ (v' : Nat) (dk : Array UInt8), Lib.FmtInv (Lib.nDigits u) u 0 v' dk → (∀ (j : Nat) (hj : j < (Lib.decDigits u).length), (Lib.decDigits u)[j] = dk[j]!) ∧ dk.size = Lib.nDigits u := fun v' dk hF => ⟨fun j hj => Lib.row_is_numeral hF j hj, hF.size⟩
    obtain ⟨R, hR⟩ : ∃ R, Lib.decDigits u = R := ⟨_, rfl⟩
    rw [hR] at hlen hrow
    have HR := Lib.hid hR
    obtain ⟨nd, hnd⟩ : ∃ nd, Lib.nDigits u = nd := ⟨_, rfl⟩
    rw [hnd] at hnum hfmt hlen hrow hnd20 HH0
    have HF := Lib.hid hfmt
    have HROW := Lib.hid hrow
    have HLEN := Lib.hid hlen
    have hsl : ∀ W, (Instr.sliceAt 68 (.pointer (some ⟨w.heap.size, 0, none⟩)) none (some (.int .i64 (nd : Int))) none).run Tryd.prog W = .ok (.slice (some ⟨w.heap.size, 0, none⟩) nd 24) W := fun W => by
      rw [run_sliceAt_array_h W 68 ⟨w.heap.size, 0, none⟩ (by simp [Program.arrayLen, Program.elem, Tryd.underlying68]) .i64 (nd : Int) (by omega) (by rw [hal]; omega)]
      go_simp
    clear hH0 hal hR hlen hrow hfmt hnd
    go_enter Tryd.func43, Tryd.ntmps43
    go_wp2_with fail
    refine (hnum _ (Lib.tabIs_alloc hT.pow _)).mono ?_
    rintro e w' ⟨rfl, rfl⟩
    go_wp2_with fail
    refine HF.out.mono ?_
    rintro e w' ⟨rfl, k, v', dk, rfl, hFI⟩
    obtain ⟨r1, r2⟩ := HROW.out v' dk hFI
    have hcv : (convert 37 9 (.slice (some ⟨w.heap.size, 0, none⟩) nd 24)).run Tryd.prog ((putRow (fun (b : UInt8) => Value.int .u8 (b.toNat : Int)) (w.alloc (.cells Lib.zeros24 68)) w.heap.size 0 dk).drewN k) = .ok (.string ⟨R.toArray⟩) ((putRow (fun (b : UInt8) => Value.int .u8 (b.toNat : Int)) (w.alloc (.cells Lib.zeros24 68)) w.heap.size 0 dk).drewN k) := by
      have h := run_convert_bytes_back (P := Tryd.prog) ((putRow (fun (b : UInt8) => Value.int .u8 (b.toNat : Int)) (w.alloc (.cells Lib.zeros24 68)) w.heap.size 0 dk).drewN k) 37 9 5 ⟨w.heap.size, 0, none⟩ 24 R Tryd.underlying37 Tryd.underlying5 Tryd.underlying9 (fun j hj => by
        rw [r1 j hj, Lib.add_plain, World.cell?_drewN]
        exact cell?_putRow (fun (b : UInt8) => Value.int .u8 (b.toNat : Int)) _ w.heap.size 0 _ dk HH0.out (by rw [r2, Array.size_replicate]) j (by rw [r2, ← HLEN.out]; exact hj))
      rw [HLEN.out] at h
      exact h
    have hfin := below_put w (.cells Lib.zeros24 68) dk k
    have HFIN := Lib.hid hfin
    clear hfin hFI r1 r2
    go_wp2_with fail
    go_ret
    exact ⟨by rw [HR.out]; rfl, HFIN.out⟩
theorem mask15 (a : Nat) (ha : a < 18446744073709551616) : bits .and .u64 (a : Int) 15 = ((a % 16 : Nat) : Int) := by
  have h := bits_and_u64_nat a 15 ha (by omega)
  have e : a &&& 15 = a % 16 := Nat.and_two_pow_sub_one_eq_mod a 4
  rw [e] at h
  exact h
/-- The library's digits. -/
def digA : List UInt8 := [48, 49, 50, 51, 52, 53, 54, 55, 56, 57, 97, 98, 99, 100, 101, 102, 103, 104, 105, 106, 107, 108, 109, 110, 111, 112, 113, 114, 115, 116, 117, 118, 119, 120, 121, 122]
theorem digA_at : ∀ a : Fin 16, digA[a.val]? = some (digC a.val) := by decide +kernel
def byteV (b : UInt8) : Value := .int .u8 (b.toNat : Int)
def zero8 : Value := .int .u8 0
/-- The array's cells when T is written at its end. -/
def cells65 (k : Nat) (T : List UInt8) : List Value := List.replicate k zero8 ++ T.map byteV
theorem cells65_set (k : Nat) (T : List UInt8) (c : UInt8) : (cells65 (k + 1) T).set k (byteV c) = cells65 k (c :: T) := by
  unfold cells65
  rw [List.replicate_succ', List.append_assoc, List.set_append_right _ _ (by simp)]
  simp
theorem cells65_length (k : Nat) (T : List UInt8) : (cells65 k T).length = k + T.length := by simp [cells65]
theorem cells65_low {k j : Nat} (T : List UInt8) (h : j < k) : (cells65 k T)[j]? = some zero8 := by
  unfold cells65
  rw [List.getElem?_append_left (by simpa using h)]
  simp [h]
theorem cells65_high {k j : Nat} (T : List UInt8) (h : j < T.length) : (cells65 k T)[k + j]? = some (byteV T[j]) := by
  unfold cells65
  rw [List.getElem?_append_right (by simp)]
  simp [h]
theorem cell65 {t : TypeId} {w : World} {B : Nat} {cs : List Value} (h : CBlk t w B cs) {i : Nat} {v : Value} (hi : cs[i]? = some v) : w.cell? ⟨B, i, none⟩ = some v := by
  obtain ⟨hl, e⟩ := List.getElem?_eq_some_iff.1 hi
  rw [h.cell i hl, e]
theorem pow2_any (w : World) :
    Calls Tryd.prog 64 #[.int .i64 16] w fun e w' => e = .returned (.bool true) ∧ w = w' := by
  have m1 : bits .and .i64 16 15 = 0 := by decide +kernel
  go_enter Tryd.func64, Tryd.ntmps64
  go_wp2_with fail
  go_ret
  exact ⟨rfl, rfl⟩
set_option maxHeartbeats 6400000 in
set_option maxRecDepth 100000 in
theorem bits16 (n : Nat) (hn : n < U64) (w : World) (hT : NTab w) :
    Calls Tryd.prog 56 #[.slice none 0 0, .int .u64 (n : Int), .int .i64 16, .bool false, .bool false] w fun e w' => e = .returned (.tuple #[.slice none 0 0, .string ⟨(digL 16 n).toArray⟩]) ∧ Below w.heap.size w w' := by
  obtain ⟨R, hR⟩ : ∃ R, digL 16 n = R := ⟨_, rfl⟩
  rw [hR]
  have hRl := (digF_length 16 64 n).2
  rw [show digF 16 64 n = R from hR] at hRl
  have HR := Lib.hid hR
  have hal : Tryd.prog.arrayLen 82 = 65 := by simp [Program.arrayLen, Tryd.underlying82]
  have HAL := Lib.hid hal
  clear hR hal
  go_enter Tryd.func56, Tryd.ntmps56
  go_wp2_with fail
  refine (pow2_any _).mono ?_
  rintro e w' ⟨rfl, rfl⟩
  go_wp2_with fail
  refine (tz16_any _ (hT.below (by go_grown))).mono ?_
  rintro e w' ⟨rfl, rfl⟩
  go_wp2_with fail
  go_loopw [1, 13] (fun u i wr => ∃ (m k : Nat) (T : List UInt8), u = .int .u64 (m : Int) ∧ i = .int .i64 (k : Int) ∧ m < U64 ∧ k + T.length = 65 ∧ Hid (digL 16 m ++ T = R) ∧ CBlk 82 wr w.heap.size (cells65 k T) ∧ Below w.heap.size w wr) (fun u _ _ => (intOf u).toNat)
  case atStart =>
    refine ⟨n, 65, [], rfl, rfl, hn, rfl, Lib.hid (by rw [List.append_nil]; exact HR.out), CBlk.new _ w (cells65 65 []), ?_⟩
    go_grown
  case round =>
    obtain ⟨m, k, T, rfl, rfl, hm, hk, hd, hC, hB⟩ := hrel
    have hst := digL_step (base := 16) (by omega) hm
    have hla := (digF_length 16 64 m).1
    have hle : (digL 16 m).length + T.length = R.length := by rw [← hd.out, List.length_append]
    have hle1 : 0 < (digL 16 m).length := hla
    obtain ⟨j, rfl⟩ : ∃ j, k = j + 1 := ⟨k - 1, by omega⟩
    have HD := Lib.hid hd.out
    have hc0 := cell65 hC (cells65_low T (Nat.lt_succ_self j))
    unfold zero8 at hc0
    have hf0 := hC.free j
    have mk := mask15 m (by unfold U64 at hm; omega)
    obtain ⟨a, ha⟩ : ∃ a, m % 16 = a := ⟨_, rfl⟩
    have ha16 : a < 16 := by rw [← ha]; exact Nat.mod_lt _ (by omega)
    rw [ha] at mk hst
    have hdg := digA_at ⟨a, ha16⟩
    have q1 : IntKind.i64.wrap (((j + 1 : Nat) : Int) - 1) = (j : Int) := by rw [IntKind.wrap_i64]; omega
    have hj65 : j < 65 := by omega
    have hset : CBlk 82 (wr.setCell ⟨w.heap.size, j, none⟩ (.int .u8 ((digC a).toNat : Int))) w.heap.size (cells65 j (digC a :: T)) := by
      have := hC.set j (byteV (digC a))
      rw [cells65_set] at this
      exact this
    obtain ⟨x, hx⟩ : ∃ x, digC a = x := ⟨_, rfl⟩
    rw [hx] at hset hst
    have hdg2 : digA[a]? = some x := by rw [← hx]; exact hdg
    have hlt36 : a < 36 := by omega
    have hget : ∀ h : a < (ByteArray.mk #[48, 49, 50, 51, 52, 53, 54, 55, 56, 57, 97, 98, 99, 100, 101, 102, 103, 104, 105, 106, 107, 108, 109, 110, 111, 112, 113, 114, 115, 116, 117, 118, 119, 120, 121, 122]).size, (ByteArray.mk #[48, 49, 50, 51, 52, 53, 54, 55, 56, 57, 97, 98, 99, 100, 101, 102, 103, 104, 105, 106, 107, 108, 109, 110, 111, 112, 113, 114, 115, 116, 117, 118, 119, 120, 121, 122])[a]'h = x := fun h => by
      obtain ⟨hl, e⟩ := List.getElem?_eq_some_iff.1 hdg2
      exact e
    have hBs : Below w.heap.size w (wr.setCell ⟨w.heap.size, j, none⟩ (.int .u8 (x.toNat : Int))) := hB.setCell (Nat.le_refl _) _
    rw [hx] at hdg
    clear hx hdg2 hd
    have HX := Lib.hid hset
    have HBS := Lib.hid hBs
    clear hset hBs
    by_cases hlt : m < 16
    · obtain rfl : a = m := by omega
      have d1 : decide ((16 : Int) ≤ (a : Int)) = false := decide_eq_false (by omega)
      have hres : Hid (R = x :: T) := Lib.hid (by rw [← HD.out, hst, if_pos hlt]; rfl)
      have hlen : (x :: T).length = 65 - j := by simp; omega
      have hsl : ∀ W, (Instr.sliceAt 82 (.pointer (some ⟨w.heap.size, 0, none⟩)) (some (.int .i64 (j : Int))) none none).run Tryd.prog W = .ok (.slice (some ⟨w.heap.size, j, none⟩) (65 - j) (65 - j)) W := fun W => by
        rw [run_sliceAt_array_l W 82 ⟨w.heap.size, 0, none⟩ (by simp [Program.arrayLen, Program.elem, Tryd.underlying82]) .i64 (j : Int) (by omega) (by rw [HAL.out]; omega), HAL.out]
        go_simp
        intro h
        omega
      have hcv : (convert 37 9 (.slice (some ⟨w.heap.size, j, none⟩) (65 - j) (65 - j))).run Tryd.prog (wr.setCell ⟨w.heap.size, j, none⟩ (.int .u8 (x.toNat : Int))) = .ok (.string ⟨(x :: T).toArray⟩) (wr.setCell ⟨w.heap.size, j, none⟩ (.int .u8 (x.toNat : Int))) := by
        have h := run_convert_bytes_back (P := Tryd.prog) (wr.setCell ⟨w.heap.size, j, none⟩ (.int .u8 (x.toNat : Int))) 37 9 5 ⟨w.heap.size, j, none⟩ (65 - j) (x :: T) Tryd.underlying37 Tryd.underlying5 Tryd.underlying9 (fun i hi => by
          rw [Lib.add_plain]
          exact cell65 HX.out (cells65_high (x :: T) hi))
        rw [hlen] at h
        exact h
      clear hst hdg HD ha hle hle1 hla hlen
      go_wp2_with fail
      go_ret2
      exact ⟨by rw [hres.out]; rfl, HBS.out⟩
    · have d1 : decide ((16 : Int) ≤ (m : Int)) = true := decide_eq_true (by omega)
      have hnext : Hid (digL 16 (m / 16) ++ (x :: T) = R) := Lib.hid (by rw [← HD.out, hst, if_neg hlt]; simp)
      clear hst hdg HD ha hle hle1 hla
      go_wp2_with fail
      go_roundw
      case rel => exact ⟨m / 16, j, x :: T, by go_num, rfl, by omega, by simp; omega, hnext, HX.out, HBS.out⟩
      case measure => simp [intOf]; omega
set_option maxHeartbeats 1000000 in
theorem format16 (n : Nat) (hn : n < U64) (w : World) (hT : NTab w) :
    Calls Tryd.prog 43 #[.int .u64 (n : Int), .int .i64 16] w fun e w' => e = .returned (.string ⟨(digL 16 n).toArray⟩) ∧ Below w.heap.size w w' := by
  go_enter Tryd.func43, Tryd.ntmps43
  go_wp2_with fail
  refine (bits16 n hn _ hT).mono ?_
  rintro e w' ⟨rfl, hb⟩
  go_wp2_with fail
  go_ret
  exact ⟨rfl, hb⟩
set_option maxHeartbeats 1000000 in
theorem public10 (n : Nat) (hn : n < U64) (w : World) (hT : NTab w) :
    Calls Tryd.prog 36 #[.int .u64 (n : Int), .int .i64 10] w fun e w' => e = .returned (.string ⟨(digL 10 n).toArray⟩) ∧ Below w.heap.size w w' := by
  go_enter Tryd.func36, Tryd.ntmps36
  go_wp2_with fail
  refine (format10 n hn _ hT).mono ?_
  rintro e w' ⟨rfl, hb⟩
  go_wp2_with fail
  go_ret
  exact ⟨rfl, hb⟩
set_option maxHeartbeats 1000000 in
theorem public16 (n : Nat) (hn : n < U64) (w : World) (hT : NTab w) :
    Calls Tryd.prog 36 #[.int .u64 (n : Int), .int .i64 16] w fun e w' => e = .returned (.string ⟨(digL 16 n).toArray⟩) ∧ Below w.heap.size w w' := by
  go_enter Tryd.func36, Tryd.ntmps36
  go_wp2_with fail
  refine (format16 n hn _ hT).mono ?_
  rintro e w' ⟨rfl, hb⟩
  go_wp2_with fail
  go_ret
  exact ⟨rfl, hb⟩
set_option maxHeartbeats 1000000 in
theorem decText_any (n : Nat) (hn : n < U64) (w : World) (hT : NTab w) :
    Calls Tryd.prog 22 #[.int .u64 (n : Int)] w fun e w' => e = .returned (.string ⟨(digL 10 n).toArray⟩) ∧ Below w.heap.size w w' := by
  go_enter Tryd.func22, Tryd.ntmps22
  go_wp2_with fail
  refine (public10 n hn _ hT).mono ?_
  rintro e w' ⟨rfl, hb⟩
  go_wp2_with fail
  go_ret
  exact ⟨rfl, hb⟩
set_option maxHeartbeats 1000000 in
theorem hexText_any (n : Nat) (hn : n < U64) (w : World) (hT : NTab w) :
    Calls Tryd.prog 24 #[.int .u64 (n : Int)] w fun e w' => e = .returned (.string ⟨(digL 16 n).toArray⟩) ∧ Below w.heap.size w w' := by
  go_enter Tryd.func24, Tryd.ntmps24
  go_wp2_with fail
  refine (public16 n hn _ hT).mono ?_
  rintro e w' ⟨rfl, hb⟩
  go_wp2_with fail
  go_ret
  exact ⟨rfl, hb⟩
end Go.Proofs.YtekbahpobhjobaaDoor
