/-
  The library's functions that packages reqline and token call, by the library's contracts: strings.Clone, HasPrefix, SplitN at a space; what the pieces of a line are.
-/
import Derived.Test.YtnnldmgdojhejaaDoorQRef1
import Derived.Shelf.Lay
import Derived.Shelf.LaysM
import Derived.Shelf.Strconv.Clone
import Derived.Shelf.Strings.Search3
import Derived.Shelf.Strings.Count
import Derived.Shelf.Strings.Prefix
import Derived.Shelf.Strings.Split
namespace Go.Proofs.YtnnldmgdojhejaaDoor
open Go.RowKit
def lays143_ren : Go.Shelf.Ren := ⟨fun | 143 => 40 | 219 => 47 | 217 => 54 | 225 => 55 | 224 => 56 | 267 => 57 | 266 => 59 | 314 => 60 | n => n, fun | 9 => 9 | 3 => 3 | 4 => 4 | 5 => 5 | 46 => 76 | 146 => 87 | 51 => 86 | n => n, fun | 1 => 0 | n => n⟩
theorem lays143 : Go.Proofs.Lays.n143 Tryd.prog lays143_ren := {
  mixed := by kernel_rfl
  f143 := Tryd.func40.trans (congrArg some (by kernel_rfl))
  f217 := Tryd.func54.trans (congrArg some (by kernel_rfl))
  f219 := Tryd.func47.trans (congrArg some (by kernel_rfl))
  f224 := Tryd.func56.trans (congrArg some (by kernel_rfl))
  f225 := Tryd.func55.trans (congrArg some (by kernel_rfl))
  f266 := Tryd.func59.trans (congrArg some (by kernel_rfl))
  f267 := Tryd.func57.trans (congrArg some (by kernel_rfl))
  f314 := Tryd.func60.trans (congrArg some (by kernel_rfl))
  t3 := Tryd.underlying3
  a3 := Tryd.isAgg3
  z3 := Tryd.sizeOf3
  v3 := Tryd.zeroValue3
  t4 := Tryd.underlying4
  a4 := Tryd.isAgg4
  z4 := Tryd.sizeOf4
  v4 := Tryd.zeroValue4
  t5 := Tryd.underlying5
  a5 := Tryd.isAgg5
  z5 := Tryd.sizeOf5
  v5 := Tryd.zeroValue5
  t9 := Tryd.underlying9
  a9 := Tryd.isAgg9
  z9 := Tryd.sizeOf9
  v9 := Tryd.zeroValue9
  t46 := Tryd.underlying76
  a46 := Tryd.isAgg76
  z46 := Tryd.sizeOf76
  v46 := Tryd.zeroValue76
  t51 := Tryd.underlying86
  a51 := Tryd.isAgg86
  z51 := Tryd.sizeOf86
  v51 := Tryd.zeroValue86
  t146 := Tryd.underlying87
  a146 := Tryd.isAgg87
  z146 := Tryd.sizeOf87
  v146 := Tryd.zeroValue87
  g1 := by kernel_rfl }
def lays138_ren : Go.Shelf.Ren := ⟨fun | 138 => 39 | 195 => 44 | 218 => 46 | 143 => 40 | 219 => 47 | 217 => 54 | 225 => 55 | 224 => 56 | 267 => 57 | 266 => 59 | 314 => 60 | n => n, fun | 9 => 9 | 3 => 3 | 4 => 4 | 5 => 5 | 0 => 0 | 46 => 76 | 146 => 87 | 51 => 86 | n => n, fun | 1 => 0 | n => n⟩
theorem lays138 : Go.Proofs.Lays.n138 Tryd.prog lays138_ren := {
  mixed := by kernel_rfl
  f138 := Tryd.func39.trans (congrArg some (by kernel_rfl))
  f143 := Tryd.func40.trans (congrArg some (by kernel_rfl))
  f195 := Tryd.func44.trans (congrArg some (by kernel_rfl))
  f217 := Tryd.func54.trans (congrArg some (by kernel_rfl))
  f218 := Tryd.func46.trans (congrArg some (by kernel_rfl))
  f219 := Tryd.func47.trans (congrArg some (by kernel_rfl))
  f224 := Tryd.func56.trans (congrArg some (by kernel_rfl))
  f225 := Tryd.func55.trans (congrArg some (by kernel_rfl))
  f266 := Tryd.func59.trans (congrArg some (by kernel_rfl))
  f267 := Tryd.func57.trans (congrArg some (by kernel_rfl))
  f314 := Tryd.func60.trans (congrArg some (by kernel_rfl))
  t0 := Tryd.underlying0
  a0 := Tryd.isAgg0
  z0 := Tryd.sizeOf0
  v0 := Tryd.zeroValue0
  t3 := Tryd.underlying3
  a3 := Tryd.isAgg3
  z3 := Tryd.sizeOf3
  v3 := Tryd.zeroValue3
  t4 := Tryd.underlying4
  a4 := Tryd.isAgg4
  z4 := Tryd.sizeOf4
  v4 := Tryd.zeroValue4
  t5 := Tryd.underlying5
  a5 := Tryd.isAgg5
  z5 := Tryd.sizeOf5
  v5 := Tryd.zeroValue5
  t9 := Tryd.underlying9
  a9 := Tryd.isAgg9
  z9 := Tryd.sizeOf9
  v9 := Tryd.zeroValue9
  t46 := Tryd.underlying76
  a46 := Tryd.isAgg76
  z46 := Tryd.sizeOf76
  v46 := Tryd.zeroValue76
  t51 := Tryd.underlying86
  a51 := Tryd.isAgg86
  z51 := Tryd.sizeOf86
  v51 := Tryd.zeroValue86
  t146 := Tryd.underlying87
  a146 := Tryd.isAgg87
  z146 := Tryd.sizeOf87
  v146 := Tryd.zeroValue87
  g1 := by kernel_rfl }
def lays221_ren : Go.Shelf.Ren := ⟨fun | 221 => 33 | 268 => 38 | 138 => 39 | 143 => 40 | 195 => 44 | 197 => 45 | 218 => 46 | 219 => 47 | 260 => 53 | 217 => 54 | 225 => 55 | 224 => 56 | 267 => 57 | 266 => 59 | 314 => 60 | n => n, fun | 9 => 9 | 3 => 3 | 31 => 40 | 4 => 4 | 0 => 0 | 105 => 68 | 21 => 21 | 5 => 5 | 46 => 76 | 119 => 82 | 139 => 85 | 138 => 84 | 146 => 87 | 51 => 86 | n => n, fun | 1 => 0 | 3 => 1 | 4 => 2 | n => n⟩
theorem lays221 : Go.Proofs.Lays.n221 Tryd.prog lays221_ren := {
  mixed := by kernel_rfl
  f138 := Tryd.func39.trans (congrArg some (by kernel_rfl))
  f143 := Tryd.func40.trans (congrArg some (by kernel_rfl))
  f195 := Tryd.func44.trans (congrArg some (by kernel_rfl))
  f197 := Tryd.func45.trans (congrArg some (by kernel_rfl))
  f217 := Tryd.func54.trans (congrArg some (by kernel_rfl))
  f218 := Tryd.func46.trans (congrArg some (by kernel_rfl))
  f219 := Tryd.func47.trans (congrArg some (by kernel_rfl))
  f221 := Tryd.func33.trans (congrArg some (by kernel_rfl))
  f224 := Tryd.func56.trans (congrArg some (by kernel_rfl))
  f225 := Tryd.func55.trans (congrArg some (by kernel_rfl))
  f260 := Tryd.func53.trans (congrArg some (by kernel_rfl))
  f266 := Tryd.func59.trans (congrArg some (by kernel_rfl))
  f267 := Tryd.func57.trans (congrArg some (by kernel_rfl))
  f268 := Tryd.func38.trans (congrArg some (by kernel_rfl))
  f314 := Tryd.func60.trans (congrArg some (by kernel_rfl))
  t0 := Tryd.underlying0
  a0 := Tryd.isAgg0
  z0 := Tryd.sizeOf0
  v0 := Tryd.zeroValue0
  t3 := Tryd.underlying3
  a3 := Tryd.isAgg3
  z3 := Tryd.sizeOf3
  v3 := Tryd.zeroValue3
  t4 := Tryd.underlying4
  a4 := Tryd.isAgg4
  z4 := Tryd.sizeOf4
  v4 := Tryd.zeroValue4
  t5 := Tryd.underlying5
  a5 := Tryd.isAgg5
  z5 := Tryd.sizeOf5
  v5 := Tryd.zeroValue5
  t9 := Tryd.underlying9
  a9 := Tryd.isAgg9
  z9 := Tryd.sizeOf9
  v9 := Tryd.zeroValue9
  t21 := Tryd.underlying21
  a21 := Tryd.isAgg21
  z21 := Tryd.sizeOf21
  v21 := Tryd.zeroValue21
  t31 := Tryd.underlying40
  a31 := Tryd.isAgg40
  z31 := Tryd.sizeOf40
  v31 := Tryd.zeroValue40
  t46 := Tryd.underlying76
  a46 := Tryd.isAgg76
  z46 := Tryd.sizeOf76
  v46 := Tryd.zeroValue76
  t51 := Tryd.underlying86
  a51 := Tryd.isAgg86
  z51 := Tryd.sizeOf86
  v51 := Tryd.zeroValue86
  t105 := Tryd.underlying68
  a105 := Tryd.isAgg68
  z105 := Tryd.sizeOf68
  v105 := Tryd.zeroValue68
  t119 := Tryd.underlying82
  a119 := Tryd.isAgg82
  z119 := Tryd.sizeOf82
  t138 := Tryd.underlying84
  a138 := Tryd.isAgg84
  z138 := Tryd.sizeOf84
  v138 := Tryd.zeroValue84
  t139 := Tryd.underlying85
  a139 := Tryd.isAgg85
  z139 := Tryd.sizeOf85
  v139 := Tryd.zeroValue85
  t146 := Tryd.underlying87
  a146 := Tryd.isAgg87
  z146 := Tryd.sizeOf87
  v146 := Tryd.zeroValue87
  g1 := by kernel_rfl
  g3 := by kernel_rfl
  g4 := by kernel_rfl }
def lays99_ren : Go.Shelf.Ren := ⟨fun | 99 => 35 | 206 => 43 | n => n, fun | 9 => 9 | 4 => 4 | 3 => 3 | n => n, fun | n => n⟩
theorem lays99 : Go.Proofs.Lays.n99 Tryd.prog lays99_ren := {
  mixed := by kernel_rfl
  f99 := Tryd.func35.trans (congrArg some (by kernel_rfl))
  f206 := Tryd.func43.trans (congrArg some (by kernel_rfl))
  t3 := Tryd.underlying3
  a3 := Tryd.isAgg3
  z3 := Tryd.sizeOf3
  v3 := Tryd.zeroValue3
  t4 := Tryd.underlying4
  a4 := Tryd.isAgg4
  z4 := Tryd.sizeOf4
  v4 := Tryd.zeroValue4
  t9 := Tryd.underlying9
  a9 := Tryd.isAgg9
  z9 := Tryd.sizeOf9
  v9 := Tryd.zeroValue9 }
def laysM316_ren : Go.Shelf.Ren := ⟨fun | 316 => 25 | n => n, fun | 9 => 9 | 3 => 3 | 4 => 4 | 37 => 57 | 0 => 0 | 127 => 58 | 5 => 5 | n => n, fun | n => n⟩
theorem laysM316 : Go.Proofs.LaysM.n316 Tryd.prog laysM316_ren := {
  mixed := by kernel_rfl
  f316 := Tryd.func25.trans (congrArg some (by kernel_rfl))
  t0 := Tryd.underlying0
  a0 := Tryd.isAgg0
  z0 := Tryd.sizeOf0
  v0 := Tryd.zeroValue0
  t3 := Tryd.underlying3
  a3 := Tryd.isAgg3
  z3 := Tryd.sizeOf3
  v3 := Tryd.zeroValue3
  t4 := Tryd.underlying4
  a4 := Tryd.isAgg4
  z4 := Tryd.sizeOf4
  v4 := Tryd.zeroValue4
  t9 := Tryd.underlying9
  a9 := Tryd.isAgg9
  z9 := Tryd.sizeOf9
  v9 := Tryd.zeroValue9
  t37 := Tryd.underlying57
  a37 := Tryd.isAgg57
  z37 := Tryd.sizeOf57
  v37 := Tryd.zeroValue57
  t127 := Tryd.underlying58
  a127 := Tryd.isAgg58
  z127 := Tryd.sizeOf58
  v127 := Tryd.zeroValue58
  t5 := Tryd.underlying5
  a5 := Tryd.isAgg5
  z5 := Tryd.sizeOf5
  v5 := Tryd.zeroValue5
  i0 := by kernel_rfl
  i3 := by kernel_rfl
  i4 := by kernel_rfl
  i5 := by kernel_rfl
  i9 := by kernel_rfl
  i37 := by kernel_rfl
  i127 := by kernel_rfl }
theorem clone_any (l : List UInt8) (hl : l.length < 1000000) (w : World) :
    Calls Tryd.prog 17 #[.string ⟨l.toArray⟩] w fun e w' => e = .returned (.string ⟨l.toArray⟩) ∧ Below w.heap.size w w' := by
  go_enter Tryd.func17, Tryd.ntmps17
  go_wp2_with fail
  refine (Any.stringslite_Clone laysM316 ⟨l.toArray⟩ _ (by show l.length ≤ _; omega)).mono ?_
  rintro e w' ⟨rfl, hb⟩
  go_wp2_with fail
  go_ret
  exact ⟨rfl, hb⟩
theorem prefix_any (l p : List UInt8) (w : World) :
    Calls Tryd.prog 35 #[.string ⟨l.toArray⟩, .string ⟨p.toArray⟩] w fun e w' => e = .returned (.bool (Lib.hasPrefix l p)) ∧ w = w' :=
  (Any.strings_HasPrefix lays99 ⟨l.toArray⟩ ⟨p.toArray⟩ w).mono fun _ _ ⟨h1, h2⟩ => ⟨h1, h2.symm⟩
/-- The pieces of a line: three at most. -/
def pcsR (l : List UInt8) : List (List UInt8) := match spN l with
  | none => [l]
  | some a => match spN (l.drop (a + 1)) with
    | none => [l.take a, l.drop (a + 1)]
    | some b => [l.take a, (l.drop (a + 1)).take b, l.drop (a + 1 + b + 1)]
theorem ix_sp : ∀ l : List UInt8, Lib.indexByte l 32 = match spN l with | none => -1 | some i => (i : Int)
  | [] => rfl
  | c :: r => by
    have ih := ix_sp r
    rw [Lib.indexByte, spN, ih]
    by_cases h : c.toNat = 32
    · have hc : c = 32 := UInt8.toNat_inj.1 h
      rw [if_pos h, if_pos (by rw [hc]; rfl)]
      rfl
    · have hc : ¬ (c == 32) = true := fun e => h (by rw [beq_iff_eq.1 e]; rfl)
      rw [if_neg h, if_neg hc]
      cases spN r with
      | none => rfl
      | some i =>
        have : ¬ ((i : Int) == -1) = true := fun e => by have := beq_iff_eq.1 e; omega
        show (if ((i : Int) == -1) = true then (-1 : Int) else (i : Int) + 1) = ((i + 1 : Nat) : Int)
        rw [if_neg this]
        omega
theorem ixB_sp (l : List UInt8) : Lib.indexB ⟨l.toArray⟩ ⟨#[32]⟩ = match spN l with | none => -1 | some i => (i : Int) := by
  rw [Lib.one _ _ rfl, ← ix_sp]
  rfl
theorem split_sp (l : List UInt8) : Lib.splitB ⟨#[32]⟩ 0 (min 3 (l.length + 1) - 1) ⟨l.toArray⟩ = (pcsR l).map fun x => ⟨x.toArray⟩ := by
  have hx := ixB_sp l
  unfold pcsR
  cases ha : spN l with
  | none =>
    rw [ha] at hx
    rw [Lib.splitB_miss _ _ _ _ hx]
    rfl
  | some a =>
    rw [ha] at hx
    have hal := spN_lt ha
    have hx2 := ixB_sp (l.drop (a + 1))
    obtain ⟨k, hk⟩ : ∃ k, min 3 (l.length + 1) - 1 = k + 1 := ⟨min 3 (l.length + 1) - 2, by omega⟩
    have hsz : (ByteArray.mk l.toArray).size = l.length := rfl
    have hs1 : (ByteArray.mk #[(32 : UInt8)]).size = 1 := rfl
    rw [hk, Lib.splitB_hit _ _ _ _ a hx, hsz, hs1, Nat.add_zero, qtake, qdrop]
    cases hb : spN (l.drop (a + 1)) with
    | none =>
      rw [hb] at hx2
      rw [Lib.splitB_miss _ _ _ _ hx2]
      dsimp only
      rw [hb]
      rfl
    | some b =>
      rw [hb] at hx2
      have hbl := spN_lt hb
      rw [List.length_drop] at hbl
      obtain rfl : k = 0 + 1 := by omega
      have hsz2 : (ByteArray.mk (l.drop (a + 1)).toArray).size = (l.drop (a + 1)).length := rfl
      rw [Lib.splitB_hit _ _ _ _ b hx2, hsz2, hs1, Nat.add_zero, qtake, qdrop, Lib.splitB_zero, List.drop_drop, show a + 1 + (b + 1) = a + 1 + b + 1 by omega]
      dsimp only
      rw [hb]
      rfl
theorem pcsR_len (l : List UInt8) : 1 ≤ (pcsR l).length ∧ (pcsR l).length ≤ 3 ∧ (pcsR l).length ≤ l.length + 1 := by
  unfold pcsR
  split
  · simp
  · rename_i a ha
    have := spN_lt ha
    split
    · simp
      omega
    · rename_i b hb
      have := spN_lt hb
      rw [List.length_drop] at this
      simp
      omega
theorem infoStr : (Tryd.prog.info? 9).map (fun i => (i.zero, i.size, i.bytes)) = some (some (.string ByteArray.empty), 1, 16) := by kernel_rfl
/-- The cells of the pieces. -/
def pcsC (l : List UInt8) : Array Value := Lib.cellsOf ((pcsR l).map fun x => ⟨x.toArray⟩) (min 3 (l.length + 1))
set_option maxHeartbeats 1000000 in
theorem genSplit_any (l : List UInt8) (hl : l.length < 1000000) (w : World) :
    Calls Tryd.prog 33 #[.string ⟨l.toArray⟩, .string ⟨#[32]⟩, .int .i64 0, .int .i64 3] w fun e w' => e = .returned (.slice (some ⟨w.heap.size, 0, none⟩) ((pcsR l).length : Nat) (min 3 (l.length + 1) : Nat)) ∧ w' = w.alloc (.cells (pcsC l) 9) := by
  have h := Any.strings_genSplit_core lays221 infoStr ⟨l.toArray⟩ ⟨#[32]⟩ 0 3 (min 3 (l.length + 1)) w (by show l.length < _; omega) (by decide) (by decide)
    (fun x c hx => (Any.strings_Index_one lays143 x 32 _).mono fun e w' ⟨h1, h2⟩ => ⟨by rw [h1, Lib.one _ _ rfl]; rfl, h2⟩)
    ((Any.strings_Count_one lays138 ⟨l.toArray⟩ 32 w).mono fun e w' ⟨h1, h2⟩ => ⟨by rw [h1]; show _ = Ending.returned (Value.int .i64 ((Lib.count l [32] : Nat) : Int)); rw [Lib.count_one]; rfl, h2⟩)
    (by decide) (by decide) (by show ((min 3 (l.length + 1) : Nat) : Int) = min (3 : Int) ((l.length : Int) + 1); omega)
  rw [split_sp, List.length_map] at h
  exact h
set_option maxHeartbeats 1000000 in
theorem splitN_any (l : List UInt8) (hl : l.length < 1000000) (w : World) :
    Calls Tryd.prog 24 #[.string ⟨l.toArray⟩, .string ⟨#[32]⟩, .int .i64 3] w fun e w' => e = .returned (.slice (some ⟨w.heap.size, 0, none⟩) ((pcsR l).length : Nat) (min 3 (l.length + 1) : Nat)) ∧ w' = w.alloc (.cells (pcsC l) 9) := by
  have h := genSplit_any l hl
  obtain ⟨n, hn⟩ : ∃ n, (pcsR l).length = n := ⟨_, rfl⟩
  obtain ⟨N, hN⟩ : ∃ N, min 3 (l.length + 1) = N := ⟨_, rfl⟩
  obtain ⟨C, hC⟩ : ∃ C, pcsC l = C := ⟨_, rfl⟩
  rw [hn, hN, hC] at h ⊢
  have H := Lib.hid h
  clear h hn hN hC
  go_enter Tryd.func24, Tryd.ntmps24
  go_wp2_with fail
  refine (H.out _).mono ?_
  rintro e w' ⟨rfl, rfl⟩
  go_wp2_with fail
  go_ret
  exact ⟨rfl, rfl⟩
end Go.Proofs.YtnnldmgdojhejaaDoor
