/-
  The library's functions that package line calls, by the library's contracts: strings.Clone, Contains, CutSuffix, IndexByte, bytes.IndexByte, Builder's String; what the pieces of a text are.
-/
import Derived.Test.YtfagjhadfonhdaaLShape
import Derived.Shelf.Lay
import Derived.Shelf.LaySoft
import Derived.Shelf.Small.Utf8
import Derived.Shelf.Small.Strs
import Derived.Shelf.Small.Wraps
import Derived.Shelf.LaysM
import Derived.Shelf.Strconv.Clone
import Derived.Shelf.Strings.Builder1
import Derived.Shelf.Strings.Search3
import Derived.Shelf.Strings.IndexAnyAll
import Derived.Shelf.Bytes.IndexByte
import Derived.Lib.AppendIntMem
namespace Go.Proofs.Ytfagjhadfonhdaa
open Go.RowKit
def lays119_ren : Go.Shelf.Ren := ⟨fun | 119 => 68 | n => n, fun | 21 => 21 | 4 => 4 | n => n, fun | n => n⟩
theorem lays119 : Go.Proofs.Lays.n119 Try.prog lays119_ren := {
  mixed := by kernel_rfl
  f119 := Try.func68.trans (congrArg some (by kernel_rfl))
  t4 := Try.underlying4
  a4 := Try.isAgg4
  z4 := Try.sizeOf4
  v4 := Try.zeroValue4
  t21 := Try.underlying21
  a21 := Try.isAgg21
  z21 := Try.sizeOf21
  v21 := Try.zeroValue21 }
def lays137_ren : Go.Shelf.Ren := ⟨fun | 137 => 67 | 217 => 62 | 266 => 69 | n => n, fun | 9 => 9 | 5 => 5 | 3 => 3 | n => n, fun | n => n⟩
theorem lays137 : Go.Proofs.Lays.n137 Try.prog lays137_ren := {
  mixed := by kernel_rfl
  f137 := Try.func67.trans (congrArg some (by kernel_rfl))
  f217 := Try.func62.trans (congrArg some (by kernel_rfl))
  f266 := Try.func69.trans (congrArg some (by kernel_rfl))
  t3 := Try.underlying3
  a3 := Try.isAgg3
  z3 := Try.sizeOf3
  v3 := Try.zeroValue3
  t5 := Try.underlying5
  a5 := Try.isAgg5
  z5 := Try.sizeOf5
  v5 := Try.zeroValue5
  t9 := Try.underlying9
  a9 := Try.isAgg9
  z9 := Try.sizeOf9
  v9 := Try.zeroValue9 }
def lays153_ren : Go.Shelf.Ren := ⟨fun | 153 => 53 | 152 => 58 | 226 => 59 | 227 => 60 | 228 => 61 | 137 => 67 | 119 => 68 | 224 => 64 | 225 => 63 | 217 => 62 | 266 => 69 | n => n, fun | 9 => 9 | 3 => 3 | 4 => 4 | 5 => 5 | 21 => 21 | 117 => 90 | 116 => 89 | 0 => 0 | 46 => 95 | 124 => 97 | n => n, fun | n => n⟩
theorem lays153 : Go.Proofs.Lays.n153 Try.prog lays153_ren := {
  mixed := by kernel_rfl
  f119 := Try.func68.trans (congrArg some (by kernel_rfl))
  f137 := Try.func67.trans (congrArg some (by kernel_rfl))
  f152 := Try.func58.trans (congrArg some (by kernel_rfl))
  f153 := Try.func53.trans (congrArg some (by kernel_rfl))
  f217 := Try.func62.trans (congrArg some (by kernel_rfl))
  f224 := Try.func64.trans (congrArg some (by kernel_rfl))
  f225 := Try.func63.trans (congrArg some (by kernel_rfl))
  f226 := Try.func59.trans (congrArg some (by kernel_rfl))
  f227 := Try.func60.trans (congrArg some (by kernel_rfl))
  f228 := Try.func61.trans (congrArg some (by kernel_rfl))
  f266 := Try.func69.trans (congrArg some (by kernel_rfl))
  t0 := Try.underlying0
  a0 := Try.isAgg0
  z0 := Try.sizeOf0
  v0 := Try.zeroValue0
  t3 := Try.underlying3
  a3 := Try.isAgg3
  z3 := Try.sizeOf3
  v3 := Try.zeroValue3
  t4 := Try.underlying4
  a4 := Try.isAgg4
  z4 := Try.sizeOf4
  v4 := Try.zeroValue4
  t5 := Try.underlying5
  a5 := Try.isAgg5
  z5 := Try.sizeOf5
  v5 := Try.zeroValue5
  t9 := Try.underlying9
  a9 := Try.isAgg9
  z9 := Try.sizeOf9
  v9 := Try.zeroValue9
  t21 := Try.underlying21
  a21 := Try.isAgg21
  z21 := Try.sizeOf21
  v21 := Try.zeroValue21
  t46 := Try.underlying95
  a46 := Try.isAgg95
  z46 := Try.sizeOf95
  v46 := Try.zeroValue95
  t116 := Try.underlying89
  a116 := Try.isAgg89
  z116 := Try.sizeOf89
  t117 := Try.underlying90
  a117 := Try.isAgg90
  z117 := Try.sizeOf90
  v117 := Try.zeroValue90
  t124 := Try.underlying97
  a124 := Try.isAgg97
  z124 := Try.sizeOf97
  v124 := Try.zeroValue97 }
def lays144_ren : Go.Shelf.Ren := ⟨fun | 144 => 40 | 143 => 49 | 219 => 55 | 217 => 62 | 225 => 63 | 224 => 64 | 267 => 65 | 266 => 69 | 314 => 70 | n => n, fun | 9 => 9 | 4 => 4 | 3 => 3 | 5 => 5 | 46 => 95 | 146 => 99 | 51 => 98 | n => n, fun | 1 => 0 | n => n⟩
theorem lays144 : Go.Proofs.Lays.n144 Try.prog lays144_ren := {
  mixed := by kernel_rfl
  f143 := Try.func49.trans (congrArg some (by kernel_rfl))
  f144 := Try.func40.trans (congrArg some (by kernel_rfl))
  f217 := Try.func62.trans (congrArg some (by kernel_rfl))
  f219 := Try.func55.trans (congrArg some (by kernel_rfl))
  f224 := Try.func64.trans (congrArg some (by kernel_rfl))
  f225 := Try.func63.trans (congrArg some (by kernel_rfl))
  f266 := Try.func69.trans (congrArg some (by kernel_rfl))
  f267 := Try.func65.trans (congrArg some (by kernel_rfl))
  f314 := Try.func70.trans (congrArg some (by kernel_rfl))
  t3 := Try.underlying3
  a3 := Try.isAgg3
  z3 := Try.sizeOf3
  v3 := Try.zeroValue3
  t4 := Try.underlying4
  a4 := Try.isAgg4
  z4 := Try.sizeOf4
  v4 := Try.zeroValue4
  t5 := Try.underlying5
  a5 := Try.isAgg5
  z5 := Try.sizeOf5
  v5 := Try.zeroValue5
  t9 := Try.underlying9
  a9 := Try.isAgg9
  z9 := Try.sizeOf9
  v9 := Try.zeroValue9
  t46 := Try.underlying95
  a46 := Try.isAgg95
  z46 := Try.sizeOf95
  v46 := Try.zeroValue95
  t51 := Try.underlying98
  a51 := Try.isAgg98
  z51 := Try.sizeOf98
  v51 := Try.zeroValue98
  t146 := Try.underlying99
  a146 := Try.isAgg99
  z146 := Try.sizeOf99
  v146 := Try.zeroValue99
  g1 := by kernel_rfl }
def lays104_ren : Go.Shelf.Ren := ⟨fun | 104 => 57 | 211 => 66 | 207 => 71 | n => n, fun | 9 => 9 | 4 => 4 | 24 => 84 | 3 => 3 | n => n, fun | n => n⟩
theorem lays104 : Go.Proofs.Lays.n104 Try.prog lays104_ren := {
  mixed := by kernel_rfl
  f104 := Try.func57.trans (congrArg some (by kernel_rfl))
  f207 := Try.func71.trans (congrArg some (by kernel_rfl))
  f211 := Try.func66.trans (congrArg some (by kernel_rfl))
  t3 := Try.underlying3
  a3 := Try.isAgg3
  z3 := Try.sizeOf3
  v3 := Try.zeroValue3
  t4 := Try.underlying4
  a4 := Try.isAgg4
  z4 := Try.sizeOf4
  v4 := Try.zeroValue4
  t9 := Try.underlying9
  a9 := Try.isAgg9
  z9 := Try.sizeOf9
  v9 := Try.zeroValue9
  t24 := Try.underlying84
  a24 := Try.isAgg84
  z24 := Try.sizeOf84
  v24 := Try.zeroValue84 }
def laysM316_ren : Go.Shelf.Ren := ⟨fun | 316 => 46 | n => n, fun | 9 => 9 | 3 => 3 | 4 => 4 | 37 => 57 | 0 => 0 | 127 => 78 | 5 => 5 | n => n, fun | n => n⟩
theorem laysM316 : Go.Proofs.LaysM.n316 Try.prog laysM316_ren := {
  mixed := by kernel_rfl
  f316 := Try.func46.trans (congrArg some (by kernel_rfl))
  t0 := Try.underlying0
  a0 := Try.isAgg0
  z0 := Try.sizeOf0
  v0 := Try.zeroValue0
  t3 := Try.underlying3
  a3 := Try.isAgg3
  z3 := Try.sizeOf3
  v3 := Try.zeroValue3
  t4 := Try.underlying4
  a4 := Try.isAgg4
  z4 := Try.sizeOf4
  v4 := Try.zeroValue4
  t9 := Try.underlying9
  a9 := Try.isAgg9
  z9 := Try.sizeOf9
  v9 := Try.zeroValue9
  t37 := Try.underlying57
  a37 := Try.isAgg57
  z37 := Try.sizeOf57
  v37 := Try.zeroValue57
  t127 := Try.underlying78
  a127 := Try.isAgg78
  z127 := Try.sizeOf78
  v127 := Try.zeroValue78
  t5 := Try.underlying5
  a5 := Try.isAgg5
  z5 := Try.sizeOf5
  v5 := Try.zeroValue5
  i0 := by kernel_rfl
  i3 := by kernel_rfl
  i4 := by kernel_rfl
  i5 := by kernel_rfl
  i9 := by kernel_rfl
  i37 := by kernel_rfl
  i127 := by kernel_rfl }
def lays187_ren : Go.Shelf.Ren := ⟨fun | 187 => 50 | 255 => 56 | n => n, fun | 37 => 57 | 5 => 5 | 3 => 3 | n => n, fun | n => n⟩
theorem lays187 : Go.Proofs.Lays.n187 Try.prog lays187_ren := {
  mixed := by kernel_rfl
  f187 := Try.func50.trans (congrArg some (by kernel_rfl))
  f255 := Try.func56.trans (congrArg some (by kernel_rfl))
  t3 := Try.underlying3
  a3 := Try.isAgg3
  z3 := Try.sizeOf3
  v3 := Try.zeroValue3
  t5 := Try.underlying5
  a5 := Try.isAgg5
  z5 := Try.sizeOf5
  v5 := Try.zeroValue5
  t37 := Try.underlying57
  a37 := Try.isAgg57
  z37 := Try.sizeOf57
  v37 := Try.zeroValue57 }
def lays169_ren : Go.Shelf.Ren := ⟨fun | 169 => 39 | n => n, fun | 70 => 64 | 9 => 9 | 0 => 0 | 72 => 66 | 37 => 57 | 127 => 78 | 3 => 3 | 5 => 5 | n => n, fun | n => n⟩
theorem lays169 : Go.Proofs.Lays.n169 Try.prog lays169_ren := {
  mixed := by kernel_rfl
  f169 := Try.func39.trans (congrArg some (by kernel_rfl))
  t0 := Try.underlying0
  a0 := Try.isAgg0
  z0 := Try.sizeOf0
  v0 := Try.zeroValue0
  t3 := Try.underlying3
  a3 := Try.isAgg3
  z3 := Try.sizeOf3
  v3 := Try.zeroValue3
  t9 := Try.underlying9
  a9 := Try.isAgg9
  z9 := Try.sizeOf9
  v9 := Try.zeroValue9
  t37 := Try.underlying57
  a37 := Try.isAgg57
  z37 := Try.sizeOf57
  v37 := Try.zeroValue57
  t70 := Try.underlying64
  a70 := Try.isAgg64
  z70 := Try.sizeOf64
  v70 := Try.zeroValue64
  t72 := Try.underlying66
  a72 := Try.isAgg66
  z72 := Try.sizeOf66
  v72 := Try.zeroValue66
  t127 := Try.underlying78
  a127 := Try.isAgg78
  z127 := Try.sizeOf78
  v127 := Try.zeroValue78 }
theorem extra169 : Go.Proofs.Builder.Extra Try.prog lays169_ren := {
  sizeBuilder := by kernel_rfl
  liesBuilder := by kernel_rfl
  t5 := Try.underlying5
  a5 := Try.isAgg5
  z5 := Try.sizeOf5
  v5 := Try.zeroValue5
  infoByte := by kernel_rfl
  cellsByte := by kernel_rfl
  sizeByte := by kernel_rfl
  neB5 := by decide }
theorem clone_any (l : List UInt8) (hl : l.length < 1000000) (w : World) :
    Calls Try.prog 35 #[.string ⟨l.toArray⟩] w fun e w' => e = .returned (.string ⟨l.toArray⟩) ∧ Below w.heap.size w w' := by
  go_enter Try.func35, Try.ntmps35
  go_wp2_with fail
  refine (Any.stringslite_Clone laysM316 ⟨l.toArray⟩ _ (by show l.length ≤ _; omega)).mono ?_
  rintro e w' ⟨rfl, hb⟩
  go_wp2_with fail
  go_ret
  exact ⟨rfl, hb⟩
theorem ixb_any (l : List UInt8) (c : Int) (w : World) :
    Calls Try.prog 67 #[.string ⟨l.toArray⟩, .int .u8 c] w fun e w' => e = .returned (.int .i64 (Lib.indexByte l c.toNat.toUInt8)) ∧ w = w' :=
  (Any.strings_IndexByte lays137 ⟨l.toArray⟩ c w).mono fun _ _ ⟨h1, h2⟩ => ⟨h1, h2.symm⟩
/-- A text has a byte: as the library's search says it. -/
theorem ix_has (n : Nat) (hn : n < 256) : ∀ l : List UInt8, decide (0 ≤ Lib.indexByte l (UInt8.ofNat n)) = hasN l n
  | [] => rfl
  | c :: r => by
    have ih := ix_has n hn r
    have hge := Lib.indexByte_ge r (UInt8.ofNat n)
    show decide (0 ≤ if c == UInt8.ofNat n then (0 : Int) else if Lib.indexByte r (UInt8.ofNat n) == -1 then -1 else Lib.indexByte r (UInt8.ofNat n) + 1) = (c.toNat == n || hasN r n)
    by_cases h : c.toNat = n
    · have : (c == UInt8.ofNat n) = true := by
        rw [beq_iff_eq]
        apply UInt8.toNat_inj.1
        rw [h]
        simp
        omega
      rw [if_pos this, h, beq_self_eq_true]
      rfl
    · have : ¬ (c == UInt8.ofNat n) = true := by
        rw [beq_iff_eq]
        intro e
        apply h
        rw [e]
        simp
        omega
      rw [if_neg this, beq_eq_false_iff_ne.2 h, Bool.false_or, ← ih]
      by_cases h2 : Lib.indexByte r (UInt8.ofNat n) = -1
      · rw [h2]
        rfl
      · rw [if_neg (by rw [beq_iff_eq]; exact h2)]
        rw [decide_eq_true (show (0 : Int) ≤ Lib.indexByte r (UInt8.ofNat n) + 1 by omega), decide_eq_true (show (0 : Int) ≤ Lib.indexByte r (UInt8.ofNat n) by omega)]
theorem contains_any (l : List UInt8) (w : World) :
    Calls Try.prog 40 #[.string ⟨l.toArray⟩, .string ⟨#[10]⟩] w fun e w' => e = .returned (.bool (hasN l 10)) ∧ w = w' :=
  (Any.strings_Contains_one lays144 ⟨l.toArray⟩ 10 w).mono fun _ _ ⟨h1, h2⟩ => ⟨by rw [h1, ← ix_has 10 (by omega)]; rfl, h2.symm⟩
/-- What a text is without its last byte, if that is a carriage return; whether it is. -/
def crB (l : List UInt8) : Bool := decide (l.getLast? = some 13)
def crT (l : List UInt8) : List UInt8 := if l.getLast? = some 13 then l.take (l.length - 1) else l
theorem lineR_cr (l : List UInt8) : lineR l = ⟨crT l, crB l && goodB (crT l)⟩ := by
  unfold lineR crB crT
  split
  · rename_i h
    rw [decide_eq_true h]
    rfl
  · rename_i h
    rw [decide_eq_false h]
    rfl
theorem suffix_cr (l : List UInt8) : Lib.hasSuffix l [13] = crB l := by
  unfold crB
  cases hd : decide (l.getLast? = some 13)
  · have hn := of_decide_eq_false hd
    apply Bool.eq_false_iff.2
    intro hh
    apply hn
    unfold Lib.hasSuffix at hh
    simp at hh
    obtain ⟨t, ht⟩ := hh
    rw [← ht]
    simp
  · have hp := of_decide_eq_true hd
    unfold Lib.hasSuffix
    simp
    obtain ⟨ys, rfl⟩ := List.getLast?_eq_some_iff.1 hp
    exact ⟨ys, rfl⟩
theorem trim_cr (l : List UInt8) : Lib.trimSuffix l [13] = crT l := by
  have h := suffix_cr l
  unfold crB at h
  unfold Lib.trimSuffix crT
  rw [h]
  by_cases hp : l.getLast? = some 13
  · rw [if_pos hp, decide_eq_true hp]
    simp
  · rw [if_neg hp, decide_eq_false hp]
    simp
theorem cutSuffix_any (l : List UInt8) (hl : l.length < 1000000) (w : World) :
    Calls Try.prog 57 #[.string ⟨l.toArray⟩, .string ⟨#[13]⟩] w fun e w' => e = .returned (.tuple #[.string ⟨(crT l).toArray⟩, .bool (crB l)]) ∧ w = w' :=
  (Any.strings_CutSuffix lays104 ⟨l.toArray⟩ ⟨#[13]⟩ w (by show l.length ≤ _; omega)).mono fun _ _ ⟨h1, h2⟩ => ⟨by rw [h1, ← suffix_cr, ← trim_cr], h2.symm⟩
end Go.Proofs.Ytfagjhadfonhdaa
