/-
  The library's IndexAny and ContainsAny for a few characters of ASCII, for every text.
-/
import Derived.Test.YtfagjhadfonhdaaLQRune
namespace Go.Proofs.Ytfagjhadfonhdaa
open Go.RowKit
attribute [local go_sem] lba_get
theorem run_next_at (W : World) (B : Nat) (s : ByteArray) (pos : Nat) (ty : TypeId) (h : pos < s.size) (hb : W.heap[B]? = some (.stringIter s pos)) :
    (Instr.next (.pointer (some ⟨B, 0, none⟩)) true ty).run Try.prog W = .ok (.tuple #[.bool true, .int .i64 pos, .int .i32 (Utf8.decode s pos).1]) (W.putObj B (.stringIter s (pos + (Utf8.decode s pos).2))) := by
  simp only [Instr.next, getObj, setObj, Sem.run_bind, Sem.run, hb, Result.andThen, h, if_true]
  simp [goInt, World.putObj]
theorem run_next_over (W : World) (B : Nat) (s : ByteArray) (pos : Nat) (ty : TypeId) (h : ¬ pos < s.size) (hb : W.heap[B]? = some (.stringIter s pos)) :
    (Instr.next (.pointer (some ⟨B, 0, none⟩)) true ty).run Try.prog W = .ok (.tuple #[.bool false]) W := by
  simp [Instr.next, getObj, Sem.run, hb, h]
theorem iterPos_at {W : World} {B : Nat} {s : ByteArray} {pos : Nat} (hb : W.heap[B]? = some (.stringIter s pos)) : W.iterPos B = pos := by
  simp [World.iterPos, hb]
theorem contains_ix (b : UInt8) : ∀ cs : List UInt8, cs.contains b = decide (0 ≤ Lib.indexByte cs b)
  | [] => rfl
  | c :: r => by
    have ih := contains_ix b r
    have hge := Lib.indexByte_ge r b
    show (c :: r).contains b = decide (0 ≤ if c == b then (0 : Int) else if Lib.indexByte r b == -1 then -1 else Lib.indexByte r b + 1)
    rw [List.contains_cons, ih]
    by_cases h : c = b
    · subst h
      simp
    · have h' : ¬ b = c := fun e => h e.symm
      rw [beq_eq_false_iff_ne.2 h', if_neg (by rw [beq_iff_eq]; exact h), Bool.false_or]
      by_cases h2 : Lib.indexByte r b = -1
      · rw [h2]
        rfl
      · rw [if_neg (by rw [beq_iff_eq]; exact h2)]
        rw [decide_eq_true (show (0 : Int) ≤ Lib.indexByte r b + 1 by omega), decide_eq_true (show (0 : Int) ≤ Lib.indexByte r b by omega)]
theorem noAny_run {cs : List UInt8} (hcs : ∀ b ∈ cs, b.toNat < 128) {l : List UInt8} {i m : Nat} (hno : Lib.NoAny l cs i) (hm : i + m ≤ l.length) (hh : ∀ j, j < m → 128 ≤ ((ByteArray.mk l.toArray).get! (i + j)).toNat) : Lib.NoAny l cs (i + m) := fun j b hj hb => by
  by_cases hji : j < i
  · exact hno j b hji hb
  · have h1 := hh (j - i) (by omega)
    rw [show i + (j - i) = j by omega] at h1
    have hjl : j < l.length := by omega
    have e : (ByteArray.mk l.toArray).get! j = b := by
      rw [List.getElem?_eq_getElem hjl] at hb
      have := Option.some.inj hb
      have g := get_at (ByteArray.mk l.toArray) j (by show j < l.length; exact hjl)
      rw [Nat.add_zero] at g
      rw [g]
      exact this
    rw [e] at h1
    cases hc : cs.contains b
    · rfl
    · exact absurd (hcs b (List.contains_iff_mem.1 hc)) (by omega)
set_option maxRecDepth 1000000 in
set_option maxHeartbeats 16000000 in
theorem any_short (cs : List UInt8) (h2 : 2 ≤ cs.length) (hcs : ∀ b ∈ cs, b.toNat < 128) (l : List UInt8) (h8 : l.length ≤ 8) (w : World) :
    Calls Try.prog 53 #[.string ⟨l.toArray⟩, .string ⟨cs.toArray⟩] w fun e w' => e = .returned (.int .i64 (Lib.indexAny l cs)) ∧ Below w.heap.size w w' := by
  have hne : cs.isEmpty = false := len_pos_empty (fun e => by rw [e] at h2; simp at h2)
  have hn1 : ((cs.length : Int) == 1) = false := by rw [beq_eq_false_iff_ne]; omega
  have hn0 : ((cs.length : Int) == 0) = false := by rw [beq_eq_false_iff_ne]; omega
  have h8z : decide ((8 : Int) < (l.length : Int)) = false := decide_eq_false (by omega)
  have H0 : Hid (∀ W, Calls Try.prog 59 #[.int .i64 (l.length : Int)] W fun e w' => e = .returned (.bool false) ∧ W = w') := Lib.hid (by
    intro W
    go_enter Try.func59, Try.ntmps59
    go_wp2_with fail
    go_ret
    exact ⟨rfl, rfl⟩)
  clear h8z
  go_enter Try.func53, Try.ntmps53
  go_wp2_with fail
  refine (H0.out _).mono ?_
  rintro e w' ⟨rfl, rfl⟩
  go_wp2_with fail
  go_loopw [9, 10] (fun _ _ wr => ∃ i : Nat, i ≤ l.length ∧ Hid (wr.heap[w.heap.size]? = some (.stringIter ⟨l.toArray⟩ i)) ∧ Hid (Below w.heap.size w wr) ∧ Hid (Lib.NoAny l cs i)) (fun _ _ wr => l.length - wr.iterPos w.heap.size)
  case atStart => exact ⟨0, Nat.zero_le _, Lib.hid (World.iter_heap w _ 0), Lib.hid ((Below.refl _ _).alloc (Nat.le_refl _) _), Lib.hid (Lib.NoAny.zero _ _)⟩
  case round =>
    obtain ⟨i, hi, hit, hB, hno⟩ := hrel
    rename World => W
    by_cases hlt : i < l.length
    · have hnx := fun ty => run_next_at W w.heap.size ⟨l.toArray⟩ i ty hlt hit.out
      have hsz : w.heap.size < W.heap.size := (Array.getElem?_eq_some_iff.1 hit.out).1
      obtain ⟨r, hr⟩ : ∃ r, (Utf8.decode ⟨l.toArray⟩ i).1 = r := ⟨_, rfl⟩
      obtain ⟨m, hm⟩ : ∃ m, (Utf8.decode ⟨l.toArray⟩ i).2 = m := ⟨_, rfl⟩
      obtain ⟨W2, hW2⟩ : ∃ W2, W.putObj w.heap.size (.stringIter ⟨l.toArray⟩ (i + m)) = W2 := ⟨_, rfl⟩
      have hB2 : Hid (Below w.heap.size w W2) := Lib.hid (by
        rw [← hW2]
        exact Below.grown hB.out (grownBy_putObj' W w.heap.size _) (by omega) (fun k e => by injection e with e; omega))
      have hit2 : Hid (W2.heap[w.heap.size]? = some (.stringIter ⟨l.toArray⟩ (i + m))) := Lib.hid (by rw [← hW2]; exact World.putObj_heap_same hsz)
      have hpos : W.iterPos w.heap.size = i := iterPos_at hit.out
      have hsz2 : w.heap.size < W2.heap.size := (Array.getElem?_eq_some_iff.1 hit2.out).1
      rw [hr, hm, hW2] at hnx
      have HM := Lib.hid hm
      have HR := Lib.hid hr
      have HP := Lib.hid hpos
      by_cases ha : (l[i]).toNat < 128
      · have hd := decode_ascii ⟨l.toArray⟩ i hlt ha
        have hm1 : m = 1 := by rw [← hm, hd]
        have hr1 : r = (l[i]).toNat := by rw [← hr, hd]; rfl
        subst hm1
        have hin := contains_ix (UInt8.ofNat r) cs
        have hback : UInt8.ofNat r = l[i] := by rw [hr1]; simp
        have hr128 : (r : Int) < 128 := by omega
        obtain ⟨v, hv⟩ : ∃ v, Lib.indexByte cs (UInt8.ofNat r) = v := ⟨_, rfl⟩
        rw [hv, hback] at hin
        have HV : Hid (Lib.indexByte cs ((r : Int)).toNat.toUInt8 = v) := Lib.hid (by rw [← hv]; rfl)
        have HL := Lib.hid (List.getElem?_eq_getElem hlt)
        cases hc : cs.contains l[i]
        · rw [hc] at hin
          have d1 : decide ((0 : Int) ≤ v) = false := hin.symm
          have hnext : Hid (Lib.NoAny l cs (i + 1)) := Lib.hid (hno.out.succ HL.out hc)
          clear hd hm hr hr1 hin hback hv hc ha hpos hW2
          go_wp2_with fail
          refine (Any.strings_IndexRune_ascii { lays153 with } ⟨cs.toArray⟩ (r : Int) _ (by omega) hr128).mono ?_
          rintro e w' ⟨rfl, rfl⟩
          rw [HV.out]
          go_wp2_with fail
          go_roundw
          case rel => exact ⟨i + 1, by omega, hit2, hB2, hnext⟩
          case measure => rw [HP.out, iterPos_at hit2.out]; omega
        · rw [hc] at hin
          have d1 : decide ((0 : Int) ≤ v) = true := hin.symm
          have hres : Hid (Lib.indexAny l cs = i) := Lib.hid (Lib.indexAny_hit hno.out HL.out hc)
          clear hd hm hr hr1 hin hback hv hc ha hpos hW2
          go_wp2_with fail
          refine (Any.strings_IndexRune_ascii { lays153 with } ⟨cs.toArray⟩ (r : Int) _ (by omega) hr128).mono ?_
          rintro e w' ⟨rfl, rfl⟩
          rw [HV.out]
          go_wp2_with fail
          go_ret
          exact ⟨by rw [hres.out]; rfl, hB2.out⟩
      · have hh := decode_high ⟨l.toArray⟩ i hlt (by show 128 ≤ (l[i]).toNat; omega)
        have hle := decode_le ⟨l.toArray⟩ i
        have hrun := decode_run ⟨l.toArray⟩ i hlt (by show 128 ≤ (l[i]).toNat; omega)
        rw [hr, hm] at hh
        rw [hr] at hle
        rw [hm] at hrun
        have hml : i + m ≤ l.length := hrun.1
        have hnext : Hid (Lib.NoAny l cs (i + m)) := Lib.hid (noAny_run hcs hno.out hml hrun.2)
        have hr1 := hh.1
        have hm1 := hh.2
        clear hm hr ha hpos hW2 hh hrun
        go_wp2_with fail
        refine (rune_none cs hcs r hr1 hle _).mono ?_
        rintro e w3 ⟨rfl, hb⟩
        have hB3 : Hid (Below w.heap.size w w3) := Lib.hid (hB2.out.trans (hb.mono (by omega)))
        have hit3 : Hid (w3.heap[w.heap.size]? = some (.stringIter ⟨l.toArray⟩ (i + m))) := Lib.hid ((hb.block _ hsz2).trans hit2.out)
        clear hb
        go_wp2_with fail
        go_roundw
        case rel => exact ⟨i + m, hml, hit3, hB3, hnext⟩
        case measure => rw [HP.out, iterPos_at hit3.out]; omega
    · have hnx := fun ty => run_next_over W w.heap.size ⟨l.toArray⟩ i ty hlt hit.out
      have hres : Hid (Lib.indexAny l cs = -1) := Lib.hid (Lib.indexAny_none (by have := hno.out; rwa [show i = l.length by omega] at this))
      go_wp2_with fail
      go_ret
      exact ⟨by rw [hres.out]; rfl, hB.out⟩
theorem info256 : (Try.prog.info? 89).map (fun i => (i.zero, i.size)) = some (some (.agg (Array.replicate 256 (.bool false))), 256) := by kernel_rfl
theorem any_any (cs : List UInt8) (h2 : 2 ≤ cs.length) (hcl : cs.length < 100) (hcs : ∀ b ∈ cs, b.toNat < 128) (l : List UInt8) (hl : l.length < 1000000) (w : World) :
    Calls Try.prog 53 #[.string ⟨l.toArray⟩, .string ⟨cs.toArray⟩] w fun e w' => e = .returned (.int .i64 (Lib.indexAny l cs)) ∧ Below w.heap.size w w' := by
  by_cases h8 : l.length ≤ 8
  · exact any_short cs h2 hcs l h8 w
  · refine (Any.strings_IndexAny_long lays153 (zero_of_info info256).1 (zero_of_info info256).2 ⟨l.toArray⟩ ⟨cs.toArray⟩ w h2 (by show 8 < l.length; omega) (by show l.length < _; omega) (by show cs.length < _; omega) (fun j b hb => hcs b (List.mem_of_getElem? hb))).mono fun e w' ⟨h1, h2⟩ => ⟨h1, ?_⟩
    rw [h2]
    exact ((Below.refl _ _).alloc (Nat.le_refl _) _).alloc (by simp) _
theorem anyB (l : List UInt8) : decide (0 ≤ Lib.indexAny l [13, 10, 0]) = !goodB l := by
  have key : ∀ l : List UInt8, decide (0 ≤ Lib.indexAny l [13, 10, 0]) = (hasN l 13 || hasN l 0 || hasN l 10) := by
    intro l
    induction l with
    | nil => rfl
    | cons c r ih =>
      have hge := Lib.indexAny_ge [13, 10, 0] r
      have hc : ([13, 10, 0] : List UInt8).contains c = (c.toNat == 13 || c.toNat == 0 || c.toNat == 10) := by
        have : ∀ n : Fin 256, ([13, 10, 0] : List UInt8).contains (UInt8.ofNat n.val) = (n.val == 13 || n.val == 0 || n.val == 10) := by decide +kernel
        have h := this ⟨c.toNat, c.toNat_lt⟩
        dsimp only at h
        rw [UInt8.ofNat_toNat] at h
        exact h
      show decide (0 ≤ if ([13, 10, 0] : List UInt8).contains c then (0 : Int) else if Lib.indexAny r [13, 10, 0] == -1 then -1 else Lib.indexAny r [13, 10, 0] + 1) = ((c.toNat == 13 || hasN r 13) || (c.toNat == 0 || hasN r 0) || (c.toNat == 10 || hasN r 10))
      rw [hc]
      cases h1 : (c.toNat == 13 || c.toNat == 0 || c.toNat == 10)
      · simp only [Bool.or_eq_false_iff] at h1
        rw [h1.1.1, h1.1.2, h1.2, if_neg (by decide), Bool.false_or, Bool.false_or, Bool.false_or, ← ih]
        by_cases h2 : Lib.indexAny r [13, 10, 0] = -1
        · rw [h2]
          rfl
        · rw [if_neg (by rw [beq_iff_eq]; exact h2)]
          rw [decide_eq_true (show (0 : Int) ≤ Lib.indexAny r [13, 10, 0] + 1 by omega), decide_eq_true (show (0 : Int) ≤ Lib.indexAny r [13, 10, 0] by omega)]
      · rw [if_pos rfl]
        simp only [Bool.or_eq_true] at h1
        rcases h1 with (h1 | h1) | h1 <;> simp [h1]
  rw [key]
  unfold goodB
  simp
theorem isClean_any (l : List UInt8) (hl : l.length < 1000000) (w : World) :
    Calls Try.prog 37 #[.string ⟨l.toArray⟩] w fun e w' => e = .returned (.bool (goodB l)) ∧ Below w.heap.size w w' := by
  have hb := anyB l
  obtain ⟨v, hv⟩ : ∃ v, Lib.indexAny l [13, 10, 0] = v := ⟨_, rfl⟩
  rw [hv] at hb
  obtain ⟨q, hq⟩ : ∃ q, goodB l = q := ⟨_, rfl⟩
  rw [hq] at hb ⊢
  have HV := Lib.hid hv
  have HC : Hid (∀ W, Calls Try.prog 47 #[.string ⟨l.toArray⟩, .string ⟨#[13, 10, 0]⟩] W fun e w' => e = .returned (.bool !q) ∧ Below W.heap.size W w') := Lib.hid (by
    intro W
    clear hq hv
    go_enter Try.func47, Try.ntmps47
    go_wp2_with fail
    refine (any_any [13, 10, 0] (by decide) (by decide) (by decide) l hl _).mono ?_
    rintro e w' ⟨rfl, hbw⟩
    rw [HV.out]
    clear HV
    go_wp2_with fail
    go_ret
    exact ⟨by rw [← hb]; rfl, hbw⟩)
  clear hb hv hq HV
  go_enter Try.func37, Try.ntmps37
  go_wp2_with fail
  refine (HC.out _).mono ?_
  rintro e w' ⟨rfl, hbw⟩
  go_wp2_with fail
  go_ret
  exact ⟨by cases q <;> rfl, hbw⟩
end Go.Proofs.Ytfagjhadfonhdaa
