/-
  The library's IndexAny for a space and a tab, for every text.
-/
import Derived.Test.YtacceiloggnekaaDoorRPRune
import Derived.RangeFuncOwn
namespace Go.Proofs.YtacceiloggnekaaDoor
open Go.RowKit
attribute [local go_sem] ba_get
theorem run_next_at (W : World) (B : Nat) (s : ByteArray) (pos : Nat) (ty : TypeId) (h : pos < s.size) (hb : W.heap[B]? = some (.stringIter s pos)) :
    (Instr.next (.pointer (some ⟨B, 0, none⟩)) true ty).run Tryd.prog W = .ok (.tuple #[.bool true, .int .i64 pos, .int .i32 (Utf8.decode s pos).1]) (W.putObj B (.stringIter s (pos + (Utf8.decode s pos).2))) := by
  simp only [Instr.next, getObj, setObj, Sem.run_bind, Sem.run, hb, Result.andThen, h, if_true]
  simp [goInt, World.putObj]
theorem run_next_over (W : World) (B : Nat) (s : ByteArray) (pos : Nat) (ty : TypeId) (h : ¬ pos < s.size) (hb : W.heap[B]? = some (.stringIter s pos)) :
    (Instr.next (.pointer (some ⟨B, 0, none⟩)) true ty).run Tryd.prog W = .ok (.tuple #[.bool false]) W := by
  simp [Instr.next, getObj, Sem.run, hb, h]
theorem iterPos_at {W : World} {B : Nat} {s : ByteArray} {pos : Nat} (hb : W.heap[B]? = some (.stringIter s pos)) : W.iterPos B = pos := by
  simp [World.iterPos, hb]
def blanksU : List UInt8 := [32, 9]
theorem ascii_in : ∀ n : Fin 128, blanksU.contains (UInt8.ofNat n.val) = decide (0 ≤ Lib.indexByte blanksU (UInt8.ofNat n.val)) := by decide +kernel
theorem noAny_run {l : List UInt8} {i m : Nat} (hno : Lib.NoAny l blanksU i) (hm : i + m ≤ l.length) (hh : ∀ j, j < m → 128 ≤ ((ByteArray.mk l.toArray).get! (i + j)).toNat) : Lib.NoAny l blanksU (i + m) := fun j b hj hb => by
  by_cases hji : j < i
  · exact hno j b hji hb
  · have h1 := hh (j - i) (by omega)
    rw [show i + (j - i) = j by omega] at h1
    have hjl : j < l.length := by omega
    have e : (ByteArray.mk l.toArray).get! j = b := by
      rw [List.getElem?_eq_getElem hjl] at hb
      have := Option.some.inj hb
      have g := get_at (ByteArray.mk l.toArray) j (by show j < l.length; exact hjl)
      rw [Nat.add_zero] at g
      rw [g]
      exact this
    rw [e] at h1
    unfold blanksU
    simp only [List.contains_eq_mem, List.mem_cons, List.not_mem_nil, or_false, decide_eq_false_iff_not, not_or]
    exact ⟨fun h => by rw [h] at h1; exact absurd h1 (by decide), fun h => by rw [h] at h1; exact absurd h1 (by decide)⟩
set_option maxRecDepth 1000000 in
set_option maxHeartbeats 16000000 in
theorem any_short (l : List UInt8) (h8 : l.length ≤ 8) (w : World) :
    Calls Tryd.prog 69 #[.string ⟨l.toArray⟩, .string ⟨#[32, 9]⟩] w fun e w' => e = .returned (.int .i64 (Lib.indexAny l blanksU)) ∧ Below w.heap.size w w' := by
  have h8z : decide ((8 : Int) < (l.length : Int)) = false := decide_eq_false (by omega)
  have H0 : Hid (∀ W, Calls Tryd.prog 83 #[.int .i64 (l.length : Int)] W fun e w' => e = .returned (.bool false) ∧ W = w') := Lib.hid (by
    intro W
    go_enter Tryd.func83, Tryd.ntmps83
    go_wp2_with fail
    go_ret
    exact ⟨rfl, rfl⟩)
  clear h8z
  go_enter Tryd.func69, Tryd.ntmps69
  go_wp2_with fail
  refine (H0.out _).mono ?_
  rintro e w' ⟨rfl, rfl⟩
  go_wp2_with fail
  go_loopw [9, 10] (fun _ _ wr => ∃ i : Nat, i ≤ l.length ∧ Hid (wr.heap[w.heap.size]? = some (.stringIter ⟨l.toArray⟩ i)) ∧ Hid (Below w.heap.size w wr) ∧ Hid (Lib.NoAny l blanksU i)) (fun _ _ wr => l.length - wr.iterPos w.heap.size)
  case atStart => exact ⟨0, Nat.zero_le _, Lib.hid (World.iter_heap w _ 0), Lib.hid ((Below.refl _ _).alloc (Nat.le_refl _) _), Lib.hid (Lib.NoAny.zero _ _)⟩
  case round =>
    obtain ⟨i, hi, hit, hB, hno⟩ := hrel
    rename World => W
    by_cases hlt : i < l.length
    · have hnx := fun ty => run_next_at W w.heap.size ⟨l.toArray⟩ i ty hlt hit.out
      have hsz : w.heap.size < W.heap.size := (Array.getElem?_eq_some_iff.1 hit.out).1
      obtain ⟨r, hr⟩ : ∃ r, (Utf8.decode ⟨l.toArray⟩ i).1 = r := ⟨_, rfl⟩
      obtain ⟨m, hm⟩ : ∃ m, (Utf8.decode ⟨l.toArray⟩ i).2 = m := ⟨_, rfl⟩
      obtain ⟨W2, hW2⟩ : ∃ W2, W.putObj w.heap.size (.stringIter ⟨l.toArray⟩ (i + m)) = W2 := ⟨_, rfl⟩
      have hB2 : Hid (Below w.heap.size w W2) := Lib.hid (by
        rw [← hW2]
        exact Below.grown hB.out (grownBy_putObj' W w.heap.size _) (by omega) (fun k e => by injection e with e; omega))
      have hit2 : Hid (W2.heap[w.heap.size]? = some (.stringIter ⟨l.toArray⟩ (i + m))) := Lib.hid (by rw [← hW2]; exact World.putObj_heap_same hsz)
      have hpos : W.iterPos w.heap.size = i := iterPos_at hit.out
      have hsz2 : w.heap.size < W2.heap.size := (Array.getElem?_eq_some_iff.1 hit2.out).1
      rw [hr, hm, hW2] at hnx
      have HM := Lib.hid hm
      have HR := Lib.hid hr
      have HP := Lib.hid hpos
      by_cases ha : (l[i]).toNat < 128
      · have hd := decode_ascii ⟨l.toArray⟩ i hlt ha
        have hm1 : m = 1 := by rw [← hm, hd]
        have hr1 : r = (l[i]).toNat := by rw [← hr, hd]; rfl
        subst hm1
        have hin := ascii_in ⟨r, by rw [hr1]; exact ha⟩
        have hback : UInt8.ofNat r = l[i] := by rw [hr1]; simp
        have hr128 : (r : Int) < 128 := by omega
        obtain ⟨v, hv⟩ : ∃ v, Lib.indexByte blanksU (UInt8.ofNat r) = v := ⟨_, rfl⟩
        dsimp only at hin
        rw [hv, hback] at hin
        have HV : Hid (Lib.indexByte [32, 9] ((r : Int)).toNat.toUInt8 = v) := Lib.hid (by rw [← hv]; rfl)
        have HL := Lib.hid (List.getElem?_eq_getElem hlt)
        cases hc : blanksU.contains l[i]
        · rw [hc] at hin
          have d1 : decide ((0 : Int) ≤ v) = false := hin.symm
          have hnext : Hid (Lib.NoAny l blanksU (i + 1)) := Lib.hid (hno.out.succ HL.out hc)
          clear hd hm hr hr1 hin hback hv hc ha hpos hW2
          go_wp2_with fail
          refine (Any.strings_IndexRune_ascii { lays153 with } ⟨#[32, 9]⟩ (r : Int) _ (by omega) hr128).mono ?_
          rintro e w' ⟨rfl, rfl⟩
          rw [HV.out]
          go_wp2_with fail
          go_roundw
          case rel => exact ⟨i + 1, by omega, hit2, hB2, hnext⟩
          case measure => rw [HP.out, iterPos_at hit2.out]; omega
        · rw [hc] at hin
          have d1 : decide ((0 : Int) ≤ v) = true := hin.symm
          have hres : Hid (Lib.indexAny l blanksU = i) := Lib.hid (Lib.indexAny_hit hno.out HL.out hc)
          clear hd hm hr hr1 hin hback hv hc ha hpos hW2
          go_wp2_with fail
          refine (Any.strings_IndexRune_ascii { lays153 with } ⟨#[32, 9]⟩ (r : Int) _ (by omega) hr128).mono ?_
          rintro e w' ⟨rfl, rfl⟩
          rw [HV.out]
          go_wp2_with fail
          go_ret
          exact ⟨by rw [hres.out]; rfl, hB2.out⟩
      · have hh := decode_high ⟨l.toArray⟩ i hlt (by show 128 ≤ (l[i]).toNat; omega)
        have hle := decode_le ⟨l.toArray⟩ i
        have hrun := decode_run ⟨l.toArray⟩ i hlt (by show 128 ≤ (l[i]).toNat; omega)
        rw [hr, hm] at hh
        rw [hr] at hle
        rw [hm] at hrun
        have hml : i + m ≤ l.length := hrun.1
        have hnext : Hid (Lib.NoAny l blanksU (i + m)) := Lib.hid (noAny_run hno.out hml hrun.2)
        have hr1 := hh.1
        have hm1 := hh.2
        clear hm hr ha hpos hW2 hh hrun
        go_wp2_with fail
        refine (rune_none r hr1 hle _).mono ?_
        rintro e w3 ⟨rfl, hb⟩
        have hB3 : Hid (Below w.heap.size w w3) := Lib.hid (hB2.out.trans (hb.mono (by omega)))
        have hit3 : Hid (w3.heap[w.heap.size]? = some (.stringIter ⟨l.toArray⟩ (i + m))) := Lib.hid ((hb.block _ hsz2).trans hit2.out)
        clear hb
        go_wp2_with fail
        go_roundw
        case rel => exact ⟨i + m, hml, hit3, hB3, hnext⟩
        case measure => rw [HP.out, iterPos_at hit3.out]; omega
    · have hnx := fun ty => run_next_over W w.heap.size ⟨l.toArray⟩ i ty hlt hit.out
      have hres : Hid (Lib.indexAny l blanksU = -1) := Lib.hid (Lib.indexAny_none (by have := hno.out; rwa [show i = l.length by omega] at this))
      go_wp2_with fail
      go_ret
      exact ⟨by rw [hres.out]; rfl, hB.out⟩
theorem info256 : (Tryd.prog.info? 118).map (fun i => (i.zero, i.size)) = some (some (.agg (Array.replicate 256 (.bool false))), 256) := by kernel_rfl
theorem any_any (l : List UInt8) (hl : l.length < 1000000) (w : World) :
    Calls Tryd.prog 69 #[.string ⟨l.toArray⟩, .string ⟨#[32, 9]⟩] w fun e w' => e = .returned (.int .i64 (Lib.indexAny l blanksU)) ∧ Below w.heap.size w w' := by
  by_cases h8 : l.length ≤ 8
  · exact any_short l h8 w
  · refine (Any.strings_IndexAny_long lays153 (zero_of_info info256).1 (zero_of_info info256).2 ⟨l.toArray⟩ ⟨#[32, 9]⟩ w (by decide) (by show 8 < l.length; omega) (by show l.length < _; omega) (by decide) (fun j b hb => ?_)).mono fun e w' ⟨h1, h2⟩ => ⟨h1, ?_⟩
    · have : b = 32 ∨ b = 9 := by
        match j, hb with
        | 0, hb => exact .inl (Option.some.inj hb).symm
        | 1, hb => exact .inr (Option.some.inj hb).symm
        | _ + 2, hb => cases hb
      rcases this with rfl | rfl <;> decide
    · rw [h2]
      exact ((Below.refl _ _).alloc (Nat.le_refl _) _).alloc (by simp) _
end Go.Proofs.YtacceiloggnekaaDoor
