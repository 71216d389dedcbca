/-
  Percent signs: what is an escape, what a string says, and how it is encoded. No condition.
  The reference's value, escape and step for every byte and every place in a text.
  Slices of bytes that the call's own memory holds: what an append, a call and a conversion to a string make of them. No condition.
-/
import Derived.IntWalk
import Derived.Lib.Hide
import Derived.Test.YtjinedeelkdgiaaDoorChecked
import Derived.Test.YtjinedeelkdgiaaDoorHBits
import Derived.BigQuiet
import Derived.Deep.QuietTactic
import Derived.Deep.RegionHeld3
import Derived.Deep.DeepCutAuto
import Derived.Maps.AppendAt
import Derived.Deep.AppendLies
import Derived.Deep.RegionLaw
namespace Go.Proofs.YtjinedeelkdgiaaDoor
open Go.RowKit
/-- The value of a hexadecimal digit, and whether it is one. -/
def hexP (n : Nat) : Nat × Bool := if 48 ≤ n ∧ n ≤ 57 then (n - 48, true) else if 65 ≤ n ∧ n ≤ 70 then (n - 55, true) else if 97 ≤ n ∧ n ≤ 102 then (n - 87, true) else (0, false)
def valI (n : Nat) : Int := if (hexP n).2 then ((hexP n).1 : Int) else -1
def isHex (b : UInt8) : Bool := (hexP b.toNat).2
def hexB (b : UInt8) : Nat := (hexP b.toNat).1
theorem hexP_lt (n : Nat) : (hexP n).1 < 16 := by
  unfold hexP
  split
  · simp; omega
  · split
    · simp; omega
    · split
      · simp; omega
      · simp
theorem hexB_lt (b : UInt8) : hexB b < 16 := hexP_lt _
theorem valI_hex {b : UInt8} (h : isHex b = true) : valI b.toNat = (hexB b : Int) := by
  unfold valI; unfold isHex at h; rw [h]; rfl
theorem valI_no {b : UInt8} (h : isHex b = false) : valI b.toNat = -1 := by
  unfold valI; unfold isHex at h; rw [h]; rfl
/-- Does an escape begin here? -/
def escB : List UInt8 → Bool
  | c :: a :: b :: _ => c == 37 && isHex a && isHex b
  | _ => false
/-- The byte that an escape stands for. -/
def escV : List UInt8 → UInt8
  | _ :: a :: b :: _ => UInt8.ofNat (16 * hexB a + hexB b)
  | _ => 0
/-- What a string says, from its byte number i on; where the first fault is, if there is one. 'k' bounds the steps. -/
def decF : Nat → List UInt8 → Nat → Except Nat (List UInt8)
  | _, [], _ => .ok []
  | 0, _ :: _, i => .error i
  | k + 1, c :: r, i => if escB (c :: r) then (decF k ((c :: r).drop 3) (i + 3)).map (escV (c :: r) :: ·) else if c = 37 then .error i else (decF k r (i + 1)).map (c :: ·)
def decL (l : List UInt8) (i : Nat) : Except Nat (List UInt8) := decF l.length l i
theorem decF_fuel : ∀ (k : Nat) (l : List UInt8) (i : Nat), l.length ≤ k → decF k l i = decL l i := by
  intro k
  induction k using Nat.strongRecOn with
  | ind k ih =>
    intro l i hk
    cases l with
    | nil => cases k <;> rfl
    | cons c r =>
      cases k with
      | zero => simp at hk
      | succ k =>
        simp only [List.length_cons] at hk
        unfold decL
        simp only [List.length_cons, decF]
        have hd : ((c :: r).drop 3).length ≤ r.length := by simp
        by_cases he : r.length = k
        · rw [he]
        · rw [ih k (by omega) _ _ (by omega), ih k (by omega) _ _ (by omega), ih r.length (by omega) _ _ hd, ih r.length (by omega) _ _ (Nat.le_refl _)]
theorem decL_nil (i : Nat) : decL [] i = .ok [] := rfl
theorem decL_esc {l : List UInt8} (i : Nat) (h : escB l = true) : decL l i = (decL (l.drop 3) (i + 3)).map (escV l :: ·) := by
  cases l with
  | nil => cases h
  | cons c r =>
    show decF (r.length + 1) (c :: r) i = _
    rw [decF, if_pos h, decF_fuel _ _ _ (by simp)]
theorem decL_bad {r : List UInt8} (i : Nat) (h : escB (37 :: r) = false) : decL (37 :: r) i = .error i := by
  show decF (r.length + 1) (37 :: r) i = _
  rw [decF, if_neg (by rw [h]; simp), if_pos rfl]
theorem decL_plain {c : UInt8} {r : List UInt8} (i : Nat) (hc : c ≠ 37) : decL (c :: r) i = (decL r (i + 1)).map (c :: ·) := by
  have h : escB (c :: r) = false := by
    unfold escB
    split
    · rename_i heq
      injection heq with e1 e2
      subst e1
      simp [hc]
    · rfl
  show decF (r.length + 1) (c :: r) i = _
  rw [decF, if_neg (by rw [h]; simp), if_neg hc]
  rfl
theorem escB_short {l : List UInt8} {k : Nat} (h : l.length ≤ k + 2) : escB (l.drop k) = false := by
  have : (l.drop k).length ≤ 2 := by rw [List.length_drop]; omega
  match hl : l.drop k, this with
  | [], _ => rfl
  | [_], _ => rfl
  | [_, _], _ => rfl
  | _ :: _ :: _ :: _, h => simp at h
theorem drop3 {l : List UInt8} {k : Nat} (h : k + 2 < l.length) : l.drop k = l[k] :: l[k + 1] :: l[k + 2] :: l.drop (k + 3) := by
  rw [List.drop_eq_getElem_cons (by omega), List.drop_eq_getElem_cons (by omega), List.drop_eq_getElem_cons (by omega)]
theorem escB_at {l : List UInt8} {k : Nat} (h : k + 2 < l.length) : escB (l.drop k) = (l[k] == 37 && isHex l[k + 1] && isHex l[k + 2]) := by
  rw [drop3 h]; rfl
theorem ba_get (l : List UInt8) (i : Nat) (h : i < (ByteArray.mk l.toArray).size) : (ByteArray.mk l.toArray)[i]'h = l[i]'h := rfl
end Go.Proofs.YtjinedeelkdgiaaDoor
namespace Go.Proofs.YtjinedeelkdgiaaDoor
open Go.RowKit
attribute [local go_sem] ba_get
set_option maxHeartbeats 1000000 in
theorem value_any (n : Nat) (hn : n < 256) (w : World) :
    Calls Tryd.prog 88 #[.int .u8 (n : Int)] w fun e w' => e = .returned (.int .i64 (valI n)) ∧ w = w' := by
  have hp : ∀ b, valI n = b → Hid (valI n = b) := fun _ h => h
  have h : (97 ≤ n ∧ n ≤ 102) ∨ (65 ≤ n ∧ n ≤ 70) ∨ (48 ≤ n ∧ n ≤ 57) ∨ n < 48 ∨ (57 < n ∧ n < 65) ∨ (70 < n ∧ n < 97) ∨ 102 < n := by omega
  rcases h with h | h | h | h | h | h | h
  all_goals
    first
      | have HP := hp ((n - 48 : Nat) : Int) (by unfold valI; rw [show hexP n = (n - 48, true) by unfold hexP; rw [if_pos (by omega)]]; rfl)
      | have HP := hp ((n - 55 : Nat) : Int) (by unfold valI; rw [show hexP n = (n - 55, true) by unfold hexP; rw [if_neg (by omega), if_pos (by omega)]]; rfl)
      | have HP := hp ((n - 87 : Nat) : Int) (by unfold valI; rw [show hexP n = (n - 87, true) by unfold hexP; rw [if_neg (by omega), if_neg (by omega), if_pos (by omega)]]; rfl)
      | have HP := hp (-1) (by unfold valI; rw [show hexP n = (0, false) by unfold hexP; rw [if_neg (by omega), if_neg (by omega), if_neg (by omega)]]; rfl)
    clear hp
    first | have a1 : decide ((97 : Int) ≤ (n : Int)) = true := decide_eq_true (by omega) | have a1 : decide ((97 : Int) ≤ (n : Int)) = false := decide_eq_false (by omega)
    first | have a2 : decide ((n : Int) ≤ 102) = true := decide_eq_true (by omega) | have a2 : decide ((n : Int) ≤ 102) = false := decide_eq_false (by omega)
    first | have a3 : decide ((65 : Int) ≤ (n : Int)) = true := decide_eq_true (by omega) | have a3 : decide ((65 : Int) ≤ (n : Int)) = false := decide_eq_false (by omega)
    first | have a4 : decide ((n : Int) ≤ 70) = true := decide_eq_true (by omega) | have a4 : decide ((n : Int) ≤ 70) = false := decide_eq_false (by omega)
    first | have a5 : decide ((48 : Int) ≤ (n : Int)) = true := decide_eq_true (by omega) | have a5 : decide ((48 : Int) ≤ (n : Int)) = false := decide_eq_false (by omega)
    first | have a6 : decide ((n : Int) ≤ 57) = true := decide_eq_true (by omega) | have a6 : decide ((n : Int) ≤ 57) = false := decide_eq_false (by omega)
    go_enter Tryd.func88, Tryd.ntmps88
    go_wp2_with fail
    go_ret
    refine ⟨?_, rfl⟩
    rw [HP.out]
    first | rfl | (simp; omega)
set_option maxHeartbeats 2000000 in
theorem escape_any (l : List UInt8) (hl : l.length < 1000000) (k : Nat) (hk : k < l.length) (w : World) :
    Calls Tryd.prog 87 #[.string ⟨l.toArray⟩, .int .i64 (k : Int)] w fun e w' => e = .returned (.bool (escB (l.drop k))) ∧ w = w' := by
  have q2 : IntKind.i64.wrap ((k : Int) + 2) = ((k + 2 : Nat) : Int) := (IntWalk.i64_in _ (by omega)).trans (by omega)
  by_cases h3 : k + 2 < l.length
  · have d1 : decide (((k + 2 : Nat) : Int) < (l.length : Int)) = true := decide_eq_true (by omega)
    have hE := escB_at h3
    have b0 : (k : Int) < (l.length : Int) := by omega
    obtain ⟨y, hy⟩ : ∃ y, (l[k]).toNat = y := ⟨_, rfl⟩
    by_cases hc : y = 37
    · have hk37 : l[k] = 37 := UInt8.toNat_inj.1 (by rw [hy, hc]; rfl)
      subst hc
      rw [hk37] at hE
      have q1 : IntKind.i64.wrap ((k : Int) + 1) = ((k + 1 : Nat) : Int) := (IntWalk.i64_in _ (by omega)).trans (by omega)
      have b1 : ((k + 1 : Nat) : Int) < (l.length : Int) := by omega
      have b2 : ((k + 2 : Nat) : Int) < (l.length : Int) := by omega
      obtain ⟨y1, hy1⟩ : ∃ y, (l[k + 1]).toNat = y := ⟨_, rfl⟩
      obtain ⟨y2, hy2⟩ : ∃ y, (l[k + 2]).toNat = y := ⟨_, rfl⟩
      have l1 : y1 < 256 := by rw [← hy1]; exact UInt8.toNat_lt _
      have l2 : y2 < 256 := by rw [← hy2]; exact UInt8.toNat_lt _
      cases e1 : isHex l[k + 1]
      · have V1 := valI_no e1
        rw [hy1] at V1
        have V1 := Lib.hid V1
        have hE2 : Hid (escB (l.drop k) = false) := Lib.hid (by rw [hE, e1]; simp)
        clear hE e1 hk37
        go_enter Tryd.func87, Tryd.ntmps87
        go_wp2_with fail
        refine (value_any y1 l1 _).mono ?_
        rintro e w' ⟨rfl, rfl⟩
        rw [V1.out]
        go_wp2_with fail
        go_ret
        exact ⟨by rw [hE2.out]; rfl, rfl⟩
      · have V1 := valI_hex e1
        rw [hy1] at V1
        obtain ⟨v1, hv1⟩ : ∃ v, hexB l[k + 1] = v := ⟨_, rfl⟩
        rw [hv1] at V1
        have V1 := Lib.hid V1
        have n1 : decide ((0 : Int) ≤ (v1 : Int)) = true := decide_eq_true (by omega)
        cases e2 : isHex l[k + 2]
        · have V2 := valI_no e2
          rw [hy2] at V2
          have V2 := Lib.hid V2
          have hE2 : Hid (escB (l.drop k) = false) := Lib.hid (by rw [hE, e1, e2]; simp)
          clear hE e1 e2 hk37 hv1
          go_enter Tryd.func87, Tryd.ntmps87
          go_wp2_with fail
          refine (value_any y1 l1 _).mono ?_
          rintro e w' ⟨rfl, rfl⟩
          rw [V1.out]
          go_wp2_with fail
          refine (value_any y2 l2 _).mono ?_
          rintro e w' ⟨rfl, rfl⟩
          rw [V2.out]
          go_wp2_with fail
          go_ret
          exact ⟨by rw [hE2.out]; rfl, rfl⟩
        · have V2 := valI_hex e2
          rw [hy2] at V2
          obtain ⟨v2, hv2⟩ : ∃ v, hexB l[k + 2] = v := ⟨_, rfl⟩
          rw [hv2] at V2
          have V2 := Lib.hid V2
          have n2 : decide ((0 : Int) ≤ (v2 : Int)) = true := decide_eq_true (by omega)
          have hE2 : Hid (escB (l.drop k) = true) := Lib.hid (by rw [hE, e1, e2]; simp)
          clear hE e1 e2 hk37 hv1 hv2
          go_enter Tryd.func87, Tryd.ntmps87
          go_wp2_with fail
          refine (value_any y1 l1 _).mono ?_
          rintro e w' ⟨rfl, rfl⟩
          rw [V1.out]
          go_wp2_with fail
          refine (value_any y2 l2 _).mono ?_
          rintro e w' ⟨rfl, rfl⟩
          rw [V2.out]
          go_wp2_with fail
          go_ret
          exact ⟨by rw [hE2.out]; rfl, rfl⟩
    · have hE2 : Hid (escB (l.drop k) = false) := Lib.hid (by
        have hne : l[k] ≠ 37 := fun e => hc (by rw [← hy, e]; rfl)
        rw [hE]; simp [hne])
      have hc3 : (y == 37) = false := by rw [beq_eq_false_iff_ne]; exact hc
      clear hE
      go_enter Tryd.func87, Tryd.ntmps87
      go_wp2_with fail
      go_ret
      exact ⟨by rw [hE2.out]; rfl, rfl⟩
  · have d1 : decide (((k + 2 : Nat) : Int) < (l.length : Int)) = false := decide_eq_false (by omega)
    have hE := Lib.hid (escB_short (l := l) (k := k) (by omega))
    go_enter Tryd.func87, Tryd.ntmps87
    go_wp2_with fail
    go_ret
    exact ⟨by rw [hE.out]; rfl, rfl⟩
/-- How many bytes what begins here has. -/
def stepB (l : List UInt8) : Nat := if escB l then 3 else 1
set_option maxHeartbeats 1000000 in
theorem step_any (l : List UInt8) (hl : l.length < 1000000) (k : Nat) (hk : k < l.length) (w : World) :
    Calls Tryd.prog 86 #[.string ⟨l.toArray⟩, .int .i64 (k : Int)] w fun e w' => e = .returned (.int .i64 (stepB (l.drop k) : Nat)) ∧ w = w' := by
  cases he : escB (l.drop k)
  · have H := Lib.hid he
    have HS : Hid (stepB (l.drop k) = 1) := Lib.hid (by unfold stepB; rw [he]; rfl)
    clear he
    go_enter Tryd.func86, Tryd.ntmps86
    go_wp2_with fail
    refine (escape_any l hl k hk _).mono ?_
    rintro e w' ⟨rfl, rfl⟩
    rw [H.out]
    go_wp2_with fail
    go_ret
    exact ⟨by rw [HS.out]; rfl, rfl⟩
  · have H := Lib.hid he
    have HS : Hid (stepB (l.drop k) = 3) := Lib.hid (by unfold stepB; rw [he]; rfl)
    clear he
    go_enter Tryd.func86, Tryd.ntmps86
    go_wp2_with fail
    refine (escape_any l hl k hk _).mono ?_
    rintro e w' ⟨rfl, rfl⟩
    rw [H.out]
    go_wp2_with fail
    go_ret
    exact ⟨by rw [HS.out]; rfl, rfl⟩
end Go.Proofs.YtjinedeelkdgiaaDoor
namespace Go.Proofs.YtjinedeelkdgiaaDoor
open Go.RowKit
theorem info5 : (Tryd.prog.info? 5).map (fun i => (i.zero, i.size, i.bytes)) = some (some (.int .u8 0), 1, 1) := by kernel_rfl
theorem Blk.kept {W W' : World} {row : Option Nat} {B : Nat} {s : WSet} (h : Blk W B s) (hg : W.grownBy W' row) (hne : some B ≠ row) : Blk W' B s := (hg.block B h.lt hne).trans h
theorem Blk.not_row {W : World} {B : Nat} {e : TypeId} {s : WSet} (h : Blk W B s) (hte : 38 ≠ e) {base size k : Nat} {v : Value} {xs : List Value} (hr : W.ownsRow base e size v k xs) : some B ≠ v.ownBlock := by
  rcases hr.2 with ⟨rfl, _⟩ | ⟨g, cap, cur, rfl, _, hgb, _⟩
  · simp [Value.ownBlock]
  · intro e'
    obtain rfl : B = g := by simpa [Value.ownBlock] using e'
    have := (show W.heap[B]? = _ from h).symm.trans hgb
    simp at this
    exact hte this.2
theorem belowGrown {W W' : World} (h : Below W.heap.size W W') : W.grownBy W' none := ⟨h.os, h.tape, h.output, h.size, fun k hk _ => h.block k hk⟩
theorem below_grown {n : Nat} {w W W' : World} {row : Option Nat} (hB : Below n w W) (hn : n ≤ W.heap.size) (hg : W.grownBy W' row) (hr : ∀ r, row = some r → n ≤ r) : Below n w W' :=
  hB.trans ⟨hg.os, hg.tape, hg.output, hg.size, fun k hk => hg.block k (Nat.lt_of_lt_of_le hk hn) (fun e => by have := hr k e.symm; omega)⟩
theorem own_ge {W : World} {base : Nat} {e : TypeId} {size n : Nat} {v : Value} {xs : List Value} (h : W.ownsRow base e size v n xs) (m : Nat) (hm : m ≤ base) : ∀ r, v.ownBlock = some r → m ≤ r := fun r hr => Nat.le_trans hm (h.lt r hr).1
theorem own_below {W W' : World} {base : Nat} {e : TypeId} {size n : Nat} {v : Value} {xs : List Value} (h : W.ownsRow base e size v n xs) (hb : Below W.heap.size W W') : W'.ownsRow base e size v n xs := h.kept (belowGrown hb) (Decidable.em _)
theorem own_down {W : World} {base base' : Nat} {e : TypeId} {size n : Nat} {v : Value} {xs : List Value} (h : W.ownsRow base e size v n xs) (hb : base' ≤ base) : W.ownsRow base' e size v n xs :=
  ⟨h.1, h.2.imp id fun ⟨g, cap, cur, e1, e2, e3⟩ => ⟨g, cap, cur, e1, Nat.le_trans hb e2, e3⟩⟩
theorem w_0 (a b c d : BitVec 64) : (WSet.mk a b c d).w 0 = a := rfl
theorem w_1 (a b c d : BitVec 64) : (WSet.mk a b c d).w 1 = b := rfl
theorem w_2 (a b c d : BitVec 64) : (WSet.mk a b c d).w 2 = c := rfl
theorem w_3 (a b c d : BitVec 64) : (WSet.mk a b c d).w 3 = d := rfl
def encU (b : UInt8) : Value := .int .u8 (b.toNat : Int)
theorem owned_text {W : World} {base : Nat} {v : Value} {L : List UInt8} (h : W.ownsRow base 5 1 v L.length (L.map encU)) : (convert 43 9 v).run Tryd.prog W = .ok (.string ⟨L.toArray⟩) W := by
  rcases h.2 with ⟨rfl, h0⟩ | ⟨g, cap, cur, rfl, hg, hh, h1, h2, h3, h4⟩
  · obtain rfl : L = [] := List.eq_nil_of_length_eq_zero h0
    rw [run_convert_bytes_string W 43 9 5 none 0 0 Tryd.underlying43 Tryd.underlying5 Tryd.underlying9]
    rfl
  · refine run_convert_bytes_back (P := Tryd.prog) W 43 9 5 ⟨g, 0, none⟩ cap L Tryd.underlying43 Tryd.underlying5 Tryd.underlying9 (fun j hj => ?_)
    rw [Addr.add_lit, Nat.zero_add, cell_of_row W g j cur _ _ hh]
    have e1 : (cur.toList.take (L.length * 1))[j]? = (L.map encU)[j]? := by rw [h4]
    rw [List.getElem?_take_of_lt (by omega)] at e1
    rw [← Array.getElem?_toList, e1, List.getElem?_map, List.getElem?_eq_getElem hj]
    rfl
set_option maxHeartbeats 400000 in
theorem refHas_any (a b c d : BitVec 64) (n : Nat) (hn : n < 256) (w : World) :
    Calls Tryd.prog 72 #[.agg #[.int .u64 a.toNat, .int .u64 b.toNat, .int .u64 c.toNat, .int .u64 d.toNat], .int .u8 (n : Int)] w fun e w' => e = .returned (.bool ((WSet.mk a b c d).has n)) ∧ Below w.heap.size w w' := by
  have hx := idx4 a b c d (n / 64) (by omega)
  go_enter Tryd.func72, Tryd.ntmps72
  go_wp2
  go_ret
  refine ⟨?_, by go_grown⟩
  simp [has_bit, WSet.has]
section
variable {P : Program} {ops : Array Oper} {Q : Exit → Act → World → Prop} {md : Region.Mode} {S S' : World → Prop}
theorem wpAnyH_narrow (h : ∀ w, S' w → S w) : ∀ (fuel : Nat) (listed : Array Bool) (a : Act) (w : World), wpAnyH P md ops Q S' fuel listed a w → wpAnyH P md ops Q S fuel listed a w
  | 0, _, _, _, H => H
  | fuel + 1, _, _, _, H => ⟨H.1, fun i hi => wpOp_mono (fun a' w' h' => ⟨h _ h'.1, wpAnyH_narrow h fuel _ a' w' h'.2⟩) (H.2 i hi)⟩
end
theorem Below.allocS {N : Nat} {W wx : World} {o : Obj} (hN : W.heap.size = N) (h : Below N W wx) : Below N W (wx.alloc o) := h.alloc (hN ▸ h.size) o
theorem Below.transS {N : Nat} {W wx w' : World} (hN : W.heap.size = N) (h : Below N W wx) (hb : Below wx.heap.size wx w') : Below N W w' := h.trans (hb.mono (hN ▸ h.size))
theorem below_eq {N : Nat} {W wx : World} (hN : W.heap.size = N) (h : Below N W wx) : Below W.heap.size W wx := hN ▸ h
theorem held1 {N : Nat} {W wx : World} {B : Nat} {a b c d : BitVec 64} (hN : W.heap.size = N) (hB : Blk W B ⟨a, b, c, d⟩) (lB : B < W.heap.size) (hb : Below N W wx) :
    Below N W wx ∧ wx.cell? ⟨B, 0, none⟩ = some (.int .u64 (a.toNat : Int)) ∧ wx.cell? ⟨B, 1, none⟩ = some (.int .u64 (b.toNat : Int)) ∧ wx.cell? ⟨B, 2, none⟩ = some (.int .u64 (c.toNat : Int)) ∧ wx.cell? ⟨B, 3, none⟩ = some (.int .u64 (d.toNat : Int)) := by
  have cB := (hB.below hb (hN ▸ lB)).cells
  exact ⟨hb, cB.1, cB.2.1, cB.2.2.1, cB.2.2.2⟩
end Go.Proofs.YtjinedeelkdgiaaDoor
