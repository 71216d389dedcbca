/-
  The reference's pieces and put, for every text shorter than 100000 bytes.
  The reference's path, open, name, put and Normal, for every text shorter than 100000 bytes.
  The reference's Normal and Clean, for every text shorter than 100000 bytes.
-/
import Derived.Test.YtjinedeelkdgiaaDoorHDPure
import Derived.Test.YtjinedeelkdgiaaDoorHStrs
import Derived.Test.YtjinedeelkdgiaaDoorHGLay
import Derived.Laws.Entries
namespace Go.Proofs.YtjinedeelkdgiaaDoor
open Go.RowKit
theorem ba_append (a b : List UInt8) : ByteArray.mk a.toArray ++ ByteArray.mk b.toArray = ⟨(a ++ b).toArray⟩ := by
  apply ByteArray.ext
  rw [ByteArray.data_append]
  simp
/-- A length that a string may have. -/
def Small (n : Nat) : Prop := n ≤ 9223372036854775807
theorem str_add {P : Program} {w : World} (a b : List UInt8) (h : Small (a.length + b.length)) : (Op.stringOp .add ⟨a.toArray⟩ ⟨b.toArray⟩).run P w = .ok (.string ⟨(a ++ b).toArray⟩) w := by
  rw [← ba_append]
  exact run_string_add_sum _ _ _ h
theorem d_ba_get (l : List UInt8) (i : Nat) (h : i < (ByteArray.mk l.toArray).size) : (ByteArray.mk l.toArray)[i]'h = l[i]'h := rfl
theorem ba_mid (l : List UInt8) (f k : Nat) : (ByteArray.mk l.toArray).extract f k = ⟨((l.take k).drop f).toArray⟩ := by
  apply ByteArray.ext
  rw [ByteArray.data_extract, List.extract_toArray, List.extract_eq_take_drop]
  simp [List.drop_take]
/-- What the loop still makes. -/
def contP (p : List UInt8) (k m : Nat) (O : List (List UInt8)) : List (List UInt8) := if k ≤ p.length then O ++ cutS ((p.take k).drop m) (p.drop k) else O
theorem contP_skip {p : List UInt8} {k m : Nat} {O : List (List UInt8)} (hk : k < p.length) (hm : m ≤ k) (hc : (p[k]).toNat ≠ 47) : contP p (k + 1) m O = contP p k m O := by
  unfold contP
  rw [if_pos (by omega), if_pos (by omega), List.drop_eq_getElem_cons hk]
  show _ = O ++ cutS _ (p[k] :: p.drop (k + 1))
  conv => rhs; unfold cutS
  rw [if_neg hc, List.take_succ_eq_append_getElem hk, List.drop_append_of_le_length (by rw [List.length_take]; omega)]
theorem contP_hit {p : List UInt8} {k m : Nat} {O : List (List UInt8)} (hk : k < p.length) (hc : (p[k]).toNat = 47) : contP p (k + 1) (k + 1) (O ++ [(p.take k).drop m]) = contP p k m O := by
  unfold contP
  have e : (p.take (k + 1)).drop (k + 1) = [] := List.drop_eq_nil_of_le (by rw [List.length_take]; omega)
  rw [if_pos (by omega), if_pos (by omega), List.drop_eq_getElem_cons hk, e]
  show _ = O ++ cutS _ (p[k] :: p.drop (k + 1))
  conv => rhs; unfold cutS
  rw [if_pos hc, List.append_assoc]
  rfl
theorem contP_end {p : List UInt8} {m : Nat} {O : List (List UInt8)} : contP p (p.length + 1) (p.length + 1) (O ++ [(p.take p.length).drop m]) = contP p p.length m O := by
  unfold contP
  rw [if_neg (by omega), if_pos (Nat.le_refl _), List.drop_length]
  rfl
section
attribute [local go_sem] d_ba_get
set_option maxRecDepth 100000 in
set_option maxHeartbeats 8000000 in
theorem refPieces_any (p : List UInt8) (hp : 0 < p.length) (hl : p.length < 100000) (w : World) :
    Calls Tryd.prog 71 #[.string ⟨p.toArray⟩] w fun e w' => ∃ v, e = .returned v ∧ w'.ownsRow w.heap.size 9 1 v (piecesL p).length ((piecesL p).map strW) ∧ Below w.heap.size w w' := by
  obtain ⟨i0, hi, hz0, hz1, hz2⟩ := info_parts infoS4
  obtain ⟨R, hR⟩ : ∃ R, piecesL p = R := ⟨_, rfl⟩
  have H0 : Hid (contP p 1 1 [] = R) := Lib.hid (by
    unfold contP
    rw [if_pos (by omega), List.drop_eq_nil_of_le (by rw [List.length_take]; omega), ← hR]
    rfl)
  rw [hR]
  clear hR
  go_enter Tryd.func71, Tryd.ntmps71
  go_wp2_with fail
  go_loopw [3, 4, 5] (fun o f i wr => ∃ (k m : Nat) (O : List (List UInt8)), k ≤ p.length + 1 ∧ m ≤ k ∧ i = .int .i64 k ∧ f = .int .i64 m ∧ O.length ≤ k ∧ wr.ownsRow w.heap.size 9 1 o O.length (O.map strW) ∧ Hid (contP p k m O = R) ∧ Below w.heap.size w wr) (fun _ _ i _ => p.length + 1 - (intOf i).toNat)
  case atStart => exact ⟨1, 1, [], by omega, Nat.le_refl _, rfl, rfl, Nat.zero_le _, World.ownsRow_nil _ _ _ _, H0, Below.refl _ _⟩
  case round =>
  obtain ⟨k, m, O, hk, hm, rfl, rfl, hO, hrow, hst, hB⟩ := hrel
  obtain ⟨ov, oc, rfl⟩ := own_slice hrow
  by_cases hle : k ≤ p.length
  · have d2 : decide ((k : Int) ≤ (p.length : Int)) = true := decide_eq_true (by omega)
    obtain ⟨X, hX⟩ : ∃ X, (p.take k).drop m = X := ⟨_, rfl⟩
    have hmid : (ByteArray.mk p.toArray).extract m k = ⟨X.toArray⟩ := by rw [ba_mid, hX]
    have hone : w.heap.size ≤ (wr.alloc (.cells #[.string ⟨X.toArray⟩] 9)).heap.size := by have := hB.size; simp; omega
    have hmi : (m : Int) ≤ (k : Int) := by omega
    have hki : (k : Int) ≤ (p.length : Int) := by omega
    by_cases hlt : k < p.length
    · have d3 : ((k : Int) == (p.length : Int)) = false := by rw [beq_eq_false_iff_ne]; omega
      have hb2 : (k : Int) < (p.length : Int) := by omega
      by_cases hc : (p[k]).toNat = 47
      · have d4 : (((p[k]).toNat : Int) == 47) = true := by rw [hc]; rfl
        have hnext : Hid (contP p (k + 1) (k + 1) (O ++ [X]) = R) := Lib.hid (by rw [← hX, contP_hit hlt hc]; exact hst.out)
        clear hst hX hc
        go_wp2_with (at_builtin; refine wpList_append_own _ rfl _ _ 76 rfl w.heap.size 9 i0 (.string ⟨#[]⟩) 1 16 Tryd.underlying76 hi hz0 hz1 hz2 rfl (by decide) _ _ _ rfl (hrow.alloc _) ⟨wr.heap.size, 0, none⟩ 1 1 [strW X] rfl rfl (cell_one_new _ _ _) (by simp [Value.oneCell', strW]) (by unfold maxLen; omega) (by omega) hone ?_; intro v' w2 hown' hgrow _)
        go_roundw
        case rel =>
          refine ⟨k + 1, k + 1, O ++ [X], by omega, Nat.le_refl _, by go_num, by go_num, by simp; omega, ?_, hnext, below_grownR (hB.alloc hB.size _) hone hgrow (fun r hr => (hrow.lt r hr).1)⟩
          rw [List.map_append, List.length_append]
          exact hown'
        case measure => simp [intOf]; omega
      · have d4 : (((p[k]).toNat : Int) == 47) = false := by rw [beq_eq_false_iff_ne]; omega
        have hnext : Hid (contP p (k + 1) m O = R) := Lib.hid (by rw [contP_skip hlt hm hc]; exact hst.out)
        clear hst hX hc
        go_wp2_with fail
        go_roundw
        case rel => exact ⟨k + 1, m, O, by omega, by omega, by go_num, rfl, by omega, hrow, hnext, hB⟩
        case measure => simp [intOf]; omega
    · have hke : k = p.length := by omega
      have d3 : ((k : Int) == (p.length : Int)) = true := by rw [hke]; exact beq_self_eq_true _
      have hnext : Hid (contP p (k + 1) (k + 1) (O ++ [X]) = R) := Lib.hid (by
        rw [← hst.out, ← hX, hke]
        exact contP_end)
      clear hst hX hke
      go_wp2_with (at_builtin; refine wpList_append_own _ rfl _ _ 76 rfl w.heap.size 9 i0 (.string ⟨#[]⟩) 1 16 Tryd.underlying76 hi hz0 hz1 hz2 rfl (by decide) _ _ _ rfl (hrow.alloc _) ⟨wr.heap.size, 0, none⟩ 1 1 [strW X] rfl rfl (cell_one_new _ _ _) (by simp [Value.oneCell', strW]) (by unfold maxLen; omega) (by omega) hone ?_; intro v' w2 hown' hgrow _)
      go_roundw
      case rel =>
        refine ⟨k + 1, k + 1, O ++ [X], by omega, Nat.le_refl _, by go_num, by go_num, by simp; omega, ?_, hnext, below_grownR (hB.alloc hB.size _) hone hgrow (fun r hr => (hrow.lt r hr).1)⟩
        rw [List.map_append, List.length_append]
        exact hown'
      case measure => simp [intOf]; omega
  · have d2 : decide ((k : Int) ≤ (p.length : Int)) = false := decide_eq_false (by omega)
    have hres : Hid (O = R) := Lib.hid (by
      have := hst.out
      unfold contP at this
      rwa [if_neg hle] at this)
    go_wp2_with fail
    go_ret
    rw [← hres.out]
    exact ⟨_, rfl, hrow, hB⟩
end
end Go.Proofs.YtjinedeelkdgiaaDoor
namespace Go.Proofs.YtjinedeelkdgiaaDoor
open Go.RowKit
attribute [local go_sem] d_ba_get
theorem i47 (c : UInt8) : ((c.toNat : Int) == 47) = (c.toNat == 47) := by
  rw [Bool.eq_iff_iff, beq_iff_eq, beq_iff_eq]
  omega
set_option maxHeartbeats 1000000 in
theorem refPath_any (p : List UInt8) (hl : p.length < 100000) (w : World) :
    Calls Tryd.prog 70 #[.string ⟨p.toArray⟩] w fun e w' => e = .returned (.bool (pathB p)) ∧ w = w' := by
  cases p with
  | nil =>
    go_enter Tryd.func70, Tryd.ntmps70
    go_wp2_with fail
    go_ret
    exact ⟨rfl, rfl⟩
  | cons c r =>
    obtain ⟨p, hp⟩ : ∃ p, c :: r = p := ⟨_, rfl⟩
    have hpl : 0 < p.length := by rw [← hp]; simp
    have d1 : (p != []) = true := by rw [← hp]; rfl
    have d2 : (p == []) = false := by rw [← hp]; rfl
    have hi : (0 : Int) < (p.length : Int) := by omega
    have he : p.isEmpty = false := by rw [← hp]; rfl
    have hx : Hid (((p[0]'hpl).toNat : Int) = (c.toNat : Int)) := Lib.hid (by subst hp; rfl)
    have HR : Hid (pathB (c :: r) = (c.toNat == 47)) := Lib.hid rfl
    rw [hp] at HR ⊢
    clear hp
    go_enter Tryd.func70, Tryd.ntmps70
    go_wp2_with fail
    go_ret
    rw [HR.out, hx.out]
    refine ⟨?_, rfl⟩
    rw [← i47]
    rfl
set_option maxRecDepth 100000 in
set_option maxHeartbeats 2000000 in
theorem refPut_any (L : List (List UInt8)) (o : Bool) (hn : L.length < 100000) (hL : ∀ x ∈ L, x.length < 100000) (v : Value) (w : World) (hv : StrsAt w v L) :
    Calls Tryd.prog 89 #[v, .bool o] w fun e w' => e = .returned (.string ⟨(putL L o).toArray⟩) ∧ w = w' := by
  obtain ⟨p, c, rfl, hC⟩ := hv
  have HC := Lib.hid hC
  have HL := Lib.hid hL
  have H0 : Hid (flatL (L.take 0) = []) := Lib.hid rfl
  clear hC hL
  go_enter Tryd.func89, Tryd.ntmps89
  go_wp2_with fail
  go_loopw [5, 6] (fun out i wr => ∃ (k : Nat) (O : List UInt8), k ≤ L.length ∧ i = .int .i64 k ∧ out = .string ⟨O.toArray⟩ ∧ k ≤ O.length ∧ O.length ≤ k * 100002 ∧ Hid (flatL (L.take k) = O) ∧ wr = w) (fun _ i _ => L.length - (intOf i).toNat)
  case atStart => exact ⟨0, [], Nat.zero_le _, rfl, rfl, Nat.le_refl _, Nat.zero_le _, H0, rfl⟩
  case round =>
    obtain ⟨k, O, hk, rfl, rfl, hkO, hO, hp, rfl⟩ := hrel
    by_cases hlt : k < L.length
    · have h1 : decide ((k : Int) < (L.length : Int)) = true := decide_eq_true (by omega)
      have hb2 : (k : Int) < (L.length : Int) := by omega
      obtain ⟨b, off, rfl, hbl, hcell⟩ := str_cell HC.out (Below.refl _ _) hlt
      have hxl := HL.out _ (List.getElem_mem hlt)
      have hat : flatL (L.take (k + 1)) = O ++ 47 :: L[k] := by
        rw [List.take_succ_eq_append_getElem hlt, flat_append, hp.out]
        simp [flatL]
      obtain ⟨x, hx⟩ : ∃ x, L[k] = x := ⟨_, rfl⟩
      rw [hx] at hat hxl hcell
      have s1 : ∀ w, (Op.stringOp .add ⟨O.toArray⟩ ⟨#[47]⟩).run Tryd.prog w = .ok (.string ⟨(O ++ [47]).toArray⟩) w := fun w => str_add O [47] (by unfold Small; simp; omega)
      have s2 : ∀ w, (Op.stringOp .add ⟨(O ++ [47]).toArray⟩ ⟨x.toArray⟩).run Tryd.prog w = .ok (.string ⟨(O ++ [47] ++ x).toArray⟩) w := fun w => str_add (O ++ [47]) x (by unfold Small; simp; omega)
      have hnext : Hid (flatL (L.take (k + 1)) = O ++ [47] ++ x) := Lib.hid (by rw [hat]; simp)
      clear hat hx
      go_wp2_with fail
      go_roundw
      case rel => exact ⟨k + 1, O ++ [47] ++ x, by omega, by go_num, by simp, by simp; omega, by simp; omega, hnext, by simp⟩
      case measure => simp [intOf]; omega
    · have h1 : decide ((k : Int) < (L.length : Int)) = false := decide_eq_false (by omega)
      have hF : flatL L = O := by rw [← hp.out, List.take_of_length_le (by omega)]
      have hLe : (L == []) = (O == []) := by
        rw [Bool.eq_iff_iff, beq_iff_eq, beq_iff_eq]
        constructor
        · intro e
          rw [← hF, e]
          rfl
        · intro e
          rw [e] at hkO
          exact List.eq_nil_of_length_eq_zero (by simp at hkO; omega)
      obtain ⟨b, hb⟩ : ∃ b, (O == []) = b := ⟨_, rfl⟩
      have HR : Hid (putL L o = O ++ (if o || b then [47] else [])) := Lib.hid (by unfold putL; rw [hF, hLe, hb])
      have s1 : ∀ w, (Op.stringOp .add ⟨O.toArray⟩ ⟨#[47]⟩).run Tryd.prog w = .ok (.string ⟨(O ++ [47]).toArray⟩) w := fun w => str_add O [47] (by unfold Small; simp; omega)
      clear hF hLe hp
      cases o <;> cases b <;>
      · go_wp2_with fail
        go_ret
        exact ⟨by rw [HR.out]; simp, rfl⟩
end Go.Proofs.YtjinedeelkdgiaaDoor
namespace Go.Proofs.YtjinedeelkdgiaaDoor
open Go.RowKit
theorem okL_at : ∀ (R : List (List UInt8)) (k : Nat) (hk : k < R.length), okL (R.drop k) = (!(dotB R[k] || (R[k] == [] && decide (k + 1 ≠ R.length))) && okL (R.drop (k + 1)))
  | [], k, hk => by simp at hk
  | [x], k, hk => by
    obtain rfl : k = 0 := by simpa using hk
    simp [okL]
  | x :: y :: r, 0, hk => by
    simp [okL]
  | x :: y :: r, k + 1, hk => by
    have := okL_at (y :: r) k (by simpa using hk)
    simpa using this
theorem mul_string (n : Nat) : n * 1 = n := Nat.mul_one n
set_option maxRecDepth 100000 in
set_option maxHeartbeats 4000000 in
theorem refNormal_any (p : List UInt8) (hl : p.length < 100000) (w : World) :
    Calls Tryd.prog 39 #[.string ⟨p.toArray⟩] w fun e w' => e = .returned (.bool (normB p)) ∧ Below w.heap.size w w' := by
  obtain ⟨q, hq⟩ : ∃ q, pathB p = q := ⟨_, rfl⟩
  have HQ := Lib.hid hq
  cases q
  · have HR : Hid (normB p = false) := Lib.hid (by unfold normB; rw [hq]; rfl)
    clear hq
    go_enter Tryd.func39, Tryd.ntmps39
    go_wp2_with fail
    refine (refPath_any p hl _).mono ?_
    rintro e w' ⟨rfl, rfl⟩
    rw [HQ.out]
    go_wp2_with fail
    go_ret
    exact ⟨by rw [HR.out]; rfl, Below.refl _ _⟩
  · have hp0 : 0 < p.length := by
      cases p with
      | nil => simp [pathB] at hq
      | cons c r => simp
    have HP0 := Lib.hid hp0
    clear hp0
    by_cases h1 : 128 < p.length
    · have d1 : decide ((128 : Int) < (p.length : Int)) = true := decide_eq_true (by omega)
      have d1n : decide (128 < p.length) = true := decide_eq_true h1
      have HR : Hid (normB p = false) := Lib.hid (by unfold normB; rw [hq, decide_eq_false (by omega)]; rfl)
      clear hq h1
      go_enter Tryd.func39, Tryd.ntmps39
      go_wp2_with fail
      refine (refPath_any p hl _).mono ?_
      rintro e w' ⟨rfl, rfl⟩
      rw [HQ.out]
      go_wp2_with fail
      go_ret
      exact ⟨by rw [HR.out]; rfl, Below.refl _ _⟩
    · have d1 : decide ((128 : Int) < (p.length : Int)) = false := decide_eq_false (by omega)
      have d1n : decide (128 < p.length) = false := decide_eq_false h1
      have hR : normB p = okL (piecesL p) := by unfold normB; rw [hq, decide_eq_true (by omega)]; rfl
      have hlen := pieces_len p
      have hpc := fun W => refPieces_any p HP0.out hl W
      obtain ⟨R, hRR⟩ : ∃ R, piecesL p = R := ⟨_, rfl⟩
      rw [hRR] at hpc hR hlen
      have HPC := Lib.hid hpc
      have HR := Lib.hid hR
      clear hq hRR hR hpc
      go_enter Tryd.func39, Tryd.ntmps39
      go_wp2_with fail
      refine (refPath_any p hl _).mono ?_
      rintro e w' ⟨rfl, rfl⟩
      rw [HQ.out]
      go_wp2_with fail
      refine (HPC.out _).mono ?_
      rintro e w1 ⟨v, rfl, hrow, hB⟩
      obtain ⟨pp, cc, rfl, hC⟩ := strs_of_own hrow
      have HC := Lib.hid hC
      have H0 : Hid (okL (R.drop 0) = okL R) := Lib.hid rfl
      have HB := Lib.hid hB
      clear hrow hC hB HPC
      go_wp2_with fail
      go_loopw [4] (fun i wr => ∃ k : Nat, k ≤ R.length ∧ i = .int .i64 k ∧ Hid (okL (R.drop k) = okL R) ∧ wr = w1) (fun i _ => R.length - (intOf i).toNat)
      case atStart => exact ⟨0, Nat.zero_le _, rfl, H0, rfl⟩
      case round =>
      obtain ⟨k, hk, rfl, hst, rfl⟩ := hrel
      by_cases hlt : k < R.length
      · have d2 : decide ((k : Int) < (R.length : Int)) = true := decide_eq_true (by omega)
        have hb2 : (k : Int) < (R.length : Int) := by omega
        obtain ⟨b, off, rfl, hbl, hcell⟩ := str_cell HC.out (Below.refl _ _) hlt
        have hat := okL_at R k hlt
        rw [hst.out] at hat
        obtain ⟨x, hx⟩ : ∃ x, R[k] = x := ⟨_, rfl⟩
        rw [hx] at hat hcell
        obtain ⟨n, hn⟩ : ∃ n, R.length - 1 = n := ⟨_, rfl⟩
        have q1 : IntKind.i64.wrap ((R.length : Int) - 1) = (n : Int) := by rw [IntKind.wrap_i64]; omega
        have q2 : (R.length : Int) - 1 = (n : Int) := by omega
        have q3 : decide (k + 1 ≠ R.length) = (k != n) := by
          rw [Bool.eq_iff_iff, decide_eq_true_iff, bne_iff_ne]
          omega
        have q4 : ((k : Int) != (n : Int)) = (k != n) := by
          rw [Bool.eq_iff_iff, bne_iff_ne, bne_iff_ne]
          omega
        rw [q3] at hat
        obtain ⟨d, hd⟩ : ∃ d, (k != n) = d := ⟨_, rfl⟩
        rw [hd] at q4 hat
        obtain ⟨a, ha⟩ : ∃ a, (x == [46]) = a := ⟨_, rfl⟩
        obtain ⟨bb, hbb⟩ : ∃ bb, (x == [46, 46]) = bb := ⟨_, rfl⟩
        obtain ⟨c, hc⟩ : ∃ c, (x == []) = c := ⟨_, rfl⟩
        have hdot : dotB x = (a || bb) := by unfold dotB; rw [ha, hbb]
        rw [hdot, hc] at hat
        have HAT := Lib.hid hat
        clear hx hn q3 hat hdot hd
        cases a with
        | true =>
          have hbad : Hid (okL R = false) := Lib.hid (by rw [HAT.out]; rfl)
          go_wp2_with fail
          go_ret
          exact ⟨by rw [HR.out, hbad.out]; rfl, HB.out⟩
        | false =>
          cases bb with
          | true =>
            have hbad : Hid (okL R = false) := Lib.hid (by rw [HAT.out]; rfl)
            go_wp2_with fail
            go_ret
            exact ⟨by rw [HR.out, hbad.out]; rfl, HB.out⟩
          | false =>
            cases c with
            | false =>
              have hnext : Hid (okL (R.drop (k + 1)) = okL R) := Lib.hid (by rw [HAT.out]; simp)
              go_wp2_with fail
              go_roundw
              case rel => exact ⟨k + 1, by omega, by go_num, hnext, trivial⟩
              case measure => simp [intOf]; omega
            | true =>
              cases d with
              | true =>
                have hbad : Hid (okL R = false) := Lib.hid (by rw [HAT.out]; rfl)
                go_wp2_with fail
                go_ret
                exact ⟨by rw [HR.out, hbad.out]; rfl, HB.out⟩
              | false =>
                have hnext : Hid (okL (R.drop (k + 1)) = okL R) := Lib.hid (by rw [HAT.out]; simp)
                go_wp2_with fail
                go_roundw
                case rel => exact ⟨k + 1, by omega, by go_num, hnext, trivial⟩
                case measure => simp [intOf]; omega
      · have d2 : decide ((k : Int) < (R.length : Int)) = false := decide_eq_false (by omega)
        have hok : Hid (okL R = true) := Lib.hid (by rw [← hst.out, List.drop_eq_nil_of_le (by omega)]; rfl)
        go_wp2_with fail
        go_ret
        exact ⟨by rw [HR.out, hok.out]; rfl, HB.out⟩
end Go.Proofs.YtjinedeelkdgiaaDoor
