/-
  The reference's path, open, name, put and Normal, for every text shorter than 100000 bytes.
-/
import Derived.Test.YtkchhgpebleioaaDoorDRef1
namespace Go.Proofs.YtkchhgpebleioaaDoor
open Go.RowKit
attribute [local go_sem] ba_get
theorem i47 (c : UInt8) : ((c.toNat : Int) == 47) = (c.toNat == 47) := by
  rw [Bool.eq_iff_iff, beq_iff_eq, beq_iff_eq]
  omega
set_option maxHeartbeats 1000000 in
theorem refPath_any (p : List UInt8) (hl : p.length < 100000) (w : World) :
    Calls Tryd.prog 47 #[.string ⟨p.toArray⟩] w fun e w' => e = .returned (.bool (pathB p)) ∧ w = w' := by
  cases p with
  | nil =>
    go_enter Tryd.func47, Tryd.ntmps47
    go_wp2_with fail
    go_ret
    exact ⟨rfl, rfl⟩
  | cons c r =>
    obtain ⟨p, hp⟩ : ∃ p, c :: r = p := ⟨_, rfl⟩
    have hpl : 0 < p.length := by rw [← hp]; simp
    have d1 : (p != []) = true := by rw [← hp]; rfl
    have d2 : (p == []) = false := by rw [← hp]; rfl
    have hi : (0 : Int) < (p.length : Int) := by omega
    have he : p.isEmpty = false := by rw [← hp]; rfl
    have hx : Hid (((p[0]'hpl).toNat : Int) = (c.toNat : Int)) := Lib.hid (by subst hp; rfl)
    have HR : Hid (pathB (c :: r) = (c.toNat == 47)) := Lib.hid rfl
    rw [hp] at HR ⊢
    clear hp
    go_enter Tryd.func47, Tryd.ntmps47
    go_wp2_with fail
    go_ret
    rw [HR.out, hx.out]
    refine ⟨?_, rfl⟩
    rw [← i47]
    rfl
set_option maxHeartbeats 1000000 in
theorem refOpen_any (p : List UInt8) (hp : 0 < p.length) (hl : p.length < 100000) (w : World) :
    Calls Tryd.prog 50 #[.string ⟨p.toArray⟩] w fun e w' => e = .returned (.bool (openB p)) ∧ w = w' := by
  have q1 : IntKind.i64.wrap ((p.length : Int) - 1) = ((p.length - 1 : Nat) : Int) := by rw [IntKind.wrap_i64]; omega
  obtain ⟨n, hn⟩ : ∃ n, p.length - 1 = n := ⟨_, rfl⟩
  have hlt : n < p.length := by omega
  have hb : (n : Int) < (p.length : Int) := by omega
  have q2 : (p.length : Int) - 1 = (n : Int) := by omega
  have HR : Hid (openB p = ((p[n]'hlt).toNat == 47)) := Lib.hid (by
    subst hn
    unfold openB
    rw [Bool.eq_iff_iff, List.isSuffixOf_iff_suffix]
    constructor
    · rintro ⟨t, rfl⟩
      simp
    · intro h
      refine ⟨p.dropLast, ?_⟩
      have h1 := List.dropLast_concat_getLast (l := p) (by intro e; rw [e] at hp; simp at hp)
      rw [List.getLast_eq_getElem] at h1
      have h2 : p[p.length - 1]'hlt = 47 := UInt8.toNat_inj.1 (by simpa using h)
      rw [h2] at h1
      exact h1)
  rw [hn] at q1
  clear hn
  go_enter Tryd.func50, Tryd.ntmps50
  go_wp2_with fail
  go_ret
  rw [HR.out]
  refine ⟨?_, rfl⟩
  rw [← i47]
  rfl
set_option maxHeartbeats 2000000 in
theorem refName_any (s : List UInt8) (hl : s.length < 100000) (w : World) :
    Calls Tryd.prog 53 #[.string ⟨s.toArray⟩] w fun e w' => e = .returned (.bool (nameB s)) ∧ w = w' := by
  have H0 : Hid ((s.drop 0).contains 47 = s.contains 47) := Lib.hid (by rw [List.drop_zero])
  go_enter Tryd.func53, Tryd.ntmps53
  go_wp2_with fail
  go_loopw [3] (fun i wr => ∃ k : Nat, k ≤ s.length ∧ i = .int .i64 k ∧ Hid ((s.drop k).contains 47 = s.contains 47) ∧ wr = w) (fun i _ => s.length - (intOf i).toNat)
  case atStart => exact ⟨0, Nat.zero_le _, rfl, H0, rfl⟩
  case round =>
  obtain ⟨k, hk, rfl, hst, rfl⟩ := hrel
  by_cases hlt : k < s.length
  · have d1 : decide ((k : Int) < (s.length : Int)) = true := decide_eq_true (by omega)
    have hb2 : (k : Int) < (s.length : Int) := by omega
    have hat : (s.drop k).contains 47 = ((47 == s[k]) || (s.drop (k + 1)).contains 47) := by rw [List.drop_eq_getElem_cons hlt, List.contains_cons]
    by_cases hc : (s[k]).toNat = 47
    · have d4 : (((s[k]).toNat : Int) == 47) = true := by rw [hc]; rfl
      have HR : Hid (nameB s = false) := Lib.hid (by
        unfold nameB
        rw [← hst.out, hat, show s[k] = 47 from UInt8.toNat_inj.1 hc]
        simp)
      clear hc hat
      go_wp2_with fail
      go_ret
      exact ⟨by rw [HR.out]; rfl, rfl⟩
    · have d4 : (((s[k]).toNat : Int) == 47) = false := by rw [beq_eq_false_iff_ne]; omega
      have hnext : Hid ((s.drop (k + 1)).contains 47 = s.contains 47) := Lib.hid (by
        rw [← hst.out, hat, show (47 == s[k]) = false by rw [beq_eq_false_iff_ne]; intro e; exact hc (by rw [← e]; rfl)]
        rfl)
      clear hc hat hst
      go_wp2_with fail
      go_roundw
      case rel => exact ⟨k + 1, by omega, by go_num, hnext, trivial⟩
      case measure => simp [intOf]; omega
  · have d1 : decide ((k : Int) < (s.length : Int)) = false := decide_eq_false (by omega)
    have HN : Hid (nameB s = (!(s == []) && !dotB s)) := Lib.hid (by
      unfold nameB
      rw [← hst.out, List.drop_eq_nil_of_le (by omega)]
      simp)
    obtain ⟨a, ha⟩ : ∃ a, (s == []) = a := ⟨_, rfl⟩
    obtain ⟨b, hb⟩ : ∃ b, (s == [46]) = b := ⟨_, rfl⟩
    obtain ⟨c, hc⟩ : ∃ c, (s == [46, 46]) = c := ⟨_, rfl⟩
    have a2 : (s != []) = !a := by rw [← ha]; rfl
    have b2 : (s != [46]) = !b := by rw [← hb]; rfl
    have c2 : (s != [46, 46]) = !c := by rw [← hc]; rfl
    have HE : Hid ((!(s == []) && !dotB s) = (!a && !(b || c))) := Lib.hid (by unfold dotB; rw [ha, hb, hc])
    cases a <;> cases b <;> cases c <;>
    · go_wp2_with fail
      go_ret
      exact ⟨by rw [HN.out, HE.out]; rfl, rfl⟩
set_option maxRecDepth 100000 in
set_option maxHeartbeats 2000000 in
theorem refPut_any (L : List (List UInt8)) (o : Bool) (hn : L.length < 100000) (hL : ∀ x ∈ L, x.length < 100000) (v : Value) (w : World) (hv : StrsAt w v L) :
    Calls Tryd.prog 49 #[v, .bool o] w fun e w' => e = .returned (.string ⟨(putL L o).toArray⟩) ∧ w = w' := by
  obtain ⟨p, c, rfl, hC⟩ := hv
  have HC := Lib.hid hC
  have HL := Lib.hid hL
  have H0 : Hid (flatL (L.take 0) = []) := Lib.hid rfl
  clear hC hL
  go_enter Tryd.func49, Tryd.ntmps49
  go_wp2_with fail
  go_loopw [5, 6] (fun out i wr => ∃ (k : Nat) (O : List UInt8), k ≤ L.length ∧ i = .int .i64 k ∧ out = .string ⟨O.toArray⟩ ∧ k ≤ O.length ∧ O.length ≤ k * 100002 ∧ Hid (flatL (L.take k) = O) ∧ wr = w) (fun _ i _ => L.length - (intOf i).toNat)
  case atStart => exact ⟨0, [], Nat.zero_le _, rfl, rfl, Nat.le_refl _, Nat.zero_le _, H0, rfl⟩
  case round =>
    obtain ⟨k, O, hk, rfl, rfl, hkO, hO, hp, rfl⟩ := hrel
    by_cases hlt : k < L.length
    · have h1 : decide ((k : Int) < (L.length : Int)) = true := decide_eq_true (by omega)
      have hb2 : (k : Int) < (L.length : Int) := by omega
      obtain ⟨b, off, rfl, hbl, hcell⟩ := str_cell HC.out (Below.refl _ _) hlt
      have hxl := HL.out _ (List.getElem_mem hlt)
      have hat : flatL (L.take (k + 1)) = O ++ 47 :: L[k] := by
        rw [List.take_succ_eq_append_getElem hlt, flat_append, hp.out]
        simp [flatL]
      obtain ⟨x, hx⟩ : ∃ x, L[k] = x := ⟨_, rfl⟩
      rw [hx] at hat hxl hcell
      have s1 : ∀ w, (Op.stringOp .add ⟨O.toArray⟩ ⟨#[47]⟩).run Tryd.prog w = .ok (.string ⟨(O ++ [47]).toArray⟩) w := fun w => str_add O [47] (by unfold Small; simp; omega)
      have s2 : ∀ w, (Op.stringOp .add ⟨(O ++ [47]).toArray⟩ ⟨x.toArray⟩).run Tryd.prog w = .ok (.string ⟨(O ++ [47] ++ x).toArray⟩) w := fun w => str_add (O ++ [47]) x (by unfold Small; simp; omega)
      have hnext : Hid (flatL (L.take (k + 1)) = O ++ [47] ++ x) := Lib.hid (by rw [hat]; simp)
      clear hat hx
      go_wp2_with fail
      go_roundw
      case rel => exact ⟨k + 1, O ++ [47] ++ x, by omega, by go_num, by simp, by simp; omega, by simp; omega, hnext, by simp⟩
      case measure => simp [intOf]; omega
    · have h1 : decide ((k : Int) < (L.length : Int)) = false := decide_eq_false (by omega)
      have hF : flatL L = O := by rw [← hp.out, List.take_of_length_le (by omega)]
      have hLe : (L == []) = (O == []) := by
        rw [Bool.eq_iff_iff, beq_iff_eq, beq_iff_eq]
        constructor
        · intro e
          rw [← hF, e]
          rfl
        · intro e
          rw [e] at hkO
          exact List.eq_nil_of_length_eq_zero (by simp at hkO; omega)
      obtain ⟨b, hb⟩ : ∃ b, (O == []) = b := ⟨_, rfl⟩
      have HR : Hid (putL L o = O ++ (if o || b then [47] else [])) := Lib.hid (by unfold putL; rw [hF, hLe, hb])
      have s1 : ∀ w, (Op.stringOp .add ⟨O.toArray⟩ ⟨#[47]⟩).run Tryd.prog w = .ok (.string ⟨(O ++ [47]).toArray⟩) w := fun w => str_add O [47] (by unfold Small; simp; omega)
      clear hF hLe hp
      cases o <;> cases b <;>
      · go_wp2_with fail
        go_ret
        exact ⟨by rw [HR.out]; simp, rfl⟩
end Go.Proofs.YtkchhgpebleioaaDoor
