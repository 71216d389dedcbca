/-
  The reference's hex and Encode, for every body and all sizes.
-/
import Derived.Test.YtbafmiejgpgamaaGreatDoorCAwake
import Derived.Test.YtbafmiejgpgamaaGreatDoorCRefF
namespace Go.Proofs.YtbafmiejgpgamaaGreatDoor
open Go.RowKit
attribute [local go_sem] ba_get
theorem digU_get (a : Nat) (h : a < (ByteArray.mk #[48, 49, 50, 51, 52, 53, 54, 55, 56, 57, 97, 98, 99, 100, 101, 102]).size) : (ByteArray.mk #[48, 49, 50, 51, 52, 53, 54, 55, 56, 57, 97, 98, 99, 100, 101, 102])[a]'h = digC a := by
  unfold digC
  have h16 : a < digU.length := h
  rw [List.getElem?_eq_getElem h16]
  rfl
/-- The digits of a number ahead of others, as the reference makes them. -/
def hexR : Nat → Nat → List UInt8 → List UInt8
  | 0, _, O => O
  | f + 1, n, O => if n = 0 then O else hexR f (n / 16) (digC (n % 16) :: O)
theorem hexR_fuel : ∀ (f g n : Nat) (O : List UInt8), n ≤ f → n ≤ g → hexR f n O = hexR g n O
  | 0, 0, _, _, _, _ => rfl
  | 0, g + 1, n, O, h, _ => by
    obtain rfl : n = 0 := by omega
    rfl
  | f + 1, 0, n, O, _, h => by
    obtain rfl : n = 0 := by omega
    rfl
  | f + 1, g + 1, n, O, h1, h2 => by
    unfold hexR
    split
    · rfl
    · exact hexR_fuel f g _ _ (by omega) (by omega)
theorem hexR_digL : ∀ (f n : Nat) (O : List UInt8), n ≤ f → 0 < n → n < 4096 → hexR f n O = digL 16 n ++ O
  | 0, n, _, h, h0, _ => by omega
  | f + 1, n, O, h, h0, hb => by
    have hst := digL_step (base := 16) (n := n) (by omega) (by unfold U64; omega)
    unfold hexR
    rw [if_neg (by omega)]
    by_cases hs : n < 16
    · rw [hst, if_pos hs, show n / 16 = 0 by omega]
      cases f <;> rfl
    · rw [hexR_digL f (n / 16) _ (by omega) (by omega) (by omega), hst, if_neg hs]
      simp
set_option maxHeartbeats 8000000 in
theorem refHex_any (m : Nat) (h0 : 0 < m) (hm : m < 4096) (w : World) :
    Calls Tryz.prog 23 #[.int .i64 (m : Int)] w fun e w' => e = .returned (.string ⟨(digL 16 m).toArray⟩) ∧ Below w.heap.size w w' := by
  obtain ⟨R, hR⟩ : ∃ R, digL 16 m = R := ⟨_, rfl⟩
  rw [hR]
  have HR : Hid (hexR 5000 m [] = R) := Lib.hid (by rw [hexR_digL 5000 m [] (by omega) h0 hm, List.append_nil, hR])
  clear hR h0
  go_enter Tryz.func23, Tryz.ntmps23
  go_wp2_with fail
  go_loopw [0, 3] (fun v o wr => ∃ (n : Nat) (O : List UInt8), v = .int .i64 (n : Int) ∧ o = .string ⟨O.toArray⟩ ∧ n < 4096 ∧ Hid (hexR 5000 n O = R) ∧ O.length + n ≤ 5000 ∧ Below w.heap.size w wr) (fun v _ _ => (intOf v).toNat)
  case atStart => exact ⟨m, [], rfl, rfl, hm, HR, by simp; omega, Below.refl _ _⟩
  case round =>
    clear HR hm
    obtain ⟨n, O, rfl, rfl, hn, hr, hO, hB⟩ := hrel
    by_cases h0 : 0 < n
    · have a1 : decide ((0 : Int) < (n : Int)) = true := decide_eq_true (by omega)
      have a2 : decide (0 < n) = true := decide_eq_true h0
      obtain ⟨a, ha⟩ : ∃ a, n % 16 = a := ⟨_, rfl⟩
      have ha16 : a < 16 := by omega
      have t1 : ((n : Int)).tmod 16 = (a : Int) := by rw [Int.tmod_eq_emod_of_nonneg (by omega)]; omega
      have t1' : (n : Int) % 16 = (a : Int) := by omega
      have t2 : ((n : Int)).tdiv 16 = ((n / 16 : Nat) : Int) := by rw [Int.tdiv_eq_ediv_of_nonneg (by omega)]; omega
      have t2' : (n : Int) / 16 = ((n / 16 : Nat) : Int) := by omega
      have hg := digU_get a (by show a < 16; exact ha16)
      have hi2 : (a : Int) < 16 := by omega
      have hi1 : (0 : Int) ≤ (a : Int) := by omega
      have hnext : Hid (hexR 5000 (n / 16) (digC a :: O) = R) := Lib.hid (by
        rw [← hr.out]
        conv => rhs; unfold hexR
        rw [if_neg (show ¬ n = 0 by omega), ha]
        exact hexR_fuel 5000 4999 (n / 16) _ (by omega) (by omega))
      obtain ⟨x, hx⟩ : ∃ x, digC a = x := ⟨_, rfl⟩
      rw [hx] at hg hnext
      have s1 : ∀ w, (Op.stringOp .add ⟨#[x]⟩ ⟨O.toArray⟩).run Tryz.prog w = .ok (.string ⟨(x :: O).toArray⟩) w := fun w => cstr_add [x] O (by unfold CSmall; simp; omega)
      have k1 := fun W : World => byte1_text W x
      have hl2 : (x :: O).length + n / 16 ≤ 5000 := by simp; omega
      obtain ⟨q, hq⟩ : ∃ q, n / 16 = q := ⟨_, rfl⟩
      have hqn : q < n := by omega
      rw [hq] at t2 t2' hnext hl2
      clear hr ha hx
      go_wp2_with fail
      exact ⟨⟨q, x :: O, rfl, rfl, by omega, hnext, hl2, hB.alloc hB.size _⟩, by simp [intOf]; omega⟩
    · have a1 : decide ((0 : Int) < (n : Int)) = false := decide_eq_false (by omega)
      have a2 : decide (0 < n) = false := decide_eq_false h0
      have hres : Hid (O = R) := Lib.hid (by rw [← hr.out]; unfold hexR; rw [if_pos (by omega)])
      clear hr
      go_wp2_with fail
      go_ret
      exact ⟨by rw [← hres.out]; rfl, hB⟩
/-- The chunks, as the reference makes them. -/
def refP : List UInt8 → List Nat → List UInt8
  | l, [] => if l.length = 0 then [] else chk l
  | l, s :: r => if l.length = 0 then [] else chk (l.take (min l.length s)) ++ refP (l.drop (min l.length s)) r
theorem encP_refP : ∀ (ns : List Nat) (l : List UInt8) (L : Nat), (∀ s ∈ ns, 1 ≤ s) → l.length ≤ L → encP l (ns ++ [L]) = refP l ns
  | [], l, L, _, h => by
    show (if min L l.length = 0 then [] else chk (l.take (min L l.length)) ++ encP (l.drop (min L l.length)) []) = if l.length = 0 then [] else chk l
    rw [Nat.min_eq_right h, List.take_length]
    split
    · rfl
    · unfold encP; rw [List.append_nil]
  | s :: r, l, L, hs, h => by
    have h1 := hs s List.mem_cons_self
    show (if min s l.length = 0 then [] else chk (l.take (min s l.length)) ++ encP (l.drop (min s l.length)) (r ++ [L])) = if l.length = 0 then [] else chk (l.take (min l.length s)) ++ refP (l.drop (min l.length s)) r
    rw [Nat.min_comm s l.length]
    by_cases h0 : l.length = 0
    · rw [if_pos (by omega), if_pos h0]
    · rw [if_neg (by omega), if_neg h0, encP_refP r _ L (fun x hx => hs x (List.mem_cons_of_mem _ hx)) (by rw [List.length_drop]; omega)]
theorem refP_at {l : List UInt8} {ns : List Nat} {k : Nat} (h : k < ns.length) (hl : l.length ≠ 0) : refP l (ns.drop k) = chk (l.take (min l.length ns[k])) ++ refP (l.drop (min l.length ns[k])) (ns.drop (k + 1)) := by
  rw [List.drop_eq_getElem_cons h]
  show (if l.length = 0 then [] else _) = _
  rw [if_neg hl]
theorem refP_end {l : List UInt8} {ns : List Nat} {k : Nat} (h : ns.length ≤ k) (hl : l.length ≠ 0) : refP l (ns.drop k) = chk (l.take l.length) ++ refP (l.drop l.length) (ns.drop (k + 1)) := by
  rw [List.drop_eq_nil_of_le h, List.drop_eq_nil_of_le (show ns.length ≤ k + 1 by omega), List.take_length, List.drop_length]
  show (if l.length = 0 then [] else _) = chk l ++ []
  rw [if_neg hl, List.append_nil]
theorem refP_nil (ns : List Nat) : refP [] ns = [] := by cases ns <;> rfl
theorem len_ok {k M m q : Nat} (h : k + M ≤ 2048) (h0 : 0 < m) (h1 : m ≤ M) (hq : q = M - m) : k + 1 + q ≤ 2048 := by omega
theorem len_lt {M m q : Nat} (h0 : 0 < m) (h1 : m ≤ M) (hq : q = M - m) : q < M := by omega
theorem okS_nat {zs : List Int} (h : okS zs = true) {k : Nat} (hk : k < zs.length) : 1 ≤ zs[k] ∧ zs[k] ≤ 2048 := by
  have h1 := List.all_eq_true.1 h zs[k] (List.getElem_mem hk)
  simp at h1
  exact h1
set_option maxHeartbeats 16000000 in
theorem refEncode_any (l : List UInt8) (hl : l.length < 1000000) (zs : List Int) (hn : zs.length < 90000) (p : Option Addr) (c : Nat) (w : World) (hC : CellsIn w p zs.length (intC fun j => zs.getD j 0)) :
    Calls Tryz.prog 10 #[.string ⟨l.toArray⟩, .slice p zs.length c] w fun e w' => e = .returned (encV l zs) ∧ Below w.heap.size w w' := by
  by_cases hb : 2048 < l.length
  · have HV : Hid (encV l zs = .tuple #[.string ⟨#[]⟩, .int .i64 4]) := Lib.hid (by unfold encV encR; rw [if_pos hb]; rfl)
    have d1 : decide ((2048 : Int) < (l.length : Int)) = true := decide_eq_true (by omega)
    have d2 : decide (2048 < l.length) = true := decide_eq_true hb
    clear hb
    go_enter Tryz.func10, Tryz.ntmps10
    go_wp2_with fail
    go_ret2
    exact ⟨by rw [HV.out]; rfl, Below.refl _ _⟩
  · have d1 : decide ((2048 : Int) < (l.length : Int)) = false := decide_eq_false (by omega)
    have d2 : decide (2048 < l.length) = false := decide_eq_false hb
    have HV : Hid (encV l zs = if okS zs = true then .tuple #[.string ⟨(encP l (zs.map Int.toNat ++ [l.length]) ++ [48, 13, 10, 13, 10]).toArray⟩, .int .i64 0] else .tuple #[.string ⟨#[]⟩, .int .i64 2]) := Lib.hid (by
      unfold encV encR
      rw [if_neg hb]
      split <;> rfl)
    have hl2 : l.length ≤ 2048 := by omega
    obtain ⟨b0, hb0⟩ : ∃ b0, okS zs = b0 := ⟨_, rfl⟩
    have HB := Lib.hid hb0
    clear hb hb0
    go_enter Tryz.func10, Tryz.ntmps10
    go_wp2_with fail
    go_loopw [6] (fun i wr => ∃ k : Nat, k ≤ zs.length ∧ i = .int .i64 k ∧ Hid (okS (zs.drop k) = b0) ∧ wr = w) (fun i _ => zs.length - (intOf i).toNat)
    case atStart => exact ⟨0, Nat.zero_le _, rfl, Lib.hid (by rw [List.drop_zero]; exact HB.out), rfl⟩
    case round =>
      obtain ⟨k, hk, rfl, hr, rfl⟩ := hrel
      by_cases hlt : k < zs.length
      · have a1 : decide ((k : Int) < (zs.length : Int)) = true := decide_eq_true (by omega)
        have a2 : decide (k < zs.length) = true := decide_eq_true hlt
        have hi2 : (k : Int) < (zs.length : Int) := by omega
        obtain ⟨g, off, rfl, hg, hcell⟩ := hC k hlt
        have hat := okS_at hlt
        obtain ⟨z, hz⟩ : ∃ z, zs[k] = z := ⟨_, rfl⟩
        rw [hz] at hat
        have hcell2 : wr.cell? ⟨g, off + k, none⟩ = some (.int .i64 z) := by
          rw [hcell]
          show some (Value.int .i64 (zs.getD k 0)) = _
          rw [List.getD_eq_getElem?_getD, List.getElem?_eq_getElem hlt, hz]
          rfl
        clear hcell
        have HI := Lib.hid (refIn_any z 1 2048 wr)
        obtain ⟨q, hq⟩ : ∃ q, (decide (1 ≤ z) && decide (z ≤ 2048)) = q := ⟨_, rfl⟩
        rw [hq] at hat HI
        have hw1 : wrap64 ((k : Int) + 1) = (k : Int) + 1 := by unfold wrap64; omega
        cases q
        · have hb : b0 = false := by rw [← hr.out, hat]; rfl
          have HV2 : Hid (encV l zs = .tuple #[.string ⟨#[]⟩, .int .i64 2]) := Lib.hid (by rw [HV.out, HB.out, hb]; rfl)
          clear hat hz hb hq
          go_wp2_with fail
          refine HI.out.mono ?_
          rintro e w' ⟨rfl, rfl⟩
          go_wp2_with fail
          go_ret2
          exact ⟨by rw [HV2.out]; rfl, Below.refl _ _⟩
        · have hnext : Hid (okS (zs.drop (k + 1)) = b0) := Lib.hid (by rw [← hr.out, hat]; rfl)
          clear hat hz hq
          go_wp2_with fail
          refine HI.out.mono ?_
          rintro e w' ⟨rfl, rfl⟩
          go_wp2_with fail
          go_roundw
          case rel => exact ⟨k + 1, by omega, by go_num, hnext, trivial⟩
          case measure => simp [intOf]; omega
      · have a1 : decide ((k : Int) < (zs.length : Int)) = false := decide_eq_false (by omega)
        have a2 : decide (k < zs.length) = false := decide_eq_false hlt
        obtain rfl : k = zs.length := by omega
        have hb : b0 = true := by rw [← hr.out, List.drop_length]; rfl
        have hok : okS zs = true := by rw [HB.out, hb]
        have hns : (zs.map Int.toNat).length = zs.length := by simp
        obtain ⟨E, hE⟩ : ∃ E, refP l (zs.map Int.toNat) = E := ⟨_, rfl⟩
        have hge : ∀ s ∈ zs.map Int.toNat, 1 ≤ s := fun s hs => by
          obtain ⟨z, hz, rfl⟩ := List.mem_map.1 hs
          have h1 := List.all_eq_true.1 hok z hz
          simp at h1
          omega
        have HV2 : Hid (encV l zs = .tuple #[.string ⟨(E ++ [48, 13, 10, 13, 10]).toArray⟩, .int .i64 0]) := Lib.hid (by rw [HV.out, if_pos hok, encP_refP _ _ _ hge (Nat.le_refl _), hE])
        have HOK := Lib.hid hok
        have HE := Lib.hid hE
        obtain ⟨ns, hnse⟩ : ∃ ns, zs.map Int.toNat = ns := ⟨_, rfl⟩
        rw [hnse] at HE hns
        have HNS := Lib.hid hnse
        clear hb hok hE hge hr HB HV hnse a1 a2 hk hlt
        go_wp2_with fail
        obtain ⟨w0, rfl⟩ : ∃ w0, w0 = wr := ⟨_, rfl⟩
        go_loopw [0, 7, 8, 9] (fun bd o i nn wx => ∃ (k : Nat) (lk O : List UInt8), bd = .string ⟨lk.toArray⟩ ∧ o = .string ⟨O.toArray⟩ ∧ i = .int .i64 k ∧ k + lk.length ≤ 2048 ∧ Hid (O ++ refP lk (ns.drop k) = E) ∧ O.length ≤ k * 3000 ∧ Below w0.heap.size w0 wx) (fun bd _ _ _ _ => strLen bd)
        case atStart => exact ⟨0, l, [], rfl, rfl, rfl, by omega, Lib.hid (by rw [List.drop_zero]; exact HE.out), by simp, Below.refl _ _⟩
        case round =>
          obtain ⟨k, lk, O, rfl, rfl, rfl, hkl, hr, hO, hB⟩ := hrel
          cases lk with
          | nil =>
            have hOE : O = E := by rw [← hr.out, refP_nil, List.append_nil]
            have s1 : ∀ w, (Op.stringOp .add ⟨O.toArray⟩ ⟨#[48, 13, 10, 13, 10]⟩).run Tryz.prog w = .ok (.string ⟨(O ++ [48, 13, 10, 13, 10]).toArray⟩) w := fun w => cstr_add O [48, 13, 10, 13, 10] (by unfold CSmall; simp at hkl; simp; omega)
            have HV3 : Hid (encV l zs = .tuple #[.string ⟨(O ++ [48, 13, 10, 13, 10]).toArray⟩, .int .i64 0]) := Lib.hid (by rw [HV2.out, hOE])
            clear hOE hr
            go_wp2_with fail
            go_ret2
            exact ⟨by rw [HV3.out]; rfl, hB⟩
          | cons x r =>
            obtain ⟨M, hMn⟩ : ∃ M, r.length + 1 = M := ⟨_, rfl⟩
            have hMi : (r.length : Int) + 1 = (M : Int) := by omega
            have hkM : k + M ≤ 2048 := by simp at hkl; omega
            clear hkl
            by_cases hlt : k < zs.length
            · have a1 : decide ((k : Int) < (zs.length : Int)) = true := decide_eq_true (by omega)
              have a2 : decide (k < zs.length) = true := decide_eq_true hlt
              have hi2 : (k : Int) < (zs.length : Int) := by omega
              obtain ⟨g, off, rfl, hg, hcell⟩ := hC k hlt
              have hzz := okS_nat HOK.out hlt
              have hltn : k < ns.length := by omega
              have hat := refP_at (l := x :: r) hltn (by simp)
              have hnk : ns[k] = (zs[k]).toNat := by
                have h1 := HNS.out
                subst h1
                simp
              rw [hnk, show (x :: r).length = M from hMn] at hat
              obtain ⟨z, hz⟩ : ∃ z, zs[k] = z := ⟨_, rfl⟩
              rw [hz] at hat hzz
              have hcell2 : wr.cell? ⟨g, off + k, none⟩ = some (.int .i64 z) := by
                rw [hB.cell (p := ⟨g, off + k, none⟩) hg, hcell]
                show some (Value.int .i64 (zs.getD k 0)) = _
                rw [List.getD_eq_getElem?_getD, List.getElem?_eq_getElem hlt, hz]
                rfl
              obtain ⟨m, hm⟩ : ∃ m, min M z.toNat = m := ⟨_, rfl⟩
              have mmin : min (M : Int) z = (m : Int) := by omega
              rw [hm] at hat
              clear hcell hnk hz
              have hmpos : 0 < m := by omega
              have hmM : m ≤ M := by omega
              have hm1 : (m : Int) ≤ (M : Int) := by omega
              have HX := Lib.hid fun W => refHex_any m hmpos (by omega) W
              obtain ⟨H, hH⟩ : ∃ H, digL 16 m = H := ⟨_, rfl⟩
              have hHl : H.length ≤ 65 := by rw [← hH]; exact digL_length16 m
              rw [hH] at HX
              have t1 := ba_take (x :: r) m
              have t2 := ba_drop (x :: r) m
              rw [show (x :: r).length = M from hMn] at t2
              obtain ⟨P, hP⟩ : ∃ P, (x :: r).take m = P := ⟨_, rfl⟩
              obtain ⟨Q, hQ⟩ : ∃ Q, (x :: r).drop m = Q := ⟨_, rfl⟩
              have hPl : P.length = m := by rw [← hP, List.length_take, show (x :: r).length = M from hMn]; omega
              have hQl : Q.length = M - m := by rw [← hQ, List.length_drop, show (x :: r).length = M from hMn]
              rw [hP] at t1 hat
              rw [hQ] at t2 hat
              have hchk : chk P = H ++ [13, 10] ++ P ++ [13, 10] := by unfold chk; rw [hPl, hH]
              have s1 : ∀ w, (Op.stringOp .add ⟨O.toArray⟩ ⟨H.toArray⟩).run Tryz.prog w = .ok (.string ⟨(O ++ H).toArray⟩) w := fun w => cstr_add O H (by unfold CSmall; omega)
              have s2 : ∀ w, (Op.stringOp .add ⟨(O ++ H).toArray⟩ ⟨#[13, 10]⟩).run Tryz.prog w = .ok (.string ⟨(O ++ H ++ [13, 10]).toArray⟩) w := fun w => cstr_add (O ++ H) [13, 10] (by unfold CSmall; simp; omega)
              have s3 : ∀ w, (Op.stringOp .add ⟨(O ++ H ++ [13, 10]).toArray⟩ ⟨P.toArray⟩).run Tryz.prog w = .ok (.string ⟨(O ++ H ++ [13, 10] ++ P).toArray⟩) w := fun w => cstr_add (O ++ H ++ [13, 10]) P (by unfold CSmall; simp; omega)
              have s4 : ∀ w, (Op.stringOp .add ⟨(O ++ H ++ [13, 10] ++ P).toArray⟩ ⟨#[13, 10]⟩).run Tryz.prog w = .ok (.string ⟨(O ++ H ++ [13, 10] ++ P ++ [13, 10]).toArray⟩) w := fun w => cstr_add (O ++ H ++ [13, 10] ++ P) [13, 10] (by unfold CSmall; simp; omega)
              have hnext : Hid ((O ++ H ++ [13, 10] ++ P ++ [13, 10]) ++ refP Q (ns.drop (k + 1)) = E) := Lib.hid (by rw [← hr.out, hat, hchk]; simp only [List.append_assoc])
              have hol : (O ++ H ++ [13, 10] ++ P ++ [13, 10]).length ≤ (k + 1) * 3000 := by simp; omega
              obtain ⟨K1, hK1⟩ : ∃ K, O ++ H = K := ⟨_, rfl⟩
              rw [hK1] at s1 s2 s3 s4 hnext hol
              obtain ⟨K2, hK2⟩ : ∃ K, K1 ++ [13, 10] = K := ⟨_, rfl⟩
              rw [hK2] at s2 s3 s4 hnext hol
              obtain ⟨K3, hK3⟩ : ∃ K, K2 ++ P = K := ⟨_, rfl⟩
              rw [hK3] at s3 s4 hnext hol
              obtain ⟨K4, hK4⟩ : ∃ K, K3 ++ [13, 10] = K := ⟨_, rfl⟩
              rw [hK4] at s4 hnext hol
              have hw1 : wrap64 ((k : Int) + 1) = (k : Int) + 1 := by unfold wrap64; omega
              have HEND : Hid (∀ w3, Below wr.heap.size wr w3 → (∃ (k' : Nat) (lk O : List UInt8), Value.string ⟨Q.toArray⟩ = .string ⟨lk.toArray⟩ ∧ Value.string ⟨K4.toArray⟩ = .string ⟨O.toArray⟩ ∧ Value.int .i64 ((k : Int) + 1) = .int .i64 (k' : Int) ∧ k' + lk.length ≤ 2048 ∧ Hid (O ++ refP lk (ns.drop k') = E) ∧ O.length ≤ k' * 3000 ∧ Below w0.heap.size w0 w3) ∧ strLen (.string ⟨Q.toArray⟩) < strLen (.string ⟨(x :: r).toArray⟩)) := Lib.hid (by
                intro w3 hb3
                refine ⟨⟨k + 1, Q, K4, rfl, rfl, by go_num, len_ok hkM hmpos hmM hQl, hnext, hol, hB.trans (hb3.mono hB.size)⟩, ?_⟩
                show Q.length < (x :: r).length
                rw [show (x :: r).length = M from hMn]
                exact len_lt hmpos hmM hQl)
              clear hP hQ hH hHl hPl hchk hK1 hK2 hK3 hK4 hat hr hQl hol hnext hmpos hmM hm
              clear HOK HNS HE hns hltn hzz hO hB hkM d1 d2 hl hl2 HV2 hg hlt
              go_wp2_with fail
              set_option maxRecDepth 10000 in
              go_region_with (go_at_call 23; refine (HX.out _).mono ?_; rintro e w5 ⟨rfl, hb5⟩; have h5 := (Below.refl wr.heap.size wr).drew.trans hb5)
              all_goals
                go_wp2_with fail
                first | exact HEND.out _ h5 | (rw [hw1]; exact HEND.out _ h5)
            · have a1 : decide ((k : Int) < (zs.length : Int)) = false := decide_eq_false (by omega)
              have a2 : decide (k < zs.length) = false := decide_eq_false hlt
              have hat := refP_end (l := x :: r) (ns := ns) (k := k) (by omega) (by simp)
              rw [show (x :: r).length = M from hMn] at hat
              have hmpos : 0 < M := by omega
              have hmM : M ≤ M := by omega
              have hm1 : (M : Int) ≤ (M : Int) := by omega
              have HX := Lib.hid fun W => refHex_any M hmpos (by omega) W
              obtain ⟨H, hH⟩ : ∃ H, digL 16 M = H := ⟨_, rfl⟩
              have hHl : H.length ≤ 65 := by rw [← hH]; exact digL_length16 M
              rw [hH] at HX
              have t1 := ba_take (x :: r) M
              have t2 := ba_drop (x :: r) M
              rw [show (x :: r).length = M from hMn] at t2
              obtain ⟨P, hP⟩ : ∃ P, (x :: r).take M = P := ⟨_, rfl⟩
              obtain ⟨Q, hQ⟩ : ∃ Q, (x :: r).drop M = Q := ⟨_, rfl⟩
              have hPl : P.length = M := by rw [← hP, List.length_take, show (x :: r).length = M from hMn]; omega
              have hQl : Q.length = M - M := by rw [← hQ, List.length_drop, show (x :: r).length = M from hMn]
              rw [hP] at t1 hat
              rw [hQ] at t2 hat
              have hchk : chk P = H ++ [13, 10] ++ P ++ [13, 10] := by unfold chk; rw [hPl, hH]
              have s1 : ∀ w, (Op.stringOp .add ⟨O.toArray⟩ ⟨H.toArray⟩).run Tryz.prog w = .ok (.string ⟨(O ++ H).toArray⟩) w := fun w => cstr_add O H (by unfold CSmall; omega)
              have s2 : ∀ w, (Op.stringOp .add ⟨(O ++ H).toArray⟩ ⟨#[13, 10]⟩).run Tryz.prog w = .ok (.string ⟨(O ++ H ++ [13, 10]).toArray⟩) w := fun w => cstr_add (O ++ H) [13, 10] (by unfold CSmall; simp; omega)
              have s3 : ∀ w, (Op.stringOp .add ⟨(O ++ H ++ [13, 10]).toArray⟩ ⟨P.toArray⟩).run Tryz.prog w = .ok (.string ⟨(O ++ H ++ [13, 10] ++ P).toArray⟩) w := fun w => cstr_add (O ++ H ++ [13, 10]) P (by unfold CSmall; simp; omega)
              have s4 : ∀ w, (Op.stringOp .add ⟨(O ++ H ++ [13, 10] ++ P).toArray⟩ ⟨#[13, 10]⟩).run Tryz.prog w = .ok (.string ⟨(O ++ H ++ [13, 10] ++ P ++ [13, 10]).toArray⟩) w := fun w => cstr_add (O ++ H ++ [13, 10] ++ P) [13, 10] (by unfold CSmall; simp; omega)
              have hnext : Hid ((O ++ H ++ [13, 10] ++ P ++ [13, 10]) ++ refP Q (ns.drop (k + 1)) = E) := Lib.hid (by rw [← hr.out, hat, hchk]; simp only [List.append_assoc])
              have hol : (O ++ H ++ [13, 10] ++ P ++ [13, 10]).length ≤ (k + 1) * 3000 := by simp; omega
              obtain ⟨K1, hK1⟩ : ∃ K, O ++ H = K := ⟨_, rfl⟩
              rw [hK1] at s1 s2 s3 s4 hnext hol
              obtain ⟨K2, hK2⟩ : ∃ K, K1 ++ [13, 10] = K := ⟨_, rfl⟩
              rw [hK2] at s2 s3 s4 hnext hol
              obtain ⟨K3, hK3⟩ : ∃ K, K2 ++ P = K := ⟨_, rfl⟩
              rw [hK3] at s3 s4 hnext hol
              obtain ⟨K4, hK4⟩ : ∃ K, K3 ++ [13, 10] = K := ⟨_, rfl⟩
              rw [hK4] at s4 hnext hol
              have hw1 : wrap64 ((k : Int) + 1) = (k : Int) + 1 := by unfold wrap64; omega
              have HEND : Hid (∀ w3, Below wr.heap.size wr w3 → (∃ (k' : Nat) (lk O : List UInt8), Value.string ByteArray.empty = .string ⟨lk.toArray⟩ ∧ Value.string ⟨K4.toArray⟩ = .string ⟨O.toArray⟩ ∧ Value.int .i64 ((k : Int) + 1) = .int .i64 (k' : Int) ∧ k' + lk.length ≤ 2048 ∧ Hid (O ++ refP lk (ns.drop k') = E) ∧ O.length ≤ k' * 3000 ∧ Below w0.heap.size w0 w3) ∧ strLen (.string ByteArray.empty) < strLen (.string ⟨(x :: r).toArray⟩)) := Lib.hid (by
                intro w3 hb3
                refine ⟨⟨k + 1, Q, K4, by rw [List.eq_nil_of_length_eq_zero (hQl.trans (Nat.sub_self M))]; rfl, rfl, by go_num, len_ok hkM hmpos hmM hQl, hnext, hol, hB.trans (hb3.mono hB.size)⟩, ?_⟩
                show 0 < (x :: r).length
                exact Nat.succ_pos _)
              clear hP hQ hH hHl hPl hchk hK1 hK2 hK3 hK4 hat hr hQl hol hnext hmpos hmM
              clear HOK HNS HE hns hO hB hkM d1 d2 hl hl2 HV2 hlt
              go_wp2_with fail
              set_option maxRecDepth 10000 in
              go_region_with (go_at_call 23; refine (HX.out _).mono ?_; rintro e w5 ⟨rfl, hb5⟩; have h5 := (Below.refl wr.heap.size wr).drew.trans hb5)
              all_goals
                go_wp2_with fail
                first | exact HEND.out _ h5 | (rw [hw1]; exact HEND.out _ h5)
end Go.Proofs.YtbafmiejgpgamaaGreatDoor
