/-
  Encoded bodies, purely; chunked.chunksOf by the program.
-/
import Derived.Test.YtbafmiejgpgamaaGreatDoorCBuild
import Derived.Test.YtbafmiejgpgamaaGreatDoorCMeth2
import Derived.Test.YtbafmiejgpgamaaGreatDoorICells
import Derived.Deep.DeepCutAuto
import Derived.Deep.RegionWith
namespace Go.Proofs.YtbafmiejgpgamaaGreatDoor
open Go.RowKit
attribute [local go_sem] ba_get
/-- One chunk. -/
def chk (x : List UInt8) : List UInt8 := digL 16 x.length ++ [13, 10] ++ x ++ [13, 10]
def encP : List UInt8 → List Nat → List UInt8
  | _, [] => []
  | l, s :: r => if min s l.length = 0 then [] else chk (l.take (min s l.length)) ++ encP (l.drop (min s l.length)) r
theorem encP_at {l : List UInt8} {ns : List Nat} {k : Nat} (h : k < ns.length) : encP l (ns.drop k) = if min ns[k] l.length = 0 then [] else chk (l.take (min ns[k] l.length)) ++ encP (l.drop (min ns[k] l.length)) (ns.drop (k + 1)) := by
  rw [List.drop_eq_getElem_cons h]; rfl
def natC (ns : List Nat) (j : Nat) : Value := .int .i64 ((ns.getD j 0 : Nat) : Int)
theorem digL_length16 (n : Nat) : (digL 16 n).length ≤ 65 := (digF_length 16 64 n).2
theorem bat_below {T e : TypeId} {B b : Nat} {p : Value} {bs : List Value} {w w' : World} (h : Lib.BuilderAt T e B b p bs w) (hb : Below w.heap.size w w') : Lib.BuilderAt T e B b p bs w' := by
  obtain ⟨hB, v, hk, hown, hne⟩ := h
  exact ⟨hB, v, (hb.block b (lt_of_block hk)).trans hk, hown.kept (below_grow hb none) (Decidable.em _), hne⟩
theorem bis_below {T e : TypeId} {B b : Nat} {bs : List Value} {w w' : World} (h : Lib.IsBuilder T e B b bs w) (hb : Below w.heap.size w w') : Lib.IsBuilder T e B b bs w' := h.imp (bat_below · hb) (bat_below · hb)
theorem bytes_app (a b : List UInt8) : Lib.byteCells a ++ Lib.byteCells b = Lib.byteCells (a ++ b) := by
  unfold Lib.byteCells
  rw [List.map_append]
theorem len_bytes (a : List UInt8) : (Lib.byteCells a).length = a.length := by
  unfold Lib.byteCells
  rw [List.length_map]
set_option maxHeartbeats 8000000 in
theorem chunksOf_any (l : List UInt8) (hl : l.length ≤ 2048) (ns : List Nat) (hn : ns.length < 100000) (g off c : Nat) (w : World) (hg : g < w.heap.size) (hc : ∀ j, j < ns.length → w.cell? ⟨g, off + j, none⟩ = some (natC ns j)) (hN : NTab w) :
    Calls Tryz.prog 20 #[.string ⟨l.toArray⟩, .slice (some ⟨g, off, none⟩) ns.length c] w fun e w' => e = .returned (.string ⟨(encP l ns ++ [48, 13, 10, 13, 10]).toArray⟩) ∧ Below w.heap.size w w' := by
  obtain ⟨R, hR⟩ : ∃ R, encP l ns = R := ⟨_, rfl⟩
  rw [hR]
  have HR := Lib.hid hR
  clear hR
  have hb0 : BIs w.heap.size w.heap.size (Lib.byteCells []) (w.alloc (.cells #[.pointer none, .slice none 0 0] 55)) := Lib.fresh_isBuilder 55 5 w
  have hB0 : Below w.heap.size w (w.alloc (.cells #[.pointer none, .slice none 0 0] 55)) := by go_grown
  go_enter Tryz.func20, Tryz.ntmps20
  go_wp2_with fail
  go_loopw [0, 7, 10] (fun bd sz i wr => ∃ (k : Nat) (lk O : List UInt8), k ≤ ns.length ∧ bd = .string ⟨lk.toArray⟩ ∧ i = .int .i64 k ∧ lk.length ≤ 2048 ∧ Hid (O ++ encP lk (ns.drop k) = R) ∧ O.length ≤ k * 3000 ∧ BIs w.heap.size w.heap.size (Lib.byteCells O) wr ∧ Below w.heap.size w wr) (fun _ _ i _ => ns.length - (intOf i).toNat)
  case atStart => exact ⟨0, l, [], Nat.zero_le _, rfl, rfl, hl, Lib.hid (by rw [List.drop_zero]; exact HR.out), by simp, hb0, hB0⟩
  case round =>
    clear hb0 hB0 HR hl
    obtain ⟨k, lk, O, hk, rfl, rfl, hl, hr, hO, hb, hB⟩ := hrel
    have HEND : Hid (O = R → Calls Tryz.prog 33 #[.pointer (some ⟨w.heap.size, 0, none⟩)] wr fun e w' => e = .returned (.string ⟨R.toArray⟩) ∧ Below w.heap.size w w') := Lib.hid fun h1 => by
      subst h1
      exact (bstring_any w.heap.size w.heap.size O wr hb hB.size).mono fun e w' ⟨h1, h2⟩ => ⟨h1, hB.trans h2⟩
    have HADD : Hid (O = R → ∀ w, (Op.stringOp .add ⟨R.toArray⟩ ⟨#[48, 13, 10, 13, 10]⟩).run Tryz.prog w = .ok (.string ⟨(R ++ [48, 13, 10, 13, 10]).toArray⟩) w) := Lib.hid fun h1 w => by
      subst h1
      exact cstr_add O [48, 13, 10, 13, 10] (by unfold CSmall; simp; omega)
    by_cases hlt : k < ns.length
    · have a1 : decide ((k : Int) < (ns.length : Int)) = true := decide_eq_true (by omega)
      have a2 : decide (k < ns.length) = true := decide_eq_true hlt
      have hi2 : (k : Int) < (ns.length : Int) := by omega
      have hcell : wr.cell? ⟨g, off + k, none⟩ = some (.int .i64 (ns[k] : Int)) := by
        have h1 := hB.cell (p := ⟨g, off + k, none⟩) hg
        rw [h1, hc k hlt]
        unfold natC
        rw [List.getD_eq_getElem?_getD, List.getElem?_eq_getElem hlt]
        rfl
      have hat := encP_at (l := lk) hlt
      obtain ⟨s, hs1⟩ : ∃ s, ns[k] = s := ⟨_, rfl⟩
      rw [hs1] at hcell hat
      obtain ⟨m, hm⟩ : ∃ m, min s lk.length = m := ⟨_, rfl⟩
      have mmin : min (s : Int) (lk.length : Int) = (m : Int) := by omega
      have hml : m ≤ lk.length := by omega
      rw [hm] at hat
      by_cases hm0 : m = 0
      · have em : ((m : Int) == 0) = true := by rw [beq_iff_eq]; omega
        have hOR : O = R := by rw [← hr.out, hat, if_pos hm0, List.append_nil]
        have HE := Lib.hid (HEND.out hOR)
        have HA := HADD.out hOR
        clear hat hm hs1 hm0 hOR
        go_wp2_with fail
        refine HE.out.mono ?_
        rintro e w9 ⟨rfl, hb9⟩
        go_wp2_with fail
        go_ret
        exact ⟨rfl, hb9⟩
      · have em : ((m : Int) == 0) = false := by rw [beq_eq_false_iff_ne]; omega
        have hw1 : wrap64 ((k : Int) + 1) = (k : Int) + 1 := by unfold wrap64; omega
        have hu1 : IntKind.u64.wrap (m : Int) = (m : Int) := wrapU (by unfold U64; omega)
        have hm1 : (m : Int) ≤ (lk.length : Int) := by omega
        have t1 := ba_take lk m
        have t2 := ba_drop lk m
        obtain ⟨H, hH⟩ : ∃ H, digL 16 m = H := ⟨_, rfl⟩
        have hHl : H.length ≤ 65 := by rw [← hH]; exact (digL_length16 m)
        have HX := Lib.hid fun W h => hexText_any m (by unfold U64; omega) W h
        rw [hH] at HX
        obtain ⟨P, hP⟩ : ∃ P, lk.take m = P := ⟨_, rfl⟩
        have hPl : P.length = m := by rw [← hP, List.length_take]; omega
        obtain ⟨Q, hQ⟩ : ∃ Q, lk.drop m = Q := ⟨_, rfl⟩
        have hQl : Q.length ≤ 2048 := by rw [← hQ, List.length_drop]; omega
        rw [hP] at t1 hat
        rw [hQ] at t2 hat
        have s1 : ∀ w, (Op.stringOp .add ⟨H.toArray⟩ ⟨#[13, 10]⟩).run Tryz.prog w = .ok (.string ⟨(H ++ [13, 10]).toArray⟩) w := fun w => cstr_add H [13, 10] (by unfold CSmall; simp; omega)
        have s2 : ∀ w, (Op.stringOp .add ⟨(H ++ [13, 10]).toArray⟩ ⟨P.toArray⟩).run Tryz.prog w = .ok (.string ⟨(H ++ [13, 10] ++ P).toArray⟩) w := fun w => cstr_add (H ++ [13, 10]) P (by unfold CSmall; simp; omega)
        have hchk : chk P = H ++ [13, 10] ++ P ++ [13, 10] := by unfold chk; rw [hPl, hH]
        have s3 : ∀ w, (Op.stringOp .add ⟨(H ++ [13, 10] ++ P).toArray⟩ ⟨#[13, 10]⟩).run Tryz.prog w = .ok (.string ⟨(chk P).toArray⟩) w := fun w => by
          rw [hchk]
          exact cstr_add (H ++ [13, 10] ++ P) [13, 10] (by unfold CSmall; simp; omega)
        have hcl : (chk P).length ≤ 3000 := by rw [hchk]; simp; omega
        have hnext : Hid ((O ++ chk P) ++ encP Q (ns.drop (k + 1)) = R) := Lib.hid (by rw [← hr.out, hat, if_neg hm0, List.append_assoc])
        obtain ⟨K1, hK1⟩ : ∃ K1, H ++ [13, 10] = K1 := ⟨_, rfl⟩
        rw [hK1] at s1 s2 s3
        obtain ⟨K2, hK2⟩ : ∃ K2, K1 ++ P = K2 := ⟨_, rfl⟩
        rw [hK2] at s2 s3
        obtain ⟨K, hKe⟩ : ∃ K, chk P = K := ⟨_, rfl⟩
        rw [hKe] at s3 hcl hnext
        have hNr : Hid (∀ W, Below wr.heap.size wr W → NTab W ∧ BIs w.heap.size w.heap.size (Lib.byteCells O) W ∧ Below w.heap.size w W) := Lib.hid fun W h => ⟨(hN.below hB).below h, bis_below hb h, hB.trans (h.mono hB.size)⟩
        have hdr := (Below.refl wr.heap.size wr).drew
        clear hP hQ hH hHl hPl hchk hK1 hK2 hKe hat hm hs1 hm0 hr HEND HADD
        go_wp2_with fail
        go_region_with (first
          | (go_at_call 32; refine (HX.out _ (hNr.out _ hdr).1).mono ?_; rintro e w5 ⟨rfl, hb5⟩; have h5 := hdr.trans hb5; obtain ⟨n5, b5, B5⟩ := hNr.out w5 h5)
          | (go_at_call 31; refine (writeString_any w.heap.size w.heap.size (Lib.byteCells O) K w5 b5 (by rw [len_bytes]; omega) B5.size).mono ?_; rintro e w6 ⟨rfl, h6, hb6⟩))
        all_goals
          rw [bytes_app] at h6
          have hB6 := B5.trans hb6
          go_wp2_with fail
          exact ⟨⟨k + 1, Q, O ++ K, by omega, rfl, by go_num, hQl, hnext, by rw [List.length_append]; omega, .inr h6, hB6⟩, by simp [intOf]; omega⟩
    · have a1 : decide ((k : Int) < (ns.length : Int)) = false := decide_eq_false (by omega)
      have a2 : decide (k < ns.length) = false := decide_eq_false hlt
      obtain rfl : k = ns.length := by omega
      have hOR : O = R := by rw [← hr.out, List.drop_length]; unfold encP; rw [List.append_nil]
      have HE := Lib.hid (HEND.out hOR)
      have HA := HADD.out hOR
      clear hr hOR
      go_wp2_with fail
      refine HE.out.mono ?_
      rintro e w9 ⟨rfl, hb9⟩
      go_wp2_with fail
      go_ret
      exact ⟨rfl, hb9⟩
/-- Are all sizes from 1 to 2,048? -/
def okS (zs : List Int) : Bool := zs.all fun z => decide (1 ≤ z) && decide (z ≤ 2048)
def encR (l : List UInt8) (zs : List Int) : List UInt8 × Nat :=
  if 2048 < l.length then ([], 4) else if okS zs then (encP l (zs.map Int.toNat ++ [l.length]) ++ [48, 13, 10, 13, 10], 0) else ([], 2)
def encV (l : List UInt8) (zs : List Int) : Value := .tuple #[.string ⟨(encR l zs).1.toArray⟩, .int .i64 ((encR l zs).2 : Nat)]
theorem okS_at {zs : List Int} {k : Nat} (h : k < zs.length) : okS (zs.drop k) = ((decide (1 ≤ zs[k]) && decide (zs[k] ≤ 2048)) && okS (zs.drop (k + 1))) := by
  rw [List.drop_eq_getElem_cons h]; rfl
theorem cloneI_any (zs : List Int) (hn : zs.length < 90000) (p : Option Addr) (c : Nat) (w : World) (hC : CellsIn w p zs.length (intC fun j => zs.getD j 0)) :
    Calls Tryz.prog 21 #[.slice p zs.length c] w fun e w' => (∃ v', e = .returned v' ∧ w'.ownsRow w.heap.size 3 1 v' zs.length (zs.map (Value.int .i64))) ∧ Below w.heap.size w w' := by
  cases zs with
  | nil =>
    cases p with
    | none =>
      refine (Any.slices_Clone_int_nil laysNm215 0 c w).mono ?_
      rintro e w' ⟨rfl, rfl⟩
      exact ⟨⟨_, rfl, World.ownsRow_nil _ _ _ _⟩, Below.refl _ _⟩
    | some a =>
      refine (Any.slices_Clone_int_zero laysNm215 a c w).mono ?_
      rintro e w' ⟨v', rfl, h1, _, h3⟩
      exact ⟨⟨v', rfl, h1⟩, h3⟩
  | cons z r =>
    obtain ⟨b, off, rfl, _, _⟩ := hC 0 (by simp)
    refine (Any.slices_Clone_int laysNm215 b off (z :: r).length c (z :: r) w (Nat.le_refl _) (by omega) (fun j hj => hC.cell j hj)).mono ?_
    rintro e w' ⟨v', rfl, h1, _, h3⟩
    rw [List.take_length] at h1
    exact ⟨⟨v', rfl, h1⟩, h3⟩
theorem infoI : (Tryz.prog.info? 3).map (fun i => (i.zero, i.size, i.bytes)) = some (some (.int .i64 0), 1, 8) := by kernel_rfl
theorem natC_at {zs : List Int} {L : Nat} (h : okS zs = true) {j : Nat} {u : Value} (hj : (zs.map (Value.int .i64) ++ [.int .i64 (L : Int)])[j]? = some u) : u = natC (zs.map Int.toNat ++ [L]) j := by
  unfold natC
  by_cases hl : j < zs.length
  · rw [List.getElem?_append_left (by simpa using hl)] at hj
    simp [hl] at hj
    subst hj
    have h1 := List.all_eq_true.1 h zs[j] (List.getElem_mem hl)
    simp at h1
    rw [List.getD_eq_getElem?_getD, List.getElem?_append_left (by simpa using hl)]
    simp [hl]
    omega
  · by_cases he : j = zs.length
    · subst he
      simp at hj
      subst hj
      rw [List.getD_eq_getElem?_getD, List.getElem?_append_right (by simp)]
      simp
    · have := (List.getElem?_eq_some_iff.1 hj).1
      simp at this
      omega
theorem own_formI {W : World} {base : Nat} {v : Value} {n : Nat} {xs : List Value} (h : W.ownsRow base 3 1 v (n + 1) xs) : ∃ g cap, v = .slice (some ⟨g, 0, none⟩) (n + 1) cap ∧ g < W.heap.size ∧ ∀ j u, xs[j]? = some u → W.cell? ⟨g, 0 + j, none⟩ = some u := by
  rcases h.2 with ⟨_, h0⟩ | ⟨g, cap, cur, rfl, hb, hg, rest⟩
  · cases h0
  · refine ⟨g, cap, rfl, lt_of_block hg, fun j u hj => ?_⟩
    have := h.cells (g := g) rfl j u hj
    rw [Addr.add_lit] at this
    exact this
set_option maxHeartbeats 8000000 in
theorem encode_any (l : List UInt8) (hl : l.length < 1000000) (zs : List Int) (hn : zs.length < 90000) (p : Option Addr) (c : Nat) (w : World) (hC : CellsIn w p zs.length (intC fun j => zs.getD j 0)) (hN : NTab w) :
    Calls Tryz.prog 9 #[.string ⟨l.toArray⟩, .slice p zs.length c] w fun e w' => e = .returned (encV l zs) ∧ Below w.heap.size w w' := by
  by_cases hb : 2048 < l.length
  · have HV : Hid (encV l zs = .tuple #[.string ⟨#[]⟩, .int .i64 4]) := Lib.hid (by unfold encV encR; rw [if_pos hb]; rfl)
    have d1 : decide ((2048 : Int) < (l.length : Int)) = true := decide_eq_true (by omega)
    have d2 : decide (2048 < l.length) = true := decide_eq_true hb
    clear hb
    go_enter Tryz.func9, Tryz.ntmps9
    go_wp2_with fail
    go_ret2
    exact ⟨by rw [HV.out]; rfl, Below.refl _ _⟩
  · have d1 : decide ((2048 : Int) < (l.length : Int)) = false := decide_eq_false (by omega)
    have d2 : decide (2048 < l.length) = false := decide_eq_false hb
    have HV : Hid (encV l zs = if okS zs = true then .tuple #[.string ⟨(encP l (zs.map Int.toNat ++ [l.length]) ++ [48, 13, 10, 13, 10]).toArray⟩, .int .i64 0] else .tuple #[.string ⟨#[]⟩, .int .i64 2]) := Lib.hid (by
      unfold encV encR
      rw [if_neg hb]
      split <;> rfl)
    have hl2 : l.length ≤ 2048 := by omega
    obtain ⟨b0, hb0⟩ : ∃ b0, okS zs = b0 := ⟨_, rfl⟩
    have HB := Lib.hid hb0
    clear hb hb0
    go_enter Tryz.func9, Tryz.ntmps9
    go_wp2_with fail
    go_loopw [7, 13] (fun sz i wr => ∃ k : Nat, k ≤ zs.length ∧ i = .int .i64 k ∧ Hid (okS (zs.drop k) = b0) ∧ wr = w) (fun _ i _ => zs.length - (intOf i).toNat)
    case atStart => exact ⟨0, Nat.zero_le _, rfl, Lib.hid (by rw [List.drop_zero]; exact HB.out), rfl⟩
    case round =>
      obtain ⟨k, hk, rfl, hr, rfl⟩ := hrel
      by_cases hlt : k < zs.length
      · have a1 : decide ((k : Int) < (zs.length : Int)) = true := decide_eq_true (by omega)
        have a2 : decide (k < zs.length) = true := decide_eq_true hlt
        have hi2 : (k : Int) < (zs.length : Int) := by omega
        obtain ⟨g, off, rfl, hg, hcell⟩ := hC k hlt
        have hat := okS_at hlt
        obtain ⟨z, hz⟩ : ∃ z, zs[k] = z := ⟨_, rfl⟩
        rw [hz] at hat
        have hcell2 : wr.cell? ⟨g, off + k, none⟩ = some (.int .i64 z) := by
          rw [hcell]
          show some (Value.int .i64 (zs.getD k 0)) = _
          rw [List.getD_eq_getElem?_getD, List.getElem?_eq_getElem hlt, hz]
          rfl
        clear hcell
        by_cases h1 : 1 ≤ z
        · have e1 : decide (z < 1) = false := decide_eq_false (by omega)
          by_cases h2 : z ≤ 2048
          · have e2 : decide (2048 < z) = false := decide_eq_false (by omega)
            have hnext : Hid (okS (zs.drop (k + 1)) = b0) := Lib.hid (by rw [← hr.out, hat, decide_eq_true h1, decide_eq_true h2]; rfl)
            have hw1 : wrap64 ((k : Int) + 1) = (k : Int) + 1 := by unfold wrap64; omega
            clear hat hz h1 h2
            go_wp2_with fail
            go_roundw
            case rel => exact ⟨k + 1, by omega, by go_num, hnext, trivial⟩
            case measure => simp [intOf]; omega
          · have e2 : decide (2048 < z) = true := decide_eq_true (by omega)
            have hb : b0 = false := by rw [← hr.out, hat, decide_eq_false h2, Bool.and_false]; rfl
            have HV2 : Hid (encV l zs = .tuple #[.string ⟨#[]⟩, .int .i64 2]) := Lib.hid (by rw [HV.out, HB.out, hb]; rfl)
            clear hat hz h1 h2 hb
            go_wp2_with fail
            go_ret2
            exact ⟨by rw [HV2.out]; rfl, Below.refl _ _⟩
        · have e1 : decide (z < 1) = true := decide_eq_true (by omega)
          have hb : b0 = false := by rw [← hr.out, hat, decide_eq_false h1]; rfl
          have HV2 : Hid (encV l zs = .tuple #[.string ⟨#[]⟩, .int .i64 2]) := Lib.hid (by rw [HV.out, HB.out, hb]; rfl)
          clear hat hz h1 hb
          go_wp2_with fail
          go_ret2
          exact ⟨by rw [HV2.out]; rfl, Below.refl _ _⟩
      · have a1 : decide ((k : Int) < (zs.length : Int)) = false := decide_eq_false (by omega)
        have a2 : decide (k < zs.length) = false := decide_eq_false hlt
        obtain rfl : k = zs.length := by omega
        have hb : b0 = true := by rw [← hr.out, List.drop_length]; rfl
        have hok : okS zs = true := by rw [HB.out, hb]
        obtain ⟨i0, hi, hz0, hz1, hz2⟩ := info_parts infoI
        obtain ⟨E, hE⟩ : ∃ E, encP l (zs.map Int.toNat ++ [l.length]) ++ [48, 13, 10, 13, 10] = E := ⟨_, rfl⟩
        have HV2 : Hid (encV l zs = .tuple #[.string ⟨E.toArray⟩, .int .i64 0]) := Lib.hid (by rw [HV.out, if_pos hok, hE])
        have HCH : Hid (∀ (g off c : Nat) (W : World), g < W.heap.size → (∀ j, j < zs.length + 1 → W.cell? ⟨g, off + j, none⟩ = some (natC (zs.map Int.toNat ++ [l.length]) j)) → NTab W → Calls Tryz.prog 20 #[.string ⟨l.toArray⟩, .slice (some ⟨g, off, none⟩) (zs.length + 1) c] W fun e w' => e = .returned (.string ⟨E.toArray⟩) ∧ Below W.heap.size W w') := Lib.hid fun g off c W h1 h2 h3 => by
          have h := chunksOf_any l hl2 (zs.map Int.toNat ++ [l.length]) (by simp; omega) g off c W h1 (fun j hj => h2 j (by simpa using hj)) h3
          rw [hE, List.length_append, List.length_map, List.length_singleton] at h
          exact h
        have HZ : Hid (zs.length < 90000) := Lib.hid hn
        have HCELL : Hid (∀ (W : World) (g : Nat), (∀ j u, (zs.map (Value.int .i64) ++ [.int .i64 (l.length : Int)])[j]? = some u → W.cell? ⟨g, 0 + j, none⟩ = some u) → ∀ j, j < zs.length + 1 → W.cell? ⟨g, 0 + j, none⟩ = some (natC (zs.map Int.toNat ++ [l.length]) j)) := Lib.hid fun W g h j hj => by
          have hlt : j < (zs.map (Value.int .i64) ++ [Value.int .i64 (l.length : Int)]).length := by simp; omega
          have h1 := List.getElem?_eq_getElem hlt
          rw [h j _ h1, natC_at hok h1]
        have HGR : Hid (∀ (w1 w2 : World) (v1 : Value), w1.ownsRow wr.heap.size 3 1 v1 zs.length (zs.map (Value.int .i64)) → Below wr.heap.size wr (w1.alloc (.cells #[.int .i64 (l.length : Int)] 3)) → (w1.alloc (.cells #[.int .i64 (l.length : Int)] 3)).grownBy w2 v1.ownBlock → Below wr.heap.size wr w2) := Lib.hid fun w1 w2 v1 h1 h2 h3 =>
          h2.trans ⟨h3.os, h3.tape, h3.output, h3.size, fun k hk => h3.block k (Nat.lt_of_lt_of_le hk h2.size) (fun e => by have := (h1.lt k e.symm).1; omega)⟩
        clear hE hok hb hr HB HV
        set_option maxRecDepth 10000 in
        go_wp2_with fail
        refine (cloneI_any zs hn p c wr hC).mono ?_
        rintro e w1 ⟨⟨v1, rfl, hown⟩, hb1⟩
        have hz1' := hb1.size
        have hrow := hown.alloc (.cells #[.int .i64 (l.length : Int)] 3)
        have hBA := hb1.alloc hb1.size (.cells #[.int .i64 (l.length : Int)] 3)
        set_option maxRecDepth 10000 in
        go_wp2_with (at_builtin; refine wpList_append_own _ rfl _ _ 26 rfl wr.heap.size 3 i0 (.int .i64 0) 1 8 Tryz.underlying26 hi hz0 hz1 hz2 rfl (by decide) _ _ _ rfl hrow ⟨w1.heap.size, 0, none⟩ 1 1 [.int .i64 (l.length : Int)] rfl rfl (cell_one_new _ _ _) (by simp [Value.oneCell']) (by have := HZ.out; unfold maxLen; omega) (by have := HZ.out; omega) (by simp; omega) ?_; intro v2 w2 hown2 hgrow _; obtain ⟨g2, cap2, rfl, hg2, hcells⟩ := own_formI hown2; have hB2 := HGR.out w1 w2 v1 hown hBA hgrow)
        refine (HCH.out g2 0 cap2 w2 hg2 (fun j hj => HCELL.out w2 g2 hcells j hj) (hN.below hB2)).mono ?_
        rintro e w3 ⟨rfl, hb3⟩
        have hB3 := hB2.trans (hb3.mono hB2.size)
        go_wp2_with fail
        go_ret2
        exact ⟨by rw [HV2.out]; rfl, hB3⟩
end Go.Proofs.YtbafmiejgpgamaaGreatDoor
