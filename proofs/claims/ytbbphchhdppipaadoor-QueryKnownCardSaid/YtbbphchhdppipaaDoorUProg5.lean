/-
  The program's Encode, for texts shorter than 100000 bytes.
-/
import Derived.Test.YtbbphchhdppipaaDoorUProg4
namespace Go.Proofs.YtbbphchhdppipaaDoor
open Go.RowKit
section
attribute [local go_sem] ba_get
set_option maxRecDepth 100000 in
set_option maxHeartbeats 8000000 in
theorem code_any (l : List UInt8) (hl : l.length < 100000) (w : World) :
    Calls Tryd.prog 13 #[.string ⟨l.toArray⟩] w fun e w' => e = .returned (.string ⟨(codeL l).toArray⟩) ∧ Below w.heap.size w w' := by
  obtain ⟨a, b, c, d, hs⟩ : ∃ a b c d, Hid (stayS = ⟨a, b, c, d⟩) := ⟨_, _, _, _, Lib.hid rfl⟩
  have HST : Hid (∀ W, Calls Tryd.prog 11 #[] W fun e w' => e = .returned (WSet.mk a b c d).v ∧ Below W.heap.size W w') := Lib.hid fun W => stay_any a b c d hs W
  have HHAS : Hid (∀ y : Nat, y < 256 → ∀ W, Calls Tryd.prog 40 #[.agg #[.int .u64 a.toNat, .int .u64 b.toNat, .int .u64 c.toNat, .int .u64 d.toNat], .int .u8 (y : Int)] W fun e w' => e = .returned (.bool (stayS.has y)) ∧ Below W.heap.size W w') := Lib.hid fun y hy W => by
    rw [hs.out]
    exact setHas_any a b c d y hy W
  clear hs
  obtain ⟨R, hR⟩ : ∃ R, codeL l = R := ⟨_, rfl⟩
  have HR := Lib.hid hR
  rw [hR]
  clear hR
  go_enter Tryd.func13, Tryd.ntmps13
  go_wp2_with fail
  go_step3
  go_wp2_with fail
  refine (HST.out _).mono ?_
  rintro e w1 ⟨rfl, hb1⟩
  have hE := EIs.fresh (.int .u64 a.toNat) (.int .u64 b.toNat) (.int .u64 c.toNat) (.int .u64 d.toNat) w1
  have hB1 := hb1.alloc hb1.size (.cells #[.int .u64 a.toNat, .int .u64 b.toNat, .int .u64 c.toNat, .int .u64 d.toNat, .pointer none, .slice none 0 0] 60)
  have hsz := hb1.size
  go_wp2_with fail
  go_step3
  go_wp2_with fail
  obtain ⟨N, hN⟩ : ∃ N, w1.heap.size = N := ⟨_, rfl⟩
  rw [hN] at hE hsz
  try rw [hN]
  go_loopw [0] (fun s wr => ∃ (T o : List UInt8), s = .string ⟨T.toArray⟩ ∧ EIs (.int .u64 a.toNat) (.int .u64 b.toNat) (.int .u64 c.toNat) (.int .u64 d.toNat) N N (Lib.byteCells o) wr ∧ Hid (o ++ codeL T = R) ∧ T.length ≤ l.length ∧ o.length + 3 * T.length ≤ 3 * l.length ∧ N ≤ wr.heap.size ∧ Below w.heap.size w wr) (fun s _ => strLen s)
  case atStart => exact ⟨l, [], rfl, hE, Lib.hid (by rw [List.nil_append]; exact HR.out), by omega, by simp, by rw [World.size_alloc]; omega, hB1⟩
  case round =>
  clear hE hB1 hb1
  obtain ⟨T, o, rfl, hE, hst, hT, ho, hNw, hB⟩ := hrel
  go_wp2_with fail
  go_loopw [0, 9] (fun s i wq => ∃ k : Nat, k ≤ T.length ∧ s = .string ⟨T.toArray⟩ ∧ i = .int .i64 k ∧ Hid (((T.take k).all fun z => stayS.has z.toNat) = true) ∧ EIs (.int .u64 a.toNat) (.int .u64 b.toNat) (.int .u64 c.toNat) (.int .u64 d.toNat) N N (Lib.byteCells o) wq ∧ N ≤ wq.heap.size ∧ Below w.heap.size w wq) (fun _ i _ => T.length - (intOf i).toNat)
  case atStart => exact ⟨0, by omega, rfl, rfl, Lib.hid (by rw [List.take_zero]; rfl), hE, hNw, hB⟩
  case round =>
  clear hE hNw hB
  obtain ⟨k, hk, rfl, rfl, hall, hE, hNw, hB⟩ := hrel

  by_cases hlt : k < T.length
  · have d1 : decide ((k : Int) < (T.length : Int)) = true := decide_eq_true (by omega)
    have hb2 : (k : Int) < (T.length : Int) := by omega
    obtain ⟨y, hy⟩ : ∃ y, (T[k]).toNat = y := ⟨_, rfl⟩
    have hy256 : y < 256 := by rw [← hy]; exact UInt8.toNat_lt _
    obtain ⟨q, hq⟩ : ∃ q, stayS.has y = q := ⟨_, rfl⟩
    have HQ := Lib.hid hq
    obtain ⟨c0, c1, c2, c3⟩ := hE.sets
    have hEd : EIs (.int .u64 a.toNat) (.int .u64 b.toNat) (.int .u64 c.toNat) (.int .u64 d.toNat) N N (Lib.byteCells o) wr.drew := hE
    cases q with
    | true =>
      have hnext := Lib.hid (all_step hlt hall.out (by rw [hy]; exact hq))
      clear hq hall
      go_wp2_with fail
      go_region_with (go_at_call 40; refine (HHAS.out y hy256 _).mono ?_; rintro e w5 ⟨rfl, hb5⟩; rw [HQ.out]; have h5 := EIs.below (w := wr.drew) hEd hb5; have hB5 := hB.drew.trans (hb5.mono hB.drew.size); have hN5 := Nat.le_trans hNw hb5.size)
      all_goals
        go_wp2_with fail
        go_roundw
        case rel => exact ⟨k + 1, by omega, rfl, by go_num, hnext, h5, hN5, hB5⟩
        case measure => simp [intOf]; omega
    | false =>
      have hcode := code_at hlt hall.out (by rw [hy]; exact hq)
      rw [hy] at hcode
      have f1 := ba_fst T k
      have f2 := ba_one T k hlt
      have f3 := ba_snd T (k + 1)
      have hXl : (T.take k).length = k := by rw [List.length_take]; omega
      have hYl : (T.drop (k + 1)).length + (k + 1) = T.length := by rw [List.length_drop]; omega
      obtain ⟨z, hz⟩ : ∃ z, T[k] = z := ⟨_, rfl⟩
      rw [hz] at f2
      have hzy : z.toNat = y := by rw [← hz, hy]
      obtain ⟨X, hX⟩ : ∃ X, T.take k = X := ⟨_, rfl⟩
      obtain ⟨Y, hY⟩ : ∃ Y, T.drop (k + 1) = Y := ⟨_, rfl⟩
      rw [hX] at f1 hXl hcode
      rw [hY] at f3 hYl hcode
      obtain ⟨C, hC⟩ : ∃ C, ([37, hexU (y / 16), hexU (y % 16)] : List UInt8) = C := ⟨_, rfl⟩
      rw [hC] at hcode
      have hCl : C.length = 3 := by rw [← hC]; rfl
      have HESC : Hid (∀ bs W, EIs (.int .u64 a.toNat) (.int .u64 b.toNat) (.int .u64 c.toNat) (.int .u64 d.toNat) N N bs W → bs.length + 3 ≤ 140737488355328 → N ≤ W.heap.size → Calls Tryd.prog 42 #[.pointer (some ⟨N, 0, none⟩), .string ⟨#[z]⟩] W fun e w' => e = .returned (.tuple #[]) ∧ EIs (.int .u64 a.toNat) (.int .u64 b.toNat) (.int .u64 c.toNat) (.int .u64 d.toNat) N N (bs ++ Lib.byteCells C) w' ∧ Below N W w') := Lib.hid fun bs W h1 h2 h3 => by
        have h := escape_q _ _ _ _ N N bs z W h1 h2 h3
        rw [hzy, hC] at h
        exact h
      have hnext : Hid ((o ++ X ++ C) ++ codeL Y = R) := Lib.hid (by rw [← hst.out, hcode]; simp)
      have q1 : IntKind.i64.wrap ((k : Int) + 1) = ((k + 1 : Nat) : Int) := by rw [IntKind.wrap_i64]; omega
      have hb3 : (k : Int) ≤ (T.length : Int) := by omega
      have hb4 : ((k + 1 : Nat) : Int) ≤ (T.length : Int) := by omega
      have hb5 : (k : Int) ≤ ((k + 1 : Nat) : Int) := by omega
      have hlen2 : (o ++ X ++ C).length + 3 * Y.length ≤ 3 * l.length := by
        rw [List.length_append, List.length_append]
        omega
      clear hq hcode hst hX hY hC hall hz hzy
      go_wp2_with fail
      go_region_with (go_at_call 40; refine (HHAS.out y hy256 _).mono ?_; rintro e w5 ⟨rfl, hb5⟩; rw [HQ.out]; have h5 := EIs.below (w := wr.drew) hEd hb5; have hB5 := hB.drew.trans (hb5.mono hB.drew.size); have hN5 := Nat.le_trans hNw hb5.size)
      all_goals
        go_wp2_with fail
        refine (e_writeString_any _ _ _ _ N N (Lib.byteCells o) X _ h5 (by rw [Lib.byteCells_length]; omega) hN5).mono ?_
        rintro e w6 ⟨rfl, h6, hb6⟩
        have hB6 := hB5.trans (hb6.mono hsz)
        have hN6 := Nat.le_trans hN5 hb6.size
        rw [← bytes_append] at h6
        go_wp2_with fail
        refine (HESC.out _ _ (.inr h6) (by rw [Lib.byteCells_length, List.length_append]; omega) hN6).mono ?_
        rintro e w7 ⟨rfl, h7, hb7⟩
        have hB7 := hB6.trans (hb7.mono hsz)
        have hN7 := Nat.le_trans hN6 hb7.size
        rw [← bytes_append] at h7
        go_wp2_with fail
        go_roundw
        case rel => exact ⟨Y, o ++ X ++ C, rfl, h7, hnext, by omega, hlen2, hN7, hB7⟩
        case measure => simp [strLen, ByteArray.size]; omega
  · have d1 : decide ((k : Int) < (T.length : Int)) = false := decide_eq_false (by omega)
    obtain rfl : k = T.length := by omega
    have hcode : codeL T = T := code_stays (by have := hall.out; rwa [List.take_length] at this)
    have hres : Hid (o ++ T = R) := Lib.hid (by rw [← hst.out, hcode])
    clear hcode hall hst
    go_wp2_with fail
    refine (e_writeString_any _ _ _ _ N N (Lib.byteCells o) T _ hE (by rw [Lib.byteCells_length]; omega) hNw).mono ?_
    rintro e w2 ⟨rfl, h2, hb2⟩
    have hB2 := hB.trans (hb2.mono hsz)
    have hN2 := Nat.le_trans hNw hb2.size
    rw [← bytes_append, hres.out] at h2
    go_wp2_with fail
    refine (e_string_any _ _ _ _ N N R _ (.inr h2) hN2).mono ?_
    rintro e w3 ⟨rfl, hb3⟩
    have hB3 := hB2.trans (hb3.mono hsz)
    go_wp2_with fail
    rw [Exit.noGoto_ret]
    go_ret
    exact ⟨rfl, hB3⟩
end
end Go.Proofs.YtbbphchhdppipaaDoor
