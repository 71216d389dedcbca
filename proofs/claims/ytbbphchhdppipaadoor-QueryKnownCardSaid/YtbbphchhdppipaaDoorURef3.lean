/-
  The reference's Check, Literal and cut, for texts shorter than 100000 bytes.
-/
import Derived.Test.YtbbphchhdppipaaDoorURef2
namespace Go.Proofs.YtbbphchhdppipaaDoor
open Go.RowKit
theorem all_step {f : UInt8 → Bool} {l : List UInt8} {k : Nat} (h : k < l.length) (h1 : (l.take k).all f = true) (h2 : f l[k] = true) : (l.take (k + 1)).all f = true := by
  rw [List.take_succ_eq_append_getElem h, List.all_append, h1]
  simp [h2]
theorem all_bad {f : UInt8 → Bool} {l : List UInt8} {k : Nat} (h : k < l.length) (h2 : f l[k] = false) : l.all f = false := by
  rw [List.all_eq_false]
  exact ⟨l[k], List.getElem_mem h, by simp [h2]⟩
theorem qry_has : ∀ n, n < 256 → qryS.has n = (decide (33 ≤ n) && decide (n ≤ 126) && !(n == 35)) := by decide +kernel
theorem lit_has : ∀ n, n < 256 → litS.has n = (stayS.has n || n == 38 || n == 61 || n == 43 || n == 59 || n == 37) := by decide +kernel
theorem chk_long {q : List UInt8} (h : 128 < q.length) : chkN q = 4 := by unfold chkN; rw [if_pos h]
theorem chk_ok {q : List UInt8} (h : ¬ 128 < q.length) (h2 : (q.all fun b => qryS.has b.toNat) = true) : chkN q = 0 := by unfold chkN; rw [if_neg h, if_pos h2]
theorem chk_bad {q : List UInt8} (h : ¬ 128 < q.length) (h2 : (q.all fun b => qryS.has b.toNat) = false) : chkN q = 3 := by unfold chkN; rw [if_neg h, h2]; rfl
section
attribute [local go_sem] ba_get
set_option maxRecDepth 100000 in
set_option maxHeartbeats 4000000 in
theorem refCheck_any (q : List UInt8) (hl : q.length < 100000) (w : World) :
    Calls Tryd.prog 16 #[.string ⟨q.toArray⟩] w fun e w' => e = .returned (.int .i64 (chkN q : Nat)) ∧ w = w' := by
  by_cases h1 : 128 < q.length
  · have d1 : decide ((128 : Int) < (q.length : Int)) = true := decide_eq_true (by omega)
    have HR := Lib.hid (chk_long h1)
    clear h1
    go_enter Tryd.func16, Tryd.ntmps16
    go_wp2_with fail
    go_ret
    exact ⟨by rw [HR.out]; rfl, rfl⟩
  · have d0 : decide ((128 : Int) < (q.length : Int)) = false := decide_eq_false (by omega)
    have HN := Lib.hid h1
    go_enter Tryd.func16, Tryd.ntmps16
    go_wp2_with fail
    go_loopw [3] (fun i wr => ∃ k : Nat, k ≤ q.length ∧ i = .int .i64 k ∧ Hid ((q.take k).all (fun b => qryS.has b.toNat) = true) ∧ wr = w) (fun i _ => q.length - (intOf i).toNat)
    case atStart => exact ⟨0, by omega, rfl, Lib.hid (by rw [List.take_zero]; rfl), rfl⟩
    case round =>
    obtain ⟨k, hk, rfl, hall, rfl⟩ := hrel
    by_cases hlt : k < q.length
    · have d1 : decide ((k : Int) < (q.length : Int)) = true := decide_eq_true (by omega)
      have hb2 : (k : Int) < (q.length : Int) := by omega
      obtain ⟨y, hy⟩ : ∃ y, (q[k]).toNat = y := ⟨_, rfl⟩
      have hy256 : y < 256 := by rw [← hy]; exact UInt8.toNat_lt _
      have hq := qry_has y hy256
      by_cases c1 : y < 33
      · have e1 : decide ((y : Int) < 33) = true := decide_eq_true (by omega)
        have HB : Hid (chkN q = 3) := Lib.hid (chk_bad HN.out (all_bad hlt (by rw [hy, hq, decide_eq_false (by omega)]; rfl)))
        clear hq c1
        go_wp2_with fail
        go_ret
        exact ⟨by rw [HB.out]; rfl, rfl⟩
      · have e1 : decide ((y : Int) < 33) = false := decide_eq_false (by omega)
        by_cases c2 : 126 < y
        · have e2 : decide ((126 : Int) < (y : Int)) = true := decide_eq_true (by omega)
          have HB : Hid (chkN q = 3) := Lib.hid (chk_bad HN.out (all_bad hlt (by rw [hy, hq, decide_eq_false (p := y ≤ 126) (by omega), Bool.and_false]; rfl)))
          clear hq c1 c2
          go_wp2_with fail
          go_ret
          exact ⟨by rw [HB.out]; rfl, rfl⟩
        · have e2 : decide ((126 : Int) < (y : Int)) = false := decide_eq_false (by omega)
          by_cases c3 : y = 35
          · have e3 : ((y : Int) == 35) = true := by rw [c3]; rfl
            have HB : Hid (chkN q = 3) := Lib.hid (chk_bad HN.out (all_bad hlt (by rw [hy, hq, c3]; rfl)))
            clear hq c1 c2 c3
            go_wp2_with fail
            go_ret
            exact ⟨by rw [HB.out]; rfl, rfl⟩
          · have e3 : ((y : Int) == 35) = false := by rw [beq_eq_false_iff_ne]; omega
            have hnext := Lib.hid (all_step hlt hall.out (by rw [hy, hq, decide_eq_true (p := 33 ≤ y) (by omega), decide_eq_true (p := y ≤ 126) (by omega)]; simpa using c3))
            clear hq c1 c2 c3
            go_wp2_with fail
            go_roundw
            case rel => exact ⟨k + 1, by omega, by go_num, hnext, trivial⟩
            case measure => simp [intOf]; omega
    · have d1 : decide ((k : Int) < (q.length : Int)) = false := decide_eq_false (by omega)
      have HB : Hid (chkN q = 0) := Lib.hid (chk_ok HN.out (by have := hall.out; rwa [List.take_of_length_le (by omega)] at this))
      go_wp2_with fail
      go_ret
      exact ⟨by rw [HB.out]; rfl, rfl⟩
theorem lit_bad {s : List UInt8} (h : okE s = false ∨ (s.all fun b => litS.has b.toNat) = false) : litN s = 3 := by
  unfold litN
  rcases h with h | h <;> simp [h]
theorem lit_ok {s : List UInt8} (h : okE s = true) (h2 : (s.all fun b => litS.has b.toNat) = true) : litN s = 0 := by
  unfold litN
  rw [h, h2]
  rfl
set_option maxRecDepth 100000 in
set_option maxHeartbeats 4000000 in
theorem refLiteral_any (l : List UInt8) (hl : l.length < 100000) (w : World) :
    Calls Tryd.prog 18 #[.string ⟨l.toArray⟩] w fun e w' => e = .returned (.int .i64 (litN l : Nat)) ∧ Below w.heap.size w w' := by
  have hdec := fun W => refDecode_any l (by omega) W
  obtain ⟨b, hb⟩ : ∃ b, okE l = b := ⟨_, rfl⟩
  cases b with
  | false =>
    obtain ⟨j, hj⟩ := dec_no hb 0
    have HD : Hid (decV (decL l 0) = .tuple #[.string ⟨#[]⟩, .agg #[.int .i64 3, .int .i64 (j : Int)]]) := Lib.hid (by rw [hj]; rfl)
    have HR := Lib.hid (lit_bad (.inl hb))
    have HDEC := Lib.hid hdec
    clear hdec hb hj
    go_enter Tryd.func18, Tryd.ntmps18
    go_wp2_with fail
    refine (HDEC.out _).mono ?_
    rintro e w1 ⟨rfl, hb⟩
    rw [HD.out]
    have hB := hb.alloc hb.size (.cells #[.int .i64 3, .int .i64 (j : Int)] 48)
    clear hb
    go_wp2_with fail
    go_ret
    exact ⟨by rw [HR.out]; rfl, hB⟩
  | true =>
    have hj := dec_ok hb 0
    obtain ⟨T, hT⟩ : ∃ T, unL l = T := ⟨_, rfl⟩
    have HD : Hid (decV (decL l 0) = .tuple #[.string ⟨T.toArray⟩, .agg #[.int .i64 0, .int .i64 0]]) := Lib.hid (by rw [hj, hT]; rfl)
    have HK := Lib.hid hb
    have HDEC := Lib.hid hdec
    clear hdec hb hj hT
    go_enter Tryd.func18, Tryd.ntmps18
    go_wp2_with fail
    refine (HDEC.out _).mono ?_
    rintro e w1 ⟨rfl, hb⟩
    rw [HD.out]
    have hB := hb.alloc hb.size (.cells #[.int .i64 0, .int .i64 0] 48)
    clear hb
    go_wp2_with fail
    go_loopw [5] (fun i wr => ∃ k : Nat, k ≤ l.length ∧ i = .int .i64 k ∧ Hid ((l.take k).all (fun b => litS.has b.toNat) = true) ∧ Below w.heap.size w wr) (fun i _ => l.length - (intOf i).toNat)
    case atStart => exact ⟨0, by omega, rfl, Lib.hid (by rw [List.take_zero]; rfl), hB⟩
    case round =>
    clear hB
    obtain ⟨k, hk, rfl, hall, hB⟩ := hrel
    by_cases hlt : k < l.length
    · have d1 : decide ((k : Int) < (l.length : Int)) = true := decide_eq_true (by omega)
      have hb2 : (k : Int) < (l.length : Int) := by omega
      obtain ⟨y, hy⟩ : ∃ y, (l[k]).toNat = y := ⟨_, rfl⟩
      have hy256 : y < 256 := by rw [← hy]; exact UInt8.toNat_lt _
      have hq := lit_has y hy256
      obtain ⟨b, hb⟩ : ∃ b, stayS.has y = b := ⟨_, rfl⟩
      rw [hb] at hq
      have HQ := Lib.hid hb
      clear hb
      have hcase : ((y : Int) != 38) = !(y == 38) ∧ ((y : Int) != 61) = !(y == 61) ∧ ((y : Int) != 43) = !(y == 43) ∧ ((y : Int) != 59) = !(y == 59) ∧ ((y : Int) != 37) = !(y == 37) := by
        have key : ∀ m : Nat, ((y : Int) != (m : Int)) = !(y == m) := fun m => by
          rw [Bool.eq_iff_iff]
          simp
          omega
        exact ⟨key 38, key 61, key 43, key 59, key 37⟩
      obtain ⟨a1, ha1⟩ : ∃ a, (y == 38) = a := ⟨_, rfl⟩
      obtain ⟨a2, ha2⟩ : ∃ a, (y == 61) = a := ⟨_, rfl⟩
      obtain ⟨a3, ha3⟩ : ∃ a, (y == 43) = a := ⟨_, rfl⟩
      obtain ⟨a4, ha4⟩ : ∃ a, (y == 59) = a := ⟨_, rfl⟩
      obtain ⟨a5, ha5⟩ : ∃ a, (y == 37) = a := ⟨_, rfl⟩
      rw [ha1, ha2, ha3, ha4, ha5] at hcase
      rw [ha1, ha2, ha3, ha4, ha5] at hq
      obtain ⟨e1, e2, e3, e4, e5⟩ := hcase
      clear ha1 ha2 ha3 ha4 ha5
      obtain ⟨r, hr⟩ : ∃ r, (b || a1 || a2 || a3 || a4 || a5) = r := ⟨_, rfl⟩
      rw [hr] at hq
      cases r with
      | true =>
        have hnext := Lib.hid (all_step hlt hall.out (by rw [hy]; exact hq))
        clear hq
        have key : ∀ (K : Prop), (b = true → K) → (b = false → a1 = true → K) → (b = false → a1 = false → a2 = true → K) → (b = false → a1 = false → a2 = false → a3 = true → K) → (b = false → a1 = false → a2 = false → a3 = false → a4 = true → K) → (b = false → a1 = false → a2 = false → a3 = false → a4 = false → a5 = true → K) → K := by
          intro K
          cases b <;> cases a1 <;> cases a2 <;> cases a3 <;> cases a4 <;> cases a5 <;> simp at hr ⊢
        clear hr
        refine key _ ?_ ?_ ?_ ?_ ?_ ?_
        · rintro rfl
          clear key
          go_wp2_with fail
          refine (refStays_any y hy256 _).mono ?_
          rintro e w' ⟨rfl, rfl⟩
          rw [HQ.out]
          go_wp2_with fail
          go_roundw
          case rel => exact ⟨k + 1, by omega, by go_num, hnext, hB⟩
          case measure => simp [intOf]; omega
        · rintro rfl rfl
          clear key
          go_wp2_with fail
          refine (refStays_any y hy256 _).mono ?_
          rintro e w' ⟨rfl, rfl⟩
          rw [HQ.out]
          go_wp2_with fail
          go_roundw
          case rel => exact ⟨k + 1, by omega, by go_num, hnext, hB⟩
          case measure => simp [intOf]; omega
        · rintro rfl rfl rfl
          clear key
          go_wp2_with fail
          refine (refStays_any y hy256 _).mono ?_
          rintro e w' ⟨rfl, rfl⟩
          rw [HQ.out]
          go_wp2_with fail
          go_roundw
          case rel => exact ⟨k + 1, by omega, by go_num, hnext, hB⟩
          case measure => simp [intOf]; omega
        · rintro rfl rfl rfl rfl
          clear key
          go_wp2_with fail
          refine (refStays_any y hy256 _).mono ?_
          rintro e w' ⟨rfl, rfl⟩
          rw [HQ.out]
          go_wp2_with fail
          go_roundw
          case rel => exact ⟨k + 1, by omega, by go_num, hnext, hB⟩
          case measure => simp [intOf]; omega
        · rintro rfl rfl rfl rfl rfl
          clear key
          go_wp2_with fail
          refine (refStays_any y hy256 _).mono ?_
          rintro e w' ⟨rfl, rfl⟩
          rw [HQ.out]
          go_wp2_with fail
          go_roundw
          case rel => exact ⟨k + 1, by omega, by go_num, hnext, hB⟩
          case measure => simp [intOf]; omega
        · rintro rfl rfl rfl rfl rfl rfl
          clear key
          go_wp2_with fail
          refine (refStays_any y hy256 _).mono ?_
          rintro e w' ⟨rfl, rfl⟩
          rw [HQ.out]
          go_wp2_with fail
          go_roundw
          case rel => exact ⟨k + 1, by omega, by go_num, hnext, hB⟩
          case measure => simp [intOf]; omega
      | false =>
        have HR := Lib.hid (lit_bad (.inr (all_bad hlt (by rw [hy]; exact hq))))
        clear hq
        obtain ⟨rfl, rfl, rfl, rfl, rfl, rfl⟩ : b = false ∧ a1 = false ∧ a2 = false ∧ a3 = false ∧ a4 = false ∧ a5 = false := by
          cases b <;> cases a1 <;> cases a2 <;> cases a3 <;> cases a4 <;> cases a5 <;> simp at hr ⊢
        clear hr
        go_wp2_with fail
        refine (refStays_any y hy256 _).mono ?_
        rintro e w' ⟨rfl, rfl⟩
        rw [HQ.out]
        go_wp2_with fail
        go_ret
        exact ⟨by rw [HR.out]; rfl, hB⟩
    · have d1 : decide ((k : Int) < (l.length : Int)) = false := decide_eq_false (by omega)
      have HR := Lib.hid (lit_ok HK.out (by have := hall.out; rwa [List.take_of_length_le (by omega)] at this))
      go_wp2_with fail
      go_ret
      exact ⟨by rw [HR.out]; rfl, hB⟩
def cutV (r : List UInt8 × List UInt8 × Bool) : Value := .tuple #[.string ⟨r.1.toArray⟩, .string ⟨r.2.1.toArray⟩, .bool r.2.2]
theorem cutB_go {c : UInt8} {l : List UInt8} {k : Nat} (hk : k < l.length) (hc : l[k] ≠ c) (h : cutB c l = (l.take k ++ (cutB c (l.drop k)).1, (cutB c (l.drop k)).2.1, (cutB c (l.drop k)).2.2)) :
    cutB c l = (l.take (k + 1) ++ (cutB c (l.drop (k + 1))).1, (cutB c (l.drop (k + 1))).2.1, (cutB c (l.drop (k + 1))).2.2) := by
  rw [h, List.drop_eq_getElem_cons hk, cutB, if_neg hc, List.take_succ_eq_append_getElem hk]
  simp only [List.append_assoc, List.singleton_append]
theorem cutB_hit {c : UInt8} {l : List UInt8} {k : Nat} (hk : k < l.length) (hc : l[k] = c) (h : cutB c l = (l.take k ++ (cutB c (l.drop k)).1, (cutB c (l.drop k)).2.1, (cutB c (l.drop k)).2.2)) :
    cutB c l = (l.take k, l.drop (k + 1), true) := by
  rw [h, List.drop_eq_getElem_cons hk, cutB, if_pos hc]
  simp
theorem cutB_miss {c : UInt8} {l : List UInt8} (h : cutB c l = (l.take l.length ++ (cutB c (l.drop l.length)).1, (cutB c (l.drop l.length)).2.1, (cutB c (l.drop l.length)).2.2)) : cutB c l = (l, [], false) := by
  rw [h, List.drop_length, List.take_length]
  simp [cutB]
set_option maxRecDepth 100000 in
set_option maxHeartbeats 4000000 in
theorem refCut_any (l : List UInt8) (hl : l.length < 100000) (c : UInt8) (w : World) :
    Calls Tryd.prog 52 #[.string ⟨l.toArray⟩, .int .u8 (c.toNat : Int)] w fun e w' => e = .returned (cutV (cutB c l)) ∧ Below w.heap.size w w' := by
  obtain ⟨R, hR⟩ : ∃ R, cutB c l = R := ⟨_, rfl⟩
  have HR := Lib.hid hR
  rw [hR]
  clear hR
  obtain ⟨x, hx⟩ : ∃ x, c.toNat = x := ⟨_, rfl⟩
  have HX := Lib.hid hx
  rw [hx]
  clear hx
  go_enter Tryd.func52, Tryd.ntmps52
  go_wp2_with fail
  go_loopw [7] (fun i wr => ∃ k : Nat, k ≤ l.length ∧ i = .int .i64 k ∧ Hid (cutB c l = (l.take k ++ (cutB c (l.drop k)).1, (cutB c (l.drop k)).2.1, (cutB c (l.drop k)).2.2)) ∧ wr = w) (fun i _ => l.length - (intOf i).toNat)
  case atStart => exact ⟨0, by omega, rfl, Lib.hid rfl, rfl⟩
  case round =>
  obtain ⟨k, hk, rfl, hcu, rfl⟩ := hrel
  by_cases hlt : k < l.length
  · have d1 : decide ((k : Int) < (l.length : Int)) = true := decide_eq_true (by omega)
    have hb2 : (k : Int) < (l.length : Int) := by omega
    obtain ⟨y, hy⟩ : ∃ y, (l[k]).toNat = y := ⟨_, rfl⟩
    by_cases hc : l[k] = c
    · have e1 : ((y : Int) == (x : Int)) = true := by rw [← hy, ← HX.out, hc]; exact beq_self_eq_true _
      have hres := Lib.hid (cutB_hit hlt hc hcu.out)
      have f1 := ba_fst l k
      have f2 := ba_snd l (k + 1)
      obtain ⟨A, hA⟩ : ∃ A, l.take k = A := ⟨_, rfl⟩
      obtain ⟨B, hB⟩ : ∃ B, l.drop (k + 1) = B := ⟨_, rfl⟩
      have hres2 : Hid (R = (A, B, true)) := Lib.hid (by rw [← HR.out, hres.out, hA, hB])
      rw [hA] at f1
      rw [hB] at f2
      have q1 : IntKind.i64.wrap ((k : Int) + 1) = ((k + 1 : Nat) : Int) := by rw [IntKind.wrap_i64]; omega
      have hb3 : (k : Int) ≤ (l.length : Int) := by omega
      have hb4 : ((k + 1 : Nat) : Int) ≤ (l.length : Int) := by omega
      clear hA hB hc hcu hres
      go_wp2_with fail
      go_region
      all_goals
        go_wp2_with fail
        go_ret3
        exact ⟨by rw [hres2.out]; rfl, (Below.refl _ _).drew⟩
    · have e1 : ((y : Int) == (x : Int)) = false := by
        rw [beq_eq_false_iff_ne]
        intro e
        exact hc (UInt8.toNat_inj.1 (by rw [HX.out, hy]; omega))
      have hnext := Lib.hid (cutB_go hlt hc hcu.out)
      clear hc hcu
      go_wp2_with fail
      go_roundw
      case rel => exact ⟨k + 1, by omega, by go_num, hnext, trivial⟩
      case measure => simp [intOf]; omega
  · have d1 : decide ((k : Int) < (l.length : Int)) = false := decide_eq_false (by omega)
    obtain rfl : k = l.length := by omega
    have hres2 : Hid (R = (l, [], false)) := Lib.hid (by rw [← HR.out]; exact cutB_miss hcu.out)
    clear hcu
    go_wp2_with fail
    go_ret3
    exact ⟨by rw [hres2.out]; rfl, Below.refl _ _⟩
end
theorem refCut38_any (l : List UInt8) (hl : l.length < 100000) (w : World) :
    Calls Tryd.prog 52 #[.string ⟨l.toArray⟩, .int .u8 38] w fun e w' => e = .returned (cutV (cutB 38 l)) ∧ Below w.heap.size w w' := refCut_any l hl 38 w
theorem refCut61_any (l : List UInt8) (hl : l.length < 100000) (w : World) :
    Calls Tryd.prog 52 #[.string ⟨l.toArray⟩, .int .u8 61] w fun e w' => e = .returned (cutV (cutB 61 l)) ∧ Below w.heap.size w w' := refCut_any l hl 61 w
end Go.Proofs.YtbbphchhdppipaaDoor
