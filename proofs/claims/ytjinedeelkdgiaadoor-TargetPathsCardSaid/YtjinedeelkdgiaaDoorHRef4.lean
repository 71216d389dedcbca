/-
  The reference's small functions: ends, divided, is, Query of Locations. The texts are shorter than 100000 bytes.
  The reference's Split and what it reads of a target. The targets are shorter than 50000 bytes.
  The reference's Parse, Why, Text, Canonical and Same. The texts are shorter than 40000 bytes.
-/
import Derived.Test.YtjinedeelkdgiaaDoorHPure
import Derived.Test.YtjinedeelkdgiaaDoorHGRef2
import Derived.Test.YtjinedeelkdgiaaDoorHGDRef4
import Derived.Laws.DeepStrings4
namespace Go.Proofs.YtjinedeelkdgiaaDoor
open Go.RowKit
attribute [local go_sem] ba_get
theorem any_stop {p : UInt8 → Bool} {l : List UInt8} {k : Nat} (h : k < l.length) (hp : p l[k] = true) : l.any p = true := List.any_eq_true.2 ⟨l[k], List.getElem_mem h, hp⟩
theorem any_end {p : UInt8 → Bool} {l : List UInt8} (h : ∀ k (hk : k < l.length), p l[k] = false) : l.any p = false := by
  rw [List.any_eq_false]
  intro x hx
  obtain ⟨k, hk, rfl⟩ := List.getElem_of_mem hx
  rw [h k hk]; simp
set_option maxHeartbeats 2000000 in
theorem refEnds_any (l : List UInt8) (hl : l.length < 100000) (w : World) :
    Calls Tryd.prog 62 #[.string ⟨l.toArray⟩] w fun e w' => e = .returned (.bool (endsB l)) ∧ w = w' := by
  obtain ⟨q, hq⟩ : ∃ q, endsB l = q := ⟨_, rfl⟩
  have HQ := Lib.hid hq
  rw [hq]
  clear hq
  go_enter Tryd.func62, Tryd.ntmps62
  go_wp2_with fail
  go_loopw [3] (fun i wr => ∃ k : Nat, k ≤ l.length ∧ i = .int .i64 (k : Int) ∧ Hid (∀ j (hj : j < l.length), j < k → (((l[j]).toNat == 0 || (l[j]).toNat == 10) || (l[j]).toNat == 13) = false) ∧ wr = w) (fun i _ => l.length - (intOf i).toNat)
  case atStart => exact ⟨0, Nat.zero_le _, rfl, Lib.hid (fun j hj h => by omega), rfl⟩
  case round =>
    obtain ⟨k, hk, rfl, hall, rfl⟩ := hrel
    by_cases hlt : k < l.length
    · have d1 : decide ((k : Int) < (l.length : Int)) = true := decide_eq_true (by omega)
      have hb2 : (k : Int) < (l.length : Int) := by omega
      have g3 : IntKind.i64.wrap ((k : Int) + 1) = ((k + 1 : Nat) : Int) := (IntWalk.i64_in _ (by omega)).trans (by omega)
      obtain ⟨x, hx⟩ : ∃ x, (l[k]).toNat = x := ⟨_, rfl⟩
      by_cases h0 : ((x == 0 || x == 10) || x == 13) = true
      · have HE : Hid (q = true) := Lib.hid (by rw [← HQ.out]; exact any_stop hlt (by rw [hx]; exact h0))
        have h : x = 0 ∨ x = 10 ∨ x = 13 := by simp at h0; omega
        clear h0
        rcases h with h | h | h
        · have e1 : ((x : Int) == 0) = true := by rw [beq_iff_eq]; omega
          clear h
          go_wp2_with fail
          go_ret
          exact ⟨by rw [HE.out]; rfl, rfl⟩
        · have e1 : ((x : Int) == 0) = false := by rw [beq_eq_false_iff_ne]; omega
          have e2 : ((x : Int) == 10) = true := by rw [beq_iff_eq]; omega
          clear h
          go_wp2_with fail
          go_ret
          exact ⟨by rw [HE.out]; rfl, rfl⟩
        · have e1 : ((x : Int) == 0) = false := by rw [beq_eq_false_iff_ne]; omega
          have e2 : ((x : Int) == 10) = false := by rw [beq_eq_false_iff_ne]; omega
          have e3 : ((x : Int) == 13) = true := by rw [beq_iff_eq]; omega
          clear h
          go_wp2_with fail
          go_ret
          exact ⟨by rw [HE.out]; rfl, rfl⟩
      · have h0 : ((x == 0 || x == 10) || x == 13) = false := by simpa using h0
        have hn := h0
        simp at hn
        have e1 : ((x : Int) == 0) = false := by rw [beq_eq_false_iff_ne]; omega
        have e2 : ((x : Int) == 10) = false := by rw [beq_eq_false_iff_ne]; omega
        have e3 : ((x : Int) == 13) = false := by rw [beq_eq_false_iff_ne]; omega
        have HN : Hid (∀ j (hj : j < l.length), j < k + 1 → (((l[j]).toNat == 0 || (l[j]).toNat == 10) || (l[j]).toNat == 13) = false) := Lib.hid fun j hj hjk => by
          by_cases e : j = k
          · subst e; rw [hx]; exact h0
          · exact hall.out j hj (by omega)
        clear hn h0
        go_wp2_with fail
        go_roundw
        case rel => exact ⟨k + 1, by omega, by go_num, HN, by simp⟩
        case measure => simp [intOf]; omega
    · obtain rfl : k = l.length := by omega
      have HE : Hid (q = false) := Lib.hid (by rw [← HQ.out]; exact any_end fun j hj => hall.out j hj hj)
      have d1 : decide ((l.length : Int) < (l.length : Int)) = false := decide_eq_false (by omega)
      go_wp2_with fail
      go_ret
      exact ⟨by rw [HE.out]; rfl, rfl⟩
set_option maxHeartbeats 2000000 in
theorem refQuery_any (l : List UInt8) (hl : l.length < 100000) (w : World) :
    Calls Tryd.prog 40 #[.string ⟨l.toArray⟩] w fun e w' => e = .returned (qryW (qryR l)) ∧ w = w' := by
  by_cases hg : 128 < l.length
  · have g1 : decide ((128 : Int) < (l.length : Int)) = true := decide_eq_true (by omega)
    have HR : Hid (qryW (qryR l) = .tuple #[.bool false, .int .i64 4]) := Lib.hid (by unfold qryR; rw [if_pos hg]; rfl)
    rw [HR.out]
    clear hg
    go_enter Tryd.func40, Tryd.ntmps40
    go_wp2_with fail
    go_ret2
    exact ⟨rfl, rfl⟩
  · have g1 : decide ((128 : Int) < (l.length : Int)) = false := decide_eq_false (by omega)
    obtain ⟨q, hq⟩ : ∃ q, noqB l = q := ⟨_, rfl⟩
    have HR : Hid (qryW (qryR l) = .tuple #[.bool (!q), .int .i64 0]) := Lib.hid (by unfold qryR; rw [if_neg hg, qry_noq, hq]; rfl)
    have HQ := Lib.hid hq
    rw [HR.out]
    clear hg hq
    go_enter Tryd.func40, Tryd.ntmps40
    go_wp2_with fail
    go_loopw [4] (fun i wr => ∃ k : Nat, k ≤ l.length ∧ i = .int .i64 (k : Int) ∧ Hid (∀ j (hj : j < l.length), j < k → ((decide ((l[j]).toNat < 33) || decide (126 < (l[j]).toNat)) || (l[j]).toNat == 35) = false) ∧ wr = w) (fun i _ => l.length - (intOf i).toNat)
    case atStart => exact ⟨0, Nat.zero_le _, rfl, Lib.hid (fun j hj h => by omega), rfl⟩
    case round =>
      obtain ⟨k, hk, rfl, hall, rfl⟩ := hrel
      by_cases hlt : k < l.length
      · have d1 : decide ((k : Int) < (l.length : Int)) = true := decide_eq_true (by omega)
        have hb2 : (k : Int) < (l.length : Int) := by omega
        have g3 : IntKind.i64.wrap ((k : Int) + 1) = ((k + 1 : Nat) : Int) := (IntWalk.i64_in _ (by omega)).trans (by omega)
        obtain ⟨x, hx⟩ : ∃ x, (l[k]).toNat = x := ⟨_, rfl⟩
        by_cases h0 : ((decide (x < 33) || decide (126 < x)) || x == 35) = true
        · have HE : Hid (q = true) := Lib.hid (by rw [← HQ.out]; exact any_stop hlt (by rw [hx]; exact h0))
          have h : x < 33 ∨ (¬ x < 33 ∧ 126 < x) ∨ (¬ x < 33 ∧ ¬ 126 < x ∧ x = 35) := by simp at h0; omega
          clear h0
          rcases h with h | h | h
          · have e1 : decide ((x : Int) < 33) = true := decide_eq_true (by omega)
            clear h
            go_wp2_with fail
            go_ret2
            exact ⟨by rw [HE.out]; rfl, rfl⟩
          · have e1 : decide ((x : Int) < 33) = false := decide_eq_false (by omega)
            have e2 : decide (126 < (x : Int)) = true := decide_eq_true (by omega)
            clear h
            go_wp2_with fail
            go_ret2
            exact ⟨by rw [HE.out]; rfl, rfl⟩
          · have e1 : decide ((x : Int) < 33) = false := decide_eq_false (by omega)
            have e2 : decide (126 < (x : Int)) = false := decide_eq_false (by omega)
            have e3 : ((x : Int) == 35) = true := by rw [beq_iff_eq]; omega
            clear h
            go_wp2_with fail
            go_ret2
            exact ⟨by rw [HE.out]; rfl, rfl⟩
        · have h0 : ((decide (x < 33) || decide (126 < x)) || x == 35) = false := by simpa using h0
          have hn := h0
          simp at hn
          have e1 : decide ((x : Int) < 33) = false := decide_eq_false (by omega)
          have e2 : decide (126 < (x : Int)) = false := decide_eq_false (by omega)
          have e3 : ((x : Int) == 35) = false := by rw [beq_eq_false_iff_ne]; omega
          have HN : Hid (∀ j (hj : j < l.length), j < k + 1 → ((decide ((l[j]).toNat < 33) || decide (126 < (l[j]).toNat)) || (l[j]).toNat == 35) = false) := Lib.hid fun j hj hjk => by
            by_cases e : j = k
            · subst e; rw [hx]; exact h0
            · exact hall.out j hj (by omega)
          clear hn h0
          go_wp2_with fail
          go_roundw
          case rel => exact ⟨k + 1, by omega, by go_num, HN, by simp⟩
          case measure => simp [intOf]; omega
      · obtain rfl : k = l.length := by omega
        have HE : Hid (q = false) := Lib.hid (by rw [← HQ.out]; exact any_end fun j hj => hall.out j hj hj)
        have d1 : decide ((l.length : Int) < (l.length : Int)) = false := decide_eq_false (by omega)
        go_wp2_with fail
        go_ret2
        exact ⟨by rw [HE.out]; rfl, rfl⟩
theorem ba_cutl (l : List UInt8) (k : Nat) : (ByteArray.mk l.toArray).extract 0 k = ⟨(l.take k).toArray⟩ := by
  rw [ba_mid]
  simp
theorem ba_cutr (l : List UInt8) (k : Nat) : (ByteArray.mk l.toArray).extract k l.length = ⟨(l.drop k).toArray⟩ := by
  rw [ba_mid]
  simp
set_option maxHeartbeats 2000000 in
theorem refDivided_any (l : List UInt8) (hl : l.length < 100000) (w : World) :
    Calls Tryd.prog 33 #[.string ⟨l.toArray⟩] w fun e w' => e = .returned (.tuple #[.string ⟨(rawL l).toArray⟩, .string ⟨(qL l).toArray⟩]) ∧ Below w.heap.size w w' := by
  obtain ⟨A, hA⟩ : ∃ A, rawL l = A := ⟨_, rfl⟩
  obtain ⟨B, hB⟩ : ∃ B, qL l = B := ⟨_, rfl⟩
  have HA := Lib.hid hA
  have HB := Lib.hid hB
  rw [hA, hB]
  clear hA hB
  go_enter Tryd.func33, Tryd.ntmps33
  go_wp2_with fail
  go_loopw [4] (fun i wr => ∃ k : Nat, k ≤ l.length ∧ i = .int .i64 (k : Int) ∧ Hid (∀ j (hj : j < l.length), j < k → l[j] ≠ 63) ∧ wr = w) (fun i _ => l.length - (intOf i).toNat)
  case atStart => exact ⟨0, Nat.zero_le _, rfl, Lib.hid (fun j hj h => by omega), rfl⟩
  case round =>
    obtain ⟨k, hk, rfl, hall, rfl⟩ := hrel
    by_cases hlt : k < l.length
    · have d1 : decide ((k : Int) < (l.length : Int)) = true := decide_eq_true (by omega)
      have hb2 : (k : Int) < (l.length : Int) := by omega
      have g3 : IntKind.i64.wrap ((k : Int) + 1) = ((k + 1 : Nat) : Int) := (IntWalk.i64_in _ (by omega)).trans (by omega)
      by_cases h63 : l[k] = 63
      · have hc := cutb_at l k hlt hall.out h63
        have HA2 : Hid (A = l.take k) := Lib.hid (by rw [← HA.out]; unfold rawL; rw [hc])
        have HB2 : Hid (B = l.drop (k + 1)) := Lib.hid (by rw [← HB.out]; unfold qL; rw [hc])
        have hx : (l[k]).toNat = 63 := by rw [h63]; rfl
        have f1 := ba_cutl l k
        have f2 := ba_cutr l (k + 1)
        have hb3 : (k : Int) ≤ (l.length : Int) := by omega
        have hb4 : ((k + 1 : Nat) : Int) ≤ (l.length : Int) := by omega
        clear h63 hc
        go_wp2_with fail
        go_region
        all_goals
          go_wp2_with fail
          go_ret2
          exact ⟨by rw [HA2.out, HB2.out]; rfl, (Below.refl _ _).drew⟩
      · obtain ⟨x, hx⟩ : ∃ x, (l[k]).toNat = x := ⟨_, rfl⟩
        have e1 : ((x : Int) == 63) = false := by
          rw [beq_eq_false_iff_ne]
          intro e
          exact h63 (UInt8.toNat_inj.1 (by rw [hx]; show x = 63; omega))
        have HN : Hid (∀ j (hj : j < l.length), j < k + 1 → l[j] ≠ 63) := Lib.hid fun j hj hjk => by
          by_cases e : j = k
          · subst e; exact h63
          · exact hall.out j hj (by omega)
        clear h63
        go_wp2_with fail
        go_roundw
        case rel => exact ⟨k + 1, by omega, by go_num, HN, by simp⟩
        case measure => simp [intOf]; omega
    · obtain rfl : k = l.length := by omega
      have hc := cut_none (l := l) fun j hj => hall.out j hj hj
      have HA2 : Hid (A = l) := Lib.hid (by rw [← HA.out]; unfold rawL; rw [hc])
      have HB2 : Hid (B = []) := Lib.hid (by rw [← HB.out]; unfold qL; rw [hc])
      have d1 : decide ((l.length : Int) < (l.length : Int)) = false := decide_eq_false (by omega)
      clear hc
      go_wp2_with fail
      go_ret2
      exact ⟨by rw [HA2.out, HB2.out]; rfl, Below.refl _ _⟩
set_option maxHeartbeats 2000000 in
theorem refIs_any (l : List UInt8) (hl : l.length < 100000) (w : World) :
    Calls Tryd.prog 32 #[.string ⟨l.toArray⟩] w fun e w' => e = .returned (.bool (tgtB l)) ∧ Below w.heap.size w w' := by
  obtain ⟨n0, n1, n2, n3, hn⟩ : ∃ y0 y1 y2 y3, Hid (charS = ⟨y0, y1, y2, y3⟩) := ⟨_, _, _, _, Lib.hid rfl⟩
  obtain ⟨q, hq⟩ : ∃ q, charB l = q := ⟨_, rfl⟩
  have HC : Hid (∀ W : World, Calls Tryd.prog 22 #[] W fun e w' => e = .returned (WSet.mk n0 n1 n2 n3).v ∧ Below W.heap.size W w') := Lib.hid fun W => by
    have h := refChars_any W
    rw [hn.out] at h
    exact h
  have HA : Hid (∀ W : World, Calls Tryd.prog 56 #[.agg #[.int .u64 n0.toNat, .int .u64 n1.toNat, .int .u64 n2.toNat, .int .u64 n3.toNat], .string ⟨l.toArray⟩] W fun e w' => e = .returned (.bool q) ∧ Below W.heap.size W w') := Lib.hid fun W => by
    have h := refAll_any n0 n1 n2 n3 l (by omega) W
    rw [← hn.out] at h
    rw [← hq]
    exact h
  cases l with
  | nil =>
    clear HC HA hn hq
    go_enter Tryd.func32, Tryd.ntmps32
    go_wp2_with fail
    go_ret
    exact ⟨rfl, Below.refl _ _⟩
  | cons c r =>
    obtain ⟨p, hp⟩ : ∃ p, c :: r = p := ⟨_, rfl⟩
    have hpl : 0 < p.length := by rw [← hp]; simp
    have d1 : (p != []) = true := by rw [← hp]; rfl
    have d2 : (p == []) = false := by rw [← hp]; rfl
    have hi : (0 : Int) < (p.length : Int) := by omega
    have he : p.isEmpty = false := by rw [← hp]; rfl
    by_cases hc : c.toNat = 47
    · have HR : Hid (tgtB (c :: r) = q) := Lib.hid (by unfold tgtB; rw [hq]; simp [pathB, hc])
      have hx : (p[0]'hpl).toNat = 47 := by subst hp; exact hc
      rw [HR.out]
      rw [hp] at HA hl ⊢
      clear hp hq hc hn HR
      go_enter Tryd.func32, Tryd.ntmps32
      go_wp2_with fail
      refine (HC.out _).mono ?_
      rintro e w1 ⟨rfl, hb1⟩
      go_wp2_with fail
      refine (HA.out _).mono ?_
      rintro e w2 ⟨rfl, hb2⟩
      go_wp2_with fail
      go_ret
      exact ⟨rfl, hb1.trans (hb2.mono hb1.size)⟩
    · have HR : Hid (tgtB (c :: r) = false) := Lib.hid (by unfold tgtB; simp [pathB, hc])
      obtain ⟨x, hx⟩ : ∃ x, (p[0]'hpl).toNat = x := ⟨_, rfl⟩
      have e1 : ((x : Int) == 47) = false := by
        rw [beq_eq_false_iff_ne]
        intro e
        have : x = c.toNat := by rw [← hx]; subst hp; rfl
        omega
      rw [HR.out]
      rw [hp] at hl ⊢
      clear hp hq hc hn HR HA HC
      go_enter Tryd.func32, Tryd.ntmps32
      go_wp2_with fail
      go_ret
      exact ⟨rfl, Below.refl _ _⟩
end Go.Proofs.YtjinedeelkdgiaaDoor
namespace Go.Proofs.YtjinedeelkdgiaaDoor
open Go.RowKit
theorem results_tmp4 {fn : Func} {t u v x : Tmp} (h : fn.results = #[.tmp t, .tmp u, .tmp v, .tmp x]) (tmps : Array Value) (P : Program) (w : World) :
    (results fn tmps).run P w = .ok (.tuple #[tmps.getD t undef, tmps.getD u undef, tmps.getD v undef, tmps.getD x undef]) w := by
  simp [results, h]
set_option maxHeartbeats 2000000 in
theorem refSplit_any (s : List UInt8) (hl : s.length < 50000) (w : World) :
    Calls Tryd.prog 10 #[.string ⟨s.toArray⟩] w fun e w' => e = .returned (splW (splP (splR s))) ∧ Below w.heap.size w w' := by
  by_cases h3 : 1024 < s.length
  · have a1 : decide ((1024 : Int) < (s.length : Int)) = true := decide_eq_true (by omega)
    have HR : Hid (splW (splP (splR s)) = .tuple #[.string ⟨#[]⟩, .string ⟨#[]⟩, .int .i64 4]) := Lib.hid (by unfold splR; rw [if_pos h3]; rfl)
    rw [HR.out]
    clear h3
    go_enter Tryd.func10, Tryd.ntmps10
    go_wp2_with fail
    go_ret3
    exact ⟨rfl, Below.refl _ _⟩
  · have a1 : decide ((1024 : Int) < (s.length : Int)) = false := decide_eq_false (by omega)
    have HI := Lib.hid fun W => refIs_any s (by omega) W
    have HD := Lib.hid fun W => refDivided_any s (by omega) W
    cases ht : tgtB s
    · have HR : Hid (splW (splP (splR s)) = .tuple #[.string ⟨#[]⟩, .string ⟨#[]⟩, .int .i64 3]) := Lib.hid (by unfold splR; rw [if_neg h3, ht]; rfl)
      rw [HR.out]
      rw [ht] at HI
      clear h3 ht
      go_enter Tryd.func10, Tryd.ntmps10
      go_wp2_with fail
      refine (HI.out _).mono ?_
      rintro e w1 ⟨rfl, hb1⟩
      go_wp2_with fail
      go_ret3
      exact ⟨rfl, hb1⟩
    · have HR : Hid (splW (splP (splR s)) = .tuple #[.string ⟨(rawL s).toArray⟩, .string ⟨(qL s).toArray⟩, .int .i64 0]) := Lib.hid (by unfold splR; rw [if_neg h3, ht]; rfl)
      rw [HR.out]
      rw [ht] at HI
      obtain ⟨a, ha⟩ : ∃ a, rawL s = a := ⟨_, rfl⟩
      obtain ⟨b, hb⟩ : ∃ b, qL s = b := ⟨_, rfl⟩
      rw [ha, hb] at HD
      rw [ha, hb]
      clear h3 ht ha hb HR
      go_enter Tryd.func10, Tryd.ntmps10
      go_wp2_with fail
      refine (HI.out _).mono ?_
      rintro e w1 ⟨rfl, hb1⟩
      go_wp2_with fail
      refine (HD.out _).mono ?_
      rintro e w2 ⟨rfl, hb2⟩
      go_wp2_with fail
      go_ret3
      exact ⟨rfl, hb1.trans (hb2.mono hb1.size)⟩
/-- What an attempt is over at the given point. -/
theorem clean_len : ∀ (R K : List (List UInt8)) (o : Bool) (t : List UInt8), clnF R K o = some t → t.length ≤ (flatL K).length + (flatL R).length + 1
  | [], K, o, t, h => by
    simp only [clnF, Option.some.injEq] at h
    rw [← h]
    unfold putL
    rw [List.length_append]
    split <;> simp [flatL]
  | x :: r, K, o, t, h => by
    unfold clnF at h
    have hf : (flatL (x :: r)).length = x.length + 1 + (flatL r).length := by simp [flatL]; omega
    have hd : (flatL K.dropLast).length ≤ (flatL K).length := by
      rw [List.dropLast_eq_take]
      have e : flatL K = flatL (K.take (K.length - 1)) ++ flatL (K.drop (K.length - 1)) := by rw [← flat_append, List.take_append_drop]
      rw [e, List.length_append]
      omega
    split at h
    · split at h
      · cases h
      · have := clean_len r K.dropLast true t h
        omega
    · split at h
      · have := clean_len r K true t h
        omega
      · have := clean_len r (K ++ [x]) false t h
        rw [flat_append] at this
        simp [flatL] at this
        omega
theorem cleanR_len {p t : List UInt8} (h : cleanR p = .inr t) : t.length ≤ p.length + 1 := by
  unfold cleanR at h
  split at h
  · rename_i hp
    unfold endC at h
    split at h
    · cases h
    · rename_i u hu
      cases h
      have := clean_len _ _ _ _ hu
      rw [flat_pieces hp] at this
      simpa [flatL] using this
  · cases h
set_option maxHeartbeats 4000000 in
theorem refRead_any (s : List UInt8) (hl : s.length < 40000) (n : Int) (w : World) :
    Calls Tryd.prog 35 #[.string ⟨s.toArray⟩, .int .i64 n] w fun e w' => e = .returned (rd4W (rdP (rdR s n))) ∧ Below w.heap.size w w' := by
  obtain ⟨R, hR⟩ : ∃ R, rdR s n = R := ⟨_, rfl⟩
  rw [hR]
  unfold rdR at hR
  by_cases h1 : n < 1
  · have a1 : decide (n < 1) = true := decide_eq_true h1
    have HR : Hid (R = .inl (2, 0)) := Lib.hid (by rw [← hR, if_pos (.inl h1)])
    clear h1 hR
    go_enter Tryd.func35, Tryd.ntmps35
    go_wp2_with fail
    (try simp only [Exit.inBlock, Exit.then]); refine bodyPost_ret (results_tmp4 rfl _ _ _) rfl ?_
    exact ⟨by rw [HR.out]; rfl, Below.refl _ _⟩
  have a1 : decide (n < 1) = false := decide_eq_false h1
  by_cases h2 : 128 < n
  · have a2 : decide (128 < n) = true := decide_eq_true h2
    have HR : Hid (R = .inl (2, 0)) := Lib.hid (by rw [← hR, if_pos (.inr h2)])
    clear h2 hR
    go_enter Tryd.func35, Tryd.ntmps35
    go_wp2_with fail
    (try simp only [Exit.inBlock, Exit.then]); refine bodyPost_ret (results_tmp4 rfl _ _ _) rfl ?_
    exact ⟨by rw [HR.out]; rfl, Below.refl _ _⟩
  have a2 : decide (128 < n) = false := decide_eq_false h2
  rw [if_neg (by omega)] at hR
  have HS := Lib.hid fun W => refSplit_any s (by omega) W
  by_cases h3 : 1024 < s.length
  · have HR : Hid (R = .inl (4, 414)) := Lib.hid (by rw [← hR, if_pos h3])
    have HV : Hid (splW (splP (splR s)) = .tuple #[.string ⟨#[]⟩, .string ⟨#[]⟩, .int .i64 4]) := Lib.hid (by unfold splR; rw [if_pos h3]; rfl)
    rw [HV.out] at HS
    clear h1 h2 h3 hR
    go_enter Tryd.func35, Tryd.ntmps35
    go_wp2_with fail
    refine (HS.out _).mono ?_
    rintro e w1 ⟨rfl, hb1⟩
    go_wp2_with fail
    (try simp only [Exit.inBlock, Exit.then]); refine bodyPost_ret (results_tmp4 rfl _ _ _) rfl ?_
    exact ⟨by rw [HR.out]; rfl, hb1⟩
  rw [if_neg h3] at hR
  cases ht : tgtB s
  · have HR : Hid (R = .inl (3, 400)) := Lib.hid (by rw [← hR, ht]; rfl)
    have HV : Hid (splW (splP (splR s)) = .tuple #[.string ⟨#[]⟩, .string ⟨#[]⟩, .int .i64 3]) := Lib.hid (by unfold splR; rw [if_neg h3, ht]; rfl)
    rw [HV.out] at HS
    clear h1 h2 h3 hR ht
    go_enter Tryd.func35, Tryd.ntmps35
    go_wp2_with fail
    refine (HS.out _).mono ?_
    rintro e w1 ⟨rfl, hb1⟩
    go_wp2_with fail
    (try simp only [Exit.inBlock, Exit.then]); refine bodyPost_ret (results_tmp4 rfl _ _ _) rfl ?_
    exact ⟨by rw [HR.out]; rfl, hb1⟩
  rw [ht, if_pos rfl] at hR
  have HV : Hid (splW (splP (splR s)) = .tuple #[.string ⟨(rawL s).toArray⟩, .string ⟨(qL s).toArray⟩, .int .i64 0]) := Lib.hid (by unfold splR; rw [if_neg h3, ht]; rfl)
  rw [HV.out] at HS
  have hpr : pathB (rawL s) = true := raw_path (by unfold tgtB at ht; exact (Bool.and_eq_true_iff.1 ht).1)
  obtain ⟨hla, hlb⟩ := cut_len s
  obtain ⟨a, ha⟩ : ∃ a, rawL s = a := ⟨_, rfl⟩
  obtain ⟨b, hb⟩ : ∃ b, qL s = b := ⟨_, rfl⟩
  rw [ha, hb] at HS
  rw [ha, hb] at hR
  rw [ha] at hpr hla
  rw [hb] at hlb
  clear h1 h2 h3 ht ha hb HV
  have HD := Lib.hid fun W => refDecode_any a (by omega) W
  unfold midR at hR
  cases hd : decL a 0 with
  | error j =>
    rw [hd] at hR HD
    have HR : Hid (R = .inl (3, 400)) := Lib.hid hR.symm
    have HV : Hid (decV (.error j) = .tuple #[.string ⟨#[]⟩, .agg #[.int .i64 3, .int .i64 (j : Int)]]) := Lib.hid rfl
    rw [HV.out] at HD
    clear hR hd hpr
    go_enter Tryd.func35, Tryd.ntmps35
    go_wp2_with fail
    refine (HS.out _).mono ?_
    rintro e w1 ⟨rfl, hb1⟩
    go_wp2_with fail
    refine (HD.out _).mono ?_
    rintro e w2 ⟨rfl, hb2⟩
    go_wp2_with fail
    (try simp only [Exit.inBlock, Exit.then]); refine bodyPost_ret (results_tmp4 rfl _ _ _) rfl ?_
    exact ⟨by rw [HR.out]; rfl, (hb1.trans (hb2.mono hb1.size)).alloc (Nat.le_trans hb1.size hb2.size) _⟩
  | ok t =>
    rw [hd] at hR HD
    have hlt := dec_len a.length a 0 t (Nat.le_refl _) hd
    have hpt := dec_path hpr hd
    have HV : Hid (decV (.ok t) = .tuple #[.string ⟨t.toArray⟩, .agg #[.int .i64 0, .int .i64 0]]) := Lib.hid rfl
    rw [HV.out] at HD
    have HE := Lib.hid fun W => refEnds_any t (by omega) W
    dsimp only at hR
    rw [safe_ends] at hR
    clear hd hpr
    cases he : endsB t
    · rw [he] at hR HE
      rw [Bool.not_false, if_pos rfl] at hR
      have HC := Lib.hid fun W => refClean_any t (by omega) W
      unfold clnR at hR
      cases hc : cleanR t with
      | inl x =>
        rw [hc] at hR HC
        obtain rfl := clean_err hpt hc
        have HR : Hid (R = .inl (18, 400)) := Lib.hid hR.symm
        have HV : Hid (strR (.inl 18) = .tuple #[.string ⟨#[]⟩, .int .i64 18]) := Lib.hid rfl
        rw [HV.out] at HC
        clear hR hc he hpt
        go_enter Tryd.func35, Tryd.ntmps35
        go_wp2_with fail
        refine (HS.out _).mono ?_
        rintro e w1 ⟨rfl, hb1⟩
        go_wp2_with fail
        refine (HD.out _).mono ?_
        rintro e w2 ⟨rfl, hb2⟩
        have hB := (hb1.trans (hb2.mono hb1.size)).alloc (Nat.le_trans hb1.size hb2.size) (.cells #[.int .i64 0, .int .i64 0] 97)
        go_wp2_with fail
        refine (HE.out _).mono ?_
        rintro e w3 ⟨rfl, rfl⟩
        go_wp2_with fail
        refine (HC.out _).mono ?_
        rintro e w4 ⟨rfl, hb4⟩
        go_wp2_with fail
        (try simp only [Exit.inBlock, Exit.then]); refine bodyPost_ret (results_tmp4 rfl _ _ _) rfl ?_
        exact ⟨by rw [HR.out]; rfl, hB.trans (hb4.mono hB.size)⟩
      | inr p =>
        rw [hc] at hR HC
        have hlp := cleanR_len hc
        have HV : Hid (strR (.inr p) = .tuple #[.string ⟨p.toArray⟩, .int .i64 0]) := Lib.hid rfl
        rw [HV.out] at HC
        dsimp only at hR
        unfold endR at hR
        by_cases h4 : n < p.length
        · have a4 : decide (n < (p.length : Int)) = true := decide_eq_true h4
          have HR : Hid (R = .inl (4, 414)) := Lib.hid (by rw [← hR, if_pos (.inl h4)])
          clear hR hc he hpt h4
          go_enter Tryd.func35, Tryd.ntmps35
          go_wp2_with fail
          refine (HS.out _).mono ?_
          rintro e w1 ⟨rfl, hb1⟩
          go_wp2_with fail
          refine (HD.out _).mono ?_
          rintro e w2 ⟨rfl, hb2⟩
          have hB := (hb1.trans (hb2.mono hb1.size)).alloc (Nat.le_trans hb1.size hb2.size) (.cells #[.int .i64 0, .int .i64 0] 97)
          go_wp2_with fail
          refine (HE.out _).mono ?_
          rintro e w3 ⟨rfl, rfl⟩
          go_wp2_with fail
          refine (HC.out _).mono ?_
          rintro e w4 ⟨rfl, hb4⟩
          go_wp2_with fail
          (try simp only [Exit.inBlock, Exit.then]); refine bodyPost_ret (results_tmp4 rfl _ _ _) rfl ?_
          exact ⟨by rw [HR.out]; rfl, hB.trans (hb4.mono hB.size)⟩
        · have a4 : decide (n < (p.length : Int)) = false := decide_eq_false h4
          by_cases h5 : 128 < b.length
          · have a5 : decide ((128 : Int) < (b.length : Int)) = true := decide_eq_true (by omega)
            have HR : Hid (R = .inl (4, 414)) := Lib.hid (by rw [← hR, if_pos (.inr h5)])
            clear hR hc he hpt h4 h5
            go_enter Tryd.func35, Tryd.ntmps35
            go_wp2_with fail
            refine (HS.out _).mono ?_
            rintro e w1 ⟨rfl, hb1⟩
            go_wp2_with fail
            refine (HD.out _).mono ?_
            rintro e w2 ⟨rfl, hb2⟩
            have hB := (hb1.trans (hb2.mono hb1.size)).alloc (Nat.le_trans hb1.size hb2.size) (.cells #[.int .i64 0, .int .i64 0] 97)
            go_wp2_with fail
            refine (HE.out _).mono ?_
            rintro e w3 ⟨rfl, rfl⟩
            go_wp2_with fail
            refine (HC.out _).mono ?_
            rintro e w4 ⟨rfl, hb4⟩
            go_wp2_with fail
            (try simp only [Exit.inBlock, Exit.then]); refine bodyPost_ret (results_tmp4 rfl _ _ _) rfl ?_
            exact ⟨by rw [HR.out]; rfl, hB.trans (hb4.mono hB.size)⟩
          · have a5 : decide ((128 : Int) < (b.length : Int)) = false := decide_eq_false (by omega)
            have HR : Hid (R = .inr (p, b)) := Lib.hid (by rw [← hR, if_neg (fun h => h.elim h4 h5)])
            clear hR hc he hpt h4 h5
            go_enter Tryd.func35, Tryd.ntmps35
            go_wp2_with fail
            refine (HS.out _).mono ?_
            rintro e w1 ⟨rfl, hb1⟩
            go_wp2_with fail
            refine (HD.out _).mono ?_
            rintro e w2 ⟨rfl, hb2⟩
            have hB := (hb1.trans (hb2.mono hb1.size)).alloc (Nat.le_trans hb1.size hb2.size) (.cells #[.int .i64 0, .int .i64 0] 97)
            go_wp2_with fail
            refine (HE.out _).mono ?_
            rintro e w3 ⟨rfl, rfl⟩
            go_wp2_with fail
            refine (HC.out _).mono ?_
            rintro e w4 ⟨rfl, hb4⟩
            go_wp2_with fail
            (try simp only [Exit.inBlock, Exit.then]); refine bodyPost_ret (results_tmp4 rfl _ _ _) rfl ?_
            exact ⟨by rw [HR.out]; rfl, hB.trans (hb4.mono hB.size)⟩
    · rw [he] at hR HE
      have HR : Hid (R = .inl (3, 400)) := Lib.hid hR.symm
      clear hR he hpt
      go_enter Tryd.func35, Tryd.ntmps35
      go_wp2_with fail
      refine (HS.out _).mono ?_
      rintro e w1 ⟨rfl, hb1⟩
      go_wp2_with fail
      refine (HD.out _).mono ?_
      rintro e w2 ⟨rfl, hb2⟩
      have hB := (hb1.trans (hb2.mono hb1.size)).alloc (Nat.le_trans hb1.size hb2.size) (.cells #[.int .i64 0, .int .i64 0] 97)
      go_wp2_with fail
      refine (HE.out _).mono ?_
      rintro e w3 ⟨rfl, rfl⟩
      go_wp2_with fail
      (try simp only [Exit.inBlock, Exit.then]); refine bodyPost_ret (results_tmp4 rfl _ _ _) rfl ?_
      exact ⟨by rw [HR.out]; rfl, hB⟩
end Go.Proofs.YtjinedeelkdgiaaDoor
namespace Go.Proofs.YtjinedeelkdgiaaDoor
open Go.RowKit
attribute [local go_sem] w_0 w_1 w_2 w_3
theorem refParse_any (s : List UInt8) (hl : s.length < 40000) (n : Int) (w : World) :
    Calls Tryd.prog 12 #[.string ⟨s.toArray⟩, .int .i64 n] w fun e w' => e = .returned (parseW (rdP (rdR s n))) ∧ Below w.heap.size w w' := by
  have HD := Lib.hid fun W => refRead_any s hl n W
  obtain ⟨⟨p, q, e, st⟩, hx⟩ : ∃ x, rdP (rdR s n) = x := ⟨_, rfl⟩
  rw [hx] at HD ⊢
  clear hx
  unfold rd4W at HD
  dsimp only at HD
  go_enter Tryd.func12, Tryd.ntmps12
  go_wp2_with fail
  refine (HD.out _).mono ?_
  rintro e w1 ⟨rfl, hb1⟩
  go_wp2_with fail
  go_ret3
  exact ⟨rfl, hb1⟩
theorem refWhy_any (s : List UInt8) (hl : s.length < 40000) (n : Int) (w : World) :
    Calls Tryd.prog 14 #[.string ⟨s.toArray⟩, .int .i64 n] w fun e w' => e = .returned (whyW (rdP (rdR s n))) ∧ Below w.heap.size w w' := by
  have HD := Lib.hid fun W => refRead_any s hl n W
  obtain ⟨⟨p, q, e, st⟩, hx⟩ : ∃ x, rdP (rdR s n) = x := ⟨_, rfl⟩
  rw [hx] at HD ⊢
  clear hx
  unfold rd4W at HD
  dsimp only at HD
  go_enter Tryd.func14, Tryd.ntmps14
  go_wp2_with fail
  refine (HD.out _).mono ?_
  rintro e w1 ⟨rfl, hb1⟩
  go_wp2_with fail
  go_ret2
  exact ⟨rfl, hb1⟩
set_option maxRecDepth 100000 in
set_option maxHeartbeats 4000000 in
theorem refText_any (p q : List UInt8) (hp : p.length < 40000) (hq : q.length < 40000) (w : World) :
    Calls Tryd.prog 16 #[.string ⟨p.toArray⟩, .string ⟨q.toArray⟩] w fun e w' => e = .returned (strR (txtR p q)) ∧ Below w.heap.size w w' := by
  have HN := Lib.hid fun W => refNormal_any p (by omega) W
  have HQ := Lib.hid fun W => refQuery_any q (by omega) W
  obtain ⟨R, hR⟩ : ∃ R, txtR p q = R := ⟨_, rfl⟩
  rw [hR]
  unfold txtR at hR
  cases hn : normB p
  · rw [hn] at HN hR
    have HR : Hid (strR R = .tuple #[.string ⟨#[]⟩, .int .i64 18]) := Lib.hid (by rw [← hR]; rfl)
    rw [HR.out]
    clear hn hR
    go_enter Tryd.func16, Tryd.ntmps16
    go_wp2_with fail
    refine (HN.out _).mono ?_
    rintro e w1 ⟨rfl, hb1⟩
    go_wp2_with fail
    go_ret2
    exact ⟨rfl, hb1⟩
  · rw [hn] at HN hR
    rw [if_pos rfl] at hR
    obtain ⟨⟨f, e⟩, hx⟩ : ∃ x, qryR q = x := ⟨_, rfl⟩
    rw [hx] at hR HQ
    unfold qryW at HQ
    dsimp only at HQ hR
    by_cases he : e = 0
    · subst he
      rw [if_neg (by simp)] at hR
      cases f
      · have HR : Hid (strR R = .tuple #[.string ⟨#[]⟩, .int .i64 3]) := Lib.hid (by rw [← hR]; rfl)
        rw [HR.out]
        clear hn hR hx
        go_enter Tryd.func16, Tryd.ntmps16
        go_wp2_with fail
        refine (HN.out _).mono ?_
        rintro e w1 ⟨rfl, hb1⟩
        go_wp2_with fail
        refine (HQ.out _).mono ?_
        rintro e w2 ⟨rfl, rfl⟩
        go_wp2_with fail
        go_ret2
        exact ⟨rfl, hb1⟩
      · rw [if_pos rfl] at hR
        have HR : Hid (strR R = .tuple #[.string ⟨(canL p q).toArray⟩, .int .i64 0]) := Lib.hid (by rw [← hR]; rfl)
        rw [HR.out]
        clear hn hR hx HR
        have HS := Lib.hid refStay_any
        have hE := encL_length stay17 p
        obtain ⟨y0, y1, y2, y3, hy⟩ : ∃ y0 y1 y2 y3, Hid (stay17 = ⟨y0, y1, y2, y3⟩) := ⟨_, _, _, _, Lib.hid rfl⟩
        have HE : Hid (∀ W, Calls Tryd.prog 41 #[.string ⟨p.toArray⟩, .agg #[.int .u64 y0.toNat, .int .u64 y1.toNat, .int .u64 y2.toNat, .int .u64 y3.toNat]] W fun e w' => e = .returned (.string ⟨(encL stay17 p).toArray⟩) ∧ Below W.heap.size W w') := Lib.hid fun W => by
          have h := refEncode_any p (by omega) y0 y1 y2 y3 W
          rw [← hy.out] at h
          exact h
        rw [hy.out] at HS
        obtain ⟨E, hEe⟩ : ∃ E, encL stay17 p = E := ⟨_, rfl⟩
        rw [hEe] at HE hE
        cases q with
        | nil =>
          have HC : Hid (canL p [] = E) := Lib.hid (by unfold canL; rw [hEe]; simp)
          clear hEe hy
          go_enter Tryd.func16, Tryd.ntmps16
          go_wp2_with fail
          refine (HN.out _).mono ?_
          rintro e w1 ⟨rfl, hb1⟩
          go_wp2_with fail
          refine (HQ.out _).mono ?_
          rintro e w2 ⟨rfl, rfl⟩
          go_wp2_with fail
          refine (HS.out _).mono ?_
          rintro e w3 ⟨rfl, hb3⟩
          go_wp2_with fail
          refine (HE.out _).mono ?_
          rintro e w4 ⟨rfl, hb4⟩
          have hB := (hb1.trans (hb3.mono hb1.size)).trans (hb4.mono (Nat.le_trans hb1.size hb3.size))
          go_wp2_with fail
          go_ret2
          exact ⟨by rw [HC.out]; rfl, hB⟩
        | cons c r =>
          obtain ⟨x, hxe⟩ : ∃ x, c :: r = x := ⟨_, rfl⟩
          have d1 : (x != []) = true := by rw [← hxe]; rfl
          have d2 : (x == []) = false := by rw [← hxe]; rfl
          have d3 : x.isEmpty = false := by rw [← hxe]; rfl
          have HC : Hid (canL p (c :: r) = E ++ [63] ++ x) := Lib.hid (by unfold canL; rw [hEe, hxe, d2]; simp)
          rw [hxe] at HQ hq HC ⊢
          have s1 : ∀ W, (Op.stringOp .add ⟨E.toArray⟩ ⟨#[63]⟩).run Tryd.prog W = .ok (.string ⟨(E ++ [63]).toArray⟩) W := fun W => str_add E [63] (by unfold Small; simp; omega)
          have s2 : ∀ W, (Op.stringOp .add ⟨(E ++ [63]).toArray⟩ ⟨x.toArray⟩).run Tryd.prog W = .ok (.string ⟨(E ++ [63] ++ x).toArray⟩) W := fun W => str_add (E ++ [63]) x (by unfold Small; simp; omega)
          obtain ⟨E2, hE2⟩ : ∃ E2, E ++ [63] ++ x = E2 := ⟨_, rfl⟩
          rw [hE2] at s2 HC
          obtain ⟨E1, hE1⟩ : ∃ E1, E ++ [63] = E1 := ⟨_, rfl⟩
          rw [hE1] at s1 s2
          clear hEe hy hxe hE1 hE2
          go_enter Tryd.func16, Tryd.ntmps16
          go_wp2_with fail
          refine (HN.out _).mono ?_
          rintro e w1 ⟨rfl, hb1⟩
          go_wp2_with fail
          refine (HQ.out _).mono ?_
          rintro e w2 ⟨rfl, rfl⟩
          go_wp2_with fail
          refine (HS.out _).mono ?_
          rintro e w3 ⟨rfl, hb3⟩
          go_wp2_with fail
          refine (HE.out _).mono ?_
          rintro e w4 ⟨rfl, hb4⟩
          have hB := (hb1.trans (hb3.mono hb1.size)).trans (hb4.mono (Nat.le_trans hb1.size hb3.size))
          go_wp2_with fail
          go_ret2
          exact ⟨by rw [HC.out]; rfl, hB⟩
    · have e1 : ((e : Int) == 0) = false := by rw [beq_eq_false_iff_ne]; omega
      have e2 : ((e : Int) != 0) = true := by rw [bne_iff_ne]; omega
      have HR : Hid (strR R = .tuple #[.string ⟨#[]⟩, .int .i64 (e : Int)]) := Lib.hid (by rw [← hR, if_pos he]; rfl)
      rw [HR.out]
      clear hn hR hx he
      go_enter Tryd.func16, Tryd.ntmps16
      go_wp2_with fail
      refine (HN.out _).mono ?_
      rintro e w1 ⟨rfl, hb1⟩
      go_wp2_with fail
      refine (HQ.out _).mono ?_
      rintro e w2 ⟨rfl, rfl⟩
      go_wp2_with fail
      go_ret2
      exact ⟨rfl, hb1⟩
theorem rd_err {s : List UInt8} {n : Int} {e : Nat × Nat} (h : rdR s n = .inl e) : e.1 ≠ 0 := by
  unfold rdR at h
  split at h
  · cases h; simp
  split at h
  · cases h; simp
  split at h
  · unfold midR at h
    split at h
    · cases h; simp
    split at h
    · unfold clnR at h
      split at h
      · cases h; simp
      · unfold endR at h
        split at h
        · cases h; simp
        · cases h
    · cases h; simp
  · cases h; simp
set_option maxRecDepth 100000 in
set_option maxHeartbeats 4000000 in
theorem refCanonical_any (s : List UInt8) (hl : s.length < 30000) (w : World) :
    Calls Tryd.prog 18 #[.string ⟨s.toArray⟩] w fun e w' => e = .returned (strR (canR s)) ∧ Below w.heap.size w w' := by
  have HD := Lib.hid fun W => refRead_any s (by omega) 128 W
  unfold canR
  cases hr : rdR s 128 with
  | inl e =>
    have he := rd_err hr
    obtain ⟨e, st⟩ := e
    rw [hr] at HD
    have HV : Hid (rd4W (rdP (.inl (e, st))) = .tuple #[.string ⟨#[]⟩, .string ⟨#[]⟩, .int .i64 (e : Int), .int .i64 (st : Int)]) := Lib.hid rfl
    rw [HV.out] at HD
    have e2 : ((e : Int) != 0) = true := by rw [bne_iff_ne]; dsimp only at he; omega
    clear he hr
    go_enter Tryd.func18, Tryd.ntmps18
    go_wp2_with fail
    refine (HD.out _).mono ?_
    rintro e w1 ⟨rfl, hb1⟩
    go_wp2_with fail
    go_ret2
    exact ⟨rfl, hb1⟩
  | inr r =>
    obtain ⟨h1, h2⟩ := read_text hr
    obtain ⟨-, -, -, -, -, -, h6, h7⟩ := rd_good hr
    obtain ⟨p, q⟩ := r
    rw [hr] at HD
    have HV : Hid (rd4W (rdP (.inr (p, q))) = .tuple #[.string ⟨p.toArray⟩, .string ⟨q.toArray⟩, .int .i64 0, .int .i64 200]) := Lib.hid rfl
    rw [HV.out] at HD
    dsimp only at h1 h2 h6 h7 ⊢
    have HT := Lib.hid fun W => refText_any p q (by omega) (by omega) W
    rw [txt_good h1 h2] at HT
    obtain ⟨C, hC⟩ : ∃ C, canL p q = C := ⟨_, rfl⟩
    rw [hC] at HT ⊢
    have HV2 : Hid (strR (.inr C) = .tuple #[.string ⟨C.toArray⟩, .int .i64 0]) := Lib.hid rfl
    rw [HV2.out] at HT
    clear h1 h2 h6 h7 hr hC
    go_enter Tryd.func18, Tryd.ntmps18
    go_wp2_with fail
    refine (HD.out _).mono ?_
    rintro e w1 ⟨rfl, hb1⟩
    go_wp2_with fail
    refine (HT.out _).mono ?_
    rintro e w2 ⟨rfl, hb2⟩
    go_wp2_with fail
    go_ret2
    exact ⟨rfl, hb1.trans (hb2.mono hb1.size)⟩
set_option maxRecDepth 100000 in
set_option maxHeartbeats 4000000 in
theorem refSame_any (s t : List UInt8) (hl : s.length < 30000) (hl2 : t.length < 30000) (w : World) :
    Calls Tryd.prog 20 #[.string ⟨s.toArray⟩, .string ⟨t.toArray⟩] w fun e w' => e = .returned (boolW (sameR s t)) ∧ Below w.heap.size w w' := by
  have HD := Lib.hid fun W => refRead_any s (by omega) 128 W
  have HF := Lib.hid fun W => refRead_any t (by omega) 128 W
  obtain ⟨R, hR⟩ : ∃ R, sameR s t = R := ⟨_, rfl⟩
  rw [hR]
  unfold sameR at hR
  cases hr : rdR s 128 with
  | inl e =>
    have he := rd_err hr
    obtain ⟨e, st⟩ := e
    rw [hr] at HD hR
    have HR : Hid (R = (false, e)) := Lib.hid hR.symm
    have HV : Hid (rd4W (rdP (.inl (e, st))) = .tuple #[.string ⟨#[]⟩, .string ⟨#[]⟩, .int .i64 (e : Int), .int .i64 (st : Int)]) := Lib.hid rfl
    rw [HV.out] at HD
    have e2 : ((e : Int) != 0) = true := by rw [bne_iff_ne]; dsimp only at he; omega
    clear he hr hR HF
    go_enter Tryd.func20, Tryd.ntmps20
    go_wp2_with fail
    refine (HD.out _).mono ?_
    rintro e w1 ⟨rfl, hb1⟩
    go_wp2_with fail
    go_ret2
    exact ⟨by rw [HR.out]; rfl, hb1⟩
  | inr r =>
    obtain ⟨p, q⟩ := r
    rw [hr] at HD hR
    have HV : Hid (rd4W (rdP (.inr (p, q))) = .tuple #[.string ⟨p.toArray⟩, .string ⟨q.toArray⟩, .int .i64 0, .int .i64 200]) := Lib.hid rfl
    rw [HV.out] at HD
    dsimp only at hR
    cases hf : rdR t 128 with
    | inl e =>
      have he := rd_err hf
      obtain ⟨e, st⟩ := e
      rw [hf] at HF hR
      have HR : Hid (R = (false, e)) := Lib.hid hR.symm
      have HV : Hid (rd4W (rdP (.inl (e, st))) = .tuple #[.string ⟨#[]⟩, .string ⟨#[]⟩, .int .i64 (e : Int), .int .i64 (st : Int)]) := Lib.hid rfl
      rw [HV.out] at HF
      have e2 : ((e : Int) == 0) = false := by rw [beq_eq_false_iff_ne]; dsimp only at he; omega
      clear he hr hR hf
      go_enter Tryd.func20, Tryd.ntmps20
      go_wp2_with fail
      refine (HD.out _).mono ?_
      rintro e w1 ⟨rfl, hb1⟩
      go_wp2_with fail
      refine (HF.out _).mono ?_
      rintro e w2 ⟨rfl, hb2⟩
      go_wp2_with fail
      go_ret2
      exact ⟨by rw [HR.out]; rfl, hb1.trans (hb2.mono hb1.size)⟩
    | inr r =>
      obtain ⟨x, y⟩ := r
      rw [hf] at HF hR
      dsimp only at hR
      have HV : Hid (rd4W (rdP (.inr (x, y))) = .tuple #[.string ⟨x.toArray⟩, .string ⟨y.toArray⟩, .int .i64 0, .int .i64 200]) := Lib.hid rfl
      rw [HV.out] at HF
      obtain ⟨b1, h1⟩ : ∃ b, (p == x) = b := ⟨_, rfl⟩
      obtain ⟨b2, h2⟩ : ∃ b, (q == y) = b := ⟨_, rfl⟩
      rw [h1, h2] at hR
      have HR : Hid (R = (b1 && b2, 0)) := Lib.hid hR.symm
      clear hr hR hf
      cases b1
      all_goals
        go_enter Tryd.func20, Tryd.ntmps20
        go_wp2_with fail
        refine (HD.out _).mono ?_
        rintro e w1 ⟨rfl, hb1⟩
        go_wp2_with fail
        refine (HF.out _).mono ?_
        rintro e w2 ⟨rfl, hb2⟩
        go_wp2_with fail
        go_ret2
        exact ⟨by rw [HR.out]; rfl, hb1.trans (hb2.mono hb1.size)⟩
end Go.Proofs.YtjinedeelkdgiaaDoor
