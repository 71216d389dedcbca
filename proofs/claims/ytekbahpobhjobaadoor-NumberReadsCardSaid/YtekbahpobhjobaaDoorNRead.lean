/-
  The reference's read, Dec and Hex for every text and limits.
-/
import Derived.Test.YtekbahpobhjobaaDoorNRef1
import Derived.Deep.DeepCutAuto
namespace Go.Proofs.YtekbahpobhjobaaDoor
open Go.RowKit
attribute [local go_sem] ba_get
/-- What Dec and Hex answer, as a value. -/
def readV (hex : Bool) (l : List UInt8) (digits : Int) (most : Nat) : Value := .tuple #[.int .u64 ((readR hex l digits most).1 : Nat), .int .i64 ((readR hex l digits most).2 : Nat)]
/-- Is n times the base, and d, too much? -/
def overB (base n d : Nat) : Bool := decide ((U64 - 1 - d) / base < n)
theorem overB_yes {base n d : Nat} (hb : 0 < base) (hd : d < U64) (h : overB base n d = true) : U64 ≤ n * base + d := by
  have h1 := of_decide_eq_true h
  have h2 := (Nat.div_lt_iff_lt_mul hb).1 h1
  omega
theorem overB_no {base n d : Nat} (hb : 0 < base) (hd : d < U64) (h : overB base n d = false) : n * base + d < U64 := by
  have h1 := of_decide_eq_false h
  have h2 := (Nat.le_div_iff_mul_le hb).1 (Nat.le_of_not_lt h1)
  omega
theorem over_int (b n d : Nat) (hd : d < 16) : decide (((18446744073709551615 : Int) - (d : Int)) / (b : Int) < (n : Int)) = overB b n d := by
  have e : (18446744073709551615 : Int) - (d : Int) = ((U64 - 1 - d : Nat) : Int) := by unfold U64; omega
  unfold overB
  rw [e, ← Int.natCast_ediv, decide_eq_decide]
  exact Int.ofNat_lt
set_option maxHeartbeats 2000000 in
theorem refRead_any (l : List UInt8) (hl : l.length < 1000000) (hex : Bool) (digits : Int) (most : Nat) (w : World) :
    Calls Tryd.prog 30 #[.string ⟨l.toArray⟩, .bool hex, .int .i64 digits, .int .u64 (most : Int)] w fun e w' => e = .returned (readV hex l digits most) ∧ w = w' := by
  by_cases h0 : l = []
  · subst h0
    have HR : Hid (readV hex [] digits most = .tuple #[.int .u64 0, .int .i64 3]) := Lib.hid (by unfold readV readR; rfl)
    go_enter Tryd.func30, Tryd.ntmps30
    go_wp2_with fail
    go_ret2
    exact ⟨by rw [HR.out]; rfl, rfl⟩
  · have hlen : 0 < l.length := by
      cases l with
      | nil => exact absurd rfl h0
      | cons c r => simp
    have hne : l.isEmpty = false := by
      cases l with
      | nil => exact absurd rfl h0
      | cons c r => rfl
    have hle := prefF_le hex l
    obtain ⟨pf, hpf⟩ : ∃ pf, prefF hex l = pf := ⟨_, rfl⟩
    have HP := Lib.hid hpf
    by_cases h1 : pf < l.length
    · have HR : Hid (readV hex l digits most = .tuple #[.int .u64 0, .int .i64 3]) := Lib.hid (by unfold readV readR; rw [hpf, if_pos (Or.inr h1)]; rfl)
      have d1 : decide ((pf : Int) < (l.length : Int)) = true := decide_eq_true (by omega)
      clear hpf
      go_enter Tryd.func30, Tryd.ntmps30
      go_wp2_with fail
      refine (refPrefix_any l hl hex _).mono ?_
      rintro e w' ⟨rfl, rfl⟩
      rw [HP.out]
      go_wp2_with fail
      go_ret2
      exact ⟨by rw [HR.out]; rfl, rfl⟩
    · have d1 : decide ((pf : Int) < (l.length : Int)) = false := decide_eq_false (by omega)
      have hall := prefF_all (hex := hex) (l := l) (by omega)
      by_cases h2 : digits < (l.length : Int)
      · have HR : Hid (readV hex l digits most = .tuple #[.int .u64 0, .int .i64 4]) := Lib.hid (by unfold readV readR; rw [hpf, if_neg (by omega), if_pos h2]; rfl)
        have d2 : decide (digits < (l.length : Int)) = true := decide_eq_true h2
        clear hpf hall
        go_enter Tryd.func30, Tryd.ntmps30
        go_wp2_with fail
        refine (refPrefix_any l hl hex _).mono ?_
        rintro e w' ⟨rfl, rfl⟩
        rw [HP.out]
        go_wp2_with fail
        go_ret2
        exact ⟨by rw [HR.out]; rfl, rfl⟩
      · have d2 : decide (digits < (l.length : Int)) = false := decide_eq_false h2
        obtain ⟨V, hV⟩ : ∃ V, numL hex l = V := ⟨_, rfl⟩
        have HR : Hid (readR hex l digits most = if U64 ≤ V ∨ most < V then (0, 2) else (V, 0)) := Lib.hid (by unfold readR; rw [hpf, if_neg (by omega), if_neg h2, hV])
        have HA := Lib.hid hall
        have HV := Lib.hid hV
        clear hpf hall hV
        obtain ⟨b, hb⟩ : ∃ b, baseN hex = b := ⟨_, rfl⟩
        have hb1 : 2 ≤ b ∧ b ≤ 16 := by rw [← hb]; unfold baseN; split <;> omega
        have HB := Lib.hid hb
        go_enter Tryd.func30, Tryd.ntmps30
        go_wp2_with fail
        refine (refPrefix_any l hl hex _).mono ?_
        rintro e w' ⟨rfl, rfl⟩
        rw [HP.out]
        go_upto_if 28 with fail
        go_cut [10] (fun p wx => p = .int .u64 (b : Int) ∧ w = wx)
        case first =>
          cases hex
          · have hb2 : Hid (b = 10) := Lib.hid hb.symm
            clear hb
            go_wp2_with fail
            go_meet
            exact ⟨by rw [hb2.out]; rfl, rfl⟩
          · have hb2 : Hid (b = 16) := Lib.hid hb.symm
            clear hb
            go_wp2_with fail
            go_meet
            exact ⟨by rw [hb2.out]; rfl, rfl⟩
        case rest =>
        obtain ⟨rfl, rfl⟩ := hcut
        clear hb
        go_wp2_with fail
        go_loopw [11, 12] (fun v i wr => ∃ k n : Nat, k ≤ l.length ∧ i = .int .i64 k ∧ v = .int .u64 (n : Int) ∧ n < U64 ∧ Hid (numF hex (l.drop k) n = V) ∧ w = wr) (fun _ i _ => l.length - (intOf i).toNat)
        case atStart => exact ⟨0, 0, Nat.zero_le _, rfl, rfl, by unfold U64; omega, Lib.hid (by rw [List.drop_zero]; exact HV.out), rfl⟩
        case round =>
        obtain ⟨k, n, hk, rfl, rfl, hn, hp, rfl⟩ := hrel
        by_cases hlt : k < l.length
        · have e1 : decide ((k : Int) < (l.length : Int)) = true := decide_eq_true (by omega)
          have hb2 : (k : Int) < (l.length : Int) := by omega
          have hat := numF_at (hex := hex) (n := n) hlt
          have hv := Lib.hid (valN_yes (HA.out k hlt))
          have hdl := digN_lt hex l[k]
          rw [HB.out] at hat hdl
          obtain ⟨d, hd⟩ : ∃ d, digN hex l[k] = d := ⟨_, rfl⟩
          rw [hd] at hat hdl hv
          have hat := Lib.hid hat
          clear hd
          obtain ⟨y, hy⟩ : ∃ y, (l[k]).toNat = y := ⟨_, rfl⟩
          have hy2 : y < 256 := by rw [← hy]; exact UInt8.toNat_lt _
          rw [hy] at hv
          have q1 : IntKind.u64.wrap (d : Int) = (d : Int) := wrapU (by unfold U64; omega)
          have hov := fun h => overB_yes (base := b) (n := n) (d := d) (by omega) (by unfold U64; omega) h
          have hno := fun h => overB_no (base := b) (n := n) (d := d) (by omega) (by unfold U64; omega) h
          obtain ⟨q, hq⟩ : ∃ q, overB b n d = q := ⟨_, rfl⟩
          rw [hq] at hov hno
          have HOV := Lib.hid hov
          have HNO := Lib.hid hno
          have HQ := Lib.hid hq
          clear hov hno hq
          go_wp2_with fail
          refine (value_any y hy2 hex _).mono ?_
          rintro e w' ⟨rfl, rfl⟩
          rw [hv.out]
          go_upto_region 13 with fail
          go_cut [46] (fun p wx => p = .bool q ∧ w = wx)
          case first =>
            go_wp2_with fail
            go_meet
            exact ⟨by rw [over_int b n d (by omega), HQ.out], rfl⟩
          case rest =>
          obtain ⟨rfl, rfl⟩ := hcut
          cases q
          · have hlt2 := HNO.out rfl
            have q2 : IntKind.u64.wrap ((n : Int) * (b : Int)) = ((n * b : Nat) : Int) := wrapU' (by push_cast; rfl) (by omega)
            have q3 : IntKind.u64.wrap (((n * b : Nat) : Int) + (d : Int)) = ((n * b + d : Nat) : Int) := wrapU' (by push_cast; rfl) hlt2
            have hnext : Hid (numF hex (l.drop (k + 1)) (n * b + d) = V) := Lib.hid (by rw [← hat.out]; exact hp.out)
            obtain ⟨z, hz⟩ : ∃ z, n * b = z := ⟨_, rfl⟩
            rw [hz] at q2 q3 hnext hlt2
            clear hz
            go_wp2_with fail
            go_roundw
            case rel => exact ⟨k + 1, z + d, by omega, by go_num, by go_num, hlt2, hnext, by simp⟩
            case measure => simp [intOf]; omega
          · have hbig := HOV.out rfl
            have hV2 : U64 ≤ V := by
              rw [← hp.out, hat.out]
              exact Nat.le_trans hbig (numF_le _ _ _)
            have hres : Hid (readR hex l digits most = (0, 2)) := Lib.hid (by rw [HR.out, if_pos (Or.inl hV2)])
            clear hbig hV2
            go_wp2_with fail
            go_ret2
            exact ⟨by unfold readV; rw [hres.out]; rfl, rfl⟩
        · have e1 : decide ((k : Int) < (l.length : Int)) = false := decide_eq_false (by omega)
          have hnV : V = n := by rw [← hp.out, List.drop_eq_nil_of_le (by omega)]; rfl
          by_cases hm : most < n
          · have e2 : decide ((most : Int) < (n : Int)) = true := decide_eq_true (by omega)
            have hres : Hid (readR hex l digits most = (0, 2)) := Lib.hid (by rw [HR.out, if_pos (Or.inr (by omega))])
            clear hnV
            go_wp2_with fail
            go_ret2
            exact ⟨by unfold readV; rw [hres.out]; rfl, rfl⟩
          · have e2 : decide ((most : Int) < (n : Int)) = false := decide_eq_false (by omega)
            have hres : Hid (readR hex l digits most = (n, 0)) := Lib.hid (by rw [HR.out, hnV, if_neg (by omega)])
            clear hnV
            go_wp2_with fail
            go_ret2
            exact ⟨by unfold readV; rw [hres.out]; rfl, rfl⟩
set_option maxHeartbeats 1000000 in
theorem refDec_any (l : List UInt8) (hl : l.length < 1000000) (digits : Int) (most : Nat) (w : World) :
    Calls Tryd.prog 15 #[.string ⟨l.toArray⟩, .int .i64 digits, .int .u64 (most : Int)] w fun e w' => e = .returned (readV false l digits most) ∧ w = w' := by
  go_enter Tryd.func15, Tryd.ntmps15
  go_wp2_with fail
  refine (refRead_any l hl false digits most _).mono ?_
  rintro e w' ⟨rfl, rfl⟩
  obtain ⟨⟨n, x⟩, hr⟩ : ∃ r, Hid (readR false l digits most = r) := ⟨_, Lib.hid rfl⟩
  unfold readV
  rw [hr.out]
  go_wp2_with fail
  go_ret2
  exact ⟨by unfold readV; rw [hr.out]; rfl, rfl⟩
set_option maxHeartbeats 1000000 in
theorem refHex_any (l : List UInt8) (hl : l.length < 1000000) (digits : Int) (most : Nat) (w : World) :
    Calls Tryd.prog 17 #[.string ⟨l.toArray⟩, .int .i64 digits, .int .u64 (most : Int)] w fun e w' => e = .returned (readV true l digits most) ∧ w = w' := by
  go_enter Tryd.func17, Tryd.ntmps17
  go_wp2_with fail
  refine (refRead_any l hl true digits most _).mono ?_
  rintro e w' ⟨rfl, rfl⟩
  obtain ⟨⟨n, x⟩, hr⟩ : ∃ r, Hid (readR true l digits most = r) := ⟨_, Lib.hid rfl⟩
  unfold readV
  rw [hr.out]
  go_wp2_with fail
  go_ret2
  exact ⟨by unfold readV; rw [hr.out]; rfl, rfl⟩
end Go.Proofs.YtekbahpobhjobaaDoor
