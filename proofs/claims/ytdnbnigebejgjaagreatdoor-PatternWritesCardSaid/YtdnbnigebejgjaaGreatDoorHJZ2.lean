/-
  The reference's walker: a chain of children walked ahead.
-/
import Derived.Test.YtdnbnigebejgjaaGreatDoorHC12
import Derived.Test.YtdnbnigebejgjaaGreatDoorHZ1
namespace Go.Proofs.YtdnbnigebejgjaaGreatDoor
open Go.RowKit Go.Shelf
/-- Block B holds a walker: its place, how many groups, whether something is wrong, whether a number is. -/
def WKB (w : World) (B : Nat) (v : Value) (bb en : Bool) (g : Int) (nx gr : Nat) (bd nb : Bool) : Prop := CBlk 76 w B [v, .bool bb, .bool en, .int .i64 g, .int .i64 (nx : Int), .int .i64 (gr : Int), .bool bd, .bool nb]
theorem WKB.bad {w : World} {B : Nat} {v : Value} {bb en : Bool} {g : Int} {nx gr : Nat} {bd nb : Bool} (h : WKB w B v bb en g nx gr bd nb) (b : Bool) : WKB (w.setCell ⟨B, 6, none⟩ (.bool b)) B v bb en g nx gr b nb := CBlk.set h 6 (.bool b)
theorem WKB.num {w : World} {B : Nat} {v : Value} {bb en : Bool} {g : Int} {nx gr : Nat} {bd nb : Bool} (h : WKB w B v bb en g nx gr bd nb) (b : Bool) : WKB (w.setCell ⟨B, 7, none⟩ (.bool b)) B v bb en g nx gr bd b := CBlk.set h 7 (.bool b)
theorem WKB.next {w : World} {B : Nat} {v : Value} {bb en : Bool} {g : Int} {nx gr : Nat} {bd nb : Bool} (h : WKB w B v bb en g nx gr bd nb) (n : Nat) : WKB (w.setCell ⟨B, 4, none⟩ (.int .i64 (n : Int))) B v bb en g n gr bd nb := CBlk.set h 4 (.int .i64 (n : Int))
theorem WKB.grp {w : World} {B : Nat} {v : Value} {bb en : Bool} {g : Int} {nx gr : Nat} {bd nb : Bool} (h : WKB w B v bb en g nx gr bd nb) (n : Nat) : WKB (w.setCell ⟨B, 5, none⟩ (.int .i64 (n : Int))) B v bb en g nx n bd nb := CBlk.set h 5 (.int .i64 (n : Int))
/-- The nodes stay where the walker's own block alone changes. -/
theorem nds_grown {w w' : World} {B b off : Nat} {L : List ND} (h : NdsIn w (some ⟨b, off, none⟩) L) (hg : w.grownBy w' (some B)) (hb : b ≠ B) (hl : b < w.heap.size) : NdsIn w' (some ⟨b, off, none⟩) L := fun j hj => by
  obtain ⟨b', off', e, h1, h2⟩ := h j hj
  injection e with e
  injection e with e1 e2
  subst e1 e2
  refine ⟨b, off, rfl, Nat.lt_of_lt_of_le h1 hg.size, ?_⟩
  have e := hg.block b hl (fun e => hb (by injection e))
  have k : w'.cell? ⟨b, off + j, none⟩ = w.cell? ⟨b, off + j, none⟩ := by simp [World.cell?, e]
  exact k.trans h2
def ofM (n B : Nat) (x : Value) (w : World) : Nat := match w.cell? ⟨B, 6, none⟩ with
  | some (.bool true) => 0
  | _ => if intOf x = -1 then 0 else n + 2 - (intOf x).toNat
def OfPost (v : Value) (bb en : Bool) (g : Int) (B nx gr : Nat) (nb : Bool) (P : Prop) (W : World) (e : Ending) (w' : World) : Prop :=
  ∃ bd, e = .returned (.tuple #[]) ∧ WKB w' B v bb en g nx gr bd nb ∧ (bd = false ↔ P) ∧ W.grownBy w' (some B)
set_option maxHeartbeats 4000000 in
set_option maxRecDepth 100000 in
theorem wof_any (L : List ND) (hL : L.length < 1000000) (b off cap : Nat) (B : Nat) (hbB : b ≠ B) (bb en : Bool) (g first a c : Int) (nx gr : Nat) (nb : Bool) (W : World) (hN : NdsIn W (some ⟨b, off, none⟩) L) (hb : b < W.heap.size) (h : WKB W B (.slice (some ⟨b, off, none⟩) L.length cap) bb en g nx gr false nb) :
    Calls Tryz.prog 89 #[.pointer (some ⟨B, 0, none⟩), .int .i64 first, .int .i64 a, .int .i64 c] W (OfPost (.slice (some ⟨b, off, none⟩) L.length cap) bb en g B nx gr nb (OF L (fun k => k = a ∨ k = c) first first) W) := by
  have HN := Lib.hid hN
  have H0 := Lib.hid h
  obtain ⟨P, hP⟩ : ∃ P : Prop, P = OF L (fun k => k = a ∨ k = c) first first := ⟨_, rfl⟩
  have HP := Lib.hid hP
  rw [← hP]
  clear hN h hP
  go_enter Tryz.func89, Tryz.ntmps89
  go_wp2_with fail
  go_loopw [8] (fun xv wr => ∃ x : Int, xv = .int .i64 x ∧ ∃ bd, Hid (WKB wr B (.slice (some ⟨b, off, none⟩) L.length cap) bb en g nx gr bd nb) ∧ Hid (bd = false → (P ↔ OF L (fun k => k = a ∨ k = c) first x)) ∧ Hid (bd = true → ¬P) ∧ Hid (W.grownBy wr (some B))) (fun x wr => ofM L.length B x wr)
  case atStart => exact ⟨first, rfl, false, H0, Lib.hid (fun _ => by rw [HP.out]), Lib.hid (fun h => by cases h), Lib.hid (jgrefl W _)⟩
  case round =>
    obtain ⟨x, rfl, bd, hw, ht, hf, hg⟩ := hrel
    have c6 := CBlk.cell hw.out 6 (by simp)
    have f6 := CBlk.free hw.out 6
    have hNr := nds_grown HN.out hg.out hbB hb
    have hlt := CBlk.lt hw.out
    by_cases hx1 : x = -1
    · subst hx1
      have e1 : ((-1 : Int) != -1) = false := rfl
      have hfin : bd = false ↔ P := by
        cases bd with
        | false => exact ⟨fun _ => (ht.out rfl).2 .nil, fun _ => rfl⟩
        | true => exact ⟨fun h => (by cases h), fun h => absurd h (hf.out rfl)⟩
      go_wp2_with fail
      exact bodyPost_end (v := .tuple #[]) (by simp [Go.results, Tryz.results89, go_sem]) rfl ⟨bd, rfl, hw.out, hfin, hg.out⟩
    have e1 : (x != -1) = true := by simpa using hx1
    have e1' : (x == -1) = false := by simpa using hx1
    cases bd with
    | true =>
      have hfin : true = false ↔ P := ⟨fun h => (by cases h), fun h => absurd h (hf.out rfl)⟩
      go_wp2_with fail
      exact bodyPost_end (v := .tuple #[]) (by simp [Go.results, Tryz.results89, go_sem]) rfl ⟨true, rfl, hw.out, hfin, hg.out⟩
    | false =>
      have hx := ht.out rfl
      have HX := Lib.hid hx
      have hwb := Lib.hid (hw.out.bad true)
      have hgb := Lib.hid (jgtrans hg.out (jgset wr B 6 (.bool true)))
      clear hx ht hf
      by_cases h0 : x < 0
      · have e2 : decide (x < 0) = true := decide_eq_true h0
        have hfin : true = false ↔ P := ⟨fun h => (by cases h), fun h => by
          rcases (HX.out.1 h).inv with h | ⟨k, _, h, _⟩
          · exact absurd h hx1
          · omega⟩
        go_wp2_with fail
        exact bodyPost_ret (v := .tuple #[]) (by simp [Go.results, Tryz.results89, go_sem]) rfl ⟨true, rfl, hwb.out, hfin, hgb.out⟩
      obtain ⟨k, rfl⟩ := Int.eq_ofNat_of_zero_le (by omega : 0 ≤ x)
      have e2 : decide ((k : Int) < 0) = false := decide_eq_false (by omega)
      have c0 := CBlk.cell hw.out 0 (by simp)
      by_cases hkl : k < L.length
      case neg =>
        have e3 : decide ((L.length : Int) ≤ (k : Int)) = true := decide_eq_true (by omega)
        have e3' : decide (L.length ≤ k) = true := decide_eq_true (by omega)
        have hfin : true = false ↔ P := ⟨fun h => (by cases h), fun h => by
          rcases (HX.out.1 h).inv with h | ⟨k', hk', h, _⟩
          · exact absurd h hx1
          · omega⟩
        go_wp2_with fail
        exact bodyPost_ret (v := .tuple #[]) (by simp [Go.results, Tryz.results89, go_sem]) rfl ⟨true, rfl, hwb.out, hfin, hgb.out⟩
      have e3 : decide ((L.length : Int) ≤ (k : Int)) = false := decide_eq_false (by omega)
      have e3' : decide (L.length ≤ k) = false := decide_eq_false (by omega)
      have hkI : (k : Int) < (L.length : Int) := by omega
      by_cases hkf : (k : Int) < first
      · have e4 : decide ((k : Int) < first) = true := decide_eq_true hkf
        have hfin : true = false ↔ P := ⟨fun h => (by cases h), fun h => by
          rcases (HX.out.1 h).inv with h | ⟨k', hk', h, h2, _⟩
          · exact absurd h hx1
          · omega⟩
        go_wp2_with fail
        exact bodyPost_ret (v := .tuple #[]) (by simp [Go.results, Tryz.results89, go_sem]) rfl ⟨true, rfl, hwb.out, hfin, hgb.out⟩
      have e4 : decide ((k : Int) < first) = false := decide_eq_false hkf
      obtain ⟨m0, m1, m2, m3, m4, m5, m6, m7, m8⟩ := ndV_cells hNr hkl
      obtain ⟨n, hn⟩ : ∃ n, L[k] = n := ⟨_, rfl⟩
      rw [hn] at m0 m1 m2 m3 m4 m5 m6 m7 m8
      have HNK := Lib.hid hn
      clear hn hNr m1 m2 m3 m4 m5 m6 m7
      by_cases hk : n.kind = a ∨ n.kind = c
      case neg =>
        have e5 : (n.kind != a) = true := by simpa using fun h => hk (.inl h)
        have e6 : (n.kind != c) = true := by simpa using fun h => hk (.inr h)
        have hfin : true = false ↔ P := ⟨fun h => (by cases h), fun h => by
          rcases (HX.out.1 h).inv with h | ⟨k', hk', h, _, h4, _⟩
          · exact absurd h hx1
          · obtain rfl : k = k' := by omega
            rw [HNK.out] at h4
            exact absurd h4 hk⟩
        go_wp2_with fail
        exact bodyPost_ret (v := .tuple #[]) (by simp [Go.results, Tryz.results89, go_sem]) rfl ⟨true, rfl, hwb.out, hfin, hgb.out⟩
      have hstep : OF L (fun k => k = a ∨ k = c) first (k : Int) ↔ (n.next = -1 ∨ (k : Int) < n.next) ∧ OF L (fun k => k = a ∨ k = c) first n.next := by
        constructor
        · intro h
          rcases h.inv with h | ⟨k', hk', h, _, _, h5, h6⟩
          · exact absurd h hx1
          · obtain rfl : k = k' := by omega
            rw [HNK.out] at h5 h6
            exact ⟨h5, h6⟩
        · rintro ⟨h5, h6⟩
          rw [← HNK.out] at h5 h6 hk
          exact .cons k hkl (by omega) hk h5 h6
      have HST := Lib.hid hstep
      clear hstep
      have hq : ∃ q, (n.kind != a) = q ∧ (q = true → (n.kind != c) = false) := by
        refine ⟨_, rfl, fun h => ?_⟩
        rcases hk with hk | hk
        · rw [hk] at h; simp at h
        · rw [hk]; simp
      obtain ⟨q, e5, e6⟩ := hq
      clear hk
      by_cases hy1 : n.next = -1
      · have hrel : P ↔ OF L (fun k => k = a ∨ k = c) first n.next := by
          rw [HX.out, HST.out]
          exact ⟨fun h => h.2, fun h => ⟨.inl hy1, h⟩⟩
        rw [hy1] at m8 hrel
        have HREL := Lib.hid hrel
        clear hrel hy1
        cases q
        all_goals
          try (have e7 := e6 rfl)
          clear e6
          go_wp2_with fail
          go_roundw
          case rel => exact ⟨-1, rfl, false, hw, Lib.hid (fun _ => HREL.out), Lib.hid (fun h => by cases h), hg⟩
          case measure =>
            have c6' : wr.cell? ⟨B, 6, none⟩ = some (.bool false) := c6
            simp [ofM, c6', intOf]
            omega
      · have e8 : (n.next != -1) = true := by simpa using hy1
        by_cases hy2 : n.next ≤ (k : Int)
        · have e9 : decide (n.next ≤ (k : Int)) = true := decide_eq_true hy2
          have hnP : ¬P := by
            rw [HX.out, HST.out]
            rintro ⟨h | h, _⟩
            · exact hy1 h
            · omega
          have HNP := Lib.hid hnP
          obtain ⟨y, hy⟩ : ∃ y, n.next = y := ⟨_, rfl⟩
          rw [hy] at m8 e8 e9
          clear hnP hy hy1 hy2
          have c6b : (wr.setCell ⟨B, 6, none⟩ (.bool true)).cell? ⟨B, 6, none⟩ = some (.bool true) := CBlk.cell hwb.out 6 (by simp)
          cases q
          all_goals
            try (have e7 := e6 rfl)
            clear e6
            go_wp2_with fail
            go_roundw
            case rel => exact ⟨y, rfl, true, hwb, Lib.hid (fun h => by cases h), Lib.hid (fun _ => HNP.out), hgb⟩
            case measure =>
              have c6' : wr.cell? ⟨B, 6, none⟩ = some (.bool false) := c6
              simp [ofM, c6', c6b, intOf]
              omega
        · have e9 : decide (n.next ≤ (k : Int)) = false := decide_eq_false hy2
          have hrel : P ↔ OF L (fun k => k = a ∨ k = c) first n.next := by
            rw [HX.out, HST.out]
            exact ⟨fun h => h.2, fun h => ⟨.inr (by omega), h⟩⟩
          obtain ⟨y, hy⟩ : ∃ y, n.next = y := ⟨_, rfl⟩
          rw [hy] at m8 e8 e9 hrel hy1 hy2
          have HREL := Lib.hid hrel
          clear hrel hy
          cases q
          all_goals
            try (have e7 := e6 rfl)
            clear e6
            go_wp2_with fail
            go_roundw
            case rel => exact ⟨y, rfl, false, hw, Lib.hid (fun _ => HREL.out), Lib.hid (fun h => by cases h), hg⟩
            case measure =>
              have c6' : wr.cell? ⟨B, 6, none⟩ = some (.bool false) := c6
              simp [ofM, c6', intOf, hy1]
              omega
end Go.Proofs.YtdnbnigebejgjaaGreatDoor
