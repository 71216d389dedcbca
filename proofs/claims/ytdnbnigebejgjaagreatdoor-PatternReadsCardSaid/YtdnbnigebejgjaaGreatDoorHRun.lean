/-
  strings.CutPrefix at a minus sign, byteset.readRun for every text of fewer than a million bytes.
  byteset.Parse for every text: the set or which error. No condition but that the text fits into memory.
-/
import Derived.Test.YtdnbnigebejgjaaGreatDoorHPlain
import Derived.Test.YtdnbnigebejgjaaGreatDoorHSets
namespace Go.Proofs.YtdnbnigebejgjaaGreatDoor
open Go.RowKit
attribute [local go_sem] ba_get
/-- What is behind a minus sign, if the text begins with one. -/
def cutDash : List UInt8 → Option (List UInt8)
  | 45 :: r => some r
  | _ => none
theorem hasDash_any (l : List UInt8) (w : World) :
    Calls Tryz.prog 90 #[.string ⟨l.toArray⟩, .string ⟨#[45]⟩] w fun e w' => e = .returned (.bool (cutDash l).isSome) ∧ w = w' := by
  cases l with
  | nil =>
    go_enter Tryz.func90, Tryz.ntmps90
    go_wp2
    go_ret
    exact ⟨rfl, rfl⟩
  | cons b r =>
    have hx : (ByteArray.mk (b :: r).toArray).extract 0 1 = ⟨#[b]⟩ := by rw [ba_extract]; rfl
    by_cases hb : b = 45
    · subst hb
      go_enter Tryz.func90, Tryz.ntmps90
      go_wp2
      go_ret
      exact ⟨rfl, rfl⟩
    · have hb' : (b == 45) = false := by simpa using hb
      have HN : Hid (cutDash (b :: r) = none) := by
        show cutDash (b :: r) = none
        unfold cutDash
        split
        · rename_i h; injection h with h1 h2; exact (hb h1).elim
        · rfl
      go_enter Tryz.func90, Tryz.ntmps90
      go_wp2
      go_ret
      rw [HN.out]
      exact ⟨rfl, rfl⟩
theorem cutPrefix_some (r : List UInt8) (hr : r.length < 1000000) (w : World) :
    Calls Tryz.prog 142 #[.string ⟨(45 :: r).toArray⟩, .string ⟨#[45]⟩] w fun e w' => e = .returned (.tuple #[.string ⟨r.toArray⟩, .bool true]) ∧ w = w' := by
  have hs : ∀ w, Calls Tryz.prog 145 #[.string ⟨(45 :: r).toArray⟩, .string ⟨#[45]⟩] w fun e w' => e = .returned (.tuple #[.string ⟨r.toArray⟩, .bool true]) ∧ w = w' := by
    intro w
    go_enter Tryz.func145, Tryz.ntmps145
    go_wp2_with fail
    refine (hasDash_any (45 :: r) _).mono ?_
    rintro e w' ⟨rfl, rfl⟩
    rw [show (cutDash (45 :: r)).isSome = true from rfl]
    go_wp2_with fail
    go_ret2
    exact ⟨by simp only [ba_tail]; rfl, rfl⟩
  have HS := Lib.hid hs
  clear hs
  go_enter Tryz.func142, Tryz.ntmps142
  go_wp2_with fail
  refine (HS.out _).mono ?_
  rintro e w' ⟨rfl, rfl⟩
  go_wp2_with fail
  go_ret2
  exact ⟨rfl, rfl⟩
theorem cutPrefix_none (l : List UInt8) (h : cutDash l = none) (w : World) :
    Calls Tryz.prog 142 #[.string ⟨l.toArray⟩, .string ⟨#[45]⟩] w fun e w' => e = .returned (.tuple #[.string ⟨l.toArray⟩, .bool false]) ∧ w = w' := by
  have hs : ∀ w, Calls Tryz.prog 145 #[.string ⟨l.toArray⟩, .string ⟨#[45]⟩] w fun e w' => e = .returned (.tuple #[.string ⟨l.toArray⟩, .bool false]) ∧ w = w' := by
    intro w
    have HN := Lib.hid h
    clear h
    go_enter Tryz.func145, Tryz.ntmps145
    go_wp2_with fail
    refine (hasDash_any l _).mono ?_
    rintro e w' ⟨rfl, rfl⟩
    rw [HN.out, show (none : Option (List UInt8)).isSome = false from rfl]
    go_wp2_with fail
    go_ret2
    exact ⟨rfl, rfl⟩
  have HS := Lib.hid hs
  clear hs h
  go_enter Tryz.func142, Tryz.ntmps142
  go_wp2_with fail
  refine (HS.out _).mono ?_
  rintro e w' ⟨rfl, rfl⟩
  go_wp2_with fail
  go_ret2
  exact ⟨rfl, rfl⟩
theorem cutDash_some {l r : List UInt8} (h : cutDash l = some r) : l = 45 :: r := by
  unfold cutDash at h
  split at h
  · injection h with h; rw [h]
  · cases h
theorem readB_lt {l : List UInt8} {v : Nat} {r : List UInt8} (h : readB l = some (v, r)) : v < 256 ∧ r.length < l.length := by
  cases l with
  | nil => simp [readB] at h
  | cons b t =>
    simp only [readB] at h
    split at h
    · injection h with h
      injection h with e1 e2
      subst e1 e2
      exact ⟨b.toNat_lt, by simp⟩
    · split at h
      · rename_i h1 h2 r' _
        split at h
        · injection h with h
          injection h with e1 e2
          subst e1 e2
          have a1 := hexV_lt h1.toNat
          have a2 := hexV_lt h2.toNat
          exact ⟨by omega, by simp; omega⟩
        · cases h
      · cases h
theorem run_below (w : World) (n : Nat) (o : Obj) (x y : Value) : Below w.heap.size w ((((w.alloc o).drewN n).setCell ⟨w.heap.size, 0, none⟩ x).setCell ⟨w.heap.size, 1, none⟩ y) :=
  ((below_drewN ((Below.refl _ _).alloc (Nat.le_refl _) _) n).setCell (p := ⟨w.heap.size, 0, none⟩) (Nat.le_refl _) x).setCell (p := ⟨w.heap.size, 1, none⟩) (Nat.le_refl _) y
/-- The run with which a text begins, and what is behind it; or which error. -/
def readR (l : List UInt8) : Except Nat (Nat × Nat × List UInt8) := match readB l with
  | none => .error 3
  | some (lo, r) => match cutDash r with
    | none => .ok (lo, lo, r)
    | some r' => match readB r' with
      | none => .error 3
      | some (hi, r'') => if hi ≤ lo then .error 8 else .ok (lo, hi, r'')
/-- What readRun returns, as a value. -/
def runV : Except Nat (Nat × Nat × List UInt8) → Value
  | .error e => .tuple #[.agg #[.int .u8 0, .int .u8 0], .string ⟨#[]⟩, .int .i64 e]
  | .ok (lo, hi, r) => .tuple #[.agg #[.int .u8 lo, .int .u8 hi], .string ⟨r.toArray⟩, .int .i64 0]
set_option maxHeartbeats 1000000 in
theorem readRun_any (l : List UInt8) (hl : l.length < 1000000) (w : World) :
    Calls Tryz.prog 139 #[.string ⟨l.toArray⟩] w fun e w' => e = .returned (runV (readR l)) ∧ Below w.heap.size w w' := by
  cases h1 : readB l with
  | none =>
    have HR : Hid (readR l = .error 3) := by show readR l = _; unfold readR; rw [h1]
    have H1 := Lib.hid h1
    clear h1
    go_enter Tryz.func139, Tryz.ntmps139
    go_wp2_with fail
    refine (readByte_none l hl H1.out _).mono ?_
    rintro e w' ⟨v, s, n, rfl, rfl⟩
    go_wp2_with fail
    exact bodyPost_ret (v := runV (readR l)) (by rw [HR.out]; simp [results, Tryz.results139, go_sem, runV]) rfl ⟨rfl, run_below _ _ _ _ _⟩
  | some p =>
    obtain ⟨lo, r⟩ := p
    obtain ⟨hlo, hrl⟩ := readB_lt h1
    cases h2 : cutDash r with
    | none =>
      have HR : Hid (readR l = .ok (lo, lo, r)) := by show readR l = _; unfold readR; rw [h1]; dsimp only; rw [h2]
      have H1 := Lib.hid h1
      have H2 := Lib.hid h2
      clear h1 h2
      go_enter Tryz.func139, Tryz.ntmps139
      go_wp2_with fail
      refine (readByte_some l hl lo r H1.out _).mono ?_
      rintro e w' ⟨rfl, n, rfl⟩
      go_wp2_with fail
      refine (cutPrefix_none r H2.out _).mono ?_
      rintro e w' ⟨rfl, rfl⟩
      go_wp2_with fail
      refine bodyPost_ret (v := runV (readR l)) (by rw [HR.out]; simp [results, Tryz.results139, go_sem, runV]) rfl ⟨rfl, run_below _ _ _ _ _⟩
    | some r' =>
      obtain rfl : r = 45 :: r' := cutDash_some h2
      cases h3 : readB r' with
      | none =>
        have HR : Hid (readR l = .error 3) := by show readR l = _; unfold readR; rw [h1]; dsimp only; rw [h2]; dsimp only; rw [h3]
        have H1 := Lib.hid h1
        have H3 := Lib.hid h3
        clear h1 h2 h3
        go_enter Tryz.func139, Tryz.ntmps139
        go_wp2_with fail
        refine (readByte_some l hl lo _ H1.out _).mono ?_
        rintro e w' ⟨rfl, n, rfl⟩
        go_wp2_with fail
        refine (cutPrefix_some r' (by simp at hrl; omega) _).mono ?_
        rintro e w' ⟨rfl, rfl⟩
        go_wp2_with fail
        refine (readByte_none r' (by simp at hrl; omega) H3.out _).mono ?_
        rintro e w' ⟨v, s, n', rfl, rfl⟩
        go_wp2_with fail
        refine bodyPost_ret (v := runV (readR l)) (by rw [HR.out]; simp [results, Tryz.results139, go_sem, runV]) rfl ⟨rfl, run_below _ _ _ _ _⟩
      | some p' =>
        obtain ⟨hi, r''⟩ := p'
        obtain ⟨hhi, hrl'⟩ := readB_lt h3
        by_cases hle : hi ≤ lo
        · have HR : Hid (readR l = .error 8) := by show readR l = _; unfold readR; rw [h1]; dsimp only; rw [h2]; dsimp only; rw [h3]; dsimp only; rw [if_pos hle]
          have H1 := Lib.hid h1
          have H3 := Lib.hid h3
          clear h1 h2 h3
          have hd : decide ((hi : Int) ≤ (lo : Int)) = true := decide_eq_true (by omega)
          go_enter Tryz.func139, Tryz.ntmps139
          go_wp2_with fail
          refine (readByte_some l hl lo _ H1.out _).mono ?_
          rintro e w' ⟨rfl, n, rfl⟩
          go_wp2_with fail
          refine (cutPrefix_some r' (by simp at hrl; omega) _).mono ?_
          rintro e w' ⟨rfl, rfl⟩
          go_wp2_with fail
          refine (readByte_some r' (by simp at hrl; omega) hi r'' H3.out _).mono ?_
          rintro e w' ⟨rfl, n', rfl⟩
          go_wp2_with fail
          refine bodyPost_ret (v := runV (readR l)) (by rw [HR.out]; simp [results, Tryz.results139, go_sem, runV]) rfl ⟨rfl, run_below _ _ _ _ _⟩
        · have HR : Hid (readR l = .ok (lo, hi, r'')) := by show readR l = _; unfold readR; rw [h1]; dsimp only; rw [h2]; dsimp only; rw [h3]; dsimp only; rw [if_neg hle]
          have H1 := Lib.hid h1
          have H3 := Lib.hid h3
          clear h1 h2 h3
          have hd : decide ((hi : Int) ≤ (lo : Int)) = false := decide_eq_false (by omega)
          go_enter Tryz.func139, Tryz.ntmps139
          go_wp2_with fail
          refine (readByte_some l hl lo _ H1.out _).mono ?_
          rintro e w' ⟨rfl, n, rfl⟩
          go_wp2_with fail
          refine (cutPrefix_some r' (by simp at hrl; omega) _).mono ?_
          rintro e w' ⟨rfl, rfl⟩
          go_wp2_with fail
          refine (readByte_some r' (by simp at hrl; omega) hi r'' H3.out _).mono ?_
          rintro e w' ⟨rfl, n', rfl⟩
          go_wp2_with fail
          refine bodyPost_ret (v := runV (readR l)) (by rw [HR.out]; simp [results, Tryz.results139, go_sem, runV]) rfl ⟨rfl, run_below _ _ _ _ _⟩
end Go.Proofs.YtdnbnigebejgjaaGreatDoor
namespace Go.Proofs.YtdnbnigebejgjaaGreatDoor
open Go.RowKit
theorem readR_lt {l : List UInt8} {lo hi : Nat} {r : List UInt8} (h : readR l = .ok (lo, hi, r)) : lo < 256 ∧ hi < 256 ∧ lo ≤ hi ∧ r.length < l.length := by
  unfold readR at h
  split at h
  · cases h
  · rename_i lo' r1 h1
    obtain ⟨a1, a2⟩ := readB_lt h1
    split at h
    · injection h with h
      injection h with e1 h
      injection h with e2 e3
      subst e1 e2 e3
      exact ⟨a1, a1, Nat.le_refl _, a2⟩
    · rename_i r2 h2
      obtain rfl := cutDash_some h2
      split at h
      · cases h
      · rename_i hi' r3 h3
        obtain ⟨b1, b2⟩ := readB_lt h3
        split at h
        · cases h
        · injection h with h
          injection h with e1 h
          injection h with e2 e3
          subst e1 e2 e3
          exact ⟨a1, b1, by omega, by simp at a2; omega⟩
def readR_codes (e : Nat) : Prop := 0 < e ∧ e < 9
theorem readR_err {l : List UInt8} {e : Nat} (h : readR l = .error e) : readR_codes e := by
  unfold readR at h
  split at h
  · injection h with h; subst h; exact ⟨by omega, by omega⟩
  · split at h
    · cases h
    · split at h
      · injection h with h; subst h; exact ⟨by omega, by omega⟩
      · split at h
        · injection h with h; subst h; exact ⟨by omega, by omega⟩
        · cases h
/-- What a text adds to a set, or which error; 'fuel' bounds the runs. -/
def parseL : Nat → List UInt8 → WSet → Except Nat WSet
  | _, [], s => .ok s
  | 0, _, s => .ok s
  | fuel + 1, l, s => match readR l with
    | .error e => .error e
    | .ok (lo, hi, r) => parseL fuel r (s.or (spanTo lo (hi + 1 - lo)))
theorem parseL_fuel : ∀ (k : Nat) (l : List UInt8) (s : WSet), l.length ≤ k → parseL k l s = parseL l.length l s := by
  intro k
  induction k using Nat.strongRecOn with
  | ind k ih =>
    intro l s hk
    cases l with
    | nil => cases k <;> rfl
    | cons b t =>
      cases k with
      | zero => simp at hk
      | succ k =>
        simp only [List.length_cons, parseL]
        cases hr : readR (b :: t) with
        | error e => rfl
        | ok p =>
          obtain ⟨lo, hi, r⟩ := p
          have hlt := (readR_lt hr).2.2.2
          simp at hlt hk
          dsimp only
          rw [ih k (by omega) r _ (by omega)]
          by_cases he : t.length = k + 1
          · omega
          · rw [ih t.length (by omega) r _ (by omega)]
theorem Blk.store0 {w : World} {B : Nat} {s0 : WSet} (h : Blk w B s0) : Blk ((((w.setCell ⟨B, 0, none⟩ (.int .u64 0)).setCell ⟨B, 1, none⟩ (.int .u64 0)).setCell ⟨B, 2, none⟩ (.int .u64 0)).setCell ⟨B, 3, none⟩ (.int .u64 0)) B .empty := h.store .empty
theorem Blk.belowStore0 {w wr : World} {B n : Nat} (hB : Below n w wr) (h : n ≤ B) : Below n w ((((wr.setCell ⟨B, 0, none⟩ (.int .u64 0)).setCell ⟨B, 1, none⟩ (.int .u64 0)).setCell ⟨B, 2, none⟩ (.int .u64 0)).setCell ⟨B, 3, none⟩ (.int .u64 0)) := Blk.belowStore .empty hB h
/-- What byteset.Parse answers. -/
def parseOf (l : List UInt8) : Except Nat WSet := if 1024 < l.length then .error 4 else parseL l.length l .empty
def parseV : Except Nat WSet → Value
  | .error e => .tuple #[WSet.empty.v, .int .i64 e]
  | .ok s => .tuple #[s.v, .int .i64 0]
def strLen : Value → Nat
  | .string s => s.size
  | _ => 0
theorem ba_size (l : List UInt8) : (ByteArray.mk l.toArray).size = l.length := rfl
theorem parseL_step (l : List UInt8) (s : WSet) (lo hi : Nat) (r : List UInt8) (h : readR l = .ok (lo, hi, r)) : parseL l.length l s = parseL r.length r (s.or (spanTo lo (hi + 1 - lo))) := by
  cases l with
  | nil => simp [readR, readB] at h
  | cons b t =>
    have hlt := (readR_lt h).2.2.2
    simp at hlt
    simp only [List.length_cons, parseL, h]
    exact parseL_fuel _ _ _ (by omega)
theorem parseL_err (l : List UInt8) (hl : l ≠ []) (s : WSet) (e : Nat) (h : readR l = .error e) : parseL l.length l s = .error e := by
  cases l with
  | nil => exact (hl rfl).elim
  | cons b t => simp only [List.length_cons, parseL, h]
set_option maxHeartbeats 1000000 in
theorem parse_any (l : List UInt8) (hl : l.length < 9223372036854775807) (w : World) :
    Calls Tryz.prog 135 #[.string ⟨l.toArray⟩] w fun e w' => e = .returned (parseV (parseOf l)) ∧ Below w.heap.size w w' := by
  by_cases hlong : 1024 < l.length
  · have HP : Hid (parseOf l = .error 4) := if_pos hlong
    go_enter Tryz.func135, Tryz.ntmps135
    go_wp2
    refine bodyPost_ret (v := parseV (parseOf l)) (by rw [HP.out]; simp [results, Tryz.results135, go_sem, parseV, WSet.empty]) rfl ⟨rfl, ?_⟩
    go_grown
  · have HP : Hid (parseOf l = parseL l.length l .empty) := if_neg hlong
    have hd0 : decide (1024 < (l.length : Int)) = false := decide_eq_false (by omega)
    go_enter Tryz.func135, Tryz.ntmps135
    go_wp2
    go_loopw [0] (fun v wr => ∃ (l' : List UInt8) (s : WSet), v = .string ⟨l'.toArray⟩ ∧ l'.length ≤ l.length ∧ Blk wr w.heap.size .empty ∧ Blk wr (w.heap.size + 1) s ∧ Below w.heap.size w wr ∧ Hid (parseL l'.length l' s = parseL l.length l .empty))
      (fun v _ => strLen v)
    case atStart =>
      refine ⟨l, .empty, rfl, Nat.le_refl _, (Blk.new0 w).alloc _, ?_, ?_, rfl⟩
      · have := Blk.new0 (w.alloc (.cells #[.int .u64 0, .int .u64 0, .int .u64 0, .int .u64 0] 41))
        rw [World.size_alloc] at this
        exact this
      · go_grown
    case round =>
      obtain ⟨l', s, rfl, hl', h1, h2, hB, HI⟩ := hrel
      by_cases hnil : l' = []
      · subst hnil
        obtain ⟨c0, c1, c2, c3⟩ := h2.cells
        obtain ⟨d0, d1, d2, d3⟩ := h1.cells
        obtain ⟨f0, f1, f2, f3⟩ := h1.frees
        go_wp2
        refine bodyPost_ret ((h1.store s).results2 rfl _ rfl _ rfl) rfl ⟨?_, Blk.belowStore _ hB (Nat.le_refl _)⟩
        rw [HP.out, ← HI.out]
        rfl
      · have hne : (!l'.isEmpty) = true := by simpa using hnil
        have hne' : l'.isEmpty = false := by simpa using hnil
        have HN := Lib.hid hnil
        clear hnil
        cases hr : readR l' with
        | error er =>
          have HR := Lib.hid hr
          clear hr
          have hcode : readR_codes er := readR_err HR.out
          obtain ⟨k1, k2⟩ := hcode
          go_wp2_with fail
          refine (readRun_any l' (by omega) _).mono ?_
          rintro e w1 ⟨rfl, hb1⟩
          rw [HR.out]
          simp only [runV]
          have hz1 : wr.heap.size ≤ w1.heap.size := hb1.size
          have hlt1 := h1.lt
          have a1 : Blk w1 w.heap.size .empty := h1.below hb1 (by omega)
          have aB : Below w.heap.size w w1 := hB.trans (hb1.mono (by omega))
          obtain ⟨d0, d1, d2, d3⟩ := a1.cells
          obtain ⟨f0, f1, f2, f3⟩ := a1.frees
          have hlt2 : w.heap.size < w1.heap.size := by omega
          have hne1 : ((er : Int) != 0) = true := by simp; omega
          go_wp2_with fail
          have b0 := a1.store0.alloc (.cells #[.int .u8 0, .int .u8 0] 129)
          refine bodyPost_ret (b0.results2 rfl _ rfl _ rfl) rfl ⟨?_, ?_⟩
          · rw [HP.out, ← HI.out, parseL_err _ HN.out _ _ HR.out]
            rfl
          · exact (Blk.belowStore0 aB (Nat.le_refl _)).alloc (by simp; omega) _
        | ok p =>
          obtain ⟨lo, hi, r⟩ := p
          obtain ⟨q1, q2, q3, q4⟩ := readR_lt hr
          have HR := Lib.hid hr
          clear hr
          have l2 := h2.lt
          go_wp2_with fail
          refine (readRun_any l' (by omega) _).mono ?_
          rintro e w1 ⟨rfl, hb1⟩
          rw [HR.out]
          simp only [runV]
          have hz1 : wr.heap.size ≤ w1.heap.size := hb1.size
          have a1 : Blk w1 w.heap.size .empty := h1.below hb1 (by omega)
          have a2 : Blk w1 (w.heap.size + 1) s := h2.below hb1 (by omega)
          have aB : Below w.heap.size w w1 := hB.trans (hb1.mono (by omega))
          obtain ⟨c0, c1, c2, c3⟩ := a2.cells
          obtain ⟨f0, f1, f2, f3⟩ := a2.frees
          have l3 : w.heap.size + 1 < w1.heap.size := by omega
          go_wp2_with fail
          go_region_with (first
            | (go_at_call 140; refine (span_any lo hi q1 q2 _).mono ?_; rintro e w5 ⟨rfl, hb5⟩; have hz5 : w1.heap.size < w5.heap.size := (by have := hb5.size; simp at this; omega); have b5 : Blk w5 (w.heap.size + 1) s := Blk.belowAD a2 hb5 (by go_size); obtain ⟨c50, c51, c52, c53⟩ := b5.cells)
            | (go_at_call 43; refine (union2 _ _ _ _ _ _ _ _ _).mono ?_; rintro e w6 ⟨rfl, hb6⟩; have hz6 : w5.heap.size ≤ w6.heap.size := hb6.size; have b6 : Blk w6 (w.heap.size + 1) s := Blk.below b5 hb6 (by go_size); obtain ⟨c60, c61, c62, c63⟩ := b6.cells; obtain ⟨f60, f61, f62, f63⟩ := b6.frees))
          all_goals
            go_wp2
            go_roundw
            case rel =>
              refine ⟨r, s.or (spanTo lo (hi + 1 - lo)), rfl, by omega, ?_, ?_, ?_, ?_⟩
              · have a6 : Blk w6 w.heap.size .empty := Blk.below (Blk.belowAD a1 hb5 (by go_size)) hb6 (by go_size)
                exact (((a6.other _ (by simp) _).other _ (by simp) _).other _ (by simp) _).other _ (by simp) _
              · exact b6.store (s.or (spanTo lo (hi + 1 - lo)))
              · exact Blk.belowStore (s.or (spanTo lo (hi + 1 - lo))) ((((aB.alloc (by omega) _).drew).trans (hb5.mono (by go_size))).trans (hb6.mono (by omega))) (by omega)
              · show _ = _
                rw [← HI.out, parseL_step _ _ _ _ _ HR.out]
            case measure => simp only [strLen, ba_size]; omega
end Go.Proofs.YtdnbnigebejgjaaGreatDoor
