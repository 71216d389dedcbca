/-
  The program's small functions: the first error of two, pairs without a piece, the first pair that is asked for.
-/
import Derived.Test.YtbbphchhdppipaaDoorUProg7
namespace Go.Proofs.YtbbphchhdppipaaDoor
open Go.RowKit
set_option maxRecDepth 100000 in
set_option maxHeartbeats 4000000 in
theorem or2_any (x y : Int) (W : World) :
    Calls Tryd.prog 53 #[.slice (some ⟨W.heap.size, 0, none⟩) 2 2] (W.alloc (.cells #[.int .i64 x, .int .i64 y] 28)) fun e w' => e = .returned (.int .i64 (if x = 0 then y else x)) ∧ w' = W.alloc (.cells #[.int .i64 x, .int .i64 y] 28) := by
  have c0 : (W.alloc (.cells #[.int .i64 x, .int .i64 y] 28)).cell? ⟨W.heap.size, 0, none⟩ = some (.int .i64 x) := by rw [World.cell?_alloc_new]; rfl
  have c1 : (W.alloc (.cells #[.int .i64 x, .int .i64 y] 28)).cell? ⟨W.heap.size, 1, none⟩ = some (.int .i64 y) := by rw [World.cell?_alloc_new]; rfl
  obtain ⟨X, hX⟩ : ∃ X, W.alloc (.cells #[.int .i64 x, .int .i64 y] 28) = X := ⟨_, rfl⟩
  rw [hX] at c0 c1 ⊢
  clear hX
  by_cases hx : x = 0
  · have e0 : (x != 0) = false := by simpa using hx
    rw [if_pos hx]
    by_cases hy : y = 0
    · have e1 : (y != 0) = false := by simpa using hy
      have HY := Lib.hid hy
      clear hx hy
      go_enter Tryd.func53, Tryd.ntmps53
      go_wp2_with fail
      refine wp_loop_rounds 3 ?_
      rw [rounds_succ]
      go_wp2_with fail
      rw [rounds_succ]
      go_wp2_with fail
      rw [rounds_succ]
      go_wp2_with fail
      go_ret
      exact ⟨by rw [HY.out]; rfl, rfl⟩
    · have e1 : (y != 0) = true := by simpa using hy
      clear hx hy
      go_enter Tryd.func53, Tryd.ntmps53
      go_wp2_with fail
      refine wp_loop_rounds 3 ?_
      rw [rounds_succ]
      go_wp2_with fail
      rw [rounds_succ]
      go_wp2_with fail
      go_ret
      exact ⟨rfl, rfl⟩
  · have e0 : (x != 0) = true := by simpa using hx
    rw [if_neg hx]
    clear hx
    go_enter Tryd.func53, Tryd.ntmps53
    go_wp2_with fail
    refine wp_loop_rounds 3 ?_
    rw [rounds_succ]
    go_wp2_with fail
    go_ret
    exact ⟨rfl, rfl⟩
set_option maxRecDepth 100000 in
set_option maxHeartbeats 2000000 in
theorem bad_any (P : Pr) (w : World) :
    Calls Tryd.prog 56 #[.agg #[.string ⟨P.nm.toArray⟩, .string ⟨P.vl.toArray⟩, .bool P.br]] w fun e w' => e = .returned (.bool (badP P)) ∧ Below w.heap.size w w' := by
  obtain ⟨nm, vl, br⟩ := P
  dsimp only
  have hB := (Below.refl _ w).alloc (Nat.le_refl _) (.cells #[.string ⟨nm.toArray⟩, .string ⟨vl.toArray⟩, .bool br] 40)
  obtain ⟨a, ha⟩ : ∃ a, (nm == []) = a := ⟨_, rfl⟩
  obtain ⟨b, hb⟩ : ∃ b, (vl == []) = b := ⟨_, rfl⟩
  have hb2 : (vl != []) = !b := by rw [← hb]; rfl
  have i1 : nm.isEmpty = a := by rw [← ha]; cases nm <;> rfl
  have i2 : vl.isEmpty = b := by rw [← hb]; cases vl <;> rfl
  have HR : Hid (badP ⟨nm, vl, br⟩ = (br && (a || !b))) := Lib.hid (by unfold badP; rw [ha, hb])
  cases br <;> cases a <;> cases b <;>
  · go_enter Tryd.func56, Tryd.ntmps56
    go_wp2_with fail
    go_ret
    exact ⟨by rw [HR.out]; rfl, hB⟩
set_option maxRecDepth 100000 in
set_option maxHeartbeats 2000000 in
theorem name_any (P : Pr) (n : List UInt8) (bn : Nat) (w : World) (hn : CBlk 9 w bn [.string ⟨n.toArray⟩]) :
    Calls Tryd.prog 55 #[.agg #[.string ⟨P.nm.toArray⟩, .string ⟨P.vl.toArray⟩, .bool P.br], .pointer (some ⟨bn, 0, none⟩)] w fun e w' => e = .returned (.bool (P.nm == n)) ∧ Below w.heap.size w w' := by
  obtain ⟨nm, vl, br⟩ := P
  dsimp only
  have hB := (Below.refl _ w).alloc (Nat.le_refl _) (.cells #[.string ⟨nm.toArray⟩, .string ⟨vl.toArray⟩, .bool br] 40)
  have c0 := (hn.alloc (.cells #[.string ⟨nm.toArray⟩, .string ⟨vl.toArray⟩, .bool br] 40)).cell1
  have c1 := hn.cell1
  have hlt := hn.lt
  obtain ⟨a, ha⟩ : ∃ a, (nm == n) = a := ⟨_, rfl⟩
  rw [ha]
  go_enter Tryd.func55, Tryd.ntmps55
  go_wp2_with fail
  go_ret
  exact ⟨rfl, hB⟩
theorem find_no {f : Pr → Bool} {P : Pr} {l : List Pr} (h : f P = false) : (P :: l).find? f = l.find? f := by
  rw [List.find?_cons, h]
theorem find_yes {f : Pr → Bool} {P : Pr} {l : List Pr} (h : f P = true) : (P :: l).find? f = some P := by
  rw [List.find?_cons, h]
/-- A pair and whether there is one. -/
def fstV : Option Pr → Value
  | none => .tuple #[.agg #[.string ⟨#[]⟩, .string ⟨#[]⟩, .bool false], .bool false]
  | some p => .tuple #[.agg #[.string ⟨p.nm.toArray⟩, .string ⟨p.vl.toArray⟩, .bool p.br], .bool true]
theorem res_pair {w : World} {B : Nat} {n v : List UInt8} {b : Bool} (hb : CBlk 40 w B [.string ⟨n.toArray⟩, .string ⟨v.toArray⟩, .bool b]) {fn : Func} {p q : Tmp} (h : fn.results = #[.cell p 40, .tmp q]) (tmps : Array Value)
    (hp : tmps.getD p undef = .pointer (some ⟨B, 0, none⟩)) (v2 : Value) (hq : tmps.getD q undef = v2) : (Go.results fn tmps).run Tryd.prog w = .ok (.tuple #[.agg #[.string ⟨n.toArray⟩, .string ⟨v.toArray⟩, .bool b], v2]) w := by
  have hp' : tmps[p]?.getD undef = .pointer (some ⟨B, 0, none⟩) := by simpa using hp
  have hq' : tmps[q]?.getD undef = v2 := by simpa using hq
  have c0 := hb.cell 0 (by simp)
  have c1 := hb.cell 1 (by simp)
  have c2 := hb.cell 2 (by simp)
  simp [Go.results, h, hp', hq', asAddr, go_sem, c0, c1, c2]
set_option maxRecDepth 100000 in
set_option maxHeartbeats 4000000 in
theorem first_bad (L : List Pr) (hn : L.length < 1000) (p : Option Addr) (c : Nat) (w : World) (hC : PrsIn w p L) :
    Calls Tryd.prog 54 #[.slice p L.length c, .func (.func 56) #[] #[]] w fun e w' => e = .returned (fstV (L.find? badP)) ∧ Below w.heap.size w w' := by
  obtain ⟨R, hR⟩ : ∃ R, L.find? badP = R := ⟨_, rfl⟩
  have H0 : Hid ((L.drop 0).find? badP = R) := Lib.hid hR
  rw [hR]
  clear hR
  have HC := Lib.hid hC
  clear hC
  have r0 : CBlk 40 (w.alloc (.cells #[.string ⟨#[]⟩, .string ⟨#[]⟩, .bool false] 40)) w.heap.size [.string ⟨#[]⟩, .string ⟨#[]⟩, .bool false] := CBlk.new _ w _
  have hB0 := (Below.refl _ w).alloc (Nat.le_refl _) (.cells #[.string ⟨#[]⟩, .string ⟨#[]⟩, .bool false] 40)
  go_enter Tryd.func54, Tryd.ntmps54
  go_wp2_with fail
  go_loopw [11] (fun i wr => ∃ k : Nat, k ≤ L.length ∧ i = .int .i64 k ∧ Hid ((L.drop k).find? badP = R) ∧ CBlk 40 wr w.heap.size [.string ⟨#[]⟩, .string ⟨#[]⟩, .bool false] ∧ Below w.heap.size w wr) (fun i _ => L.length - (intOf i).toNat)
  case atStart => exact ⟨0, by omega, rfl, H0, r0, hB0⟩
  case round =>
  clear r0 hB0
  obtain ⟨k, hk, rfl, hst, r0, hB⟩ := hrel
  by_cases hlt : k < L.length
  · have d1 : decide ((k : Int) < (L.length : Int)) = true := decide_eq_true (by omega)
    have hb2 : (k : Int) < (L.length : Int) := by omega
    obtain ⟨b, off, rfl, hbl, x0, x1, x2⟩ := pr_cells HC.out hB hlt
    have hfd := hst.out
    rw [List.drop_eq_getElem_cons hlt] at hfd
    obtain ⟨P, hP⟩ : ∃ P, L[k] = P := ⟨_, rfl⟩
    rw [hP] at x0 x1 x2 hfd
    clear hP
    obtain ⟨nm, vl, br⟩ := P
    dsimp only at x0 x1 x2
    have p0 : CBlk 40 (wr.alloc (.cells #[.string ⟨nm.toArray⟩, .string ⟨vl.toArray⟩, .bool br] 40)) wr.heap.size [.string ⟨nm.toArray⟩, .string ⟨vl.toArray⟩, .bool br] := CBlk.new _ wr _
    have hBa := hB.alloc hB.size (.cells #[.string ⟨nm.toArray⟩, .string ⟨vl.toArray⟩, .bool br] 40)
    have ra := r0.alloc (.cells #[.string ⟨nm.toArray⟩, .string ⟨vl.toArray⟩, .bool br] 40)
    have HIS : Hid (∀ W, Below w.heap.size w W → Calls Tryd.prog 56 #[.agg #[.string ⟨nm.toArray⟩, .string ⟨vl.toArray⟩, .bool br]] W fun e w' => e = .returned (.bool (badP ⟨nm, vl, br⟩)) ∧ Below W.heap.size W w') := Lib.hid fun W hW => bad_any ⟨nm, vl, br⟩ W
    obtain ⟨r, hr⟩ : ∃ r, badP ⟨nm, vl, br⟩ = r := ⟨_, rfl⟩
    rw [hr] at HIS
    cases r with
    | true =>
      have hres : Hid (R = some ⟨nm, vl, br⟩) := Lib.hid (by rw [← hfd, find_yes hr])
      clear hr hfd hst
      go_wp2_with fail
      refine (HIS.out _ hBa).mono ?_
      rintro e w2 ⟨rfl, hb⟩
      have p2 := p0.below hb p0.lt
      have r2 := ra.below hb ra.lt
      have hB2 := hBa.trans (hb.mono hBa.size)
      have c0 := p2.cell 0 (by simp)
      have c1 := p2.cell 1 (by simp)
      have c2 := p2.cell 2 (by simp)
      have f0 := r2.free 0
      have f1 := r2.free 1
      have f2 := r2.free 2
      have e0 := r2.cell 0 (by simp)
      have e1 := r2.cell 1 (by simp)
      have e2 := r2.cell 2 (by simp)
      have hltw := hB.size
      clear hb p0 ra hBa
      go_wp2_with fail
      have r3 : CBlk 40 (((w2.setCell ⟨w.heap.size, 0, none⟩ (.string ⟨nm.toArray⟩)).setCell ⟨w.heap.size, 1, none⟩ (.string ⟨vl.toArray⟩)).setCell ⟨w.heap.size, 2, none⟩ (.bool br)) w.heap.size [.string ⟨nm.toArray⟩, .string ⟨vl.toArray⟩, .bool br] := ((r2.set 0 _).set 1 _).set 2 _
      have hB3 := ((hB2.setCell (p := ⟨w.heap.size, 0, none⟩) (Nat.le_refl _) (.string ⟨nm.toArray⟩)).setCell (p := ⟨w.heap.size, 1, none⟩) (Nat.le_refl _) (.string ⟨vl.toArray⟩)).setCell (p := ⟨w.heap.size, 2, none⟩) (Nat.le_refl _) (.bool br)
      exact bodyPost_ret (res_pair r3 rfl _ rfl _ rfl) rfl ⟨by rw [hres.out]; rfl, hB3⟩
    | false =>
      have hnext : Hid ((L.drop (k + 1)).find? badP = R) := Lib.hid (by rw [← hfd, find_no hr])
      clear hr hfd hst
      go_wp2_with fail
      refine (HIS.out _ hBa).mono ?_
      rintro e w2 ⟨rfl, hb⟩
      have r2 := ra.below hb ra.lt
      have hB2 := hBa.trans (hb.mono hBa.size)
      clear hb
      go_wp2_with fail
      go_roundw
      case rel => exact ⟨k + 1, by omega, by go_num, hnext, r2, hB2⟩
      case measure => simp [intOf]; omega
  · have d1 : decide ((k : Int) < (L.length : Int)) = false := decide_eq_false (by omega)
    have hres : Hid (R = none) := Lib.hid (by rw [← hst.out, List.drop_of_length_le (by omega)]; rfl)
    have hB9 := hB
    have r9 := r0
    have hltw := hB.size
    have hlr := r0.lt
    have f0 := r0.free 0
    have f1 := r0.free 1
    have f2 := r0.free 2
    have e0 := r0.cell 0 (by simp)
    have e1 := r0.cell 1 (by simp)
    have e2 := r0.cell 2 (by simp)
    clear r0 hB hst
    go_wp2_with fail
    have r3 : CBlk 40 ((((wr.setCell ⟨w.heap.size, 0, none⟩ (.string ⟨#[]⟩)).setCell ⟨w.heap.size, 1, none⟩ (.string ⟨#[]⟩)).setCell ⟨w.heap.size, 2, none⟩ (.bool false)).alloc (.cells #[.string ⟨#[]⟩, .string ⟨#[]⟩, .bool false] 40)) w.heap.size [.string ⟨#[]⟩, .string ⟨#[]⟩, .bool false] := (((r9.set 0 _).set 1 _).set 2 _).alloc _
    have hB3 := (((hB9.setCell (p := ⟨w.heap.size, 0, none⟩) (Nat.le_refl _) (.string ⟨#[]⟩)).setCell (p := ⟨w.heap.size, 1, none⟩) (Nat.le_refl _) (.string ⟨#[]⟩)).setCell (p := ⟨w.heap.size, 2, none⟩) (Nat.le_refl _) (.bool false)).alloc (by simp only [World.size_setCell]; exact hltw) (.cells #[.string ⟨#[]⟩, .string ⟨#[]⟩, .bool false] 40)
    exact bodyPost_ret (res_pair r3 rfl _ rfl _ rfl) rfl ⟨by rw [hres.out]; rfl, hB3⟩
set_option maxRecDepth 100000 in
set_option maxHeartbeats 4000000 in
theorem first_name (n : List UInt8) (bn : Nat) (L : List Pr) (hn : L.length < 1000) (p : Option Addr) (c : Nat) (w : World) (hC : PrsIn w p L) (hnm : CBlk 9 w bn [.string ⟨n.toArray⟩]) :
    Calls Tryd.prog 54 #[.slice p L.length c, .func (.func 55) #[] #[.pointer (some ⟨bn, 0, none⟩)]] w fun e w' => e = .returned (fstV (L.find? (fun p : Pr => p.nm == n))) ∧ Below w.heap.size w w' := by
  obtain ⟨R, hR⟩ : ∃ R, L.find? (fun p : Pr => p.nm == n) = R := ⟨_, rfl⟩
  have H0 : Hid ((L.drop 0).find? (fun p : Pr => p.nm == n) = R) := Lib.hid hR
  rw [hR]
  clear hR
  have HC := Lib.hid hC
  clear hC
  have r0 : CBlk 40 (w.alloc (.cells #[.string ⟨#[]⟩, .string ⟨#[]⟩, .bool false] 40)) w.heap.size [.string ⟨#[]⟩, .string ⟨#[]⟩, .bool false] := CBlk.new _ w _
  have hB0 := (Below.refl _ w).alloc (Nat.le_refl _) (.cells #[.string ⟨#[]⟩, .string ⟨#[]⟩, .bool false] 40)
  go_enter Tryd.func54, Tryd.ntmps54
  go_wp2_with fail
  go_loopw [11] (fun i wr => ∃ k : Nat, k ≤ L.length ∧ i = .int .i64 k ∧ Hid ((L.drop k).find? (fun p : Pr => p.nm == n) = R) ∧ CBlk 40 wr w.heap.size [.string ⟨#[]⟩, .string ⟨#[]⟩, .bool false] ∧ Below w.heap.size w wr) (fun i _ => L.length - (intOf i).toNat)
  case atStart => exact ⟨0, by omega, rfl, H0, r0, hB0⟩
  case round =>
  clear r0 hB0
  obtain ⟨k, hk, rfl, hst, r0, hB⟩ := hrel
  by_cases hlt : k < L.length
  · have d1 : decide ((k : Int) < (L.length : Int)) = true := decide_eq_true (by omega)
    have hb2 : (k : Int) < (L.length : Int) := by omega
    obtain ⟨b, off, rfl, hbl, x0, x1, x2⟩ := pr_cells HC.out hB hlt
    have hfd := hst.out
    rw [List.drop_eq_getElem_cons hlt] at hfd
    obtain ⟨P, hP⟩ : ∃ P, L[k] = P := ⟨_, rfl⟩
    rw [hP] at x0 x1 x2 hfd
    clear hP
    obtain ⟨nm, vl, br⟩ := P
    dsimp only at x0 x1 x2
    have p0 : CBlk 40 (wr.alloc (.cells #[.string ⟨nm.toArray⟩, .string ⟨vl.toArray⟩, .bool br] 40)) wr.heap.size [.string ⟨nm.toArray⟩, .string ⟨vl.toArray⟩, .bool br] := CBlk.new _ wr _
    have hBa := hB.alloc hB.size (.cells #[.string ⟨nm.toArray⟩, .string ⟨vl.toArray⟩, .bool br] 40)
    have ra := r0.alloc (.cells #[.string ⟨nm.toArray⟩, .string ⟨vl.toArray⟩, .bool br] 40)
    have HIS : Hid (∀ W, Below w.heap.size w W → Calls Tryd.prog 55 #[.agg #[.string ⟨nm.toArray⟩, .string ⟨vl.toArray⟩, .bool br], .pointer (some ⟨bn, 0, none⟩)] W fun e w' => e = .returned (.bool ((fun p : Pr => p.nm == n) ⟨nm, vl, br⟩)) ∧ Below W.heap.size W w') := Lib.hid fun W hW => name_any ⟨nm, vl, br⟩ n bn W (hnm.below hW hnm.lt)
    obtain ⟨r, hr⟩ : ∃ r, (fun p : Pr => p.nm == n) ⟨nm, vl, br⟩ = r := ⟨_, rfl⟩
    rw [hr] at HIS
    cases r with
    | true =>
      have hres : Hid (R = some ⟨nm, vl, br⟩) := Lib.hid (by rw [← hfd, find_yes hr])
      clear hr hfd hst
      go_wp2_with fail
      refine (HIS.out _ hBa).mono ?_
      rintro e w2 ⟨rfl, hb⟩
      have p2 := p0.below hb p0.lt
      have r2 := ra.below hb ra.lt
      have hB2 := hBa.trans (hb.mono hBa.size)
      have c0 := p2.cell 0 (by simp)
      have c1 := p2.cell 1 (by simp)
      have c2 := p2.cell 2 (by simp)
      have f0 := r2.free 0
      have f1 := r2.free 1
      have f2 := r2.free 2
      have e0 := r2.cell 0 (by simp)
      have e1 := r2.cell 1 (by simp)
      have e2 := r2.cell 2 (by simp)
      have hltw := hB.size
      clear hb p0 ra hBa
      go_wp2_with fail
      have r3 : CBlk 40 (((w2.setCell ⟨w.heap.size, 0, none⟩ (.string ⟨nm.toArray⟩)).setCell ⟨w.heap.size, 1, none⟩ (.string ⟨vl.toArray⟩)).setCell ⟨w.heap.size, 2, none⟩ (.bool br)) w.heap.size [.string ⟨nm.toArray⟩, .string ⟨vl.toArray⟩, .bool br] := ((r2.set 0 _).set 1 _).set 2 _
      have hB3 := ((hB2.setCell (p := ⟨w.heap.size, 0, none⟩) (Nat.le_refl _) (.string ⟨nm.toArray⟩)).setCell (p := ⟨w.heap.size, 1, none⟩) (Nat.le_refl _) (.string ⟨vl.toArray⟩)).setCell (p := ⟨w.heap.size, 2, none⟩) (Nat.le_refl _) (.bool br)
      exact bodyPost_ret (res_pair r3 rfl _ rfl _ rfl) rfl ⟨by rw [hres.out]; rfl, hB3⟩
    | false =>
      have hnext : Hid ((L.drop (k + 1)).find? (fun p : Pr => p.nm == n) = R) := Lib.hid (by rw [← hfd, find_no hr])
      clear hr hfd hst
      go_wp2_with fail
      refine (HIS.out _ hBa).mono ?_
      rintro e w2 ⟨rfl, hb⟩
      have r2 := ra.below hb ra.lt
      have hB2 := hBa.trans (hb.mono hBa.size)
      clear hb
      go_wp2_with fail
      go_roundw
      case rel => exact ⟨k + 1, by omega, by go_num, hnext, r2, hB2⟩
      case measure => simp [intOf]; omega
  · have d1 : decide ((k : Int) < (L.length : Int)) = false := decide_eq_false (by omega)
    have hres : Hid (R = none) := Lib.hid (by rw [← hst.out, List.drop_of_length_le (by omega)]; rfl)
    have hB9 := hB
    have r9 := r0
    have hltw := hB.size
    have hlr := r0.lt
    have f0 := r0.free 0
    have f1 := r0.free 1
    have f2 := r0.free 2
    have e0 := r0.cell 0 (by simp)
    have e1 := r0.cell 1 (by simp)
    have e2 := r0.cell 2 (by simp)
    clear r0 hB hst
    go_wp2_with fail
    have r3 : CBlk 40 ((((wr.setCell ⟨w.heap.size, 0, none⟩ (.string ⟨#[]⟩)).setCell ⟨w.heap.size, 1, none⟩ (.string ⟨#[]⟩)).setCell ⟨w.heap.size, 2, none⟩ (.bool false)).alloc (.cells #[.string ⟨#[]⟩, .string ⟨#[]⟩, .bool false] 40)) w.heap.size [.string ⟨#[]⟩, .string ⟨#[]⟩, .bool false] := (((r9.set 0 _).set 1 _).set 2 _).alloc _
    have hB3 := (((hB9.setCell (p := ⟨w.heap.size, 0, none⟩) (Nat.le_refl _) (.string ⟨#[]⟩)).setCell (p := ⟨w.heap.size, 1, none⟩) (Nat.le_refl _) (.string ⟨#[]⟩)).setCell (p := ⟨w.heap.size, 2, none⟩) (Nat.le_refl _) (.bool false)).alloc (by simp only [World.size_setCell]; exact hltw) (.cells #[.string ⟨#[]⟩, .string ⟨#[]⟩, .bool false] 40)
    exact bodyPost_ret (res_pair r3 rfl _ rfl _ rfl) rfl ⟨by rw [hres.out]; rfl, hB3⟩
end Go.Proofs.YtbbphchhdppipaaDoor
