/-
  A reading goes through checks until one fails, for any list of checks that have contracts.
  What is read of a target by the program, its Split, Parse and Why. The targets are shorter than 30000 bytes.
-/
import Derived.Test.YtjinedeelkdgiaaDoorHQ1
import Derived.Test.YtjinedeelkdgiaaDoorHRef4
namespace Go.Proofs.YtjinedeelkdgiaaDoor
open Go.RowKit
abbrev PQ := List UInt8 × List UInt8
/-- What comes of a reading behind the check k, m checks being left. -/
def thrR (ss : Nat → PQ → Nat × PQ) : Nat → Nat → PQ → Nat × PQ
  | 0, _, x => (0, x)
  | m + 1, k, x => if (ss k x).1 = 0 then thrR ss m (k + 1) (ss k x).2 else ((ss k x).1, ([], []))
def resW (r : Nat × PQ) : Value := .agg #[.string ⟨r.2.1.toArray⟩, .string ⟨r.2.2.toArray⟩, .int .i64 (vdE r.1 : Int), .int .i64 (vdS r.1 : Int)]
theorem vdE_ne {v : Nat} (h : v ≠ 0) : vdE v ≠ 0 := by
  match v, h with
  | 1, _ => decide
  | 2, _ => decide
  | 3, _ => decide
  | n + 4, _ => simp [vdE]
/-- Memory of through: the reading and the result. -/
structure TM (w X : World) (p q t : List UInt8) (n : Int) : Prop where
  rd : RdB X w.heap.size p q t n
  rb : CBlk 57 X (w.heap.size + 1) [.string ⟨#[]⟩, .string ⟨#[]⟩, .int .i64 0, .int .i64 0]
  be : Below w.heap.size w X
theorem TM.step {w X Y : World} {p q t p' q' : List UInt8} {n : Int} (h : TM w X p q t n) (hr : RdB Y w.heap.size p' q' t n) (hg : X.grownBy Y (some w.heap.size)) : TM w Y p' q' t n :=
  ⟨hr, h.rb.kept hg (fun e => by injection e; omega), below_grown h.be h.be.size hg (fun r e => by injection e; omega)⟩
theorem TM.alloc {w X : World} {p q t : List UInt8} {n : Int} (h : TM w X p q t n) (o : Obj) : TM w (X.alloc o) p q t n :=
  ⟨h.rd.below (below_new X o) h.rd.lt, h.rb.alloc o, h.be.alloc h.be.size o⟩
theorem r_result {w : World} {B : Nat} {a b c d : Value} (h1 : CBlk 57 w B [a, b, c, d]) {fn : Func} {p : Tmp} (h : fn.results = #[.cell p 57]) (tmps : Array Value)
    (hp : tmps.getD p undef = .pointer (some ⟨B, 0, none⟩)) : (Go.results fn tmps).run Tryd.prog w = .ok (.agg #[a, b, c, d]) w := by
  have hp' : tmps[p]?.getD undef = .pointer (some ⟨B, 0, none⟩) := by simpa using hp
  have c0 := h1.cell 0 (by simp)
  have c1 := h1.cell 1 (by simp)
  have c2 := h1.cell 2 (by simp)
  have c3 := h1.cell 3 (by simp)
  simp only [List.getElem_cons_zero, List.getElem_cons_succ] at c0 c1 c2 c3
  simp [Go.results, h, hp', asAddr, go_sem, c0, c1, c2, c3]
theorem rstore4 {t : TypeId} {w : World} {B : Nat} {a b c d : Value} (h : CBlk t w B [a, b, c, d]) (x y z u : Value) : CBlk t ((((w.setCell ⟨B, 0, none⟩ x).setCell ⟨B, 1, none⟩ y).setCell ⟨B, 2, none⟩ z).setCell ⟨B, 3, none⟩ u) B [x, y, z, u] := (((h.set 0 x).set 1 y).set 2 z).set 3 u
theorem rbelow4 {n : Nat} {w W : World} {B : Nat} (hB : Below n w W) (h : n ≤ B) (x y z u : Value) : Below n w ((((W.setCell ⟨B, 0, none⟩ x).setCell ⟨B, 1, none⟩ y).setCell ⟨B, 2, none⟩ z).setCell ⟨B, 3, none⟩ u) :=
  (((hB.setCell (p := ⟨B, 0, none⟩) h x).setCell (p := ⟨B, 1, none⟩) h y).setCell (p := ⟨B, 2, none⟩) h z).setCell (p := ⟨B, 3, none⟩) h u
theorem rcells4 {t : TypeId} {w : World} {B : Nat} {a b c d : Value} (h : CBlk t w B [a, b, c, d]) : w.cell? ⟨B, 0, none⟩ = some a ∧ w.cell? ⟨B, 1, none⟩ = some b ∧ w.cell? ⟨B, 2, none⟩ = some c ∧ w.cell? ⟨B, 3, none⟩ = some d := ⟨h.cell 0 (by simp), h.cell 1 (by simp), h.cell 2 (by simp), h.cell 3 (by simp)⟩
theorem rfrees4 {t : TypeId} {w : World} {B : Nat} {cs : List Value} (h : CBlk t w B cs) : w.frozen? ⟨B, 0, none⟩ = false ∧ w.frozen? ⟨B, 1, none⟩ = false ∧ w.frozen? ⟨B, 2, none⟩ = false ∧ w.frozen? ⟨B, 3, none⟩ = false := ⟨h.free 0, h.free 1, h.free 2, h.free 3⟩
set_option maxRecDepth 100000 in
set_option maxHeartbeats 8000000 in
theorem through_any (t : List UInt8) (n : Int) (m : Nat) (hm : m < 100) (fs : Nat → FuncId) (ss : Nat → PQ → Nat × PQ) (I : Nat → PQ → Prop)
    (hc : ∀ k, k < m → ∀ p q, I k (p, q) → ∀ W B, RdB W B p q t n → VT W → Calls Tryd.prog (fs k) #[.pointer (some ⟨B, 0, none⟩)] W fun e w' => e = .returned (vdW (ss k (p, q)).1) ∧ RdB w' B (ss k (p, q)).2.1 (ss k (p, q)).2.2 t n ∧ W.grownBy w' (some B))
    (hI : ∀ k, k < m → ∀ x, I k x → I (k + 1) (ss k x).2)
    (hen : ∀ k, k < m → ∀ args w, (callFunc (fs k) args).run Tryd.prog w = .ok (.enter (fs k) args) w)
    (p0 q0 : List UInt8) (h0 : I 0 (p0, q0)) (w : World) (hV : VT w) (P : Nat) (hP : P < w.heap.size) (hcell : ∀ k, k < m → w.cell? ⟨P, k, none⟩ = some (.func (.func (fs k)) #[] #[])) :
    Calls Tryd.prog 29 #[.agg #[.string ⟨p0.toArray⟩, .string ⟨q0.toArray⟩, .string ⟨t.toArray⟩, .int .i64 n], .slice (some ⟨P, 0, none⟩) m m] w fun e w' => e = .returned (resW (thrR ss m 0 (p0, q0))) ∧ Below w.heap.size w w' := by
  have HC := Lib.hid hc
  have HI := Lib.hid hI
  have HE := Lib.hid hen
  have HL := Lib.hid hcell
  have HT0 : TM w ((w.alloc (.cells #[.string ⟨p0.toArray⟩, .string ⟨q0.toArray⟩, .string ⟨t.toArray⟩, .int .i64 n] 60)).alloc (.cells #[.string ⟨#[]⟩, .string ⟨#[]⟩, .int .i64 0, .int .i64 0] 57)) p0 q0 t n := by
    have a := CBlk.new 57 (w.alloc (.cells #[.string ⟨p0.toArray⟩, .string ⟨q0.toArray⟩, .string ⟨t.toArray⟩, .int .i64 n] 60)) [.string ⟨#[]⟩, .string ⟨#[]⟩, .int .i64 0, .int .i64 0]
    rw [World.size_alloc] at a
    exact ⟨CBlk.alloc (CBlk.new _ w _) _, a, ((Below.refl _ w).alloc (Nat.le_refl _) _).alloc (by simp) _⟩
  obtain ⟨R, hR⟩ : ∃ R, thrR ss m 0 (p0, q0) = R := ⟨_, rfl⟩
  rw [hR]
  have HR0 := Lib.hid hR
  clear hc hI hen hcell hR
  go_enter Tryd.func29, Tryd.ntmps29
  go_upto_region 1 with fail
  obtain ⟨X, hX⟩ : ∃ X, (w.alloc (.cells #[.string ⟨p0.toArray⟩, .string ⟨q0.toArray⟩, .string ⟨t.toArray⟩, .int .i64 n] 60)).alloc (.cells #[.string ⟨#[]⟩, .string ⟨#[]⟩, .int .i64 0, .int .i64 0] 57) = X := ⟨_, rfl⟩
  rw [hX] at HT0 ⊢
  clear hX
  obtain ⟨N, hN⟩ : ∃ N, w.heap.size + 1 = N := ⟨_, rfl⟩
  have hN' := Lib.hid hN
  rw [hN]
  go_wp2_with fail
  go_loopw [6, 7, 10] (fun _ _ i wr => ∃ (k : Nat) (p q : List UInt8), k ≤ m ∧ i = .int .i64 (k : Int) ∧ Hid (thrR ss (m - k) k (p, q) = R) ∧ Hid (I k (p, q)) ∧ TM w wr p q t n)
    (fun _ _ i _ => m - (intOf i).toNat)
  case atStart => exact ⟨0, p0, q0, Nat.zero_le _, rfl, HR0, Lib.hid h0, HT0⟩
  case round =>
    obtain ⟨k, p, q, hk, rfl, hr, hi, hM⟩ := hrel
    clear HT0 HR0 hN
    by_cases hlt : k < m
    · have g1 : decide ((k : Int) < (m : Int)) = true := decide_eq_true (by omega)
      have g3 : IntKind.i64.wrap ((k : Int) + 1) = ((k + 1 : Nat) : Int) := (IntWalk.i64_in _ (by omega)).trans (by omega)
      have hfc := (hM.be.cell (p := ⟨P, k, none⟩) hP).trans (HL.out k hlt)
      have hen := HE.out k hlt
      have hcall := Lib.hid (HC.out k hlt p q hi.out wr w.heap.size hM.rd (hV.below hM.be))
      obtain ⟨F, hF⟩ : ∃ F, fs k = F := ⟨_, rfl⟩
      rw [hF] at hfc hen hcall
      have hnext := Lib.hid (HI.out k hlt (p, q) hi.out)
      have hthr : Hid (thrR ss (m - k) k (p, q) = if (ss k (p, q)).1 = 0 then thrR ss (m - (k + 1)) (k + 1) (ss k (p, q)).2 else ((ss k (p, q)).1, ([], []))) := Lib.hid (by
        obtain ⟨d, hd⟩ : ∃ d, m - k = d + 1 := ⟨m - k - 1, by omega⟩
        rw [hd, show m - (k + 1) = d by omega]; rfl)
      rw [hr.out] at hthr
      obtain ⟨⟨v, p', q'⟩, hs⟩ : ∃ s, ss k (p, q) = s := ⟨_, rfl⟩
      rw [hs] at hcall hnext hthr
      dsimp only at hcall hnext hthr
      clear hF hs hr hi
      by_cases hv : v = 0
      · subst hv
        have hthr2 : Hid (thrR ss (m - (k + 1)) (k + 1) (p', q') = R) := Lib.hid (by have := hthr.out; simpa using this.symm)
        have HV : Hid (vdW 0 = .agg #[.int .i64 0, .int .i64 200]) := Lib.hid rfl
        rw [HV.out] at hcall
        clear hthr
        go_wp2_with fail
        refine hcall.out.mono ?_
        rintro e w5 ⟨rfl, hr5, hg5⟩
        have hM5 := (hM.step hr5 hg5).alloc (.cells #[.int .i64 0, .int .i64 200] 55)
        have hv5 := hV.below hM5.be
        have hvb := CBlk.new 55 w5 [.int .i64 0, .int .i64 200]
        clear hM hcall hfc hen hr5 hg5
        go_upto_region 5 with fail
        obtain ⟨Y, hY⟩ : ∃ Y, w5.alloc (.cells #[.int .i64 0, .int .i64 200] 55) = Y := ⟨_, rfl⟩
        have hvb : CBlk 55 Y w5.heap.size [.int .i64 0, .int .i64 200] := by rw [← hY]; exact hvb
        rw [hY] at hM5 hv5 ⊢
        clear hY
        obtain ⟨e0, e1⟩ := vcells2 hvb
        obtain ⟨v0, v1, v2, v3, v4, v5, v6, v7, v8, v9⟩ := hv5.at
        go_wp2_with fail
        go_roundw
        case rel => exact ⟨k + 1, p', q', by omega, by go_num, hthr2, hnext, hM5⟩
        case measure => simp [intOf]; omega
      · have hthr2 : Hid (R = (v, ([], []))) := Lib.hid (by rw [hthr.out, if_neg hv])
        have hE := vdE_ne hv
        obtain ⟨x, hx⟩ : ∃ x, vdE v = x := ⟨_, rfl⟩
        obtain ⟨y, hy⟩ : ∃ y, vdS v = y := ⟨_, rfl⟩
        have HRES : Hid (resW R = .agg #[.string ⟨#[]⟩, .string ⟨#[]⟩, .int .i64 (x : Int), .int .i64 (y : Int)]) := Lib.hid (by rw [hthr2.out]; unfold resW; dsimp only; rw [hx, hy])
        have HV : Hid (vdW v = .agg #[.int .i64 (x : Int), .int .i64 (y : Int)]) := Lib.hid (by unfold vdW; rw [hx, hy])
        rw [HV.out] at hcall
        have e1 : ((x : Int) == 0) = false := by rw [beq_eq_false_iff_ne]; omega
        have e2 : ((x : Int) != 0) = true := by rw [bne_iff_ne]; omega
        clear hthr hthr2 hnext hx hy hE hv HC HI HE HL
        go_wp2_with fail
        refine hcall.out.mono ?_
        rintro e w5 ⟨rfl, hr5, hg5⟩
        have hM5 := (hM.step hr5 hg5).alloc (.cells #[.int .i64 (x : Int), .int .i64 (y : Int)] 55)
        have hv5 := hV.below hM5.be
        have hvb := CBlk.new 55 w5 [.int .i64 (x : Int), .int .i64 (y : Int)]
        clear hM hcall hfc hen hr5 hg5
        go_upto_region 5 with fail
        obtain ⟨Y, hY⟩ : ∃ Y, w5.alloc (.cells #[.int .i64 (x : Int), .int .i64 (y : Int)] 55) = Y := ⟨_, rfl⟩
        have hvb : CBlk 55 Y w5.heap.size [.int .i64 (x : Int), .int .i64 (y : Int)] := by rw [← hY]; exact hvb
        rw [hY] at hM5 hv5 ⊢
        clear hY
        have hrb := hM5.rb
        rw [hN'.out] at hrb
        obtain ⟨e0, e1'⟩ := vcells2 hvb
        obtain ⟨v0, v1, v2, v3, v4, v5, v6, v7, v8, v9⟩ := hv5.at
        obtain ⟨r0, r1, r2, r3⟩ := rcells4 hrb
        obtain ⟨f0, f1, f2, f3⟩ := rfrees4 hrb
        go_wp2_with fail
        exact bodyPost_ret (r_result (rstore4 hrb _ _ _ _) rfl _ rfl) rfl ⟨by rw [HRES.out], rbelow4 hM5.be (by have := hN'.out; omega) _ _ _ _⟩
    · obtain rfl : k = m := by omega
      have g1 : decide ((k : Int) < (k : Int)) = false := decide_eq_false (by omega)
      have HRES : Hid (resW R = .agg #[.string ⟨p.toArray⟩, .string ⟨q.toArray⟩, .int .i64 0, .int .i64 200]) := Lib.hid (by rw [← hr.out, Nat.sub_self]; rfl)
      have hv5 := hV.below hM.be
      have hrb := hM.rb
      rw [hN'.out] at hrb
      obtain ⟨c0, c1, c2, c3⟩ := hM.rd.cells
      obtain ⟨v0, v1, v2, v3, v4, v5, v6, v7, v8, v9⟩ := hv5.at
      obtain ⟨r0, r1, r2, r3⟩ := rcells4 hrb
      obtain ⟨f0, f1, f2, f3⟩ := rfrees4 hrb
      go_wp2_with fail
      exact bodyPost_ret (r_result (rstore4 hrb _ _ _ _) rfl _ rfl) rfl ⟨by rw [HRES.out], rbelow4 hM.be (by have := hN'.out; omega) _ _ _ _⟩
end Go.Proofs.YtjinedeelkdgiaaDoor
namespace Go.Proofs.YtjinedeelkdgiaaDoor
open Go.RowKit
set_option maxRecDepth 100000 in
set_option maxHeartbeats 4000000 in
theorem or2_any (x y : Int) (W : World) :
    Calls Tryd.prog 43 #[.slice (some ⟨W.heap.size, 0, none⟩) 2 2] (W.alloc (.cells #[.int .i64 x, .int .i64 y] 23)) fun e w' => e = .returned (.int .i64 (if x = 0 then y else x)) ∧ w' = W.alloc (.cells #[.int .i64 x, .int .i64 y] 23) := by
  have c0 : (W.alloc (.cells #[.int .i64 x, .int .i64 y] 23)).cell? ⟨W.heap.size, 0, none⟩ = some (.int .i64 x) := by rw [World.cell?_alloc_new]; rfl
  have c1 : (W.alloc (.cells #[.int .i64 x, .int .i64 y] 23)).cell? ⟨W.heap.size, 1, none⟩ = some (.int .i64 y) := by rw [World.cell?_alloc_new]; rfl
  obtain ⟨X, hX⟩ : ∃ X, W.alloc (.cells #[.int .i64 x, .int .i64 y] 23) = X := ⟨_, rfl⟩
  rw [hX] at c0 c1 ⊢
  clear hX
  by_cases hx : x = 0
  · have e0 : (x != 0) = false := by simpa using hx
    rw [if_pos hx]
    by_cases hy : y = 0
    · have e1 : (y != 0) = false := by simpa using hy
      have HY := Lib.hid hy
      clear hx hy
      go_enter Tryd.func43, Tryd.ntmps43
      go_wp2_with fail
      refine wp_loop_rounds 3 ?_
      rw [rounds_succ]
      go_wp2_with fail
      rw [rounds_succ]
      go_wp2_with fail
      rw [rounds_succ]
      go_wp2_with fail
      go_ret
      exact ⟨by rw [HY.out]; rfl, rfl⟩
    · have e1 : (y != 0) = true := by simpa using hy
      clear hx hy
      go_enter Tryd.func43, Tryd.ntmps43
      go_wp2_with fail
      refine wp_loop_rounds 3 ?_
      rw [rounds_succ]
      go_wp2_with fail
      rw [rounds_succ]
      go_wp2_with fail
      go_ret
      exact ⟨rfl, rfl⟩
  · have e0 : (x != 0) = true := by simpa using hx
    rw [if_neg hx]
    clear hx
    go_enter Tryd.func43, Tryd.ntmps43
    go_wp2_with fail
    refine wp_loop_rounds 3 ?_
    rw [rounds_succ]
    go_wp2_with fail
    go_ret
    exact ⟨rfl, rfl⟩

/-- The checks of read, one by one. -/
def fsR : Nat → FuncId
  | 0 => 57
  | 1 => 30
  | 2 => 31
  | 3 => 58
  | 4 => 59
  | _ => 60
def s0 (n : Int) (x : PQ) : Nat × PQ := (if n < 1 ∨ 128 < n then 1 else 0, x)
def s1 (t : List UInt8) (x : PQ) : Nat × PQ := (if 1024 < t.length then 2 else 0, x)
def s2 (t : List UInt8) (x : PQ) : Nat × PQ := (if tgtB t then 0 else 3, (if tgtB t then rawL t else x.1, if tgtB t then qL t else x.2))
def s3 (x : PQ) : Nat × PQ := ((decS x.1).1, ((decS x.1).2, x.2))
def s4 (x : PQ) : Nat × PQ := ((clnS x.1).1, ((clnS x.1).2, x.2))
def s5 (n : Int) (x : PQ) : Nat × PQ := (if n < x.1.length ∨ 128 < x.2.length then 2 else 0, x)
def ssR (t : List UInt8) (n : Int) : Nat → PQ → Nat × PQ
  | 0 => s0 n
  | 1 => s1 t
  | 2 => s2 t
  | 3 => s3
  | 4 => s4
  | _ => s5 n
def lenI (t : List UInt8) (k : Nat) (x : PQ) : Prop := x.1.length ≤ t.length + (if k ≤ 4 then 0 else 1) ∧ x.2.length ≤ t.length
theorem dec_s {p : List UInt8} : (decS p).2.length ≤ p.length := by
  unfold decS
  cases hd : decL p 0 with
  | error j => exact Nat.le_refl _
  | ok t =>
    dsimp only
    split
    · exact dec_len p.length p 0 t (Nat.le_refl _) hd
    · exact Nat.le_refl _
theorem cln_s {p : List UInt8} : (clnS p).2.length ≤ p.length + 1 := by
  unfold clnS
  cases hc : cleanR p with
  | inl j => exact Nat.le_succ _
  | inr t => exact cleanR_len hc
theorem len_step (t : List UInt8) (n : Int) (k : Nat) (x : PQ) (h : lenI t k x) : lenI t (k + 1) (ssR t n k x).2 := by
  obtain ⟨h1, h2⟩ := h
  obtain ⟨a, b⟩ := cut_len t
  match k with
  | 0 => exact ⟨h1, h2⟩
  | 1 => exact ⟨h1, h2⟩
  | 2 =>
    refine ⟨?_, ?_⟩
    · show (if tgtB t then rawL t else x.1).length ≤ t.length + 0
      split
      · exact a
      · exact h1
    · show (if tgtB t then qL t else x.2).length ≤ t.length
      split
      · exact b
      · exact h2
  | 3 => exact ⟨Nat.le_trans dec_s h1, h2⟩
  | 4 =>
    refine ⟨?_, h2⟩
    have h1 : x.1.length ≤ t.length + 0 := h1
    have := cln_s (p := x.1)
    show (clnS x.1).2.length ≤ t.length + 1
    omega
  | k + 5 =>
    refine ⟨?_, h2⟩
    have h1 : x.1.length ≤ t.length + (if k + 5 ≤ 4 then 0 else 1) := h1
    rw [if_neg (by omega)] at h1
    show x.1.length ≤ t.length + (if k + 5 + 1 ≤ 4 then 0 else 1)
    rw [if_neg (by omega)]
    exact h1
theorem fs_enters (k : Nat) : ∀ args w, (callFunc (fsR k) args).run Tryd.prog w = .ok (.enter (fsR k) args) w := by
  match k with
  | 0 => exact enters_of Tryd.func57 (by kernel_rfl) rfl
  | 1 => exact enters_of Tryd.func30 (by kernel_rfl) rfl
  | 2 => exact enters_of Tryd.func31 (by kernel_rfl) rfl
  | 3 => exact enters_of Tryd.func58 (by kernel_rfl) rfl
  | 4 => exact enters_of Tryd.func59 (by kernel_rfl) rfl
  | k + 5 => exact enters_of Tryd.func60 (by kernel_rfl) rfl
theorem fs_calls (t : List UInt8) (ht : t.length < 30000) (n : Int) (k : Nat) (p q : List UInt8) (hI : lenI t k (p, q)) (W : World) (B : Nat) (h : RdB W B p q t n) (hV : VT W) :
    Calls Tryd.prog (fsR k) #[.pointer (some ⟨B, 0, none⟩)] W fun e w' => e = .returned (vdW (ssR t n k (p, q)).1) ∧ RdB w' B (ssR t n k (p, q)).2.1 (ssR t n k (p, q)).2.2 t n ∧ W.grownBy w' (some B) := by
  obtain ⟨h1, h2⟩ := hI
  dsimp only at h1 h2
  have hp : p.length < 40000 := by split at h1 <;> omega
  match k with
  | 0 => exact (checkLimit_any p q t n W B h hV).mono fun e w' ⟨a, b⟩ => ⟨a, h.below b h.lt, grown_of b⟩
  | 1 => exact (checkLength_any p q t n W B h hV).mono fun e w' ⟨a, b⟩ => ⟨a, h.below b h.lt, grown_of b⟩
  | 2 => exact divide_any p q t (by omega) n W B h hV
  | 3 => exact tdecode_any p q t (by omega) n W B h hV
  | 4 => exact tclean_any p q t (by omega) n W B h hV
  | k + 5 => exact (checkParts_any p q t n W B h hV).mono fun e w' ⟨a, b⟩ => ⟨a, h.below b h.lt, grown_of b⟩
def rdV : (Nat × Nat) ⊕ PQ → Value
  | .inl e => .agg #[.string ⟨#[]⟩, .string ⟨#[]⟩, .int .i64 (e.1 : Int), .int .i64 (e.2 : Int)]
  | .inr r => .agg #[.string ⟨r.1.toArray⟩, .string ⟨r.2.toArray⟩, .int .i64 0, .int .i64 200]
theorem thr_no {ss : Nat → PQ → Nat × PQ} {m k v : Nat} {x y : PQ} (h : ss k x = (v, y)) (hv : v ≠ 0) : thrR ss (m + 1) k x = (v, ([], [])) := by
  rw [thrR, h, if_neg hv]
theorem thr_go {ss : Nat → PQ → Nat × PQ} {m k : Nat} {x y : PQ} (h : ss k x = (0, y)) : thrR ss (m + 1) k x = thrR ss m (k + 1) y := by
  rw [thrR, h, if_pos rfl]
theorem thr_read (t : List UInt8) (n : Int) : resW (thrR (ssR t n) 6 0 ([], [])) = rdV (rdR t n) := by
  unfold rdR
  by_cases h1 : n < 1 ∨ 128 < n
  · have e : ssR t n 0 ([], []) = (1, ([], [])) := by show s0 n _ = _; unfold s0; rw [if_pos h1]
    rw [if_pos h1, thr_no e (by decide)]; rfl
  have e0 : ssR t n 0 ([], []) = (0, ([], [])) := by show s0 n _ = _; unfold s0; rw [if_neg h1]
  rw [if_neg h1, thr_go e0]
  by_cases h2 : 1024 < t.length
  · have e : ssR t n 1 ([], []) = (2, ([], [])) := by show s1 t _ = _; unfold s1; rw [if_pos h2]
    rw [if_pos h2, thr_no e (by decide)]; rfl
  have e1 : ssR t n 1 ([], []) = (0, ([], [])) := by show s1 t _ = _; unfold s1; rw [if_neg h2]
  rw [if_neg h2, thr_go e1]
  cases h3 : tgtB t
  · have e : ssR t n 2 ([], []) = (3, ([], [])) := by show s2 t _ = _; unfold s2; rw [h3]; rfl
    rw [thr_no e (by decide)]; rfl
  have e2 : ssR t n 2 ([], []) = (0, (rawL t, qL t)) := by show s2 t _ = _; unfold s2; rw [h3]; rfl
  rw [if_pos rfl, thr_go e2]
  unfold midR
  cases hd : decL (rawL t) 0 with
  | error j =>
    have e : ssR t n 3 (rawL t, qL t) = (3, (rawL t, qL t)) := by show s3 _ = _; unfold s3 decS; dsimp only; rw [hd]
    rw [thr_no e (by decide)]; rfl
  | ok u =>
    dsimp only
    cases hs : safeB u
    · have e : ssR t n 3 (rawL t, qL t) = (3, (rawL t, qL t)) := by show s3 _ = _; unfold s3 decS; dsimp only; rw [hd]; dsimp only; rw [hs]; rfl
      rw [thr_no e (by decide)]; rfl
    have e3 : ssR t n 3 (rawL t, qL t) = (0, (u, qL t)) := by show s3 _ = _; unfold s3 decS; dsimp only; rw [hd]; dsimp only; rw [hs]; rfl
    rw [if_pos rfl, thr_go e3]
    unfold clnR
    cases hc : cleanR u with
    | inl j =>
      have e : ssR t n 4 (u, qL t) = (4, (u, qL t)) := by show s4 _ = _; unfold s4 clnS; dsimp only; rw [hc]
      rw [thr_no e (by decide)]; rfl
    | inr p =>
      have e4 : ssR t n 4 (u, qL t) = (0, (p, qL t)) := by show s4 _ = _; unfold s4 clnS; dsimp only; rw [hc]
      rw [thr_go e4]
      dsimp only
      unfold endR
      by_cases h4 : n < p.length ∨ 128 < (qL t).length
      · have e : ssR t n 5 (p, qL t) = (2, (p, qL t)) := by show s5 n _ = _; unfold s5; dsimp only; rw [if_pos h4]
        rw [if_pos h4, thr_no e (by decide)]; rfl
      · have e : ssR t n 5 (p, qL t) = (0, (p, qL t)) := by show s5 n _ = _; unfold s5; dsimp only; rw [if_neg h4]
        rw [if_neg h4, thr_go e]; rfl
theorem fn_cells (W : World) (B : Nat) (fr : Nat × Nat) (hk : W.heap[B]? = some (.cells #[.func (.func 57) #[] #[], .func (.func 30) #[] #[], .func (.func 31) #[] #[], .func (.func 58) #[] #[], .func (.func 59) #[] #[], .func (.func 60) #[] #[]] 61 fr)) (k : Nat) (hk6 : k < 6) : W.cell? ⟨B, k, none⟩ = some (.func (.func (fsR k)) #[] #[]) := by
  rw [cell_of_row _ _ _ _ _ _ hk]
  match k, hk6 with
  | 0, _ => rfl
  | 1, _ => rfl
  | 2, _ => rfl
  | 3, _ => rfl
  | 4, _ => rfl
  | 5, _ => rfl
def rd4A (x : List UInt8 × List UInt8 × Nat × Nat) : Value := .agg #[.string ⟨x.1.toArray⟩, .string ⟨x.2.1.toArray⟩, .int .i64 (x.2.2.1 : Int), .int .i64 (x.2.2.2 : Int)]
theorem rdV_P (R : (Nat × Nat) ⊕ PQ) : rdV R = rd4A (rdP R) := by cases R <;> rfl
set_option maxRecDepth 100000 in
set_option maxHeartbeats 4000000 in
theorem read_any (s : List UInt8) (hl : s.length < 30000) (n : Int) (w : World) (hV : VT w) :
    Calls Tryd.prog 34 #[.string ⟨s.toArray⟩, .int .i64 n] w fun e w' => e = .returned (rd4A (rdP (rdR s n))) ∧ Below w.heap.size w w' := by
  have HT : Hid (∀ (W : World) (B : Nat) (fr : Nat × Nat), VT W → W.heap[B]? = some (.cells #[.func (.func 57) #[] #[], .func (.func 30) #[] #[], .func (.func 31) #[] #[], .func (.func 58) #[] #[], .func (.func 59) #[] #[], .func (.func 60) #[] #[]] 61 fr) → Calls Tryd.prog 29 #[.agg #[.string ⟨#[]⟩, .string ⟨#[]⟩, .string ⟨s.toArray⟩, .int .i64 n], .slice (some ⟨B, 0, none⟩) 6 6] W fun e w' => e = .returned (rd4A (rdP (rdR s n))) ∧ Below W.heap.size W w') := Lib.hid fun W B fr hV hk => by
    have h := through_any s n 6 (by omega) fsR (ssR s n) (lenI s) (fun k _ p q hI W B h hV => fs_calls s hl n k p q hI W B h hV) (fun k _ x h => len_step s n k x h) (fun k _ => fs_enters k) [] [] ⟨by simp, by simp⟩ W hV B (lt_of_block hk) (fun k hk6 => fn_cells W B fr hk k hk6)
    rw [thr_read, rdV_P] at h
    exact h
  obtain ⟨⟨p, q, e, st⟩, hR⟩ : ∃ R, rdP (rdR s n) = R := ⟨_, rfl⟩
  rw [hR] at HT ⊢
  clear hR
  unfold rd4A at HT ⊢
  dsimp only at HT ⊢
  have b0 := CBlk.new 57 w [.string ⟨#[]⟩, .string ⟨#[]⟩, .int .i64 0, .int .i64 0]
  have hB := below_new w (.cells #[.string ⟨#[]⟩, .string ⟨#[]⟩, .int .i64 0, .int .i64 0] 57)
  have hV1 := hV.below hB
  go_enter Tryd.func34, Tryd.ntmps34
  go_upto_region 1 with fail
  obtain ⟨V, hVe⟩ : ∃ V, w.alloc (.cells #[.string ⟨#[]⟩, .string ⟨#[]⟩, .int .i64 0, .int .i64 0] 57) = V := ⟨_, rfl⟩
  have b0 : CBlk 57 V w.heap.size [.string ⟨#[]⟩, .string ⟨#[]⟩, .int .i64 0, .int .i64 0] := by rw [← hVe]; exact b0
  rw [hVe] at hB hV1 ⊢
  clear hVe hV
  go_wp2_with fail
  refine (HT.out _ _ _ (hV1.below (below_new V _)) (heap_alloc_new V _)).mono ?_
  rintro e w1 ⟨rfl, hb1⟩
  have hV2 : Below V.heap.size V w1 := (below_new V _).trans (hb1.mono (by simp))
  have b1 := b0.below hV2 b0.lt
  have hB1 := hB.trans (hV2.mono hB.size)
  clear hb1 hV2 b0 hB
  obtain ⟨r0, r1, r2, r3⟩ := rcells4 b1
  obtain ⟨f0, f1, f2, f3⟩ := rfrees4 b1
  go_wp2_with fail
  exact bodyPost_ret (r_result (rstore4 b1 _ _ _ _) rfl _ rfl) rfl ⟨rfl, rbelow4 hB1 (Nat.le_refl _) _ _ _ _⟩
set_option maxHeartbeats 4000000 in
theorem parse_any (s : List UInt8) (hl : s.length < 30000) (n : Int) (w : World) (hV : VT w) :
    Calls Tryd.prog 11 #[.string ⟨s.toArray⟩, .int .i64 n] w fun e w' => e = .returned (parseW (rdP (rdR s n))) ∧ Below w.heap.size w w' := by
  have HD := Lib.hid fun W h => read_any s hl n W h
  obtain ⟨⟨p, q, e, st⟩, hx⟩ : ∃ x, rdP (rdR s n) = x := ⟨_, rfl⟩
  rw [hx] at HD ⊢
  clear hx
  unfold rd4A at HD
  dsimp only at HD
  go_enter Tryd.func11, Tryd.ntmps11
  go_wp2_with fail
  refine (HD.out _ hV).mono ?_
  rintro e w1 ⟨rfl, hb1⟩
  have b1 := CBlk.new 57 w1 [.string ⟨p.toArray⟩, .string ⟨q.toArray⟩, .int .i64 e, .int .i64 st]
  have hB := hb1.alloc hb1.size (.cells #[.string ⟨p.toArray⟩, .string ⟨q.toArray⟩, .int .i64 e, .int .i64 st] 57)
  go_upto_region 2 with fail
  obtain ⟨V, hVe⟩ : ∃ V, w1.alloc (.cells #[.string ⟨p.toArray⟩, .string ⟨q.toArray⟩, .int .i64 e, .int .i64 st] 57) = V := ⟨_, rfl⟩
  have b1 : CBlk 57 V w1.heap.size [.string ⟨p.toArray⟩, .string ⟨q.toArray⟩, .int .i64 e, .int .i64 st] := by rw [← hVe]; exact b1
  rw [hVe] at hB ⊢
  clear hVe
  obtain ⟨r0, r1, r2, r3⟩ := rcells4 b1
  go_region
  all_goals
    go_wp2_with fail
    go_ret3
    exact ⟨rfl, hB.drew⟩
end Go.Proofs.YtjinedeelkdgiaaDoor
