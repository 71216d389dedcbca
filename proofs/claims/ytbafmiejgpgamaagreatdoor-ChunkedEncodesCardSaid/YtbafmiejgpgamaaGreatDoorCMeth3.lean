/-
  The methods of a decoder for bytes of trailer lines.
-/
import Derived.Test.YtbafmiejgpgamaaGreatDoorCMeth2
namespace Go.Proofs.YtbafmiejgpgamaaGreatDoor
open Go.RowKit
theorem DB.line {W : World} {B base : Nat} {d : Dec} {v : Value} (h : DB W B base d v) (x : List UInt8) : DB (W.setCell ⟨B, 5, none⟩ (.string ⟨x.toArray⟩)) B base { d with line := x } v ∧ W.grownBy (W.setCell ⟨B, 5, none⟩ (.string ⟨x.toArray⟩)) (some B) := by
  have hg := grown_set (World.grownBy.refl W (some B)) 5 (.string ⟨x.toArray⟩)
  exact ⟨h.put hg (h.blk.set 5 (.string ⟨x.toArray⟩)) rfl, hg⟩
set_option maxHeartbeats 4000000 in
theorem in5_any (W : World) (B base : Nat) (d : Dec) (v : Value) (h : DB W B base d v) (ok : d.Ok) (b : UInt8) :
    Calls Tryz.prog 59 #[.pointer (some ⟨B, 0, none⟩), .int .u8 (b.toNat : Int)] W fun e w' => e = .returned (.tuple #[]) ∧ DB w' B base (st5 d b) v ∧ W.grownBy w' (some B) := by
  obtain ⟨c0, c1, c2, c3, c4, c5, c6, c7, c8⟩ := h.cells
  obtain ⟨f0, f1, f2, f3, f4, f5, f6, f7, f8⟩ := h.frees
  obtain ⟨_, _, _, _, _, a5, a6, _, _⟩ := (h.alloc (.cells #[.int .u8 (b.toNat : Int)] 5)).cells
  obtain ⟨_, _, _, _, _, fa5, fa6, _, _⟩ := (h.alloc (.cells #[.int .u8 (b.toNat : Int)] 5)).frees
  have hll := ok.line
  have hbt : UInt8.ofNat b.toNat = b := by simp
  by_cases h13 : b.toNat = 13
  · have e13 : ((b.toNat : Int) == 13) = true := by rw [beq_iff_eq]; omega
    have HS : Hid (st5 d b = { d with st := 6 }) := Lib.hid (by unfold st5; rw [if_pos h13])
    have hh := h.state 6
    clear h13
    go_enter Tryz.func59, Tryz.ntmps59
    go_wp2_with fail
    exact bodyPost_end (v := .tuple #[]) (by simp [Go.results, Tryz.results59, go_sem]) rfl ⟨rfl, by rw [HS.out]; exact hh.1, hh.2⟩
  · have e13 : ((b.toNat : Int) == 13) = false := by rw [beq_eq_false_iff_ne]; omega
    by_cases h10 : b.toNat = 10
    · have e10 : ((b.toNat : Int) == 10) = true := by rw [beq_iff_eq]; omega
      have HS : Hid (st5 d b = d.bad 400) := Lib.hid (by unfold st5; rw [if_neg h13, if_pos h10])
      clear h13 h10
      go_enter Tryz.func59, Tryz.ntmps59
      go_wp2_with fail
      refine (fail_any _ B base d v h 400).mono ?_
      rintro e w1 ⟨rfl, hd, hg⟩
      go_wp2_with fail
      exact bodyPost_end (v := .tuple #[]) (by simp [Go.results, Tryz.results59, go_sem]) rfl ⟨rfl, by rw [HS.out]; exact hd, hg⟩
    · have e10 : ((b.toNat : Int) == 10) = false := by rw [beq_eq_false_iff_ne]; omega
      have hst : st5 d b = if (d.line = [] ∧ d.lines = 32) ∨ d.line.length = 512 then d.bad 431 else { d with line := d.line ++ [b] } := by
        unfold st5; rw [if_neg h13, if_neg h10]
      have hh := (h.alloc (.cells #[.int .u8 (b.toNat : Int)] 5)).line (d.line ++ [b])
      have hgA := World.grownBy_alloc W (.cells #[.int .u8 (b.toNat : Int)] 5) (some B)
      obtain ⟨T, hT⟩ : ∃ T, d.line ++ [b] = T := ⟨_, rfl⟩
      have s1 : ∀ w, (Op.stringOp .add ⟨d.line.toArray⟩ ⟨[b].toArray⟩).run Tryz.prog w = .ok (.string ⟨T.toArray⟩) w := fun w => by
        rw [← hT]
        exact cstr_add d.line [b] (by unfold CSmall; simp; omega)
      have s2 : ∀ w, (Op.stringOp .add ⟨d.line.toArray⟩ ⟨#[b]⟩).run Tryz.prog w = .ok (.string ⟨T.toArray⟩) w := s1
      have k1 := fun W : World => byte1_text W b
      have k2 : ∀ W : World, (convert 53 9 (.slice (some ⟨W.heap.size, 0, none⟩) 1 1)).run Tryz.prog (W.alloc (.cells #[.int .u8 (b.toNat : Int)] 5)).drew = .ok (.string ⟨[b].toArray⟩) (W.alloc (.cells #[.int .u8 (b.toNat : Int)] 5)).drew := fun W => byte1_text W.drew b
      rw [hT] at hh hst
      have HH := Lib.hid hh
      clear h13 h10 hT hh
      obtain ⟨L, hL⟩ : ∃ L, d.line = L := ⟨_, rfl⟩
      rw [hL] at hst c5 a5 s1 s2 hll
      clear hL
      cases L with
      | nil =>
        by_cases h32 : d.lines = 32
        · have e32 : ((d.lines : Int) == 32) = true := by rw [beq_iff_eq]; omega
          have HS : Hid (st5 d b = d.bad 431) := Lib.hid (by rw [hst, if_pos (.inl ⟨rfl, h32⟩)])
          clear hst h32
          go_enter Tryz.func59, Tryz.ntmps59
          go_wp2_with fail
          refine (fail_any _ B base d v h 431).mono ?_
          rintro e w1 ⟨rfl, hd, hg⟩
          go_wp2_with fail
          exact bodyPost_end (v := .tuple #[]) (by simp [Go.results, Tryz.results59, go_sem]) rfl ⟨rfl, by rw [HS.out]; exact hd, hg⟩
        · have e32 : ((d.lines : Int) == 32) = false := by rw [beq_eq_false_iff_ne]; omega
          have HS : Hid (st5 d b = { d with line := T }) := Lib.hid (by rw [hst, if_neg (by simp; omega)])
          clear hst h32
          go_enter Tryz.func59, Tryz.ntmps59
          go_wp2_with fail
          go_region
          all_goals go_wp2_with fail
          all_goals exact bodyPost_end (v := .tuple #[]) (by simp [Go.results, Tryz.results59, go_sem]) rfl ⟨rfl, by rw [HS.out]; exact HH.out.1.drew, grown_drew (hgA.trans HH.out.2)⟩
      | cons x r =>
        obtain ⟨n, hn⟩ : ∃ n, (x :: r).length = n := ⟨_, rfl⟩
        by_cases h512 : n = 512
        · have HS : Hid (st5 d b = d.bad 431) := Lib.hid (by rw [hst, if_pos (.inr (by rw [hn]; exact h512))])
          have e512 : (((x :: r).length : Int) == 512) = true := by rw [hn, beq_iff_eq]; omega
          have e511 : ((r.length : Int) + 1 == 512) = true := by rw [beq_iff_eq]; simp at hn; omega
          clear hst h512 hn hll
          go_enter Tryz.func59, Tryz.ntmps59
          go_wp2_with fail
          refine (fail_any _ B base d v h 431).mono ?_
          rintro e w1 ⟨rfl, hd, hg⟩
          go_wp2_with fail
          exact bodyPost_end (v := .tuple #[]) (by simp [Go.results, Tryz.results59, go_sem]) rfl ⟨rfl, by rw [HS.out]; exact hd, hg⟩
        · have HS : Hid (st5 d b = { d with line := T }) := Lib.hid (by rw [hst, if_neg (by simp at hn ⊢; omega)])
          have e512 : (((x :: r).length : Int) == 512) = false := by rw [hn, beq_eq_false_iff_ne]; omega
          have e511 : ((r.length : Int) + 1 == 512) = false := by rw [beq_eq_false_iff_ne]; simp at hn; omega
          clear hst h512 hn hll
          go_enter Tryz.func59, Tryz.ntmps59
          go_wp2_with fail
          go_region
          all_goals go_wp2_with fail
          all_goals exact bodyPost_end (v := .tuple #[]) (by simp [Go.results, Tryz.results59, go_sem]) rfl ⟨rfl, by rw [HS.out]; exact HH.out.1.drew, grown_drew (hgA.trans HH.out.2)⟩
set_option maxHeartbeats 4000000 in
theorem in6_any (W : World) (B base : Nat) (d : Dec) (v : Value) (h : DB W B base d v) (ok : d.Ok) (hN : NTab W) (b : UInt8) :
    Calls Tryz.prog 60 #[.pointer (some ⟨B, 0, none⟩), .int .u8 (b.toNat : Int)] W fun e w' => e = .returned (.tuple #[]) ∧ DB w' B base (st6 d b) v ∧ W.grownBy w' (some B) := by
  obtain ⟨c0, c1, c2, c3, c4, c5, c6, c7, c8⟩ := h.cells
  obtain ⟨f0, f1, f2, f3, f4, f5, f6, f7, f8⟩ := h.frees
  have hll := ok.line
  have hls := ok.lines
  by_cases h10 : b.toNat = 10
  · have e10 : ((b.toNat : Int) != 10) = false := by rw [bne_eq_false_iff_eq]; omega
    have hst : st6 d b = if d.line = [] then { d with st := 7 } else if trlB d.line = true then ⟨5, 0, 0, 0, d.body, [], d.lines + 1, 0⟩ else d.bad 400 := by unfold st6; rw [if_pos h10]
    have h7 := h.state 7
    have HT := Lib.hid (isTrailer_any d.line (by omega) W hN)
    obtain ⟨q, hq⟩ : ∃ q, trlB d.line = q := ⟨_, rfl⟩
    rw [hq] at HT hst
    have H10 := Lib.hid h10
    clear hq h10 hN
    obtain ⟨L, hL⟩ : ∃ L, d.line = L := ⟨_, rfl⟩
    have HL := Lib.hid hL
    rw [hL] at hst c5 HT
    clear hL hll
    cases L with
    | nil =>
      have HS : Hid (st6 d b = { d with st := 7 }) := Lib.hid (by unfold st6; rw [if_pos H10.out, if_pos HL.out])
      clear hst HT
      go_enter Tryz.func60, Tryz.ntmps60
      go_wp2_with fail
      exact bodyPost_end (v := .tuple #[]) (by simp [Go.results, Tryz.results60, go_sem]) rfl ⟨rfl, by rw [HS.out]; exact h7.1, h7.2⟩
    | cons x r =>
      cases q
      · have HS : Hid (st6 d b = d.bad 400) := Lib.hid (by rw [hst, if_neg (by simp), if_neg (by simp)])
        clear hst
        go_enter Tryz.func60, Tryz.ntmps60
        go_wp2_with fail
        refine HT.out.mono ?_
        rintro e w1 ⟨rfl, hb1⟩
        have k1 := h.kept hb1
        go_wp2_with fail
        refine (fail_any _ B base d v k1 400).mono ?_
        rintro e w2 ⟨rfl, hd, hg⟩
        go_wp2_with fail
        exact bodyPost_end (v := .tuple #[]) (by simp [Go.results, Tryz.results60, go_sem]) rfl ⟨rfl, by rw [HS.out]; exact hd, (below_grow hb1 _).trans hg⟩
      · have HS : Hid (st6 d b = ⟨5, 0, 0, 0, d.body, [], d.lines + 1, 0⟩) := Lib.hid (by rw [hst, if_neg (by simp), if_pos rfl])
        have hw : wrap64 ((d.lines : Int) + 1) = ((d.lines + 1 : Nat) : Int) := by unfold wrap64; omega
        have hw2 : IntKind.i64.wrap ((d.lines : Int) + 1) = ((d.lines + 1 : Nat) : Int) := by rw [IntKind.wrap_i64]; omega
        obtain ⟨n, hn⟩ : ∃ n, d.lines + 1 = n := ⟨_, rfl⟩
        rw [hn] at hw hw2
        have HN := Lib.hid hn
        clear hst hls hn
        go_enter Tryz.func60, Tryz.ntmps60
        go_wp2_with fail
        refine HT.out.mono ?_
        rintro e w1 ⟨rfl, hb1⟩
        have k1 := h.kept hb1
        have hh := k1.store8 ⟨5, 0, 0, 0, d.body, [], n, 0⟩ rfl
        obtain ⟨q0, q1, q2, q3, q4, q5, q6, q7, q8⟩ := k1.cells
        obtain ⟨r0, r1, r2, r3, r4, r5, r6, r7, r8⟩ := k1.frees
        go_wp2_with fail
        exact bodyPost_end (v := .tuple #[]) (by simp [Go.results, Tryz.results60, go_sem]) rfl ⟨rfl, by rw [HS.out, HN.out]; exact hh.1, (below_grow hb1 _).trans hh.2⟩
  · have e10 : ((b.toNat : Int) != 10) = true := by rw [bne_iff_ne]; omega
    have HS : Hid (st6 d b = d.bad 400) := Lib.hid (by unfold st6; rw [if_neg h10])
    clear h10
    go_enter Tryz.func60, Tryz.ntmps60
    go_wp2_with fail
    refine (fail_any _ B base d v h 400).mono ?_
    rintro e w1 ⟨rfl, hd, hg⟩
    go_wp2_with fail
    exact bodyPost_end (v := .tuple #[]) (by simp [Go.results, Tryz.results60, go_sem]) rfl ⟨rfl, by rw [HS.out]; exact hd, hg⟩
end Go.Proofs.YtbafmiejgpgamaaGreatDoor
