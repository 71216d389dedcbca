/-
  strings.SplitSeq at a slash: the iterator, for every loop body that leaves its boxes alone; the law of a range over it.
-/
import Derived.RangeFuncNested
import Derived.RangeFuncCalls
import Derived.RangeFuncLeaves
import Derived.RangeFuncBox
import Derived.Shelf.Abstract
import Derived.Shelf.RegionOpen
import Derived.OwnWalkIn
import Derived.TacticsInMore
import Derived.LoopNIn
import Derived.LoopIn
import Derived.RegionIn
import Derived.Sort.CutIn
import Derived.Test.YtjinedeelkdgiaaDoorHStrs
import Derived.Test.YtjinedeelkdgiaaDoorHGLay
import Derived.Test.YtjinedeelkdgiaaDoorHDPure
namespace Go.Proofs.YtjinedeelkdgiaaDoor
open Go.RowKit Go.Shelf
attribute [local go_sem] Oper.semAt_some
theorem gr_alloc {w w' : World} {row : Option Nat} (h : w.grownBy w' row) (o : Obj) : w.grownBy (w'.alloc o) row :=
  h.andThen (World.grownBy_alloc w' o row) (fun _ e => .inr e)
/-- The iterator's boxes lie as they lay. -/
def KA (b : Nat) (W W' : World) : Prop := W.heap.size ≤ W'.heap.size ∧ W'.heap[b]? = W.heap[b]? ∧ W'.heap[b + 1]? = W.heap[b + 1]? ∧ W'.heap[b + 2]? = W.heap[b + 2]?
abbrev XL : Type := List UInt8
def encX (x : XL) : Array Value := #[.string ⟨x.toArray⟩]
/-- How many bytes the text in a box has. -/
def lenAt (W : World) (b : Nat) : Nat := match W.cell? ⟨b, 0, none⟩ with
  | some (.string s) => s.size
  | _ => 0
theorem CBlk.cell1 {t : TypeId} {w : World} {B : Nat} {a : Value} (h : CBlk t w B [a]) : w.cell? ⟨B, 0, none⟩ = some a := h.cell 0 (by simp)
theorem lenAt_of {W : World} {b : Nat} {T : List UInt8} (h : CBlk 9 W b [.string ⟨T.toArray⟩]) : lenAt W b = T.length := by
  unfold lenAt
  rw [h.cell1]
  rfl
theorem cut_at : ∀ (T cur : List UInt8), (∃ k, k < T.length ∧ Lib.indexByte T 47 = (k : Int) ∧ cutS cur T = (cur ++ T.take k) :: cutS [] (T.drop (k + 1))) ∨ (Lib.indexByte T 47 = -1 ∧ cutS cur T = [cur ++ T])
  | [], cur => .inr ⟨rfl, by simp [cutS]⟩
  | c :: r, cur => by
    by_cases hc : c.toNat = 47
    · left
      have h2 : c = 47 := UInt8.toNat_inj.1 hc
      subst h2
      exact ⟨0, by simp, by simp [Lib.indexByte], by simp [cutS]⟩
    · have hb : (c == 47) = false := by
        rw [beq_eq_false_iff_ne]
        intro e
        rw [e] at hc
        exact hc rfl
      rcases cut_at r (cur ++ [c]) with ⟨k, h1, h2, h3⟩ | ⟨h2, h3⟩
      · left
        refine ⟨k + 1, by simp; omega, ?_, ?_⟩
        · unfold Lib.indexByte
          rw [hb, h2, if_neg (by simp), if_neg (by simp)]
          rfl
        · rw [cutS, if_neg hc, h3]
          simp
      · right
        refine ⟨?_, ?_⟩
        · unfold Lib.indexByte
          rw [hb, h2]
          simp
        · rw [cutS, if_neg hc, h3]
          simp
/-- How the iterator ends: all pieces were handed over, or the body left the loop. -/
def ItPost (l : List UInt8) (J Jx : List XL → World → Prop) (W' : World) : Prop :=
  J (cutS [] l) W' ∨ (∃ pre x rest, pre ++ x :: rest = cutS [] l ∧ Jx (pre ++ [x]) W')
theorem ba_fst (T : List UInt8) (k : Nat) : (ByteArray.mk T.toArray).extract 0 k = ⟨(T.take k).toArray⟩ := by
  apply ByteArray.ext
  rw [ByteArray.data_extract, List.extract_toArray, List.extract_eq_take_drop]
  simp
theorem ba_snd (T : List UInt8) (k : Nat) : (ByteArray.mk T.toArray).extract k T.length = ⟨(T.drop k).toArray⟩ := by
  apply ByteArray.ext
  rw [ByteArray.data_extract, List.extract_toArray, List.extract_eq_take_drop]
  rw [List.take_of_length_le (by rw [List.length_drop]; omega)]
set_option maxRecDepth 100000 in
set_option maxHeartbeats 4000000 in
theorem split1_in (n : Nat) (hn : 1 ≤ n) (lp b : Nat) (l : List UInt8) (hl : l.length < 100000) (J Jx : List XL → World → Prop) (W : World)
    (hJ : ∀ pre W W', J pre W → W.grownBy W' (some b) → J pre W')
    (hY : ∀ pre x W, J pre W → pre.length ≤ l.length → x.length ≤ l.length → YieldAt Fence.wide (n - 1) Tryd.prog lp (encX x) W fun e W' =>
      (e = .returned (.bool true) ∧ J (pre ++ [x]) W' ∧ KA b W W') ∨ (e = .returned (.bool false) ∧ Jx (pre ++ [x]) W' ∧ KA b W W'))
    (hs : CBlk 9 W b [.string ⟨l.toArray⟩]) (hsep : CBlk 9 W (b + 1) [.string ⟨#[47]⟩]) (hss : CBlk 3 W (b + 2) [.int .i64 0]) (h0 : J [] W) :
    CallsIn Fence.wide n Tryd.prog 106 #[.func (.yield lp) #[] #[], .pointer (some ⟨b + 1, 0, none⟩), .pointer (some ⟨b, 0, none⟩), .pointer (some ⟨b + 2, 0, none⟩)] W fun e W' => (∃ v, e = .returned v) ∧ ItPost l J Jx W' := by
  refine callsIn_of_wp Tryd.func106 rfl trivial ?_ rfl
  simp only [Tryd.ntmps106, List.size_toArray, List.length_cons, List.length_nil, Nat.reduceAdd, Nat.reduceSub, Array.replicate_succ, Array.replicate_zero, List.push_toArray, List.append_toArray, List.nil_append, List.cons_append]
  have HJ := Lib.hid hJ
  have HY := Lib.hid hY
  have HS := Lib.hid hs
  have HSEP := Lib.hid hsep
  have HSS := Lib.hid hss
  have c1 := hsep.cell1
  have H0 := Lib.hid h0
  clear hJ hY hs hsep hss h0
  gi_wp2
  clear c1
  gi_loopw [7] (fun _ wr => ∃ (pre : List XL) (T : List UInt8), Hid (pre ++ cutS [] T = cutS [] l) ∧ pre.length + T.length ≤ l.length ∧ Hid (J pre wr) ∧ Hid (CBlk 9 wr b [.string ⟨T.toArray⟩]) ∧ Hid (CBlk 9 wr (b + 1) [.string ⟨#[47]⟩]) ∧ Hid (CBlk 3 wr (b + 2) [.int .i64 0])) (fun _ wr => lenAt wr b)
  case atStart => exact ⟨[], l, Lib.hid rfl, by simp, H0, HS, HSEP, HSS⟩
  case round =>
    clear H0 HS HSEP HSS
    obtain ⟨pre, T, hI, hlen, hJp, hB, hS1, hS2⟩ := hrel
    rename World => W1
    have c0 := hB.out.cell1
    have c1 := hS1.out.cell1
    have c2 := hS2.out.cell1
    have f0 := hB.out.free 0
    have HL := Lib.hid (lenAt_of hB.out)
    have hpl : pre.length ≤ l.length := by omega
    rcases cut_at T [] with ⟨k, hk, hidx, hcut⟩ | ⟨hidx, hcut⟩
    · have d1 : decide ((k : Int) < 0) = false := decide_eq_false (by omega)
      have hkT : (k : Int) ≤ (T.length : Int) := by omega
      obtain ⟨k2, hk2⟩ : ∃ k2, k + 1 = k2 := ⟨_, rfl⟩
      have hk2T : (k2 : Int) ≤ (T.length : Int) := by omega
      have q1 : IntKind.i64.wrap ((k : Int) + 1) = (k2 : Int) := by rw [IntKind.wrap_i64]; omega
      have q2 : (k : Int) + 1 = (k2 : Int) := by omega
      have q0 : IntKind.i64.wrap (k : Int) = (k : Int) := by rw [IntKind.wrap_i64]; omega
      have e1 := ba_fst T k
      have e2 := ba_snd T k2
      obtain ⟨X, hX⟩ : ∃ X, T.take k = X := ⟨_, rfl⟩
      obtain ⟨T2, hT2⟩ : ∃ T2, T.drop k2 = T2 := ⟨_, rfl⟩
      have hXl : X.length ≤ l.length := by rw [← hX, List.length_take]; omega
      have hT2l : T2.length + (k + 1) = T.length := by rw [← hT2, List.length_drop]; omega
      rw [hX] at e1
      rw [hT2] at e2
      have hnext : Hid ((pre ++ [X]) ++ cutS [] T2 = cutS [] l) := Lib.hid (by
        rw [← hI.out, hcut, hk2, hX, hT2]
        simp)
      have HIDX := Lib.hid hidx
      obtain ⟨fn, tmps, assign, body, hy, hR⟩ := HY.out pre X W1 hJp.out hpl hXl
      rw [show encX X = #[.string ⟨X.toArray⟩] from rfl] at hy
      have HR := Lib.hid hR
      have hTl : T2.length < T.length := by omega
      clear hX hT2 hcut hidx hR hk2
      gi_wp2_with fail
      refine ⟨trivial, ?_⟩
      refine (callsIn_wide.2 (index_any T _)).mono ?_
      rintro e w' ⟨rfl, rfl⟩
      rw [HIDX.out]
      gi_wp2_with fail
      refine HR.out.mono ?_
      rintro e W3 (⟨rfl, hJ3, hk3⟩ | ⟨rfl, hJx3, hk3⟩)
      · have hB3 : CBlk 9 W3 b [.string ⟨T.toArray⟩] := hk3.2.1.trans hB.out
        have hS13 : CBlk 9 W3 (b + 1) [.string ⟨#[47]⟩] := hk3.2.2.1.trans hS1.out
        have hS23 : CBlk 3 W3 (b + 2) [.int .i64 0] := hk3.2.2.2.trans hS2.out
        have g0 := hB3.cell1
        have g1 := hS13.cell1
        have gf := hB3.free 0
        have HB4 : Hid (CBlk 9 (W3.setCell ⟨b, 0, none⟩ (.string ⟨T2.toArray⟩)) b [.string ⟨T2.toArray⟩]) := Lib.hid (hB3.set 0 _)
        have HS14 : Hid (CBlk 9 (W3.setCell ⟨b, 0, none⟩ (.string ⟨T2.toArray⟩)) (b + 1) [.string ⟨#[47]⟩]) := Lib.hid (hS13.other _ (by show b ≠ b + 1; omega) _)
        have HS24 : Hid (CBlk 3 (W3.setCell ⟨b, 0, none⟩ (.string ⟨T2.toArray⟩)) (b + 2) [.int .i64 0]) := Lib.hid (hS23.other _ (by show b ≠ b + 2; omega) _)
        have HJ4 : Hid (J (pre ++ [X]) (W3.setCell ⟨b, 0, none⟩ (.string ⟨T2.toArray⟩))) := Lib.hid (HJ.out _ _ _ hJ3 (grownBy_setCell' _ _ _))
        clear hB3 hS13 hS23 hJ3 c0 c1 c2 f0
        gi_wp2
        go_roundw
        case rel => exact ⟨pre ++ [X], T2, hnext, by rw [List.length_append, List.length_singleton]; omega, HJ4, HB4, HS14, HS24⟩
        case measure => rw [HL.out, lenAt_of HB4.out]; exact hTl
      · gi_wp2
        refine bodyPost_ret (results_none rfl _ _ _) rfl ?_
        refine ⟨⟨_, rfl⟩, .inr ⟨pre, X, cutS [] T2, ?_, hJx3⟩⟩
        rw [← hnext.out]
        simp
    · have d1 : decide ((-1 : Int) < 0) = true := by decide
      have HFIN : Hid (pre ++ [T] = cutS [] l) := Lib.hid (by rw [← hI.out, hcut]; rfl)
      have HIDX := Lib.hid hidx
      have hTl : T.length ≤ l.length := by omega
      obtain ⟨fn, tmps, assign, body, hy, hR⟩ := HY.out pre T W1 hJp.out hpl hTl
      rw [show encX T = #[.string ⟨T.toArray⟩] from rfl] at hy
      have HR := Lib.hid hR
      clear hcut hidx hR
      gi_wp2_with fail
      refine ⟨trivial, ?_⟩
      refine (callsIn_wide.2 (index_any T _)).mono ?_
      rintro e w' ⟨rfl, rfl⟩
      rw [HIDX.out]
      gi_wp2_with fail
      refine HR.out.mono ?_
      rintro e W3 (⟨rfl, hJ3, hk3⟩ | ⟨rfl, hJx3, hk3⟩)
      · gi_wp2
        go_end0
        refine ⟨⟨_, rfl⟩, .inl ?_⟩
        rw [← HFIN.out]
        exact hJ3
      · gi_wp2
        go_end0
        exact ⟨⟨_, rfl⟩, .inr ⟨pre, T, [], HFIN.out, hJx3⟩⟩
theorem splitSeq_any (l : List UInt8) (w : World) :
    Calls Tryd.prog 91 #[.string ⟨l.toArray⟩, .string ⟨#[47]⟩] w fun e w' => e = .returned (.func (.func 106) #[] #[.pointer (some ⟨w.heap.size + 1, 0, none⟩), .pointer (some ⟨w.heap.size, 0, none⟩), .pointer (some ⟨w.heap.size + 2, 0, none⟩)]) ∧
      w' = ((w.alloc (.cells #[.string ⟨l.toArray⟩] 9)).alloc (.cells #[.string ⟨#[47]⟩] 9)).alloc (.cells #[.int .i64 0] 3) := by
  go_enter Tryd.func91, Tryd.ntmps91
  go_wp2
  go_ret
  exact ⟨rfl, rfl⟩
/-- The record of a loop over pieces. -/
def lrec (fn : FuncId) (tmps : Array Value) (ps : Array Tmp) (assign body : Code) (N : Nat) (st : LoopState) (pe : Option Code) : Loop :=
  { state := st, pending := pe, fn, tmps := tmps, params := ps, assign, body, defers := N }
/-- The loop's own blocks lie as they lay. -/
def KB (N : Nat) (W W' : World) : Prop := W.heap.size ≤ W'.heap.size ∧ W'.heap[N]? = W.heap[N]? ∧ W'.heap[N + 1]? = W.heap[N + 1]?
theorem KA.trans {b : Nat} {X Y Z : World} (h : KA b X Y) (k : KA b Y Z) : KA b X Z := ⟨Nat.le_trans h.1 k.1, k.2.1.trans h.2.1, k.2.2.1.trans h.2.2.1, k.2.2.2.trans h.2.2.2⟩
theorem KA.grown {b : Nat} {X Y : World} {row : Option Nat} (h : X.grownBy Y row) (h1 : b + 2 < X.heap.size) (n1 : some b ≠ row) (n2 : some (b + 1) ≠ row) (n3 : some (b + 2) ≠ row) : KA b X Y :=
  ⟨h.size, h.block _ (by omega) n1, h.block _ (by omega) n2, h.block _ h1 n3⟩
/-- How a round's body may end. -/
def bodyS (N b : Nat) (I Ix : List XL → World → Prop) (xs : List XL) (W : World) : Exit → Act → World → Prop
  | .normal, _, W' => KB N W W' ∧ KA b W W' ∧ I xs W'
  | .ret, _, W' => KB N W W' ∧ KA b W W' ∧ Ix xs W'
  | _, _, _ => False
theorem rangeS {n : Nat} (h2 : 2 ≤ n) {g : Operand} {ps : Array Tmp} {assign body : Code} {Q : Exit → Act → World → Prop} {a : Act} {w : World}
    (b : Nat) (l : List UInt8) (hl : l.length < 100000)
    (hg : a.eval g = .func (.func 106) #[] #[.pointer (some ⟨b + 1, 0, none⟩), .pointer (some ⟨b, 0, none⟩), .pointer (some ⟨b + 2, 0, none⟩)]) (hps : ps.size = 1)
    (hs : CBlk 9 w b [.string ⟨l.toArray⟩]) (hsep : CBlk 9 w (b + 1) [.string ⟨#[47]⟩]) (hss : CBlk 3 w (b + 2) [.int .i64 0])
    (I Ix : List XL → World → Prop)
    (hIB : ∀ pre W W', I pre W → W.grownBy W' (some b) → I pre W') (hIL : ∀ pre W W', I pre W → W.grownBy W' (some (w.heap.size + 1)) → I pre W')
    (hXL : ∀ pre W W', Ix pre W → W.grownBy W' (some (w.heap.size + 1)) → Ix pre W') (h0 : I [] w)
    (hround : ∀ pre x W, I pre W → pre.length ≤ l.length → x.length ≤ l.length → w.heap.size + 2 ≤ W.heap.size →
      assign.wpIn (Fence.wide.inRound (w.heap.size + 1)) (n - 1 - 1) Tryd.prog
        (Exit.then (fun a₁ w₁ => W.grownBy w₁ none ∧ ∀ w₂, w₁.grownBy w₂ (some (w.heap.size + 1)) → body.wpIn (Fence.wide.inRound (w.heap.size + 1)) (n - 1 - 1) Tryd.prog (bodyS w.heap.size b I Ix (pre ++ [x]) w₂) a₁ w₂) (fun _ _ _ => False))
        { tmps := (ps.zip (encX x)).foldl (fun t (p, v) => t.setIfInBounds p v) a.tmps, defers := [] } W)
    (hdone : ∀ W', I (cutS [] l) W' → W'.heap[w.heap.size]? = some (.deferred (some [])) →
      Q .normal { a with defers := { target := .collected w.heap.size, args := #[] } :: a.defers } W')
    (hstop : ∀ W' pre x rest, pre ++ x :: rest = cutS [] l → Ix (pre ++ [x]) W' → W'.heap[w.heap.size]? = some (.deferred (some [])) →
      Code.ret.wpIn Fence.wide n Tryd.prog Q { a with defers := { target := .collected w.heap.size, args := #[] } :: a.defers } W') :
    (Code.rangeFunc g ps assign body).wpIn Fence.wide n Tryd.prog Q a w := by
  have hblt := hss.lt
  have eg : ∀ args w, (callFunc 106 args).run Tryd.prog w = .ok (.enter 106 args) w := enters_of Tryd.func106 (by kernel_rfl) rfl
  refine wpIn_rangeFunc ?_
  intro fn hfn
  obtain ⟨W1, hW1⟩ : ∃ W1, (w.alloc (.deferred (some []))).alloc (.loop (lrec fn a.tmps ps assign body w.heap.size .ready none)) = W1 := ⟨_, rfl⟩
  have hL1 : W1.heap[w.heap.size + 1]? = some (.loop (lrec fn a.tmps ps assign body w.heap.size .ready none)) := by
    rw [← hW1]
    have := World.alloc_heap_new (w.alloc (.deferred (some []))) (.loop (lrec fn a.tmps ps assign body w.heap.size .ready none))
    rwa [World.size_alloc] at this
  have hK1 : W1.heap[w.heap.size]? = some (.deferred (some [])) := by
    rw [← hW1]
    exact (Below.heap_alloc _ _ _ (by simp)).trans (World.alloc_heap_new w _)
  have hgW : w.grownBy W1 (some b) := by
    rw [← hW1]
    exact gr_alloc (gr_alloc (World.grownBy.refl _ _) _) _
  have hgN : w.grownBy W1 none := by
    rw [← hW1]
    exact gr_alloc (gr_alloc (World.grownBy.refl _ _) _) _
  refine ⟨w.heap.size + 1, [{ target := .collected w.heap.size, args := #[] }], W1, { target := .fn (.func 106) #[.pointer (some ⟨b + 1, 0, none⟩), .pointer (some ⟨b, 0, none⟩), .pointer (some ⟨b + 2, 0, none⟩)], args := #[.func (.yield (w.heap.size + 1)) #[] #[]] }, W1, 106,
    #[.func (.yield (w.heap.size + 1)) #[] #[], .pointer (some ⟨b + 1, 0, none⟩), .pointer (some ⟨b, 0, none⟩), .pointer (some ⟨b + 2, 0, none⟩)], W1, ?_, ?_, ?_, ?_, fun _ => by omega, ?_⟩
  · rw [← hW1]
    exact run_enterLoop_outer _ _ _ _ _
  · simp only [resolve, hg]
    simp [go_sem]
  · intro f' hf'
    trivial
  · simp [invoke, go_sem, eg]
  · refine (split1_in (n - 1) (by omega) (w.heap.size + 1) b l hl
      (fun pre W => I pre W ∧ W.heap[w.heap.size + 1]? = some (.loop (lrec fn a.tmps ps assign body w.heap.size .ready none)) ∧ W.heap[w.heap.size]? = some (.deferred (some [])))
      (fun pre W => Ix pre W ∧ W.heap[w.heap.size + 1]? = some (.loop (lrec fn a.tmps ps assign body w.heap.size .done (some .ret))) ∧ W.heap[w.heap.size]? = some (.deferred (some [])))
      W1 ?hJ ?hY (hs.kept hgN (by simp)) (hsep.kept hgN (by simp)) (hss.kept hgN (by simp)) ⟨hIB _ _ _ h0 hgW, hL1, hK1⟩).mono ?post
    case hJ =>
      rintro pre W W' ⟨hi, hl, hk⟩ hgr
      have hlt : w.heap.size + 1 < W.heap.size := (Array.getElem?_eq_some_iff.1 hl).1
      exact ⟨hIB _ _ _ hi hgr, (hgr.block _ hlt (fun e => by injection e; omega)).trans hl, (hgr.block _ (by omega) (fun e => by injection e; omega)).trans hk⟩
    case hY =>
      rintro pre x W ⟨hi, hl, hk⟩ hpl hxl
      have hlt : w.heap.size + 1 < W.heap.size := (Array.getElem?_eq_some_iff.1 hl).1
      have hy := run_yield (P := Tryd.prog) (args := encX x) hl (by show (encX x).size = ps.size; rw [hps]; rfl)
      refine ⟨fn, _, assign, body, hy, roundIn_of_wpIn hfn ?_⟩
      refine wpIn_mono (hround pre x W hi hpl hxl hlt) ?_
      rintro e a₁ w₁ h
      cases e with
      | normal =>
        obtain ⟨hg1, hb⟩ := h
        have hl1 := (hg1.block _ hlt (by simp)).trans hl
        have hk1 := (hg1.block _ (show w.heap.size < W.heap.size by omega) (by simp)).trans hk
        have hlt1 : w.heap.size + 1 < w₁.heap.size := Nat.lt_of_lt_of_le hlt hg1.size
        have hka1 := KA.grown (b := b) hg1 (by omega) (by simp) (by simp) (by simp)
        refine ⟨_, run_beginRound hl1 rfl, ?_⟩
        have hp := grownBy_putObj' w₁ (w.heap.size + 1) (.loop { lrec fn a.tmps ps assign body w.heap.size .ready none with state := .busy })
        have hka2 := hka1.trans (KA.grown (b := b) hp (by omega) (fun e => by injection e; omega) (fun e => by injection e; omega) (fun e => by injection e; omega))
        refine wpIn_mono (hb _ hp) ?_
        rintro e a3 W3 h3
        have key : ∀ (pe : Option Code), KB w.heap.size (w₁.putObj (w.heap.size + 1) (.loop { lrec fn a.tmps ps assign body w.heap.size .ready none with state := .busy })) W3 → KA b (w₁.putObj (w.heap.size + 1) (.loop { lrec fn a.tmps ps assign body w.heap.size .ready none with state := .busy })) W3 →
            (Instr.endRound (w.heap.size + 1) pe).run Tryd.prog W3 = .ok (.bool pe.isNone) (W3.putObj (w.heap.size + 1) (.loop (lrec fn a.tmps ps assign body w.heap.size (if pe.isNone then .ready else .done) pe))) ∧
            (W3.putObj (w.heap.size + 1) (.loop (lrec fn a.tmps ps assign body w.heap.size (if pe.isNone then .ready else .done) pe))).heap[w.heap.size + 1]? = some (.loop (lrec fn a.tmps ps assign body w.heap.size (if pe.isNone then .ready else .done) pe)) ∧
            (W3.putObj (w.heap.size + 1) (.loop (lrec fn a.tmps ps assign body w.heap.size (if pe.isNone then .ready else .done) pe))).heap[w.heap.size]? = some (.deferred (some [])) ∧
            KA b W (W3.putObj (w.heap.size + 1) (.loop (lrec fn a.tmps ps assign body w.heap.size (if pe.isNone then .ready else .done) pe))) := by
          rintro pe ⟨ks, kd, kl⟩ ka
          have hl3 := kl.trans (World.putObj_heap_same hlt1)
          have hlt3 : w.heap.size + 1 < W3.heap.size := (Array.getElem?_eq_some_iff.1 hl3).1
          have hd3 := kd.trans ((World.putObj_heap_other (by omega)).trans hk1)
          refine ⟨run_endRound (P := Tryd.prog) pe hl3, World.putObj_heap_same hlt3, (World.putObj_heap_other (by omega)).trans hd3, ?_⟩
          exact (hka2.trans ka).trans (KA.grown (b := b) (grownBy_putObj' W3 (w.heap.size + 1) _) (by omega) (fun e => by injection e; omega) (fun e => by injection e; omega) (fun e => by injection e; omega))
        cases e with
        | normal =>
          obtain ⟨hkb, hkk, hi3⟩ := h3
          obtain ⟨r1, r2, r3, r4⟩ := key none hkb hkk
          exact ⟨_, _, r1, .inl ⟨rfl, ⟨hIL _ _ _ hi3 (grownBy_putObj' _ _ _), r2, r3⟩, r4⟩⟩
        | ret =>
          obtain ⟨hkb, hkk, hi3⟩ := h3
          obtain ⟨r1, r2, r3, r4⟩ := key (some .ret) hkb hkk
          exact ⟨_, _, r1, .inr ⟨rfl, ⟨hXL _ _ _ hi3 (grownBy_putObj' _ _ _), r2, r3⟩, r4⟩⟩
        | exit id => exact h3.elim
        | goto t => exact h3.elim
        | panic ch => exact h3.elim
        | outgrown => exact h3.elim
      | exit id => exact h.elim
      | goto t => exact h.elim
      | ret => exact h.elim
      | panic ch => exact h.elim
      | outgrown => exact h.elim
    case post =>
      rintro e W2 ⟨⟨v, rfl⟩, (⟨hi, hl, hk⟩ | ⟨pre, x, rest, hx, ⟨hix, hl, hk⟩⟩)⟩
      · have hp := grownBy_putObj' W2 (w.heap.size + 1) (.loop { lrec fn a.tmps ps assign body w.heap.size .ready none with state := .exhausted })
        exact ⟨none, _, run_endLoop (P := Tryd.prog) hl (by simp [lrec]), hdone _ (hIL _ _ _ hi hp) ((World.putObj_heap_other (by omega)).trans hk)⟩
      · have hp := grownBy_putObj' W2 (w.heap.size + 1) (.loop { lrec fn a.tmps ps assign body w.heap.size .done (some .ret) with state := .exhausted })
        exact ⟨some .ret, _, run_endLoop (P := Tryd.prog) hl (by simp [lrec]), hstop _ pre x rest hx (hXL _ _ _ hix hp) ((World.putObj_heap_other (by omega)).trans hk)⟩
end Go.Proofs.YtjinedeelkdgiaaDoor
