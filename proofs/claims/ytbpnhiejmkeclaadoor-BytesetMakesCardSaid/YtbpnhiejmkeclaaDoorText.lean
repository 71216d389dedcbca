/-
  byteset.Text for every set: the text of its longest runs. The table of math/bits must lie in its variable.
-/
import Derived.Test.YtbpnhiejmkeclaaDoorRuns
import Derived.Test.YtbpnhiejmkeclaaDoorAppendByte
namespace Go.Proofs.YtbpnhiejmkeclaaDoor
open Go.RowKit Go.Shelf
attribute [local go_sem] Oper.semAt_some
/-- How a run is written. -/
def runT (r : Nat × Nat) : List Nat := written r.1 ++ (if 1 < r.2 - r.1 then [45] else []) ++ (if r.1 < r.2 then written r.2 else [])
/-- The text of a set. -/
def textOf (s : WSet) : List Nat := (runsOf s).flatMap runT
def textTo (pre : List Run) : List Nat := pre.flatMap fun r => runT r.1
theorem written_length (n : Nat) : 1 ≤ (written n).length ∧ (written n).length ≤ 4 := by
  unfold written; split <;> simp
theorem runT_length (r : Nat × Nat) : (runT r).length ≤ 9 := by
  have h1 := written_length r.1
  have h2 := written_length r.2
  unfold runT
  simp only [List.length_append]
  split <;> split <;> simp <;> omega
theorem textTo_snoc (pre : List Run) (r : Run) : textTo (pre ++ [r]) = textTo pre ++ runT r.1 := by simp [textTo]
theorem textTo_length (pre : List Run) : (textTo pre).length ≤ 9 * pre.length := by
  induction pre with
  | nil => simp [textTo]
  | cons r l ih =>
    have h1 := runT_length r.1
    simp only [textTo, List.flatMap_cons, List.length_append, List.length_cons] at ih ⊢
    omega
theorem textTo_runs {s : WSet} {ys : List Run} (h : ys.map (·.1) = runsOf s) : textTo ys = textOf s := by
  unfold textOf textTo
  rw [← h]
  simp [List.flatMap_map]
theorem cell_one_at {w : World} (v : Value) (t : TypeId) {B : Nat} (hB : w.heap.size = B) : ∀ j u, [v][j]? = some u → (w.alloc (.cells #[v] t)).cell? ((⟨B, 0, none⟩ : Addr).add j) = some u := hB ▸ cell_one_new w v t
/-- A block that holds a range. -/
def RBlk (W : World) (B : Nat) (lo hi : Nat) : Prop := W.heap[B]? = some (.cells #[.int .u8 lo, .int .u8 hi] 42 (0, 0))
theorem RBlk.cells {W : World} {B lo hi : Nat} (h : RBlk W B lo hi) : W.cell? ⟨B, 0, none⟩ = some (.int .u8 lo) ∧ W.cell? ⟨B, 1, none⟩ = some (.int .u8 hi) := by
  unfold RBlk at h
  exact ⟨by simp [World.cell?, h], by simp [World.cell?, h]⟩
theorem row_type {W : World} {n₀ : Nat} {e : TypeId} {size : Nat} {v : Value} {k : Nat} {xs : List Value} (hr : W.ownsRow n₀ e size v k xs) {B : Nat} {cs : Array Value} {t : TypeId} (h : W.heap[B]? = some (.cells cs t (0, 0))) (hte : t ≠ e) : some B ≠ v.ownBlock := by
  rcases hr.2 with ⟨rfl, _⟩ | ⟨g, cap, cur, rfl, _, hgb, _⟩
  · simp [Value.ownBlock]
  · intro e'
    obtain rfl : B = g := by simpa [Value.ownBlock] using e'
    have := h.symm.trans hgb
    simp at this
    exact hte this.2
/-- Behind an append to the text and the store of the new slice. -/
theorem text_step {W w1 : World} {n₀ B Bx : Nat} {v v' : Value} {k m lo hi : Nat} {xs ys : List Value} (hv : Boxed W B 31 v) (hrow : W.ownsRow n₀ 5 1 v k xs) (hR : RBlk W Bx lo hi) (hne : Bx ≠ B)
    (hn₀ : n₀ ≤ W.heap.size) (hB : n₀ ≤ B) (h0 : 0 < n₀) (hown' : w1.ownsRow n₀ 5 1 v' m ys) (hgrow : W.grownBy w1 v.ownBlock) :
    (Boxed w1 B 31 v ∧ RBlk w1 Bx lo hi) ∧ Boxed (w1.setCell ⟨B, 0, none⟩ v') B 31 v' ∧ (w1.setCell ⟨B, 0, none⟩ v').ownsRow n₀ 5 1 v' m ys ∧ RBlk (w1.setCell ⟨B, 0, none⟩ v') Bx lo hi ∧
      (KeepsOthers W (w1.setCell ⟨B, 0, none⟩ v') ∧ KeepsT W (w1.setCell ⟨B, 0, none⟩ v') ∧ Below n₀ W (w1.setCell ⟨B, 0, none⟩ v')) := by
  have hv1 : Boxed w1 B 31 v := hv.kept hgrow (hv.not_row (by decide) hrow)
  have hb : Below n₀ W (w1.setCell ⟨B, 0, none⟩ v') := by
    refine ((Below.refl n₀ W).grown hgrow hn₀ fun j ej => ?_).setCell (p := ⟨B, 0, none⟩) hB v'
    rcases hrow.2 with ⟨rfl, _⟩ | ⟨g, cap, cur, rfl, hb, _, _⟩
    · simp [Value.ownBlock] at ej
    · obtain rfl : g = j := by simpa [Value.ownBlock] using ej
      exact hb
  have hk : ∀ (j : Nat) (cs : Array Value) (t : TypeId), W.heap[j]? = some (.cells cs t (0, 0)) → t ≠ 5 → t ≠ 31 → (w1.setCell ⟨B, 0, none⟩ v').heap[j]? = W.heap[j]? := by
    intro j cs t hj ht1 ht2
    have hjB : j ≠ B := by
      rintro rfl
      rw [show W.heap[j]? = _ from hv] at hj
      simp at hj
      exact ht2 hj.2.symm
    rw [Below.heap_setCell _ _ _ _ hjB]
    exact hgrow.block j (lt_of_block hj) (row_type hrow hj ht1)
  refine ⟨⟨hv1, (hgrow.block Bx (lt_of_block hR) (row_type hrow hR (by decide))).trans hR⟩, hv1.set v', hown'.kept (grownBy_setCell' w1 B v') (.inr (hv1.not_row (by decide) hown').symm), ?_, ?_, ⟨hb.block _ h0, fun j cs hj => hk j cs _ hj (by decide) (by decide)⟩, hb⟩
  · exact (hk Bx _ _ hR (by decide) (by decide)).trans hR
  · refine (KeepsOthers.of_grownBy hgrow fun j o ej hj => ?_).trans (KeepsOthers.setCell _ _ _)
    rcases hrow.2 with ⟨rfl, _⟩ | ⟨g, cap, cur, rfl, _, hgb, _⟩
    · simp [Value.ownBlock] at ej
    · obtain rfl : g = j := by simpa [Value.ownBlock] using ej
      rw [hgb] at hj; cases hj; rfl
/-- The text that an owned slice of bytes is turned into. -/
theorem owned_string {W : World} {base : Nat} {v : Value} {L : List Nat} (h : W.ownsRow base 5 1 v L.length (L.map encB)) : (convert 31 9 v).run Tryd.prog W = .ok (.string ⟨(L.map UInt8.ofNat).toArray⟩) W := by
  have hs : strOfNums (L.map fun x : Nat => (x : Int)) = ⟨(L.map UInt8.ofNat).toArray⟩ := by
    simp [strOfNums, Function.comp_def]
  rcases h.2 with ⟨rfl, h0⟩ | ⟨g, cap, cur, rfl, hg, hh, h1, h2, h3, h4⟩
  · obtain rfl : L = [] := List.eq_nil_of_length_eq_zero h0
    exact run_convert_bytes_nil W 31 5 Tryd.underlying31 Tryd.underlying5 0 0 9 Tryd.underlying9
  · rw [← hs]
    refine run_convert_bytes_arg W 31 5 Tryd.underlying31 Tryd.underlying5 g 0 L.length cap (L.map fun x : Nat => (x : Int)) (by simp) (fun i hi => ?_) 9 Tryd.underlying9
    rw [cell_of_row W g (0 + i) cur _ _ hh, Nat.zero_add]
    have e1 : (cur.toList.take (L.length * 1))[i]? = (L.map encB)[i]? := by rw [h4]
    rw [List.getElem?_take_of_lt (by omega)] at e1
    rw [← Array.getElem?_toList, e1]
    simp [List.getElem?_eq_getElem hi, encB]
/-- What a round hands on, from its start W. -/
def TextStep (B n₀ : Nat) (W W' : World) : Prop := KeepsFrom B W W' ∧ KeepsT W W' ∧ Below n₀ W W'
theorem TextStep.trans {B n₀ : Nat} {X Y Z : World} (h : TextStep B n₀ X Y) (k : TextStep B n₀ Y Z) : TextStep B n₀ X Z := ⟨h.1.trans k.1, h.2.1.trans k.2.1, h.2.2.trans k.2.2⟩
set_option maxRecDepth 100000 in
set_option maxHeartbeats 4000000 in
theorem text_any (a b c d : BitVec 64) (w : World) (hT : Tab w) (h0w : 0 < w.heap.size) :
    Calls Tryd.prog 33 #[.agg #[.int .u64 a.toNat, .int .u64 b.toNat, .int .u64 c.toNat, .int .u64 d.toNat]] w fun e w' =>
      e = .returned (.string ⟨((textOf ⟨a, b, c, d⟩).map UInt8.ofNat).toArray⟩) ∧ Below w.heap.size w w' := by
  obtain ⟨i0, hi_, hzz, hzs, hzb⟩ := info_parts info5
  refine (callsIn_wide (n := 3)).1 ?_
  refine callsIn_of_wp_marks Tryd.func33 rfl trivial ?_ rfl
  simp only [Tryd.ntmps33, List.size_toArray, List.length_cons, List.length_nil, Nat.reduceAdd, Nat.reduceSub, Array.replicate_succ, Array.replicate_zero, List.push_toArray, List.append_toArray, List.nil_append, List.cons_append]
  gi_wp2_with (refine ⟨trivial, ?_⟩; gi_at_call 47; refine (callsIn_wide.2 (runs_any _ _ _ _ _)).mono ?_; rintro e w' ⟨rfl, rfl⟩)
  generalize hw3 : ((w.alloc (.cells #[.int .u64 a.toNat, .int .u64 b.toNat, .int .u64 c.toNat, .int .u64 d.toNat] 24)).alloc (.cells #[.slice none 0 0] 31)).alloc (.cells #[.int .u64 a.toNat, .int .u64 b.toNat, .int .u64 c.toNat, .int .u64 d.toNat] 24) = w3
  have hz3 : w3.heap.size = w.heap.size + 3 := by rw [← hw3]; simp
  have hB3 : Below w.heap.size w w3 := by rw [← hw3]; go_grown
  have hL3 : Boxed w3 (w.heap.size + 1) 31 (.slice none 0 0) := by
    have := ((Boxed.new (w.alloc (.cells #[.int .u64 a.toNat, .int .u64 b.toNat, .int .u64 c.toNat, .int .u64 d.toNat] 24)) 31 (.slice none 0 0)).alloc (.cells #[.int .u64 a.toNat, .int .u64 b.toNat, .int .u64 c.toNat, .int .u64 d.toNat] 24))
    rw [World.size_alloc] at this
    rw [← hw3]; exact this
  have hS3 : Blk w3 (w.heap.size + 1 + 1) ⟨a, b, c, d⟩ := by
    have := (Blk.new ((w.alloc (.cells #[.int .u64 a.toNat, .int .u64 b.toNat, .int .u64 c.toNat, .int .u64 d.toNat] 24)).alloc (.cells #[.slice none 0 0] 31)) ⟨a, b, c, d⟩)
    rw [World.size_alloc, World.size_alloc] at this
    rw [← hw3]; exact this
  have hT3 : Tab w3 := hT.below hB3 h0w
  clear hw3
  refine wpIn_rangeFunc_ownH rfl (by omega) (gf := 56) (lb := #[.pointer (some ⟨w.heap.size + 1 + 1, 0, none⟩)]) rfl trivial (enters_of Tryd.func56 (by kernel_rfl) rfl)
    (runs_stops (3 - 1) (by omega) (w.heap.size + 1 + 1) ⟨a, b, c, d⟩ w3 hT3 (by omega) hS3)
    KeepsT.trans (keepsT_b (by omega)) (Below.refl _ _) (fun _ => rfl)
    (fun pre W => (∃ v, Boxed W (w.heap.size + 1) 31 v ∧ W.ownsRow w.heap.size 5 1 v (textTo pre).length ((textTo pre).map encB) ∧ True) ∧ Below w.heap.size w W)
    (fun _ _ _ => False)
    (OwnFrom.and (Own.from (holdsRow_own w.heap.size (w.heap.size + 1) 31 5 1 (fun pre : List Run => (textTo pre).length) (fun pre => (textTo pre).map encB) (fun _ _ => True)) _) (ownFrom_below (Nat.le_refl _) (by omega)))
    (fun _ _ _ _ _ hs _ _ => hs)
    ⟨⟨_, hL3, World.ownsRow_nil _ _ _ _, trivial⟩, hB3⟩
    (fun x a' W => ∃ Bx, w.heap.size + 1 < Bx ∧ RBlk W Bx x.1.1 x.1.2 ∧ a' = { tmps := #[.agg #[.int .u64 a.toNat, .int .u64 b.toNat, .int .u64 c.toNat, .int .u64 d.toNat], .pointer (some ⟨w.heap.size, 0, none⟩), .string ⟨#[]⟩, .pointer (some ⟨w.heap.size + 1, 0, none⟩), .pointer (some ⟨Bx, 0, none⟩), .agg #[.int .u64 a.toNat, .int .u64 b.toNat, .int .u64 c.toNat, .int .u64 d.toNat],
        .func (.func 56) #[] #[.pointer (some ⟨w.heap.size + 1 + 1, 0, none⟩)], .agg #[.int .u8 (x.1.1 : Nat), .int .u8 (x.1.2 : Nat)], undef, undef, undef, undef, undef, undef, undef, undef, undef, undef, undef, undef, undef, undef, undef, undef, undef, undef, undef, undef, undef, undef, undef, undef], defers := [] })
    (fun x a' _ X Y row hs hg hr => by
      obtain ⟨Bx, h1, h2, h3⟩ := hs
      exact ⟨Bx, h1, (hg.block Bx (lt_of_block h2) (fun e => by obtain ⟨_, o, ho, hc⟩ := hr Bx e.symm; rw [show X.heap[Bx]? = _ from h2] at ho; cases ho; cases hc)).trans h2, h3⟩)
    ?assign ?body ?done ?stop
  case assign =>
    rintro l pre x W K ⟨⟨v, hv, hrow, -⟩, hB⟩ hK
    have hv' := hv.lt
    gi_wp2
    refine hK _ _ ((KeepsOthers.alloc _ _).from _) (keepsT_below ((Below.refl _ W).alloc (Nat.le_refl _) _) (by omega)) ⟨⟨v, hv.alloc _, hrow.alloc _, trivial⟩, hB.alloc hB.size _⟩ ⟨W.heap.size, hv.lt, World.alloc_heap_new W _, rfl⟩
  case body =>
    rintro l pre ⟨⟨lo, hi⟩, hle, h256⟩ a' W hl ⟨r, hr⟩ ⟨⟨v, hv, hrow, -⟩, hB⟩ ⟨Bx, hBx, hR, rfl⟩ hlt
    dsimp only at hR hle h256
    have hc := hv.cell
    obtain ⟨r1, r2⟩ := hR.cells
    have hlen := textTo_length pre
    have hW0 := hB.size
    have hx := textTo_snoc pre ⟨(lo, hi), hle, h256⟩
    have wl := written_length lo
    have wh := written_length hi
    gi_wp2_with fail
    refine ⟨trivial, ?_⟩
    refine (CallsIn.inRound l (callsIn_wide.2 (appendByte_any w.heap.size v _ (textTo pre) lo (by omega) (by omega) W hB.size hrow))).mono ?_
    rintro e w1 ⟨v1, rfl, hown1, hgrow1⟩
    obtain ⟨g1, cap1, rfl, -, -⟩ := World.ownsRow.form hown1 (by omega)
    obtain ⟨⟨hv1, hR1⟩, hv2, hown2, hR2, hko2, hkt2, hbe2⟩ := text_step hv hrow hR (by omega) hB.size (by omega) h0w hown1 hgrow1
    have hc1 := hv1.cell
    have hf1 := hv1.frozen
    obtain ⟨r11, r12⟩ := hR1.cells
    have hz1 := hgrow1.size
    clear hc r1 r2 hv1 hR1 hown1 hgrow1
    rcases Nat.lt_or_ge lo hi with hlo | hlo
    · have d2 : decide ((lo : Int) < (hi : Int)) = true := decide_eq_true (by omega)
      have hz2 := hbe2.size
      by_cases h1 : 1 < hi - lo
      · have d1 : decide (1 < (hi : Int) - (lo : Int)) = true := decide_eq_true (by omega)
        have hrt : Hid (runT (lo, hi) = written lo ++ [45] ++ written hi) := by
          show _ = _
          simp only [runT]; rw [if_pos h1, if_pos hlo]
        gi_wp2_with (gi_at_builtin; refine wpListIn_append_own _ rfl _ _ 31 rfl w.heap.size 5 i0 (.int .u8 0) 1 1 Tryd.underlying31 hi_ hzz hzs hzb rfl (by decide) _ _ _ rfl (hown2.alloc _) ⟨w1.heap.size, 0, none⟩ 1 1 [.int .u8 45] rfl rfl (cell_one_at _ _ (by simp)) (by simp [Value.oneCell']) (by unfold maxLen; omega) (by omega) (by simp; omega) ?_; intro v3 w3' hown3 hgrow3 _; obtain ⟨g3, cap3, rfl, -, -⟩ := World.ownsRow.form hown3 (by omega); obtain ⟨⟨hv3, hR3⟩, hv4, hown4, hR4, hko4, hkt4, hbe4⟩ := text_step hv2 hown2 hR2 (by omega) (by simp; omega) (by omega) h0w hown3 ((World.grownBy_alloc _ _ _).trans hgrow3); have hz3 := hgrow3.size; have hc3 := hv3.cell; have hf3 := hv3.frozen; obtain ⟨r31, r32⟩ := hR3.cells; clear hv3 hR3 hown3 hgrow3)
        have hz4 : w1.heap.size < w3'.heap.size := by simp at hz3; omega
        refine ⟨trivial, ?_⟩
        refine (CallsIn.inRound l (callsIn_wide.2 (appendByte_any w.heap.size _ ((textTo pre).length + (written lo).length + 1) (textTo pre ++ written lo ++ [45]) hi (by omega) (by omega) _ (by simp; omega) (by simpa [encB] using hown4)))).mono ?_
        rintro e w5 ⟨v5, rfl, hown5, hgrow5⟩
        obtain ⟨g5, cap5, rfl, -, -⟩ := World.ownsRow.form hown5 (by omega)
        obtain ⟨⟨hv5, hR5⟩, hv6, hown6, hR6, hko6, hkt6, hbe6⟩ := text_step hv4 hown4 hR4 (by omega) (by simp; omega) (by omega) h0w hown5 hgrow5
        have hc5 := hv5.cell
        have hf5 := hv5.frozen
        clear hv5 hR5 hown5 hgrow5
        gi_wp2_with fail
        refine ⟨((hko2.from _).trans (hko4.from _)).trans (hko6.from _), (hkt2.trans hkt4).trans hkt6, ⟨_, hv6, ?_, trivial⟩, ((hB.trans hbe2).trans hbe4).trans hbe6⟩
        rw [hx]
        simp only [hrt.out]
        have hA : textTo pre ++ (written lo ++ [45] ++ written hi) = textTo pre ++ written lo ++ [45] ++ written hi := by simp only [List.append_assoc]
        have hL : (textTo pre ++ written lo ++ [45] ++ written hi).length = (textTo pre).length + (written lo).length + 1 + (written hi).length := by simp only [List.length_append, List.length_singleton]
        rw [hA, hL]
        exact hown6
      · have d1 : decide (1 < (hi : Int) - (lo : Int)) = false := decide_eq_false (by omega)
        have hrt : Hid (runT (lo, hi) = written lo ++ written hi) := by
          show _ = _
          simp only [runT]; rw [if_neg h1, if_pos hlo]; simp
        gi_wp2_with fail
        refine ⟨trivial, ?_⟩
        refine (CallsIn.inRound l (callsIn_wide.2 (appendByte_any w.heap.size _ _ (textTo pre ++ written lo) hi (by omega) (by omega) _ (by simp; omega) hown2))).mono ?_
        rintro e w5 ⟨v5, rfl, hown5, hgrow5⟩
        obtain ⟨g5, cap5, rfl, -, -⟩ := World.ownsRow.form hown5 (by omega)
        obtain ⟨⟨hv5, hR5⟩, hv6, hown6, hR6, hko6, hkt6, hbe6⟩ := text_step hv2 hown2 hR2 (by omega) (by simp; omega) (by omega) h0w hown5 hgrow5
        have hc5 := hv5.cell
        have hf5 := hv5.frozen
        clear hv5 hR5 hown5 hgrow5
        gi_wp2_with fail
        refine ⟨(hko2.from _).trans (hko6.from _), hkt2.trans hkt6, ⟨_, hv6, ?_, trivial⟩, (hB.trans hbe2).trans hbe6⟩
        rw [hx]
        simp only [hrt.out]
        have hA : textTo pre ++ (written lo ++ written hi) = textTo pre ++ written lo ++ written hi := by simp only [List.append_assoc]
        have hL : (textTo pre ++ written lo ++ written hi).length = (textTo pre).length + (written lo).length + (written hi).length := by simp only [List.length_append]
        rw [hA, hL]
        exact hown6
    · obtain rfl : hi = lo := by omega
      have d2 : decide ((hi : Int) < (hi : Int)) = false := decide_eq_false (by omega)
      have d1 : decide (1 < (hi : Int) - (hi : Int)) = false := decide_eq_false (by omega)
      gi_wp2_with fail
      refine ⟨hko2.from _, hkt2, ⟨_, hv2, ?_, trivial⟩, hB.trans hbe2⟩
      rw [hx]
      simpa [runT] using hown2
  case done =>
    rintro D ys W hD hys ⟨⟨v, hv, hrow, -⟩, hB⟩ hK
    have hc := hv.cell
    have hcv := owned_string hrow
    gi_wp2
    refine ⟨by simp, .inl ⟨_, _, rfl, run_takeDeferred hK, ?_⟩⟩
    refine ⟨_, results_tmp rfl _ _ _, ?_, hB.trans (belowK_b (w := w) (Nat.le_refl _) W D _ _ (by omega) hK rfl rfl)⟩
    rw [textTo_runs hys]
    rfl
  case stop =>
    rintro D c pre W _ _ h _
    exact h.elim
end Go.Proofs.YtbpnhiejmkeclaaDoor
