/-
  percent.plainBytes: which bytes stay as they are.
-/
import Derived.Test.YtbbphchhdppipaaDoorURanges
import Derived.Test.YtbbphchhdppipaaDoorUOwn
namespace Go.Proofs.YtbbphchhdppipaaDoor
open Go.RowKit
attribute [local go_sem] w_0 w_1 w_2 w_3
theorem below_allocL {N : Nat} {W wx : World} {o : Obj} (hN : N ≤ W.heap.size) (h : Below N W wx) : Below N W (wx.alloc o) := h.alloc (Nat.le_trans hN h.size) o
theorem below_transL {N : Nat} {W wx w' : World} (hN : N ≤ W.heap.size) (h : Below N W wx) (hb : Below wx.heap.size wx w') : Below N W w' := h.trans (hb.mono (Nat.le_trans hN h.size))
theorem heldL {N : Nat} {W wx : World} {B : Nat} {a b c d : BitVec 64} (hB : Blk W B ⟨a, b, c, d⟩) (lB : B < N) (hb : Below N W wx) :
    Below N W wx ∧ wx.cell? ⟨B, 0, none⟩ = some (.int .u64 (a.toNat : Int)) ∧ wx.cell? ⟨B, 1, none⟩ = some (.int .u64 (b.toNat : Int)) ∧ wx.cell? ⟨B, 2, none⟩ = some (.int .u64 (c.toNat : Int)) ∧ wx.cell? ⟨B, 3, none⟩ = some (.int .u64 (d.toNat : Int)) := by
  have cB := (hB.below hb lB).cells
  exact ⟨hb, cB.1, cB.2.1, cB.2.2.1, cB.2.2.2⟩
def one37 : WSet := addTo .empty (fun _ => 37) 1
theorem one37_eq : one37 = ⟨137438953472#64, 0#64, 0#64, 0#64⟩ := by decide +kernel
theorem of37 (W : World) : Calls Tryd.prog 37 #[.slice (some ⟨W.heap.size, 0, none⟩) 1 1] (W.alloc (.cells #[.int .u8 37] 5)).drew fun e w' => e = .returned (WSet.mk 137438953472#64 0#64 0#64 0#64).v ∧ Below W.heap.size W w' := by
  refine (of_any W.heap.size 0 1 1 (fun _ => 37) (fun _ _ => by omega) (by unfold maxLen; omega) _ (by simp) ?_).mono ?_
  · intro j hj
    have hk : (W.alloc (.cells #[.int .u8 37] 5)).drew.heap[W.heap.size]? = _ := heap_alloc_new W _
    rw [cell_of_row _ _ _ _ _ _ hk]
    match j, hj with
    | 0, _ => rfl
  · rintro e w' ⟨rfl, hb⟩
    exact ⟨by rw [← one37_eq]; rfl, (((Below.refl _ W).alloc (Nat.le_refl _) _).drew).trans (hb.mono (by simp))⟩
theorem common2 (x0 x1 x2 x3 y0 y1 y2 y3 : BitVec 64) (W : World) :
    Calls Tryd.prog 66 #[.slice (some ⟨W.heap.size, 0, none⟩) 2 2] (W.alloc (.cells #[.int .u64 x0.toNat, .int .u64 x1.toNat, .int .u64 x2.toNat, .int .u64 x3.toNat, .int .u64 y0.toNat, .int .u64 y1.toNat, .int .u64 y2.toNat, .int .u64 y3.toNat] 25)) fun e w' => e = .returned (andTo WSet.empty.not (pairF ⟨x0, x1, x2, x3⟩ ⟨y0, y1, y2, y3⟩) 2).v ∧ Below W.heap.size W w' := by
  refine (common_any W.heap.size 0 2 2 (pairF (WSet.mk x0 x1 x2 x3) (WSet.mk y0 y1 y2 y3)) (by unfold maxLen; omega) _ (by simp) ?_).mono ?_
  · intro j hj i hi
    have hk : (W.alloc (.cells #[.int .u64 x0.toNat, .int .u64 x1.toNat, .int .u64 x2.toNat, .int .u64 x3.toNat, .int .u64 y0.toNat, .int .u64 y1.toNat, .int .u64 y2.toNat, .int .u64 y3.toNat] 25)).heap[W.heap.size]? = _ := heap_alloc_new W _
    rw [cell_of_row _ _ _ _ _ _ hk]
    match j, hj, i, hi with
    | 0, _, 0, _ => rfl
    | 0, _, 1, _ => rfl
    | 0, _, 2, _ => rfl
    | 0, _, 3, _ => rfl
    | 1, _, 0, _ => rfl
    | 1, _, 1, _ => rfl
    | 1, _, 2, _ => rfl
    | 1, _, 3, _ => rfl
  · rintro e w' ⟨rfl, hb⟩
    exact ⟨rfl, ((Below.refl _ W).alloc (Nat.le_refl _) _).trans (hb.mono (by simp))⟩
/-- The bytes that stay as they are. -/
def plainW (s : WSet) : WSet := andTo WSet.empty.not (pairF s (WSet.mk 137438953472#64 0#64 0#64 0#64).not) 2
set_option maxHeartbeats 4000000 in
theorem plain_any (a b c d : BitVec 64) (w : World) :
    Calls Tryd.prog 78 #[.agg #[.int .u64 a.toNat, .int .u64 b.toNat, .int .u64 c.toNat, .int .u64 d.toNat]] w fun e w' => e = .returned (plainW ⟨a, b, c, d⟩).v ∧ Below w.heap.size w w' := by
  have a0 := (Blk.new w ⟨a, b, c, d⟩).alloc (.cells #[.int .u64 0, .int .u64 0, .int .u64 0, .int .u64 0] 25)
  have r0 := Blk.new0 (w.alloc (.cells #[.int .u64 a.toNat, .int .u64 b.toNat, .int .u64 c.toNat, .int .u64 d.toNat] 25))
  rw [World.size_alloc] at r0
  have hB : Below w.heap.size w ((w.alloc (.cells #[.int .u64 a.toNat, .int .u64 b.toNat, .int .u64 c.toNat, .int .u64 d.toNat] 25)).alloc (.cells #[.int .u64 0, .int .u64 0, .int .u64 0, .int .u64 0] 25)) := by go_grown
  have hN : w.heap.size + 1 ≤ ((w.alloc (.cells #[.int .u64 a.toNat, .int .u64 b.toNat, .int .u64 c.toNat, .int .u64 d.toNat] 25)).alloc (.cells #[.int .u64 0, .int .u64 0, .int .u64 0, .int .u64 0] 25)).heap.size := by simp
  go_enter Tryd.func78, Tryd.ntmps78
  go_upto_region 1 with fail
  obtain ⟨wr, hW⟩ : ∃ W, (w.alloc (.cells #[.int .u64 a.toNat, .int .u64 b.toNat, .int .u64 c.toNat, .int .u64 d.toNat] 25)).alloc (.cells #[.int .u64 0, .int .u64 0, .int .u64 0, .int .u64 0] 25) = W := ⟨_, rfl⟩
  rw [hW] at hB a0 r0 hN ⊢
  clear hW
  refine wp_region_noPanic ?_
  refine wp_region_held_drew (S := fun wx => Below (w.heap.size + 1) wr wx ∧ wx.cell? ⟨w.heap.size, 0, none⟩ = some (.int .u64 (a.toNat : Int)) ∧ wx.cell? ⟨w.heap.size, 1, none⟩ = some (.int .u64 (b.toNat : Int)) ∧ wx.cell? ⟨w.heap.size, 2, none⟩ = some (.int .u64 (c.toNat : Int)) ∧ wx.cell? ⟨w.heap.size, 3, none⟩ = some (.int .u64 (d.toNat : Int))) (by kernel_rfl) ?_ (fun hHeld => ?_)
  focus ((try dsimp only); ((go_split_ands; refine heldL a0 (by omega) ?_; repeat' (first | (with_reducible assumption) | (with_reducible exact Below.refl _ _) | (with_reducible refine Below.drew ?_) | (with_reducible refine below_allocL hN ?_) | (with_reducible refine Below.setCell ?_ ?_ _; rotate_left; ((try dsimp only); omega)) | (refine below_transL (wx := ?_) hN ?_ ?_; rotate_left 2; assumption)))))
  try simp only [Act.put, List.setIfInBounds_toArray, List.set_cons_zero, List.set_cons_succ]
  refine wpAnyH_take (i := 0) (oi := { dst := some 3, op := Go.Op.load 25 (Go.Operand.tmp 1), type := 25, pos := "percent.go:86", after := #[], guard := none }) (v := ?_) rfl (by kernel_rfl) (by kernel_rfl) (by kernel_rfl) (fun _ _ _ h => h) (Or.inl ⟨by rfl, ?_⟩) (by assumption) ?_
  rotate_left
  focus ((intro w hSw; (try dsimp only at hSw); go_simp) <;> (with_reducible rfl))
  try simp only [Act.put, List.setIfInBounds_toArray, List.set_cons_zero, List.set_cons_succ]
  refine wpAnyH_ready (rs := [1]) (by kernel_rfl) (by simp) ?_
  refine AllReadyH.cons (o := { dst := some 4, op := Go.Op.buildSlice 53 1 #[(0, Go.Operand.const (Go.Value.int Go.IntKind.u8 37))], type := 53, pos := "percent.go:86", after := #[], guard := none }) rfl (fun K hK => ?_) AllReadyH.nil
  go_simp
  refine hK.out _ _ ?_ (fun hNew => ?_)
  focus ((try dsimp only); ((go_split_ands; refine heldL a0 (by omega) ?_; repeat' (first | (with_reducible assumption) | (with_reducible exact Below.refl _ _) | (with_reducible refine Below.drew ?_) | (with_reducible refine below_allocL hN ?_) | (with_reducible refine Below.setCell ?_ ?_ _; rotate_left; ((try dsimp only); omega)) | (refine below_transL (wx := ?_) hN ?_ ?_; rotate_left 2; assumption)))))
  clear hK K hHeld
  have hHeld := hNew
  clear hNew
  try simp only [Act.put, List.setIfInBounds_toArray, List.set_cons_zero, List.set_cons_succ]
  refine wpAnyH_ready (rs := [2]) (by kernel_rfl) (by simp) ?_
  refine AllReadyH.cons (o := { dst := some 5, op := Go.Op.call { callee := Go.Callee.value (Go.Operand.func 37), args := #[Go.Operand.tmp 4], argTypes := #[53] }, type := 25, pos := "percent.go:86", after := #[{ on := 1, ground := Go.Ground.data }], guard := none }) rfl (fun K hK => ?_) AllReadyH.nil
  go_simp
  (go_at_call 37; refine (of37 wr).mono ?_; rintro e w1 ⟨rfl, hb⟩; have r1 : Blk w1 (w.heap.size + 1) .empty := r0.below hb r0.lt; have z1 := hb.size)
  first | (go_wp2_with fail) | skip
  refine hK.out _ _ ?_ (fun hNew => ?_)
  focus ((try dsimp only); ((go_split_ands; refine heldL a0 (by omega) ?_; repeat' (first | (with_reducible assumption) | (with_reducible exact Below.refl _ _) | (with_reducible refine Below.drew ?_) | (with_reducible refine below_allocL hN ?_) | (with_reducible refine Below.setCell ?_ ?_ _; rotate_left; ((try dsimp only); omega)) | (refine below_transL (wx := ?_) hN ?_ ?_; rotate_left 2; assumption)))))
  clear hK K hHeld
  have hHeld := hNew
  clear hNew
  try simp only [Act.put, List.setIfInBounds_toArray, List.set_cons_zero, List.set_cons_succ]
  refine wpAnyH_ready (rs := [3]) (by kernel_rfl) (by simp) ?_
  refine AllReadyH.cons (o := { dst := some 6, op := Go.Op.call { callee := Go.Callee.value (Go.Operand.func 67), args := #[Go.Operand.tmp 5], argTypes := #[25] }, type := 25, pos := "percent.go:86", after := #[{ on := 2, ground := Go.Ground.data }, { on := 2, ground := Go.Ground.chain }], guard := none }) rfl (fun K hK => ?_) AllReadyH.nil
  go_simp
  (go_at_call 67; refine (not_any _ _ _ _ _).mono ?_; rintro e w2 ⟨rfl, hb⟩; have r2 : Blk w2 (w.heap.size + 1) .empty := r1.below hb r1.lt; have z2 := hb.size)
  first | (go_wp2_with fail) | skip
  refine hK.out _ _ ?_ (fun hNew => ?_)
  focus ((try dsimp only); ((go_split_ands; refine heldL a0 (by omega) ?_; repeat' (first | (with_reducible assumption) | (with_reducible exact Below.refl _ _) | (with_reducible refine Below.drew ?_) | (with_reducible refine below_allocL hN ?_) | (with_reducible refine Below.setCell ?_ ?_ _; rotate_left; ((try dsimp only); omega)) | (refine below_transL (wx := ?_) hN ?_ ?_; rotate_left 2; assumption)))))
  clear hK K hHeld
  have hHeld := hNew
  clear hNew
  try simp only [Act.put, List.setIfInBounds_toArray, List.set_cons_zero, List.set_cons_succ]
  refine wpAnyH_ready (rs := [4]) (by kernel_rfl) (by simp) ?_
  refine AllReadyH.cons (o := { dst := some 7, op := Go.Op.buildSlice 97 2 #[(0, Go.Operand.tmp 3), (1, Go.Operand.tmp 6)], type := 97, pos := "percent.go:86", after := #[{ on := 0, ground := Go.Ground.data }, { on := 3, ground := Go.Ground.data }], guard := none }) rfl (fun K hK => ?_) AllReadyH.nil
  go_simp
  refine hK.out _ _ ?_ (fun hNew => ?_)
  focus ((try dsimp only); ((go_split_ands; refine heldL a0 (by omega) ?_; repeat' (first | (with_reducible assumption) | (with_reducible exact Below.refl _ _) | (with_reducible refine Below.drew ?_) | (with_reducible refine below_allocL hN ?_) | (with_reducible refine Below.setCell ?_ ?_ _; rotate_left; ((try dsimp only); omega)) | (refine below_transL (wx := ?_) hN ?_ ?_; rotate_left 2; assumption)))))
  clear hK K hHeld
  have hHeld := hNew
  clear hNew
  try simp only [Act.put, List.setIfInBounds_toArray, List.set_cons_zero, List.set_cons_succ]
  refine wpAnyH_ready (rs := [5]) (by kernel_rfl) (by simp) ?_
  refine AllReadyH.cons (o := { dst := some 8, op := Go.Op.call { callee := Go.Callee.value (Go.Operand.func 66), args := #[Go.Operand.tmp 7], argTypes := #[97] }, type := 25, pos := "percent.go:86", after := #[{ on := 4, ground := Go.Ground.data }, { on := 3, ground := Go.Ground.chain }], guard := none }) rfl (fun K hK => ?_) AllReadyH.nil
  go_simp
  (go_at_call 66; refine (common2 _ _ _ _ _ _ _ _ w2).mono ?_; rintro e w3 ⟨rfl, hb⟩; have r3 : Blk w3 (w.heap.size + 1) .empty := r2.below hb r2.lt; have z3 := hb.size; obtain ⟨c0, c1, c2, c3⟩ := r3.cells; obtain ⟨f0, f1, f2, f3⟩ := r3.frees; have l3 := r3.lt)
  first | (go_wp2_with fail) | skip
  refine hK.out _ _ ?_ (fun hNew => ?_)
  focus ((try dsimp only); ((go_split_ands; refine heldL a0 (by omega) ?_; repeat' (first | (with_reducible assumption) | (with_reducible exact Below.refl _ _) | (with_reducible refine Below.drew ?_) | (with_reducible refine below_allocL hN ?_) | (with_reducible refine Below.setCell ?_ ?_ _; rotate_left; ((try dsimp only); omega)) | (refine below_transL (wx := ?_) hN ?_ ?_; rotate_left 2; assumption)))))
  clear hK K hHeld
  have hHeld := hNew
  clear hNew
  try simp only [Act.put, List.setIfInBounds_toArray, List.set_cons_zero, List.set_cons_succ]
  refine wpAnyH_ready (rs := [6]) (by kernel_rfl) (by simp) ?_
  refine AllReadyH.cons (o := { dst := none, op := Go.Op.store 25 (Go.Operand.tmp 2) (Go.Operand.tmp 8), type := 0, pos := "percent.go:86", after := #[{ on := 5, ground := Go.Ground.data }, { on := 5, ground := Go.Ground.chain }, { on := 0, ground := Go.Ground.phase }, { on := 1, ground := Go.Ground.phase }, { on := 2, ground := Go.Ground.phase }, { on := 3, ground := Go.Ground.phase }, { on := 4, ground := Go.Ground.phase }, { on := 5, ground := Go.Ground.phase }], guard := none }) rfl (fun K hK => ?_) AllReadyH.nil
  go_simp
  refine hK.out _ _ ?_ (fun hNew => ?_)
  focus ((try dsimp only); ((go_split_ands; refine heldL a0 (by omega) ?_; repeat' (first | (with_reducible assumption) | (with_reducible exact Below.refl _ _) | (with_reducible refine Below.drew ?_) | (with_reducible refine below_allocL hN ?_) | (with_reducible refine Below.setCell ?_ ?_ _; rotate_left; ((try dsimp only); omega)) | (refine below_transL (wx := ?_) hN ?_ ?_; rotate_left 2; assumption)))))
  clear hK K hHeld
  have hHeld := hNew
  clear hNew
  try simp only [Act.put, List.setIfInBounds_toArray, List.set_cons_zero, List.set_cons_succ]
  refine wpAnyH_done (by kernel_rfl) ?_ _
  refine NoPanic.normal ?_
  go_wp2_with fail
  exact bodyPost_ret ((r3.store (plainW ⟨a, b, c, d⟩)).results rfl _ rfl) rfl ⟨rfl, hB.trans (hHeld.1.mono (by omega))⟩
theorem plain_word (x y : BitVec 64) (k : Nat) (hk : k < 64) : ((~~~(0 : BitVec 64) &&& x) &&& ~~~y).getLsbD k = (x.getLsbD k && !(y.getLsbD k)) := by
  rw [show ~~~(0 : BitVec 64) = BitVec.allOnes 64 by decide, BitVec.allOnes_and, BitVec.getLsbD_and, BitVec.getLsbD_not]
  simp [hk]
theorem has_plain (s : WSet) (n : Nat) (hn : n < 256) : (plainW s).has n = (n != 37 && s.has n) := by
  have hw : ∀ i k, k < 64 → ((plainW s).w i).getLsbD k = ((s.w i).getLsbD k && !(((WSet.mk 137438953472#64 0#64 0#64 0#64).w i).getLsbD k)) := by
    intro i k hk
    match i with
    | 0 => exact plain_word _ _ k hk
    | 1 => exact plain_word _ _ k hk
    | 2 => exact plain_word _ _ k hk
    | _ + 3 => exact plain_word _ _ k hk
  have ht : ∀ m : Fin 256, ((WSet.mk 137438953472#64 0#64 0#64 0#64).w (m.val / 64)).getLsbD (m.val % 64) = (m.val == 37) := by decide +kernel
  have h1 := ht ⟨n, hn⟩
  simp only at h1
  unfold WSet.has
  rw [hw _ _ (by omega), h1, Bool.and_comm]
  rfl
end Go.Proofs.YtbbphchhdppipaaDoor
