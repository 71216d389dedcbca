/-
  percent.plainBytes: which bytes stay as they are.
  percent.value for every slice of bytes, output.escape for one byte.
  percent.Encode and Length for every text and every set.
-/
import Derived.Test.YtjinedeelkdgiaaDoorHRanges
import Derived.Test.YtjinedeelkdgiaaDoorHOwn
import Derived.Test.YtjinedeelkdgiaaDoorHGLay
import Derived.Test.YtjinedeelkdgiaaDoorHPBuild
import Derived.Test.YtjinedeelkdgiaaDoorHGEnc
namespace Go.Proofs.YtjinedeelkdgiaaDoor
open Go.RowKit
attribute [local go_sem] w_0 w_1 w_2 w_3
theorem below_allocL {N : Nat} {W wx : World} {o : Obj} (hN : N ≤ W.heap.size) (h : Below N W wx) : Below N W (wx.alloc o) := h.alloc (Nat.le_trans hN h.size) o
theorem below_transL {N : Nat} {W wx w' : World} (hN : N ≤ W.heap.size) (h : Below N W wx) (hb : Below wx.heap.size wx w') : Below N W w' := h.trans (hb.mono (Nat.le_trans hN h.size))
theorem heldL {N : Nat} {W wx : World} {B : Nat} {a b c d : BitVec 64} (hB : Blk W B ⟨a, b, c, d⟩) (lB : B < N) (hb : Below N W wx) :
    Below N W wx ∧ wx.cell? ⟨B, 0, none⟩ = some (.int .u64 (a.toNat : Int)) ∧ wx.cell? ⟨B, 1, none⟩ = some (.int .u64 (b.toNat : Int)) ∧ wx.cell? ⟨B, 2, none⟩ = some (.int .u64 (c.toNat : Int)) ∧ wx.cell? ⟨B, 3, none⟩ = some (.int .u64 (d.toNat : Int)) := by
  have cB := (hB.below hb lB).cells
  exact ⟨hb, cB.1, cB.2.1, cB.2.2.1, cB.2.2.2⟩
def one37 : WSet := addTo .empty (fun _ => 37) 1
theorem one37_eq : one37 = ⟨137438953472#64, 0#64, 0#64, 0#64⟩ := by decide +kernel
theorem of37 (W : World) : Calls Tryd.prog 78 #[.slice (some ⟨W.heap.size, 0, none⟩) 1 1] (W.alloc (.cells #[.int .u8 37] 5)).drew fun e w' => e = .returned (WSet.mk 137438953472#64 0#64 0#64 0#64).v ∧ Below W.heap.size W w' := by
  refine (of_any W.heap.size 0 1 1 (fun _ => 37) (fun _ _ => by omega) (by unfold maxLen; omega) _ (by simp) ?_).mono ?_
  · intro j hj
    have hk : (W.alloc (.cells #[.int .u8 37] 5)).drew.heap[W.heap.size]? = _ := heap_alloc_new W _
    rw [cell_of_row _ _ _ _ _ _ hk]
    match j, hj with
    | 0, _ => rfl
  · rintro e w' ⟨rfl, hb⟩
    exact ⟨by rw [← one37_eq]; rfl, (((Below.refl _ W).alloc (Nat.le_refl _) _).drew).trans (hb.mono (by simp))⟩
theorem common2 (x0 x1 x2 x3 y0 y1 y2 y3 : BitVec 64) (W : World) :
    Calls Tryd.prog 76 #[.slice (some ⟨W.heap.size, 0, none⟩) 2 2] (W.alloc (.cells #[.int .u64 x0.toNat, .int .u64 x1.toNat, .int .u64 x2.toNat, .int .u64 x3.toNat, .int .u64 y0.toNat, .int .u64 y1.toNat, .int .u64 y2.toNat, .int .u64 y3.toNat] 38)) fun e w' => e = .returned (andTo WSet.empty.not (pairF ⟨x0, x1, x2, x3⟩ ⟨y0, y1, y2, y3⟩) 2).v ∧ Below W.heap.size W w' := by
  refine (common_any W.heap.size 0 2 2 (pairF (WSet.mk x0 x1 x2 x3) (WSet.mk y0 y1 y2 y3)) (by unfold maxLen; omega) _ (by simp) ?_).mono ?_
  · intro j hj i hi
    have hk : (W.alloc (.cells #[.int .u64 x0.toNat, .int .u64 x1.toNat, .int .u64 x2.toNat, .int .u64 x3.toNat, .int .u64 y0.toNat, .int .u64 y1.toNat, .int .u64 y2.toNat, .int .u64 y3.toNat] 38)).heap[W.heap.size]? = _ := heap_alloc_new W _
    rw [cell_of_row _ _ _ _ _ _ hk]
    match j, hj, i, hi with
    | 0, _, 0, _ => rfl
    | 0, _, 1, _ => rfl
    | 0, _, 2, _ => rfl
    | 0, _, 3, _ => rfl
    | 1, _, 0, _ => rfl
    | 1, _, 1, _ => rfl
    | 1, _, 2, _ => rfl
    | 1, _, 3, _ => rfl
  · rintro e w' ⟨rfl, hb⟩
    exact ⟨rfl, ((Below.refl _ W).alloc (Nat.le_refl _) _).trans (hb.mono (by simp))⟩
/-- The bytes that stay as they are. -/
def plainW (s : WSet) : WSet := andTo WSet.empty.not (pairF s (WSet.mk 137438953472#64 0#64 0#64 0#64).not) 2
set_option maxHeartbeats 4000000 in
theorem plain_any (a b c d : BitVec 64) (w : World) :
    Calls Tryd.prog 47 #[.agg #[.int .u64 a.toNat, .int .u64 b.toNat, .int .u64 c.toNat, .int .u64 d.toNat]] w fun e w' => e = .returned (plainW ⟨a, b, c, d⟩).v ∧ Below w.heap.size w w' := by
  have a0 := (Blk.new w ⟨a, b, c, d⟩).alloc (.cells #[.int .u64 0, .int .u64 0, .int .u64 0, .int .u64 0] 38)
  have r0 := Blk.new0 (w.alloc (.cells #[.int .u64 a.toNat, .int .u64 b.toNat, .int .u64 c.toNat, .int .u64 d.toNat] 38))
  rw [World.size_alloc] at r0
  have hB : Below w.heap.size w ((w.alloc (.cells #[.int .u64 a.toNat, .int .u64 b.toNat, .int .u64 c.toNat, .int .u64 d.toNat] 38)).alloc (.cells #[.int .u64 0, .int .u64 0, .int .u64 0, .int .u64 0] 38)) := by go_grown
  have hN : w.heap.size + 1 ≤ ((w.alloc (.cells #[.int .u64 a.toNat, .int .u64 b.toNat, .int .u64 c.toNat, .int .u64 d.toNat] 38)).alloc (.cells #[.int .u64 0, .int .u64 0, .int .u64 0, .int .u64 0] 38)).heap.size := by simp
  go_enter Tryd.func47, Tryd.ntmps47
  go_upto_region 1 with fail
  obtain ⟨wr, hW⟩ : ∃ W, (w.alloc (.cells #[.int .u64 a.toNat, .int .u64 b.toNat, .int .u64 c.toNat, .int .u64 d.toNat] 38)).alloc (.cells #[.int .u64 0, .int .u64 0, .int .u64 0, .int .u64 0] 38) = W := ⟨_, rfl⟩
  rw [hW] at hB a0 r0 hN ⊢
  clear hW
  refine wp_region_noPanic ?_
  refine wp_region_held_drew (S := fun wx => Below (w.heap.size + 1) wr wx ∧ wx.cell? ⟨w.heap.size, 0, none⟩ = some (.int .u64 (a.toNat : Int)) ∧ wx.cell? ⟨w.heap.size, 1, none⟩ = some (.int .u64 (b.toNat : Int)) ∧ wx.cell? ⟨w.heap.size, 2, none⟩ = some (.int .u64 (c.toNat : Int)) ∧ wx.cell? ⟨w.heap.size, 3, none⟩ = some (.int .u64 (d.toNat : Int))) (by kernel_rfl) ?_ (fun hHeld => ?_)
  focus ((try dsimp only); ((go_split_ands; refine heldL a0 (by omega) ?_; repeat' (first | (with_reducible assumption) | (with_reducible exact Below.refl _ _) | (with_reducible refine Below.drew ?_) | (with_reducible refine below_allocL hN ?_) | (with_reducible refine Below.setCell ?_ ?_ _; rotate_left; ((try dsimp only); omega)) | (refine below_transL (wx := ?_) hN ?_ ?_; rotate_left 2; assumption)))))
  try simp only [Act.put, List.setIfInBounds_toArray, List.set_cons_zero, List.set_cons_succ]
  refine wpAnyH_take (i := 0) (oi := { dst := some 3, op := Go.Op.load 38 (Go.Operand.tmp 1), type := 38, pos := "percent.go:86", after := #[], guard := none }) (v := ?_) rfl (by kernel_rfl) (by kernel_rfl) (by kernel_rfl) (fun _ _ _ h => h) (Or.inl ⟨by rfl, ?_⟩) (by assumption) ?_
  rotate_left
  focus ((intro w hSw; (try dsimp only at hSw); go_simp) <;> (with_reducible rfl))
  try simp only [Act.put, List.setIfInBounds_toArray, List.set_cons_zero, List.set_cons_succ]
  refine wpAnyH_ready (rs := [1]) (by kernel_rfl) (by simp) ?_
  refine AllReadyH.cons (o := { dst := some 4, op := Go.Op.buildSlice 43 1 #[(0, Go.Operand.const (Go.Value.int Go.IntKind.u8 37))], type := 43, pos := "percent.go:86", after := #[], guard := none }) rfl (fun K hK => ?_) AllReadyH.nil
  go_simp
  refine hK.out _ _ ?_ (fun hNew => ?_)
  focus ((try dsimp only); ((go_split_ands; refine heldL a0 (by omega) ?_; repeat' (first | (with_reducible assumption) | (with_reducible exact Below.refl _ _) | (with_reducible refine Below.drew ?_) | (with_reducible refine below_allocL hN ?_) | (with_reducible refine Below.setCell ?_ ?_ _; rotate_left; ((try dsimp only); omega)) | (refine below_transL (wx := ?_) hN ?_ ?_; rotate_left 2; assumption)))))
  clear hK K hHeld
  have hHeld := hNew
  clear hNew
  try simp only [Act.put, List.setIfInBounds_toArray, List.set_cons_zero, List.set_cons_succ]
  refine wpAnyH_ready (rs := [2]) (by kernel_rfl) (by simp) ?_
  refine AllReadyH.cons (o := { dst := some 5, op := Go.Op.call { callee := Go.Callee.value (Go.Operand.func 78), args := #[Go.Operand.tmp 4], argTypes := #[43] }, type := 38, pos := "percent.go:86", after := #[{ on := 1, ground := Go.Ground.data }], guard := none }) rfl (fun K hK => ?_) AllReadyH.nil
  go_simp
  (go_at_call 78; refine (of37 wr).mono ?_; rintro e w1 ⟨rfl, hb⟩; have r1 : Blk w1 (w.heap.size + 1) .empty := r0.below hb r0.lt; have z1 := hb.size)
  first | (go_wp2_with fail) | skip
  refine hK.out _ _ ?_ (fun hNew => ?_)
  focus ((try dsimp only); ((go_split_ands; refine heldL a0 (by omega) ?_; repeat' (first | (with_reducible assumption) | (with_reducible exact Below.refl _ _) | (with_reducible refine Below.drew ?_) | (with_reducible refine below_allocL hN ?_) | (with_reducible refine Below.setCell ?_ ?_ _; rotate_left; ((try dsimp only); omega)) | (refine below_transL (wx := ?_) hN ?_ ?_; rotate_left 2; assumption)))))
  clear hK K hHeld
  have hHeld := hNew
  clear hNew
  try simp only [Act.put, List.setIfInBounds_toArray, List.set_cons_zero, List.set_cons_succ]
  refine wpAnyH_ready (rs := [3]) (by kernel_rfl) (by simp) ?_
  refine AllReadyH.cons (o := { dst := some 6, op := Go.Op.call { callee := Go.Callee.value (Go.Operand.func 77), args := #[Go.Operand.tmp 5], argTypes := #[38] }, type := 38, pos := "percent.go:86", after := #[{ on := 2, ground := Go.Ground.data }, { on := 2, ground := Go.Ground.chain }], guard := none }) rfl (fun K hK => ?_) AllReadyH.nil
  go_simp
  (go_at_call 77; refine (not_any _ _ _ _ _).mono ?_; rintro e w2 ⟨rfl, hb⟩; have r2 : Blk w2 (w.heap.size + 1) .empty := r1.below hb r1.lt; have z2 := hb.size)
  first | (go_wp2_with fail) | skip
  refine hK.out _ _ ?_ (fun hNew => ?_)
  focus ((try dsimp only); ((go_split_ands; refine heldL a0 (by omega) ?_; repeat' (first | (with_reducible assumption) | (with_reducible exact Below.refl _ _) | (with_reducible refine Below.drew ?_) | (with_reducible refine below_allocL hN ?_) | (with_reducible refine Below.setCell ?_ ?_ _; rotate_left; ((try dsimp only); omega)) | (refine below_transL (wx := ?_) hN ?_ ?_; rotate_left 2; assumption)))))
  clear hK K hHeld
  have hHeld := hNew
  clear hNew
  try simp only [Act.put, List.setIfInBounds_toArray, List.set_cons_zero, List.set_cons_succ]
  refine wpAnyH_ready (rs := [4]) (by kernel_rfl) (by simp) ?_
  refine AllReadyH.cons (o := { dst := some 7, op := Go.Op.buildSlice 107 2 #[(0, Go.Operand.tmp 3), (1, Go.Operand.tmp 6)], type := 107, pos := "percent.go:86", after := #[{ on := 0, ground := Go.Ground.data }, { on := 3, ground := Go.Ground.data }], guard := none }) rfl (fun K hK => ?_) AllReadyH.nil
  go_simp
  refine hK.out _ _ ?_ (fun hNew => ?_)
  focus ((try dsimp only); ((go_split_ands; refine heldL a0 (by omega) ?_; repeat' (first | (with_reducible assumption) | (with_reducible exact Below.refl _ _) | (with_reducible refine Below.drew ?_) | (with_reducible refine below_allocL hN ?_) | (with_reducible refine Below.setCell ?_ ?_ _; rotate_left; ((try dsimp only); omega)) | (refine below_transL (wx := ?_) hN ?_ ?_; rotate_left 2; assumption)))))
  clear hK K hHeld
  have hHeld := hNew
  clear hNew
  try simp only [Act.put, List.setIfInBounds_toArray, List.set_cons_zero, List.set_cons_succ]
  refine wpAnyH_ready (rs := [5]) (by kernel_rfl) (by simp) ?_
  refine AllReadyH.cons (o := { dst := some 8, op := Go.Op.call { callee := Go.Callee.value (Go.Operand.func 76), args := #[Go.Operand.tmp 7], argTypes := #[107] }, type := 38, pos := "percent.go:86", after := #[{ on := 4, ground := Go.Ground.data }, { on := 3, ground := Go.Ground.chain }], guard := none }) rfl (fun K hK => ?_) AllReadyH.nil
  go_simp
  (go_at_call 76; refine (common2 _ _ _ _ _ _ _ _ w2).mono ?_; rintro e w3 ⟨rfl, hb⟩; have r3 : Blk w3 (w.heap.size + 1) .empty := r2.below hb r2.lt; have z3 := hb.size; obtain ⟨c0, c1, c2, c3⟩ := r3.cells; obtain ⟨f0, f1, f2, f3⟩ := r3.frees; have l3 := r3.lt)
  first | (go_wp2_with fail) | skip
  refine hK.out _ _ ?_ (fun hNew => ?_)
  focus ((try dsimp only); ((go_split_ands; refine heldL a0 (by omega) ?_; repeat' (first | (with_reducible assumption) | (with_reducible exact Below.refl _ _) | (with_reducible refine Below.drew ?_) | (with_reducible refine below_allocL hN ?_) | (with_reducible refine Below.setCell ?_ ?_ _; rotate_left; ((try dsimp only); omega)) | (refine below_transL (wx := ?_) hN ?_ ?_; rotate_left 2; assumption)))))
  clear hK K hHeld
  have hHeld := hNew
  clear hNew
  try simp only [Act.put, List.setIfInBounds_toArray, List.set_cons_zero, List.set_cons_succ]
  refine wpAnyH_ready (rs := [6]) (by kernel_rfl) (by simp) ?_
  refine AllReadyH.cons (o := { dst := none, op := Go.Op.store 38 (Go.Operand.tmp 2) (Go.Operand.tmp 8), type := 0, pos := "percent.go:86", after := #[{ on := 5, ground := Go.Ground.data }, { on := 5, ground := Go.Ground.chain }, { on := 0, ground := Go.Ground.phase }, { on := 1, ground := Go.Ground.phase }, { on := 2, ground := Go.Ground.phase }, { on := 3, ground := Go.Ground.phase }, { on := 4, ground := Go.Ground.phase }, { on := 5, ground := Go.Ground.phase }], guard := none }) rfl (fun K hK => ?_) AllReadyH.nil
  go_simp
  refine hK.out _ _ ?_ (fun hNew => ?_)
  focus ((try dsimp only); ((go_split_ands; refine heldL a0 (by omega) ?_; repeat' (first | (with_reducible assumption) | (with_reducible exact Below.refl _ _) | (with_reducible refine Below.drew ?_) | (with_reducible refine below_allocL hN ?_) | (with_reducible refine Below.setCell ?_ ?_ _; rotate_left; ((try dsimp only); omega)) | (refine below_transL (wx := ?_) hN ?_ ?_; rotate_left 2; assumption)))))
  clear hK K hHeld
  have hHeld := hNew
  clear hNew
  try simp only [Act.put, List.setIfInBounds_toArray, List.set_cons_zero, List.set_cons_succ]
  refine wpAnyH_done (by kernel_rfl) ?_ _
  refine NoPanic.normal ?_
  go_wp2_with fail
  exact bodyPost_ret ((r3.store (plainW ⟨a, b, c, d⟩)).results rfl _ rfl) rfl ⟨rfl, hB.trans (hHeld.1.mono (by omega))⟩
theorem plain_word (x y : BitVec 64) (k : Nat) (hk : k < 64) : ((~~~(0 : BitVec 64) &&& x) &&& ~~~y).getLsbD k = (x.getLsbD k && !(y.getLsbD k)) := by
  rw [show ~~~(0 : BitVec 64) = BitVec.allOnes 64 by decide, BitVec.allOnes_and, BitVec.getLsbD_and, BitVec.getLsbD_not]
  simp [hk]
theorem has_plain (s : WSet) (n : Nat) (hn : n < 256) : (plainW s).has n = (n != 37 && s.has n) := by
  have hw : ∀ i k, k < 64 → ((plainW s).w i).getLsbD k = ((s.w i).getLsbD k && !(((WSet.mk 137438953472#64 0#64 0#64 0#64).w i).getLsbD k)) := by
    intro i k hk
    match i with
    | 0 => exact plain_word _ _ k hk
    | 1 => exact plain_word _ _ k hk
    | 2 => exact plain_word _ _ k hk
    | _ + 3 => exact plain_word _ _ k hk
  have ht : ∀ m : Fin 256, ((WSet.mk 137438953472#64 0#64 0#64 0#64).w (m.val / 64)).getLsbD (m.val % 64) = (m.val == 37) := by decide +kernel
  have h1 := ht ⟨n, hn⟩
  simp only at h1
  unfold WSet.has
  rw [hw _ _ (by omega), h1, Bool.and_comm]
  rfl
end Go.Proofs.YtjinedeelkdgiaaDoor
namespace Go.Proofs.YtjinedeelkdgiaaDoor
open Go.RowKit
attribute [local go_sem] ba_get
def dig1 (y : Nat) : Nat := if 97 ≤ y ∧ y ≤ 102 then y - 32 else y
theorem dig_table : ∀ y : Fin 256, Lib.indexByte [48, 49, 50, 51, 52, 53, 54, 55, 56, 57, 65, 66, 67, 68, 69, 70] (dig1 y.val).toUInt8 = valI y.val := by decide +kernel
theorem dig_at (y : Nat) (hy : y < 256) : Lib.indexByte (ByteArray.mk #[48, 49, 50, 51, 52, 53, 54, 55, 56, 57, 65, 66, 67, 68, 69, 70]).data.toList (dig1 y).toUInt8 = valI y := dig_table ⟨y, hy⟩
def valTo (f : Nat → Nat) : Nat → Nat
  | 0 => 0
  | k + 1 => (16 * valTo f k + (hexP (f k)).1) % 256
def allHex (f : Nat → Nat) : Nat → Bool
  | 0 => true
  | k + 1 => allHex f k && (hexP (f k)).2
theorem allHex_no {f : Nat → Nat} {j : Nat} (h : (hexP (f j)).2 = false) : ∀ k, j < k → allHex f k = false
  | 0, hk => by omega
  | k + 1, hk => by
    by_cases e : j = k
    · subst e; rw [allHex, h, Bool.and_false]
    · rw [allHex, allHex_no h k (by omega)]; rfl
def valR (f : Nat → Nat) (n : Nat) : Value := if allHex f n = true then .tuple #[.int .u8 (valTo f n : Nat), .bool true] else .tuple #[.int .u8 0, .bool false]
theorem valTo_lt (f : Nat → Nat) : ∀ k, valTo f k < 256
  | 0 => by simp [valTo]
  | k + 1 => Nat.mod_lt _ (by omega)
set_option maxHeartbeats 1000000 in
theorem pvalue_any (b off len cap : Nat) (f : Nat → Nat) (hb : ∀ j, j < len → f j < 256) (hlen : len ≤ 1000) (w : World) (hc : ∀ j, j < len → w.cell? ⟨b, off + j, none⟩ = some (.int .u8 (f j : Int))) :
    Calls Tryd.prog 95 #[.slice (some ⟨b, off, none⟩) len cap] w fun e w' => e = .returned (valR f len) ∧ w = w' := by
  have HC : Hid (∀ j, j < len → w.cell? ⟨b, off + j, none⟩ = some (.int .u8 (f j : Int))) := Lib.hid hc
  have HB : Hid (∀ j, j < len → f j < 256) := Lib.hid hb
  clear hc hb
  go_enter Tryd.func95, Tryd.ntmps95
  go_wp2
  go_loop [4, 10] (fun v i => ∃ k : Nat, k ≤ len ∧ i = .int .i64 k ∧ v = .int .u8 (valTo f k : Nat) ∧ Hid (allHex f k = true)) (fun _ i => len - (intOf i).toNat)
  case atStart => exact ⟨0, Nat.zero_le _, rfl, rfl, Lib.hid rfl⟩
  case round =>
    obtain ⟨k, hk, rfl, rfl, ha⟩ := hrel
    by_cases hlt : k < len
    · have hy := HB.out k hlt
      have hcell := HC.out k hlt
      have hv := valTo_lt f k
      have hD := Lib.hid (dig_at (f k) hy)
      have hS : Hid (valTo f (k + 1) = (16 * valTo f k + (hexP (f k)).1) % 256) := Lib.hid rfl
      have hA : Hid (allHex f (k + 1) = (allHex f k && (hexP (f k)).2)) := Lib.hid rfl
      have hN : Hid ((hexP (f k)).2 = false → allHex f len = false) := Lib.hid (fun h => allHex_no h len hlt)
      have hI : Hid (valI (f k) = if (hexP (f k)).2 then ((hexP (f k)).1 : Int) else -1) := Lib.hid rfl
      have hP := hexP_lt (f k)
      have hG : Hid (dig1 (f k) = if 97 ≤ f k ∧ f k ≤ 102 then f k - 32 else f k) := Lib.hid rfl
      generalize f k = y at *
      generalize valTo f k = v at *
      obtain ⟨d, hd⟩ : ∃ d, dig1 y = d := ⟨_, rfl⟩
      rw [hd] at hD hG
      have hd256 : d < 256 := by have := hG.out; split at this <;> omega
      obtain ⟨p, hp⟩ : ∃ p, (hexP y).1 = p := ⟨_, rfl⟩
      rw [hp] at hS hI hP
      clear hd hp
      have h3 : (97 ≤ y ∧ y ≤ 102) ∨ y < 97 ∨ 102 < y := by omega
      rcases h3 with h | h | h
      all_goals
        first | have a1 : decide ((97 : Int) ≤ (y : Int)) = true := decide_eq_true (by omega) | have a1 : decide ((97 : Int) ≤ (y : Int)) = false := decide_eq_false (by omega)
        first | have a2 : decide ((y : Int) ≤ 102) = true := decide_eq_true (by omega) | have a2 : decide ((y : Int) ≤ 102) = false := decide_eq_false (by omega)
        first
          | have hd2 : Hid ((y : Int) - 32 = (d : Int)) := Lib.hid (by have := hG.out; rw [if_pos (by omega)] at this; omega)
          | have hd2 : Hid ((y : Int) = (d : Int)) := Lib.hid (by have := hG.out; rw [if_neg (by omega)] at this; omega)
        go_wp2_with fail
        rw [hd2.out]
        refine (indexByte_any _ _ _).mono ?_
        rintro e w' ⟨rfl, rfl⟩
        rw [Int.toNat_natCast]
        rw [hD.out]
        cases hx : (hexP y).2
        · have hv1 : valI y = -1 := by rw [hI.out, hx]; rfl
          have hr : Hid (valR f len = .tuple #[.int .u8 0, .bool false]) := Lib.hid (by unfold valR; rw [hN.out hx]; rfl)
          clear hx
          rw [hv1]
          clear hv1
          go_wp2_with fail
          go_ret2
          exact ⟨by rw [hr.out]; rfl, rfl⟩
        · have hv1 : valI y = (p : Int) := by rw [hI.out, hx]; rfl
          have hA2 : Hid (allHex f (k + 1) = true) := Lib.hid (by rw [hA.out, ha.out, hx]; rfl)
          clear hx
          rw [hv1]
          clear hv1
          go_wp2_with fail
          go_round
          case rel => exact ⟨k + 1, by omega, by go_num, by rw [hS.out]; congr 1; omega, hA2⟩
          case measure => simp [intOf]; omega
    · obtain rfl : k = len := by omega
      have hr : Hid (valR f k = .tuple #[.int .u8 (valTo f k : Nat), .bool true]) := Lib.hid (by unfold valR; rw [ha.out]; rfl)
      clear ha
      go_wp2_with fail
      go_ret2
      exact ⟨by rw [hr.out]; rfl, rfl⟩
theorem below_undrew {n : Nat} {W W' : World} (h : Below n W.drew W') : Below n W W' := ((Below.refl n W).drew).trans h
set_option maxHeartbeats 2000000 in
theorem pescape_any (B b g cap : Nat) (bs : List Value) (y : Nat) (hy : y < 256) (w : World) (h : BIs B b bs w) (hlen : bs.length + 3 ≤ 140737488355328) (hBw : B ≤ w.heap.size) (hc : w.cell? ⟨g, 0, none⟩ = some (.int .u8 (y : Int))) :
    Calls Tryd.prog 50 #[.pointer (some ⟨b, 0, none⟩), .slice (some ⟨g, 0, none⟩) 1 cap] w fun e w' => e = .returned (.tuple #[]) ∧ (BAt B b (bs ++ [.int .u8 37, encU (hexU (y / 16)), encU (hexU (y % 16))]) w' ∧ Below B w w') := by
  have q3 : IntKind.u8.wrap ((y : Int) / 16) = ((y / 16 : Nat) : Int) := by rw [IntKind.wrap_u8']; omega
  have q4 : ((y : Int)).tmod 16 = ((y % 16 : Nat) : Int) := by rw [Int.tmod_eq_emod_of_nonneg (by omega)]; omega
  have i1 : 0 ≤ (y : Int) / 16 ∧ (y : Int) / 16 < 16 := ⟨by omega, by omega⟩
  have i2 : 0 ≤ (y : Int) % 16 ∧ (y : Int) % 16 < 16 := ⟨by omega, by omega⟩
  have n1 : ((y : Int) / 16).toNat = y / 16 := by omega
  have n2 : ((y : Int) % 16).toNat = y % 16 := by omega
  go_enter Tryd.func50, Tryd.ntmps50
  go_wp2_with fail
  refine wp_loop_rounds 2 ?_
  rw [rounds_succ]
  go_wp2_with fail
  refine (writeByte_any B b _ _ _ h (by omega) hBw).mono ?_
  rintro e w1 ⟨rfl, h1, b1⟩
  have z1 := b1.size
  go_upto_region 4 with fail
  refine wp_region_noPanic ?_
  refine wp_region_held_drew (S := fun _ => True) (by kernel_rfl) ?_ (fun hHeld => ?_)
  focus ((try dsimp only); all_goals trivial)
  try simp only [Act.put, List.setIfInBounds_toArray, List.set_cons_zero, List.set_cons_succ]
  refine wpAnyH_take (i := 0) (oi := { dst := some 16, op := Go.Op.move (Go.Operand.tmp 0), type := 109, pos := "percent.go:26", after := #[], guard := none }) (v := ?_) rfl (by kernel_rfl) (by kernel_rfl) (by kernel_rfl) (fun _ _ _ h => h) (Or.inl ⟨by rfl, ?_⟩) (by assumption) ?_
  rotate_left
  focus ((intro w hSw; (try dsimp only at hSw); go_simp) <;> (with_reducible rfl))
  try simp only [Act.put, List.setIfInBounds_toArray, List.set_cons_zero, List.set_cons_succ]
  refine wpAnyH_take (i := 1) (oi := { dst := some 17, op := Go.Op.nilCheck (Go.Operand.tmp 16), type := 0, pos := "percent.go:26", after := #[{ on := 0, ground := Go.Ground.data }], guard := none }) (v := ?_) rfl (by kernel_rfl) (by kernel_rfl) (by kernel_rfl) (fun _ _ _ h => h) (Or.inl ⟨by rfl, ?_⟩) (by assumption) ?_
  rotate_left
  focus ((intro w hSw; (try dsimp only at hSw); go_simp) <;> (with_reducible rfl))
  try simp only [Act.put, List.setIfInBounds_toArray, List.set_cons_zero, List.set_cons_succ]
  refine wpAnyH_take (i := 2) (oi := { dst := some 18, op := Go.Op.fieldAddr 82 (Go.Operand.tmp 17) 0, type := 0, pos := "percent.go:26", after := #[{ on := 1, ground := Go.Ground.data }], guard := none }) (v := ?_) rfl (by kernel_rfl) (by kernel_rfl) (by kernel_rfl) (fun _ _ _ h => h) (Or.inl ⟨by rfl, ?_⟩) (by assumption) ?_
  rotate_left
  focus ((intro w hSw; (try dsimp only at hSw); go_simp) <;> (with_reducible rfl))
  try simp only [Act.put, List.setIfInBounds_toArray, List.set_cons_zero, List.set_cons_succ]
  refine wpAnyH_take (i := 3) (oi := { dst := some 19, op := Go.Op.move (Go.Operand.tmp 5), type := 5, pos := "percent.go:26", after := #[], guard := none }) (v := ?_) rfl (by kernel_rfl) (by kernel_rfl) (by kernel_rfl) (fun _ _ _ h => h) (Or.inl ⟨by rfl, ?_⟩) (by assumption) ?_
  rotate_left
  focus ((intro w hSw; (try dsimp only at hSw); go_simp) <;> (with_reducible rfl))
  try simp only [Act.put, List.setIfInBounds_toArray, List.set_cons_zero, List.set_cons_succ]
  refine wpAnyH_take (i := 4) (oi := { dst := some 20, op := Go.Op.binOp Go.BinOp.quo 5 (Go.Operand.tmp 19) (Go.Operand.const (Go.Value.int Go.IntKind.u8 16)) 5, type := 5, pos := "percent.go:26", after := #[{ on := 3, ground := Go.Ground.data }], guard := none }) (v := ?_) rfl (by kernel_rfl) (by kernel_rfl) (by kernel_rfl) (fun _ _ _ h => h) (Or.inl ⟨by rfl, ?_⟩) (by assumption) ?_
  rotate_left
  focus ((intro w hSw; (try dsimp only at hSw); go_simp) <;> (with_reducible rfl))
  try simp only [Act.put, List.setIfInBounds_toArray, List.set_cons_zero, List.set_cons_succ]
  refine wpAnyH_take (i := 5) (oi := { dst := some 21, op := Go.Op.index 9 (Go.Operand.const (Go.Value.string { data := #[48, 49, 50, 51, 52, 53, 54, 55, 56, 57, 65, 66, 67, 68, 69, 70] })) (Go.Operand.tmp 20), type := 5, pos := "percent.go:26", after := #[{ on := 4, ground := Go.Ground.data }], guard := none }) (v := ?_) rfl (by kernel_rfl) (by kernel_rfl) (by kernel_rfl) (fun _ _ _ h => h) (Or.inl ⟨by rfl, ?_⟩) (by assumption) ?_
  rotate_left
  focus ((intro w hSw; (try dsimp only at hSw); go_simp) <;> (with_reducible rfl))
  try simp only [Act.put, List.setIfInBounds_toArray, List.set_cons_zero, List.set_cons_succ]
  refine wpAnyH_ready (rs := [6]) (by kernel_rfl) (by simp) ?_
  refine AllReadyH.cons (o := { dst := some 22, op := Go.Op.call { callee := Go.Callee.value (Go.Operand.func 49), args := #[Go.Operand.tmp 18, Go.Operand.tmp 21], argTypes := #[80, 5] }, type := 85, pos := "percent.go:26", after := #[{ on := 2, ground := Go.Ground.data }, { on := 5, ground := Go.Ground.data }], guard := none }) rfl (fun K hK => ?_) AllReadyH.nil
  go_simp
  (go_at_call 49; refine (writeByte_any B b _ _ _ (Or.inr h1.drew) (by simp; omega) (by simp; omega)).mono ?_; rintro e w2 ⟨rfl, hw2, bw2⟩)
  first | (go_wp2_with fail) | skip
  refine hK.out _ _ ?_ (fun hNew => ?_)
  focus ((try dsimp only); all_goals trivial)
  clear hK K hHeld
  have hHeld := hNew
  clear hNew
  try simp only [Act.put, List.setIfInBounds_toArray, List.set_cons_zero, List.set_cons_succ]
  refine wpAnyH_done (by kernel_rfl) ?_ _
  refine NoPanic.normal ?_
  have z2 := bw2.size
  simp only [World.size_drew] at z2
  clear hHeld
  go_upto_region 5 with fail
  refine wp_region_noPanic ?_
  refine wp_region_held_drew (S := fun _ => True) (by kernel_rfl) ?_ (fun hHeld => ?_)
  focus ((try dsimp only); all_goals trivial)
  try simp only [Act.put, List.setIfInBounds_toArray, List.set_cons_zero, List.set_cons_succ]
  refine wpAnyH_take (i := 0) (oi := { dst := some 23, op := Go.Op.move (Go.Operand.tmp 0), type := 109, pos := "percent.go:27", after := #[], guard := none }) (v := ?_) rfl (by kernel_rfl) (by kernel_rfl) (by kernel_rfl) (fun _ _ _ h => h) (Or.inl ⟨by rfl, ?_⟩) (by assumption) ?_
  rotate_left
  focus ((intro w hSw; (try dsimp only at hSw); go_simp) <;> (with_reducible rfl))
  try simp only [Act.put, List.setIfInBounds_toArray, List.set_cons_zero, List.set_cons_succ]
  refine wpAnyH_take (i := 1) (oi := { dst := some 24, op := Go.Op.nilCheck (Go.Operand.tmp 23), type := 0, pos := "percent.go:27", after := #[{ on := 0, ground := Go.Ground.data }], guard := none }) (v := ?_) rfl (by kernel_rfl) (by kernel_rfl) (by kernel_rfl) (fun _ _ _ h => h) (Or.inl ⟨by rfl, ?_⟩) (by assumption) ?_
  rotate_left
  focus ((intro w hSw; (try dsimp only at hSw); go_simp) <;> (with_reducible rfl))
  try simp only [Act.put, List.setIfInBounds_toArray, List.set_cons_zero, List.set_cons_succ]
  refine wpAnyH_take (i := 2) (oi := { dst := some 25, op := Go.Op.fieldAddr 82 (Go.Operand.tmp 24) 0, type := 0, pos := "percent.go:27", after := #[{ on := 1, ground := Go.Ground.data }], guard := none }) (v := ?_) rfl (by kernel_rfl) (by kernel_rfl) (by kernel_rfl) (fun _ _ _ h => h) (Or.inl ⟨by rfl, ?_⟩) (by assumption) ?_
  rotate_left
  focus ((intro w hSw; (try dsimp only at hSw); go_simp) <;> (with_reducible rfl))
  try simp only [Act.put, List.setIfInBounds_toArray, List.set_cons_zero, List.set_cons_succ]
  refine wpAnyH_take (i := 3) (oi := { dst := some 26, op := Go.Op.move (Go.Operand.tmp 5), type := 5, pos := "percent.go:27", after := #[], guard := none }) (v := ?_) rfl (by kernel_rfl) (by kernel_rfl) (by kernel_rfl) (fun _ _ _ h => h) (Or.inl ⟨by rfl, ?_⟩) (by assumption) ?_
  rotate_left
  focus ((intro w hSw; (try dsimp only at hSw); go_simp) <;> (with_reducible rfl))
  try simp only [Act.put, List.setIfInBounds_toArray, List.set_cons_zero, List.set_cons_succ]
  refine wpAnyH_take (i := 4) (oi := { dst := some 27, op := Go.Op.binOp Go.BinOp.rem 5 (Go.Operand.tmp 26) (Go.Operand.const (Go.Value.int Go.IntKind.u8 16)) 5, type := 5, pos := "percent.go:27", after := #[{ on := 3, ground := Go.Ground.data }], guard := none }) (v := ?_) rfl (by kernel_rfl) (by kernel_rfl) (by kernel_rfl) (fun _ _ _ h => h) (Or.inl ⟨by rfl, ?_⟩) (by assumption) ?_
  rotate_left
  focus ((intro w hSw; (try dsimp only at hSw); go_simp) <;> (with_reducible rfl))
  try simp only [Act.put, List.setIfInBounds_toArray, List.set_cons_zero, List.set_cons_succ]
  refine wpAnyH_take (i := 5) (oi := { dst := some 28, op := Go.Op.index 9 (Go.Operand.const (Go.Value.string { data := #[48, 49, 50, 51, 52, 53, 54, 55, 56, 57, 65, 66, 67, 68, 69, 70] })) (Go.Operand.tmp 27), type := 5, pos := "percent.go:27", after := #[{ on := 4, ground := Go.Ground.data }], guard := none }) (v := ?_) rfl (by kernel_rfl) (by kernel_rfl) (by kernel_rfl) (fun _ _ _ h => h) (Or.inl ⟨by rfl, ?_⟩) (by assumption) ?_
  rotate_left
  focus ((intro w hSw; (try dsimp only at hSw); go_simp) <;> (with_reducible rfl))
  try simp only [Act.put, List.setIfInBounds_toArray, List.set_cons_zero, List.set_cons_succ]
  refine wpAnyH_ready (rs := [6]) (by kernel_rfl) (by simp) ?_
  refine AllReadyH.cons (o := { dst := some 29, op := Go.Op.call { callee := Go.Callee.value (Go.Operand.func 49), args := #[Go.Operand.tmp 25, Go.Operand.tmp 28], argTypes := #[80, 5] }, type := 85, pos := "percent.go:27", after := #[{ on := 2, ground := Go.Ground.data }, { on := 5, ground := Go.Ground.data }], guard := none }) rfl (fun K hK => ?_) AllReadyH.nil
  go_simp
  (go_at_call 49; refine (writeByte_any B b _ _ _ (Or.inr hw2.drew) (by simp; omega) (by simp; omega)).mono ?_; rintro e w3 ⟨rfl, hw3, bw3⟩)
  first | (go_wp2_with fail) | skip
  refine hK.out _ _ ?_ (fun hNew => ?_)
  focus ((try dsimp only); all_goals trivial)
  clear hK K hHeld
  have hHeld := hNew
  clear hNew
  try simp only [Act.put, List.setIfInBounds_toArray, List.set_cons_zero, List.set_cons_succ]
  refine wpAnyH_done (by kernel_rfl) ?_ _
  refine NoPanic.normal ?_
  go_wp2_with fail
  rw [rounds_succ]
  go_wp2_with fail
  go_end0
  refine ⟨rfl, ?_, (b1.trans (below_undrew bw2)).trans (below_undrew bw3)⟩
  simp only [hexU_list, List.append_assoc, List.cons_append, List.nil_append] at hw3
  exact hw3
end Go.Proofs.YtjinedeelkdgiaaDoor
namespace Go.Proofs.YtjinedeelkdgiaaDoor
open Go.RowKit
attribute [local go_sem] ba_get w_0 w_1 w_2 w_3
theorem bat_below {T e : TypeId} {B b : Nat} {p : Value} {bs : List Value} {w w' : World} (h : Lib.BuilderAt T e B b p bs w) (hb : Below w.heap.size w w') : Lib.BuilderAt T e B b p bs w' := by
  have hlt := h.lt
  obtain ⟨hB, v, hbk, hown, hne⟩ := h
  exact ⟨hB, v, (hb.block b hlt).trans hbk, own_below hown hb, hne⟩
theorem bis_below {T e : TypeId} {B b : Nat} {bs : List Value} {w w' : World} (h : Lib.IsBuilder T e B b bs w) (hb : Below w.heap.size w w') : Lib.IsBuilder T e B b bs w' := h.imp (bat_below · hb) (bat_below · hb)
theorem bis_lt {T e : TypeId} {B b : Nat} {bs : List Value} {w : World} (h : Lib.IsBuilder T e B b bs w) : b < w.heap.size := by
  rcases h with h | h
  · exact h.lt
  · exact h.lt
theorem below_alloc1 (w : World) (o : Obj) : Below w.heap.size w (w.alloc o) := (Below.refl _ w).alloc (Nat.le_refl _) o
theorem enc1_plain (s p : WSet) (hp : plainW s = p) (z : UInt8) : enc1 s z = if p.has z.toNat then [z] else [37, hexU (z.toNat / 16), hexU (z.toNat % 16)] := by
  have h := has_plain s z.toNat (UInt8.toNat_lt _)
  rw [hp] at h
  have e : (z.toNat != 37) = (z != 37) := by
    by_cases hz : z = 37
    · subst hz; rfl
    · have h2 : z.toNat ≠ 37 := fun e => hz (UInt8.toNat_inj.1 (by rw [e]; rfl))
      rw [bne_iff_ne.2 h2, bne_iff_ne.2 hz]
  unfold enc1
  rw [h, e]
theorem bytes_append (x y : List UInt8) : Lib.byteCells (x ++ y) = Lib.byteCells x ++ Lib.byteCells y := by simp [Lib.byteCells]
set_option maxHeartbeats 4000000 in
theorem encode_any (l : List UInt8) (hl : l.length < 1000000) (a b c d : BitVec 64) (w : World) :
    Calls Tryd.prog 28 #[.string ⟨l.toArray⟩, .agg #[.int .u64 a.toNat, .int .u64 b.toNat, .int .u64 c.toNat, .int .u64 d.toNat]] w fun e w' => e = .returned (.string ⟨(encL ⟨a, b, c, d⟩ l).toArray⟩) ∧ Below w.heap.size w w' := by
  go_enter Tryd.func28, Tryd.ntmps28
  have hB : Below w.heap.size w (w.alloc (.cells #[.int .u64 a.toNat, .int .u64 b.toNat, .int .u64 c.toNat, .int .u64 d.toNat] 38)) := by go_grown
  go_wp2_with fail
  refine (plain_any a b c d _).mono ?_
  rintro e w1 ⟨rfl, hb⟩
  obtain ⟨⟨p0, p1, p2, p3⟩, hp⟩ : ∃ p, Hid (plainW ⟨a, b, c, d⟩ = p) := ⟨_, Lib.hid rfl⟩
  rw [hp.out]
  have hB := hB.trans (hb.mono hB.size)
  have hw1 : w.heap.size ≤ w1.heap.size := hB.size
  clear hb
  go_wp2_with fail
  go_loopw [12] (fun i wr => ∃ (k : Nat) (o : List UInt8), k ≤ l.length ∧ i = .int .i64 k ∧ Hid (o = encL ⟨a, b, c, d⟩ (l.take k)) ∧ BIs (w1.heap.size + 1) (w1.heap.size + 1) (Lib.byteCells o) wr ∧ Blk wr w1.heap.size ⟨p0, p1, p2, p3⟩ ∧ Below w.heap.size w wr)
    (fun i _ => l.length - (intOf i).toNat)
  case atStart =>
    have hb := Lib.fresh_isBuilder 82 5 (w1.alloc (.cells #[.int .u64 p0.toNat, .int .u64 p1.toNat, .int .u64 p2.toNat, .int .u64 p3.toNat] 38))
    rw [World.size_alloc] at hb
    exact ⟨0, [], Nat.zero_le _, rfl, Lib.hid (by rw [List.take_zero]; rfl), hb, (Blk.new w1 ⟨p0, p1, p2, p3⟩).alloc _, (hB.alloc hw1 _).alloc (by simp; omega) _⟩
  case round =>
    obtain ⟨k, o, hk, rfl, ho, hrow, a0, hB⟩ := hrel
    by_cases hlt : k < l.length
    · have h1 : decide ((k : Int) < (l.length : Int)) = true := decide_eq_true (by omega)
      have hb2 : (k : Int) < (l.length : Int) := by omega
      have hol : o.length ≤ 3 * l.length := by
        rw [ho.out]
        refine Nat.le_trans (encL_length _ _) ?_
        rw [List.length_take]; omega
      have hstep := Lib.hid (encL_take (s := ⟨a, b, c, d⟩) hlt)
      have he1 := Lib.hid (enc1_plain _ _ hp.out l[k])
      obtain ⟨z, hz⟩ : ∃ z, l[k] = z := ⟨_, rfl⟩
      rw [hz] at hstep he1
      obtain ⟨y, hy⟩ : ∃ y, z.toNat = y := ⟨_, rfl⟩
      have hy256 : y < 256 := by rw [← hy]; exact UInt8.toNat_lt _
      obtain ⟨q, HQ⟩ : ∃ q, Hid ((WSet.mk p0 p1 p2 p3).has y = q) := ⟨_, Lib.hid rfl⟩
      rw [hy, HQ.out] at he1
      have hY := Lib.hid hy
      obtain ⟨N, hN⟩ : ∃ N, Hid (wr.heap.size = N) := ⟨_, Lib.hid rfl⟩
      have l1 := a0.lt
      go_upto_region 6 with fail
      refine wp_region_noPanic ?_
      refine wp_region_held_drew (S := fun wx => Below N wr wx ∧ wx.cell? ⟨w1.heap.size, 0, none⟩ = some (.int .u64 (p0.toNat : Int)) ∧ wx.cell? ⟨w1.heap.size, 1, none⟩ = some (.int .u64 (p1.toNat : Int)) ∧ wx.cell? ⟨w1.heap.size, 2, none⟩ = some (.int .u64 (p2.toNat : Int)) ∧ wx.cell? ⟨w1.heap.size, 3, none⟩ = some (.int .u64 (p3.toNat : Int))) (by kernel_rfl) ?_ (fun hHeld => ?_)
      focus ((try dsimp only); ((go_split_ands; refine held1 hN.out a0 l1 ?_; have hN := hN.out; repeat' (first | (with_reducible assumption) | (with_reducible exact Below.refl _ _) | (with_reducible refine Below.drew ?_) | (refine Below.transS (wx := ?_) hN ?_ ?_; rotate_left 2; assumption)))))
      try simp only [Act.put, List.setIfInBounds_toArray, List.set_cons_zero, List.set_cons_succ]
      refine wpAnyH_take (i := 0) (oi := { dst := some 15, op := Go.Op.load 38 (Go.Operand.tmp 5), type := 38, pos := "percent.go:75", after := #[], guard := none }) (v := ?_) rfl (by kernel_rfl) (by kernel_rfl) (by kernel_rfl) (fun _ _ _ h => h) (Or.inl ⟨by rfl, ?_⟩) (by assumption) ?_
      rotate_left
      focus ((intro w hSw; (try dsimp only at hSw); go_simp) <;> (with_reducible rfl))
      try simp only [Act.put, List.setIfInBounds_toArray, List.set_cons_zero, List.set_cons_succ]
      refine wpAnyH_take (i := 1) (oi := { dst := some 16, op := Go.Op.move (Go.Operand.tmp 0), type := 9, pos := "percent.go:75", after := #[], guard := none }) (v := ?_) rfl (by kernel_rfl) (by kernel_rfl) (by kernel_rfl) (fun _ _ _ h => h) (Or.inl ⟨by rfl, ?_⟩) (by assumption) ?_
      rotate_left
      focus ((intro w hSw; (try dsimp only at hSw); go_simp) <;> (with_reducible rfl))
      try simp only [Act.put, List.setIfInBounds_toArray, List.set_cons_zero, List.set_cons_succ]
      refine wpAnyH_take (i := 2) (oi := { dst := some 17, op := Go.Op.move (Go.Operand.tmp 7), type := 3, pos := "percent.go:75", after := #[], guard := none }) (v := ?_) rfl (by kernel_rfl) (by kernel_rfl) (by kernel_rfl) (fun _ _ _ h => h) (Or.inl ⟨by rfl, ?_⟩) (by assumption) ?_
      rotate_left
      focus ((intro w hSw; (try dsimp only at hSw); go_simp) <;> (with_reducible rfl))
      try simp only [Act.put, List.setIfInBounds_toArray, List.set_cons_zero, List.set_cons_succ]
      refine wpAnyH_take (i := 3) (oi := { dst := some 18, op := Go.Op.index 9 (Go.Operand.tmp 16) (Go.Operand.tmp 17), type := 5, pos := "percent.go:75", after := #[{ on := 1, ground := Go.Ground.data }, { on := 2, ground := Go.Ground.data }], guard := none }) (v := ?_) rfl (by kernel_rfl) (by kernel_rfl) (by kernel_rfl) (fun _ _ _ h => h) (Or.inl ⟨by rfl, ?_⟩) (by assumption) ?_
      rotate_left
      focus ((intro w hSw; (try dsimp only at hSw); go_simp) <;> (with_reducible rfl))
      try simp only [Act.put, List.setIfInBounds_toArray, List.set_cons_zero, List.set_cons_succ]
      refine wpAnyH_ready (rs := [4]) (by kernel_rfl) (by simp) ?_
      refine AllReadyH.cons (o := { dst := some 19, op := Go.Op.call { callee := Go.Callee.value (Go.Operand.func 48), args := #[Go.Operand.tmp 15, Go.Operand.tmp 18], argTypes := #[38, 5] }, type := 4, pos := "percent.go:75", after := #[{ on := 0, ground := Go.Ground.data }, { on := 3, ground := Go.Ground.data }], guard := none }) rfl (fun K hK => ?_) AllReadyH.nil
      go_simp
      (go_at_call 48; refine (has_any p0 p1 p2 p3 (y : Int) (by omega) (by omega) _).mono ?_; rintro e w' ⟨rfl, hb⟩; rw [Int.toNat_natCast, HQ.out])
      first | (go_wp2_with fail) | skip
      refine hK.out _ _ ?_ (fun hNew => ?_)
      focus ((try dsimp only); ((go_split_ands; refine held1 hN.out a0 l1 ?_; have hN := hN.out; repeat' (first | (with_reducible assumption) | (with_reducible exact Below.refl _ _) | (with_reducible refine Below.drew ?_) | (refine Below.transS (wx := ?_) hN ?_ ?_; rotate_left 2; assumption)))))
      clear hK K hHeld
      have hHeld := hNew
      clear hNew
      try simp only [Act.put, List.setIfInBounds_toArray, List.set_cons_zero, List.set_cons_succ]
      refine wpAnyH_done (by kernel_rfl) ?_ _
      refine NoPanic.normal ?_
      have hc : Below wr.heap.size wr _ := below_eq hN.out hHeld.1
      clear hHeld
      have a0 := a0.below hc a0.lt
      have hz0 := hc.size
      have hB := hB.trans (hc.mono hB.size)
      have hw2 := hB.size
      have hrow := bis_below hrow hc
      have hwb := bis_lt hrow
      clear hc hN HQ
      cases q
      · have hcell : (w'.alloc (.cells #[.int .u8 (y : Int)] 5)).cell? ⟨w'.heap.size, 0, none⟩ = some (.int .u8 (y : Int)) := cell_of_row _ _ 0 _ _ _ (heap_alloc_new w' _)
        go_wp2_with fail
        refine (pescape_any (w1.heap.size + 1) (w1.heap.size + 1) w'.heap.size 1 (Lib.byteCells o) y hy256 _ (bis_below hrow (below_alloc1 _ _)) (by rw [Lib.byteCells_length]; omega) (by simp; omega) hcell).mono ?_
        rintro e w2 ⟨rfl, h2, b2⟩
        have z2 := b2.size
        simp only [World.size_alloc] at z2
        clear hcell
        go_wp2_with fail
        go_roundw
        case rel =>
          refine ⟨k + 1, o ++ [37, hexU (y / 16), hexU (y % 16)], by omega, by go_num, ?_, ?_, (a0.alloc _).below b2 (by omega), (hB.alloc hw2 _).trans (b2.mono (by omega))⟩
          · refine Lib.hid ?_
            rw [hstep.out, he1.out, ho.out]; rfl
          · right
            rw [bytes_append]
            exact h2
        case measure => simp [intOf]; omega
      · go_wp2_with fail
        refine (writeByte_any (w1.heap.size + 1) (w1.heap.size + 1) (Lib.byteCells o) (y : Int) _ hrow (by rw [Lib.byteCells_length]; omega) (by omega)).mono ?_
        rintro e w2 ⟨rfl, h2, b2⟩
        have z2 := b2.size
        go_wp2_with fail
        go_roundw
        case rel =>
          refine ⟨k + 1, o ++ [z], by omega, by go_num, ?_, ?_, a0.below b2 (by omega), hB.trans (b2.mono (by omega))⟩
          · refine Lib.hid ?_
            rw [hstep.out, he1.out, ho.out]; rfl
          · right
            rw [bytes_append, show Lib.byteCells [z] = [.int .u8 (y : Int)] by rw [← hY.out]; rfl]
            exact h2
        case measure => simp [intOf]; omega
    · obtain rfl : k = l.length := by omega
      have hres : Hid (o = encL ⟨a, b, c, d⟩ l) := Lib.hid (by rw [ho.out, List.take_length])
      have hwb := bis_lt hrow
      have hw2 := hB.size
      clear ho
      go_wp2_with fail
      refine (string_any (w1.heap.size + 1) (w1.heap.size + 1) o _ hrow (by omega)).mono ?_
      rintro e w2 ⟨rfl, b2⟩
      go_wp2_with fail
      go_ret
      exact ⟨by rw [← hres.out]; rfl, hB.trans (b2.mono (by omega))⟩
end Go.Proofs.YtjinedeelkdgiaaDoor
