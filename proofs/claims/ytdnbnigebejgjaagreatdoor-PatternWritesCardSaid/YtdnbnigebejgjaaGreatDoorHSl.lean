/-
  From a row's list of laid variables to the library's table and the program's signs that package pattern's texts read.
  Slices as a law's arguments: what their cells hold, and that they read behind the call as before. No condition.
  A tree and a list of ints as a law's arguments: what their cells hold. No condition.
-/
import Derived.Test.YtdnbnigebejgjaaGreatDoorHJT5
import Derived.Test.YtdnbnigebejgjaaGreatDoorRows
import Derived.Lib.LaidU8
import Derived.ChangeArms
import Derived.OpenShut
import Derived.ChangeSame
import Derived.Test.YtdnbnigebejgjaaGreatDoorHKPost
import Derived.Test.YtdnbnigebejgjaaGreatDoorHBits
import Derived.Deep.Slices
import Derived.Test.YtdnbnigebejgjaaGreatDoorHQ11
import Derived.Deep.Strs
import Derived.Deep.DeepHandedRow
namespace Go.Proofs.YtdnbnigebejgjaaGreatDoor
open Go.RowKit
theorem jtab_reads {P : Program} {W : World} {name : String} {k : IntKind} {zs : List Int} {g : Nat} {t e : TypeId} {n : Nat}
    (hg : P.globalNamed name = some g) (hty : (P.globals[g]?).map (·.type) = some t) (ht : P.underlying t = some (.array n e)) (he : P.underlying e = some (.int k)) (hce : P.cellsOf e = 1) (hct : P.cellsOf t = n)
    (h : Lib.VarReads P W name (Lib.tabData k zs)) : Lib.TabIs P W name k zs := by
  obtain ⟨g', t', cs, fuel, p, hg', ht', hvar, hd⟩ := h
  obtain rfl := Option.some.inj (hg.symm.trans hg')
  obtain rfl := Option.some.inj (hty.symm.trans ht')
  unfold Lib.TabIs
  rw [hvar, ← Lib.cells_of_tab ht he hce hct hd]
theorem jgTz : Tryz.prog.globalNamed "math/bits.deBruijn64tab" = some 1 := by kernel_rfl
theorem jgTzType : (Tryz.prog.globals[1]?).map (·.type) = some 145 := by kernel_rfl
theorem jcellsTz : Tryz.prog.cellsOf 145 = 64 := by kernel_rfl
theorem jcellsB8 : Tryz.prog.cellsOf 5 = 1 := by kernel_rfl
theorem jcellsStr : Tryz.prog.cellsOf 9 = 1 := by kernel_rfl
def jtzZ : List Int := Lib.deBruijn64tab.map fun n : Nat => (n : Int)
theorem jtzData : (Rows.laid_math_bits_deBruijn64tab : DataW Unit) = Lib.tabData .u8 jtzZ := by kernel_rfl
theorem jgSg : Tryz.prog.globalNamed "waypost/pattern.signs" = some 0 := by kernel_rfl
theorem jgSgType : (Tryz.prog.globals[0]?).map (·.type) = some 93 := by kernel_rfl
theorem tab_of {L : List (String × DataW Unit)} {W : World} (h : laidMet Tryz.prog L W) (m1 : ("math/bits.deBruijn64tab", Rows.laid_math_bits_deBruijn64tab) ∈ L) : Tab W := by
  have r2 := Lib.laidMet.reads h m1
  rw [jtzData] at r2
  have t2 := jtab_reads jgTz jgTzType Tryz.underlying145 Tryz.underlying5 jcellsB8 jcellsTz r2
  intro j hj
  rw [t2.cell jgTz j (by rw [show jtzZ.length = 64 by decide]; exact hj)]
  have : jtzZ.getD j 0 = ((Lib.deBruijn64tab.getD j 0 : Nat) : Int) := by
    simp [jtzZ, List.getD, List.getElem?_map]
    cases Lib.deBruijn64tab[j]? <;> rfl
  rw [this]
set_option maxRecDepth 100000 in
theorem str_cells {H : Type} {enc : TypeId × Value → H} {W : World} {base : Nat} {spare : Nat → Bool} {held : Bool} {fuel : Nat} {cs : List Value} {l : List UInt8} {p : List MemPlace}
    (h : DataW.trod enc Tryz.prog W base spare held fuel 9 cs = some (.lit (.string l), p)) : cs = [.string ⟨l.toArray⟩] := by
  obtain ⟨x, rfl, hx, -⟩ := DataW.trod_string Tryz.underlying9 h
  have e := congrArg Prod.fst hx
  simp at e
  rw [e]
set_option maxRecDepth 100000 in
theorem st_of {L : List (String × DataW Unit)} {W : World} (h : laidMet Tryz.prog L W) (m : ("waypost/pattern.signs", Rows.laid_waypost_pattern_signs) ∈ L) : ST W := by
  obtain ⟨g, t, cs, fuel, p, hg, hty, hvar, hd⟩ := Lib.laidMet.reads h m
  obtain rfl := Option.some.inj (jgSg.symm.trans hg)
  obtain rfl := Option.some.inj (jgSgType.symm.trans hty)
  obtain ⟨xs, n, -, hx, hl, hlen, hf⟩ := DataW.trod_array Tryz.underlying93 hd
  have e := congrArg Prod.fst hx
  match xs, hlen with
  | [x0, x1, x2, x3], _ =>
    simp only [Rows.laid_waypost_pattern_signs, List.map_cons, List.map_nil, DataW.agg.injEq, List.cons.injEq, and_true] at e
    obtain ⟨e0, e1, e2, e3⟩ := e
    rw [jcellsStr] at hf
    intro i hi
    rw [World.var?_cell jgSg hvar]
    have k : ∀ (j : Nat) (l : List UInt8) (q : List MemPlace), DataW.trod (fun _ => ()) Tryz.prog W 0 (fun _ => true) false n 9 ((cs.toList.drop (j * 1)).take 1) = some (.lit (.string l), q) → cs[j]? = some (.string ⟨l.toArray⟩) := by
      intro j l q hq
      have hc := str_cells hq
      have h0 := congrArg (·[0]?) hc
      simp at h0
      exact h0
    match i, hi with
    | 0, _ => exact k 0 [] x0.2 ((hf 0 (by omega)).trans (by simp [e0]))
    | 1, _ => exact k 1 [42] x1.2 ((hf 1 (by omega)).trans (by simp [e1]))
    | 2, _ => exact k 2 [43] x2.2 ((hf 2 (by omega)).trans (by simp [e2]))
    | 3, _ => exact k 3 [63] x3.2 ((hf 3 (by omega)).trans (by simp [e3]))
theorem ts_of {L : List (String × DataW Unit)} {W : World} (h : laidMet Tryz.prog L W) (m1 : ("math/bits.deBruijn64tab", Rows.laid_math_bits_deBruijn64tab) ∈ L) (m2 : ("waypost/pattern.signs", Rows.laid_waypost_pattern_signs) ∈ L) : TS W := by
  have t := tab_of h m1
  exact ⟨t, st_of h m2, block_lt_of_cell (t 0 (by omega))⟩
end Go.Proofs.YtdnbnigebejgjaaGreatDoor
namespace Go.Proofs.YtdnbnigebejgjaaGreatDoor
open Go.ChangeShapes Go.WideShapes Go.ChangeAt Go.RowKit Go.Deep
theorem cellsIn_of_open {W : World} {a : Addr} {len k : Nat} (hk : 0 < k) (G : Nat → Nat → Value) (h : ∀ i, i < len → ∃ cs', W.cells? 0 (a.add (i * k)) k = some cs' ∧ ∀ r, r < k → cs'[r]? = some (G i r)) : CellsIn W (some a) (len * k) (fun j => G (j / k) (j % k)) := by
  have hat : ∀ i, i < len → ∀ r, r < k → W.cell? ((a.add (i * k)).add r) = some (G i r) := fun i hi r hr => by
    obtain ⟨cs', h1, h2⟩ := h i hi
    rw [(World.cells?_some h1).2.2 r hr, h2 r hr]
  intro j hj
  have hlen : 0 < len := by
    rcases Nat.eq_zero_or_pos len with e | e
    · rw [e, Nat.zero_mul] at hj; omega
    · exact e
  obtain ⟨ab, ao, spot⟩ := a
  have hspot : spot = none := by simpa [Addr.add] using World.cell?_spot (hat 0 hlen 0 hk)
  subst hspot
  have hi : j / k < len := Nat.div_lt_of_lt_mul (by rw [Nat.mul_comm]; exact hj)
  have h1 := hat (j / k) hi (j % k) (Nat.mod_lt _ hk)
  rw [Addr.add_lit, Addr.add_lit, Nat.add_assoc, Nat.mul_comm, Nat.div_add_mod] at h1
  exact ⟨ab, ao, rfl, World.block_lt_of_cell? W _ h1, h1⟩
section
variable {H : Type} {enc : TypeId × Value → H} {W : World} {base : Nat}
set_option maxRecDepth 100000 in
theorem open_sliceOf {t e : TypeId} {k : Nat} (ht : Tryz.prog.underlying t = some (.slice e)) (hce : Tryz.prog.cellsOf e = k) {v : Value} {d : DataW H} {ps : List MemPlace} (hval : Value.okWide Tryz.prog W .any base t v) (hd : DataW.Trod enc Tryz.prog W 0 (fun _ => true) true t v d ps) :
    ∃ p n c, v = .slice p n c ∧ (p = none → n = 0 ∧ c = 0) ∧ ∀ i, i < n → ∃ a m cs' y, p = some a ∧ W.cells? 0 (a.add (i * k)) k = some cs' ∧ DataW.trod enc Tryz.prog W 0 (fun _ => true) true m e cs' = some y := by
  obtain ⟨a1, len, cap, rfl⟩ := okWide_slice ht hval
  obtain ⟨fuel, hf⟩ := hd
  rcases open_slice ht hf with ⟨hcs, hx⟩ | ⟨a, len', cap', m, n, D, Pl, hcs, _, hl, hm, hmm, hx, hall⟩
  · simp [Value.cells] at hcs
    obtain ⟨rfl, rfl, rfl⟩ := hcs
    exact ⟨none, 0, 0, rfl, fun _ => ⟨rfl, rfl⟩, fun i hi => by omega⟩
  · simp [Value.cells] at hcs
    obtain ⟨rfl, rfl, rfl⟩ := hcs
    refine ⟨some a, len, cap, rfl, (fun e => by cases e), fun i hi => ?_⟩
    simp only [if_true] at hmm
    obtain ⟨cs', h1, h2⟩ := hall i (by omega)
    rw [hce] at h1
    exact ⟨a, n, cs', _, rfl, h1, h2⟩
/-- An argument reads behind the call as before. -/
theorem stays {t : TypeId} (hr : Tryz.prog.readableRec t = true) (hrow : t < Tryz.prog.types.size) {W' : World} {sp : Nat → Bool} {v : Value} {d : DataW H} {ps : List MemPlace} (h : DataW.Trod enc Tryz.prog W 0 (fun _ => true) true t v d ps) (hb : Below W.heap.size W W') (hlt : ∀ x ∈ ps, x.block < W.heap.size) (hs : ∀ x ∈ ps, sp x.block = true) : DataW.Trod enc Tryz.prog W' 0 sp true t v d ps :=
  WideElems.Trod_stays laidOut hr hrow h (fun x hx => hb.same (hlt x hx)) hs
end
end Go.Proofs.YtdnbnigebejgjaaGreatDoor
namespace Go.Proofs.YtdnbnigebejgjaaGreatDoor
open Go.ChangeShapes Go.WideShapes Go.ChangeAt Go.RowKit Go.Deep
section
variable {H : Type} {enc : TypeId × Value → H} {W : World}
theorem jcellsSet : Tryz.prog.cellsOf 41 = 4 := by kernel_rfl
theorem jcellsW : Tryz.prog.cellsOf 39 = 1 := by kernel_rfl
theorem jcellsI : Tryz.prog.cellsOf 3 = 1 := by kernel_rfl
theorem jcellsB : Tryz.prog.cellsOf 4 = 1 := by kernel_rfl
theorem jcellsNd : Tryz.prog.cellsOf 54 = 9 := by kernel_rfl
theorem jcellsNds : Tryz.prog.cellsOf 23 = 1 := by kernel_rfl
theorem jcellsTree : Tryz.prog.cellsOf 25 = 4 := by kernel_rfl
theorem jword_of {z : Int} (h : (Lit.int .u64 z).wf = true) : ∃ x : BitVec 64, z = (x.toNat : Int) := by
  simp [Lit.wf, IntKind.min, IntKind.max, IntKind.bits, IntKind.signed] at h
  refine ⟨BitVec.ofNat 64 z.toNat, ?_⟩
  rw [BitVec.toNat_ofNat, Nat.mod_eq_of_lt (by omega)]
  omega
theorem jflat_getD {α : Type} (g : α → List Value) (k : Nat) (hk : 0 < k) (hg : ∀ x, (g x).length = k) (d : Value) : ∀ (L : List α) (j : Nat) (h : j / k < L.length), (L.flatMap g).getD j d = (g L[j / k]).getD (j % k) d
  | [], j, h => absurd h (by simp)
  | x :: L, j, h => by
    rw [List.flatMap_cons, List.getD_eq_getElem?_getD]
    by_cases hj : j < k
    · have e : j / k = 0 := Nat.div_eq_of_lt hj
      simp only [e, List.getElem_cons_zero]
      rw [Nat.mod_eq_of_lt hj, List.getElem?_append_left (by rw [hg]; exact hj), List.getD_eq_getElem?_getD]
    · have e1 : j / k = (j - k) / k + 1 := by
        rw [Nat.div_eq_sub_div hk (by omega)]
      have e2 : j % k = (j - k) % k := Nat.mod_eq_sub_mod (by omega)
      have ih := jflat_getD g k hk hg d L (j - k) (by rw [e1] at h; simpa using h)
      rw [List.getElem?_append_right (by rw [hg]; omega), hg, ← List.getD_eq_getElem?_getD, ih, e2]
      simp only [e1, List.getElem_cons_succ]
set_option maxRecDepth 100000 in
theorem node_cells {m : Nat} {cs : List Value} {y : DataW H × List MemPlace} (hl : cs.length = 9) (h : DataW.trod enc Tryz.prog W 0 (fun _ => true) true m 54 cs = some y) : ∃ n : ND, cs = ndC n := by
  obtain ⟨c0, c1, c2, c3, c4, c5, c6, c7, c8, rfl⟩ : ∃ c0 c1 c2 c3 c4 c5 c6 c7 c8, cs = [c0, c1, c2, c3, c4, c5, c6, c7, c8] := by
    match cs, hl with
    | [c0, c1, c2, c3, c4, c5, c6, c7, c8], _ => exact ⟨c0, c1, c2, c3, c4, c5, c6, c7, c8, rfl⟩
  obtain ⟨xs, n, _, _, _, hlen, hf⟩ := DataW.trod_struct Tryz.underlying54 h
  match xs, hlen with
  | [y0, y1, y2, y3, y4, y5], _ =>
    have t0 : DataW.trod enc Tryz.prog W 0 (fun _ => true) true n 3 [c0] = some y0 := by
      have h : DataW.trod enc Tryz.prog W 0 (fun _ => true) true n 3 (([c0, c1, c2, c3, c4, c5, c6, c7, c8].drop 0).take (Tryz.prog.cellsOf 3)) = some y0 := hf 0 _ rfl
      rw [jcellsI] at h
      exact h
    have t1 : DataW.trod enc Tryz.prog W 0 (fun _ => true) true n 3 [c1] = some y1 := by
      have h : DataW.trod enc Tryz.prog W 0 (fun _ => true) true n 3 (([c0, c1, c2, c3, c4, c5, c6, c7, c8].drop 1).take (Tryz.prog.cellsOf 3)) = some y1 := hf 1 _ rfl
      rw [jcellsI] at h
      exact h
    have t2 : DataW.trod enc Tryz.prog W 0 (fun _ => true) true n 41 [c2, c3, c4, c5] = some y2 := by
      have h : DataW.trod enc Tryz.prog W 0 (fun _ => true) true n 41 (([c0, c1, c2, c3, c4, c5, c6, c7, c8].drop 2).take (Tryz.prog.cellsOf 41)) = some y2 := hf 2 _ rfl
      rw [jcellsSet] at h
      exact h
    have t3 : DataW.trod enc Tryz.prog W 0 (fun _ => true) true n 3 [c6] = some y3 := by
      have h : DataW.trod enc Tryz.prog W 0 (fun _ => true) true n 3 (([c0, c1, c2, c3, c4, c5, c6, c7, c8].drop 6).take (Tryz.prog.cellsOf 3)) = some y3 := hf 3 _ rfl
      rw [jcellsI] at h
      exact h
    have t4 : DataW.trod enc Tryz.prog W 0 (fun _ => true) true n 3 [c7] = some y4 := by
      have h : DataW.trod enc Tryz.prog W 0 (fun _ => true) true n 3 (([c0, c1, c2, c3, c4, c5, c6, c7, c8].drop 7).take (Tryz.prog.cellsOf 3)) = some y4 := hf 4 _ rfl
      rw [jcellsI] at h
      exact h
    have t5 : DataW.trod enc Tryz.prog W 0 (fun _ => true) true n 3 [c8] = some y5 := by
      have h : DataW.trod enc Tryz.prog W 0 (fun _ => true) true n 3 (([c0, c1, c2, c3, c4, c5, c6, c7, c8].drop 8).take (Tryz.prog.cellsOf 3)) = some y5 := hf 5 _ rfl
      rw [jcellsI] at h
      exact h
    obtain ⟨z0, e0, -, -⟩ := DataW.trod_int Tryz.underlying3 t0
    obtain ⟨z1, e1, -, -⟩ := DataW.trod_int Tryz.underlying3 t1
    obtain ⟨z3, e3, -, -⟩ := DataW.trod_int Tryz.underlying3 t3
    obtain ⟨z4, e4, -, -⟩ := DataW.trod_int Tryz.underlying3 t4
    obtain ⟨z5, e5, -, -⟩ := DataW.trod_int Tryz.underlying3 t5
    obtain ⟨_, _, _, _, _, _, w0, w1, w2, w3⟩ := trod_array4 Tryz.underlying41 jcellsW t2
    obtain ⟨n0, f0, -, g0⟩ := DataW.trod_int Tryz.underlying39 w0
    obtain ⟨n1, f1, -, g1⟩ := DataW.trod_int Tryz.underlying39 w1
    obtain ⟨n2, f2, -, g2⟩ := DataW.trod_int Tryz.underlying39 w2
    obtain ⟨n3, f3, -, g3⟩ := DataW.trod_int Tryz.underlying39 w3
    obtain ⟨x0, rfl⟩ := jword_of g0
    obtain ⟨x1, rfl⟩ := jword_of g1
    obtain ⟨x2, rfl⟩ := jword_of g2
    obtain ⟨x3, rfl⟩ := jword_of g3
    simp only [List.cons.injEq, and_true] at e0 e1 e3 e4 e5 f0 f1 f2 f3
    subst e0 e1 e3 e4 e5 f0 f1 f2 f3
    exact ⟨⟨z0, z1, ⟨x0, x1, x2, x3⟩, z3, z4, z5⟩, rfl⟩
set_option maxRecDepth 100000 in
theorem nodes_of {fuel : Nat} {c0 : Value} {y : DataW H × List MemPlace} (hf : DataW.trod enc Tryz.prog W 0 (fun _ => true) true fuel 23 [c0] = some y) : ∃ L, NdsAt W c0 L := by
  rcases open_slice Tryz.underlying23 hf with ⟨hcs, _⟩ | ⟨a, len, cap, m, n', D, Pl, hcs, _, hl, hm, hmm, _, hall⟩
  · simp only [List.cons.injEq, and_true] at hcs
    subst hcs
    exact ⟨[], NdsAt.nil W⟩
  · simp only [List.cons.injEq, and_true] at hcs
    subst hcs
    simp only [if_true] at hmm
    rw [jcellsNd] at hall
    obtain ⟨f, hf⟩ := @choose_lt ND ⟨bare 0 .empty 0⟩ len (fun i x => ∃ cs', W.cells? 0 (a.add (i * 9)) 9 = some cs' ∧ ∀ r, r < 9 → cs'[r]? = some ((ndC x).getD r (.int .i64 0))) (fun i hi => by
      obtain ⟨cs', h1, h2⟩ := hall i (by omega)
      obtain ⟨x, rfl⟩ := node_cells (World.cells?_some h1).2.1 h2
      refine ⟨x, _, h1, fun r hr => ?_⟩
      rw [List.getD_eq_getElem?_getD, List.getElem?_eq_getElem (show r < (ndC x).length from hr)]
      rfl)
    have hc := cellsIn_of_open (a := a) (len := len) (k := 9) (by omega) (fun i r => (ndC (f i)).getD r (.int .i64 0)) hf
    have hlen : ((List.range len).map f).length = len := by simp
    refine ⟨(List.range len).map f, some a, cap, by rw [hlen], (fun e => by cases e), fun j hj => ?_⟩
    rw [hlen] at hj
    obtain ⟨b, off, e, h1, h2⟩ := hc j hj
    refine ⟨b, off, e, h1, ?_⟩
    rw [h2]
    have hq : j / 9 < ((List.range len).map f).length := by rw [hlen]; omega
    have := jflat_getD ndC 9 (by omega) (fun x => rfl) (.int .i64 0) ((List.range len).map f) j hq
    unfold ndsC
    dsimp only
    rw [this]
    simp
set_option maxRecDepth 100000 in
theorem open_treeF {base : Nat} {v : Value} {d : DataW H} {ps : List MemPlace} (hval : Value.okWide Tryz.prog W .any base 25 v) (hd : DataW.Trod enc Tryz.prog W 0 (fun _ => true) true 25 v d ps) :
    ∃ (L : List ND) (u : Value) (bb en : Bool) (g : Int), v = .agg #[u, .bool bb, .bool en, .int .i64 g] ∧ NdsAt W u L := by
  simp only [Value.okWide, Tryz.underlying25] at hval
  obtain ⟨cs, rfl, h2, _⟩ := hval
  obtain ⟨fuel, hf⟩ := hd
  have h4 : cs.toList.length = 4 := by simpa [jcellsTree] using h2
  obtain ⟨l⟩ := cs
  obtain ⟨c0, c1, c2, c3, rfl⟩ : ∃ c0 c1 c2 c3, l = [c0, c1, c2, c3] := by
    match l, h4 with
    | [c0, c1, c2, c3], _ => exact ⟨c0, c1, c2, c3, rfl⟩
  obtain ⟨xs, n, _, _, _, hlen, hx⟩ := DataW.trod_struct Tryz.underlying25 hf
  match xs, hlen with
  | [y0, y1, y2, y3], _ =>
    have t0 : DataW.trod enc Tryz.prog W 0 (fun _ => true) true n 23 [c0] = some y0 := by
      have h : DataW.trod enc Tryz.prog W 0 (fun _ => true) true n 23 (([c0, c1, c2, c3].drop 0).take (Tryz.prog.cellsOf 23)) = some y0 := hx 0 _ rfl
      rw [jcellsNds] at h
      exact h
    have t1 : DataW.trod enc Tryz.prog W 0 (fun _ => true) true n 4 [c1] = some y1 := by
      have h : DataW.trod enc Tryz.prog W 0 (fun _ => true) true n 4 (([c0, c1, c2, c3].drop 1).take (Tryz.prog.cellsOf 4)) = some y1 := hx 1 _ rfl
      rw [jcellsB] at h
      exact h
    have t2 : DataW.trod enc Tryz.prog W 0 (fun _ => true) true n 4 [c2] = some y2 := by
      have h : DataW.trod enc Tryz.prog W 0 (fun _ => true) true n 4 (([c0, c1, c2, c3].drop 2).take (Tryz.prog.cellsOf 4)) = some y2 := hx 2 _ rfl
      rw [jcellsB] at h
      exact h
    have t3 : DataW.trod enc Tryz.prog W 0 (fun _ => true) true n 3 [c3] = some y3 := by
      have h : DataW.trod enc Tryz.prog W 0 (fun _ => true) true n 3 (([c0, c1, c2, c3].drop 3).take (Tryz.prog.cellsOf 3)) = some y3 := hx 3 _ rfl
      rw [jcellsI] at h
      exact h
    obtain ⟨b1, e1, -⟩ := DataW.trod_bool Tryz.underlying4 t1
    obtain ⟨b2, e2, -⟩ := DataW.trod_bool Tryz.underlying4 t2
    obtain ⟨z3, e3, -, -⟩ := DataW.trod_int Tryz.underlying3 t3
    simp only [List.cons.injEq, and_true] at e1 e2 e3
    subst e1 e2 e3
    obtain ⟨L, hL⟩ := nodes_of t0
    exact ⟨L, c0, b1, b2, z3, rfl, hL⟩
set_option maxRecDepth 100000 in
theorem open_intsJ {base : Nat} {v : Value} {d : DataW H} {ps : List MemPlace} (hval : Value.okWide Tryz.prog W .any base 45 v) (hd : DataW.Trod enc Tryz.prog W 0 (fun _ => true) true 45 v d ps) :
    ∃ (G : List Int) (p : Option Addr) (c : Nat), v = .slice p G.length c ∧ G.length ≤ c ∧ c ≤ 9223372036854775807 ∧ CellsIn W p G.length (intC fun i => G.getD i 0) := by
  obtain ⟨a1, len, cap, rfl⟩ := okWide_slice Tryz.underlying45 hval
  obtain ⟨fuel, hf⟩ := hd
  rcases open_slice Tryz.underlying45 hf with ⟨hcs, _⟩ | ⟨a, len', cap', m, n', D, Pl, hcs, _, hl, hm, hmm, _, hall⟩
  · simp [Value.cells] at hcs
    obtain ⟨rfl, rfl, rfl⟩ := hcs
    exact ⟨[], none, 0, rfl, Nat.le_refl _, by omega, fun j hj => absurd hj (by simp)⟩
  · simp [Value.cells] at hcs
    obtain ⟨rfl, rfl, rfl⟩ := hcs
    simp only [if_true] at hmm
    rw [jcellsI] at hall
    obtain ⟨f, hf⟩ := choose_lt (n := len) (α := Int) (p := fun i x => ∃ cs', W.cells? 0 (a.add (i * 1)) 1 = some cs' ∧ ∀ r, r < 1 → cs'[r]? = some (.int .i64 x)) (fun i hi => by
      obtain ⟨cs', h1, h2⟩ := hall i (by omega)
      obtain ⟨z, rfl, _, _⟩ := DataW.trod_int Tryz.underlying3 h2
      refine ⟨z, _, h1, fun r hr => ?_⟩
      obtain rfl : r = 0 := by omega
      rfl)
    have hc := cellsIn_of_open (a := a) (len := len) (k := 1) (by omega) (fun i _ => .int .i64 (f i)) hf
    have hlen : ((List.range len).map f).length = len := by simp
    refine ⟨(List.range len).map f, some a, cap, by rw [hlen], by rw [hlen]; exact hl, by unfold maxLen at hm; omega, fun j hj => ?_⟩
    rw [hlen] at hj
    obtain ⟨b, off, e, h1, h2⟩ := hc j (by omega)
    refine ⟨b, off, e, h1, ?_⟩
    rw [h2]
    unfold intC
    have hq : j < ((List.range len).map f).length := by rw [hlen]; omega
    dsimp only
    rw [List.getD_eq_getElem?_getD, List.getElem?_eq_getElem hq]
    simp
end
end Go.Proofs.YtdnbnigebejgjaaGreatDoor
