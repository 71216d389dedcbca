/-
  The program's machine takes its next line.
-/
import Derived.Test.YtfagjhadfonhdaaLQMach
import Derived.Deep.RegionHeld3
namespace Go.Proofs.Ytfagjhadfonhdaa
open Go.RowKit
theorem bytesOf_map : ∀ l : List UInt8, Lib.bytesOf (l.map fun b => (b.toNat : Int)) = l
  | [] => rfl
  | c :: r => by
    have ih := bytesOf_map r
    unfold Lib.bytesOf at ih ⊢
    rw [List.map_cons, List.map_cons, ih]
    simp
theorem ixw_any (bc o cap : Nat) (l : List UInt8) (w : World) (hc : ∀ j (h : j < l.length), w.cell? ⟨bc, o + j, none⟩ = some (.int .u8 ((l[j]).toNat : Int))) :
    Calls Try.prog 50 #[.slice (some ⟨bc, o, none⟩) l.length cap, .int .u8 10] w fun e w' => e = .returned (.int .i64 (Lib.indexByte l 10)) ∧ w = w' :=
  (Any.bytes_IndexByte lays187 bc o l.length cap (l.map fun b => (b.toNat : Int)) 10 w (by simp) (fun i hi => by rw [hc i hi]; simp [List.getD, hi])).mono fun _ _ ⟨h1, h2⟩ => ⟨by rw [h1, bytesOf_map]; rfl, h2.symm⟩
theorem ln_result2 {w : World} {B : Nat} {a b : Value} (h1 : CBlk 27 w B [a, b]) {fn : Func} {p q : Tmp} (h : fn.results = #[.cell p 27, .tmp q]) (tmps : Array Value) (e : Value)
    (hp : tmps.getD p undef = .pointer (some ⟨B, 0, none⟩)) (hq : tmps.getD q undef = e) : (Go.results fn tmps).run Try.prog w = .ok (.tuple #[.agg #[a, b], e]) w := by
  have hp' : tmps[p]?.getD undef = .pointer (some ⟨B, 0, none⟩) := by simpa using hp
  have hq' : tmps[q]?.getD undef = e := by simpa using hq
  have c0 := h1.cell 0 (by simp)
  have c1 := h1.cell 1 (by simp)
  dsimp only [List.getElem_cons_zero, List.getElem_cons_succ] at c0 c1
  simp [Go.results, h, hp', hq', asAddr, go_sem, c0, c1]
/-- The first bytes of a slice of bytes, as a string. -/
theorem conv_bytes (w : World) (bc o cap : Nat) (l : List UInt8) (hc : ∀ j (h : j < l.length), w.cell? ⟨bc, o + j, none⟩ = some (.int .u8 ((l[j]).toNat : Int))) :
    (convert 57 9 (.slice (some ⟨bc, o, none⟩) l.length cap)).run Try.prog w = .ok (.string ⟨l.toArray⟩) w :=
  run_convert_bytes_back w 57 9 5 ⟨bc, o, none⟩ cap l Try.underlying57 Try.underlying5 Try.underlying9 (fun j hj => by rw [Lib.add_plain]; exact hc j hj)
/-- The window's cells. -/
theorem ChAt.win {w : World} {bc : Nat} {C : List UInt8} (h : ChAt w bc C) {k o m r : Nat} (hr : C.length - k = r) (ho : r = 0 ∨ o = k) (j : Nat) (hj : j < ((C.drop k).take m).length) : w.cell? ⟨bc, o + j, none⟩ = some (.int .u8 ((((C.drop k).take m)[j]).toNat : Int)) := by
  have hl : ((C.drop k).take m).length ≤ r := by rw [List.length_take, List.length_drop]; omega
  rcases ho with h0 | rfl
  · omega
  · have hj2 : o + j < C.length := by rw [List.length_take, List.length_drop] at hj; omega
    rw [h.2 (o + j) hj2]
    simp
/-- How many bytes of the chunk belong to lines that were taken. -/
def tkN (C : List UInt8) (k : Nat) (o : Sp × Ln × List UInt8 × Bool) : Nat := if o.2.2.2 = true then C.length - o.2.2.1.length else k
set_option maxRecDepth 100000 in
set_option maxHeartbeats 8000000 in
theorem mline_any (B bc cap k : Nat) (n : Int) (S C : List UInt8) (hn : 1 ≤ n ∧ n ≤ 1536) (hS : (S.length : Int) ≤ n) (hk : k ≤ C.length) (hC : C.length < 100000) (hcap : C.length ≤ cap ∧ cap ≤ maxLen) (hne : bc ≠ B) (w : World)
    (hm : CBlk 59 w B (mC n S false bc C cap k)) (hch : ChAt w bc C) :
    Calls Try.prog 45 #[.pointer (some ⟨B, 0, none⟩)] w fun e w' => e = .returned (.tuple #[lnV (oneL n S (C.drop k)).2.1, .bool (oneL n S (C.drop k)).2.2.2]) ∧
      CBlk 59 w' B (mC n (oneL n S (C.drop k)).1.txt (oneL n S (C.drop k)).1.lg bc C cap (tkN C k (oneL n S (C.drop k)))) ∧ w.grownBy w' (some B) := by
  obtain ⟨hwa, hwb⟩ := oneL_win n (C.drop k) S hS
  obtain ⟨hc1, hc2⟩ := hcap
  unfold maxLen at hc2
  have hz := CBlk.new 27 w [.string ⟨#[]⟩, .bool false]
  have hm0 := hm.alloc (.cells #[.string ⟨#[]⟩, .bool false] 27)
  have hg0 := gr_alloc (World.grownBy.refl w (some B)) (.cells #[.string ⟨#[]⟩, .bool false] 27)
  have hch0 := hch.grown hg0 hne
  obtain ⟨W0, hW0⟩ : ∃ W0, w.alloc (.cells #[.string ⟨#[]⟩, .bool false] 27) = W0 := ⟨_, rfl⟩
  rw [hW0] at hz hm0 hg0 hch0
  have hBN : B ≠ w.heap.size := fun e => by have := hm.lt; omega
  have HZ := Lib.hid hz
  have HM := Lib.hid hm0
  have HG := Lib.hid hg0
  have HCH := Lib.hid hch0
  clear hz hm0 hg0 hch0 hch hm
  obtain ⟨c0, c1, c2, c3, c4⟩ := (show CBlk 59 W0 B [.int .i64 n, .string ⟨S.toArray⟩, .bool false, .slice (some ⟨bc, 0, none⟩) C.length cap, .int .i64 (k : Int)] from HM.out).cells5
  have k1 : (k : Int) ≤ (C.length : Int) := by omega
  have k2 : (k : Int) ≤ (cap : Int) := by omega
  have k3 : (0 : Int) ≤ (k : Int) := by omega
  obtain ⟨r, hr⟩ : ∃ r, C.length - k = r := ⟨_, rfl⟩
  have q1 : IntKind.i64.wrap (n - (S.length : Int)) = n - (S.length : Int) := lwrap64 (by omega) (by omega)
  have q2 : IntKind.i64.wrap (n - (S.length : Int) + 1) = n - (S.length : Int) + 1 := lwrap64 (by omega) (by omega)
  obtain ⟨m, hmw⟩ : ∃ m, winN n S (C.drop k) = m := ⟨_, rfl⟩
  have hRl : (C.drop k).length = r := by rw [List.length_drop]; exact hr
  have hmin : min (r : Int) (n - (S.length : Int) + 1) = (m : Int) := by
    rw [← hmw]
    unfold winN
    rw [hRl]
    omega
  have hmr : m ≤ r := by omega
  obtain ⟨X, hX⟩ : ∃ X, (C.drop k).take m = X := ⟨_, rfl⟩
  have hXl : X.length = m := by rw [← hX, List.length_take, hRl]; omega
  rw [hmw, hX] at hwa hwb
  obtain ⟨v, hv⟩ : ∃ v, Lib.indexByte X 10 = v := ⟨_, rfl⟩
  have hge := Lib.indexByte_ge X 10
  rw [hv] at hwa hwb hge
  have HWA := Lib.hid hwa
  have HWB := Lib.hid hwb
  have HV := Lib.hid hv
  have HX := Lib.hid hX
  have HXL := Lib.hid hXl
  have m1 : (m : Int) ≤ (r : Int) := by omega
  have m2 : (m : Int) ≤ ((cap - k : Nat) : Int) := by omega
  have m3 : (m : Int) ≤ (cap : Int) - (k : Int) := by omega
  have HR := Lib.hid hr
  clear hwa hwb hv hX hXl hRl hmw
  go_enter Try.func45, Try.ntmps45
  go_upto_region 1 with fail
  clear hW0
  go_region
  all_goals
    go_upto_region 2 with fail
    clear c0 c1 c2 c3 c4
    obtain ⟨o, ho⟩ : ∃ o, (if cap = k then (some ⟨bc, 0, none⟩ : Option Addr) else some ⟨bc, k, none⟩) = some ⟨bc, o, none⟩ ∧ (r = 0 ∨ o = k) := by
      by_cases hck : cap = k
      · exact ⟨0, if_pos hck, .inl (by omega)⟩
      · exact ⟨k, if_neg hck, .inr rfl⟩
    rw [ho.1]
    have HO := Lib.hid ho.2
    clear ho hr
    obtain ⟨c0, c1, c2, c3, c4⟩ := (show CBlk 59 W0.drew B [.int .i64 n, .string ⟨S.toArray⟩, .bool false, .slice (some ⟨bc, 0, none⟩) C.length cap, .int .i64 (k : Int)] from HM.out.drew).cells5
    go_region
    all_goals
      go_upto_region 3 with fail
      obtain ⟨W2, hW2⟩ : ∃ W2, W0.drew.drew = W2 := ⟨_, rfl⟩
      rw [hW2]
      have HM2 : Hid (CBlk 59 W2 B [.int .i64 n, .string ⟨S.toArray⟩, .bool false, .slice (some ⟨bc, 0, none⟩) C.length cap, .int .i64 (k : Int)]) := Lib.hid (by rw [← hW2]; exact HM.out)
      have HZ2 : Hid (CBlk 27 W2 w.heap.size [.string ⟨#[]⟩, .bool false]) := Lib.hid (by rw [← hW2]; exact HZ.out)
      have HG2 : Hid (w.grownBy W2 (some B)) := Lib.hid (by rw [← hW2]; exact gr_drew (gr_drew HG.out))
      have HCH2 : Hid (ChAt W2 bc C) := Lib.hid (by rw [← hW2]; exact HCH.out)
      clear hW2 c0 c1 c2 c3 c4 HM HZ HG HCH
      have hcw : Hid (∀ j (h : j < X.length), W2.cell? ⟨bc, o + j, none⟩ = some (.int .u8 ((X[j]).toNat : Int))) := Lib.hid (by
        intro j hj
        have := HCH2.out.win HR.out HO.out (m := m) j (by rw [HX.out]; exact hj)
        rw [this]
        simp only [HX.out])
      have hIX : Hid (∀ cp, Calls Try.prog 50 #[.slice (some ⟨bc, o, none⟩) m cp, .int .u8 10] W2 fun e w' => e = .returned (.int .i64 v) ∧ W2 = w') := Lib.hid (by
        intro cp
        have := ixw_any bc o cp X W2 hcw.out
        rw [HXL.out, HV.out] at this
        exact this)
      go_wp2_with fail
      refine (hIX.out _).mono ?_
      rintro e w' ⟨rfl, rfl⟩
      by_cases hneg : v = -1
      · subst hneg
        have ho := HWB.out rfl
        have HO2 := Lib.hid ho
        have hcv : (convert 57 9 (.slice (some ⟨bc, o, none⟩) m m)).run Try.prog W2 = .ok (.string ⟨X.toArray⟩) W2 := by
          have := conv_bytes W2 bc o m X hcw.out
          rw [HXL.out] at this
          exact this
        have hXs : X.length < 1000000 := by rw [HXL.out]; omega
        have hSs : S.length < 1000000 := by omega
        clear ho
        go_wp2_with fail
        refine (begin_any B bc cap k n S X C hSs hXs W2 HM2.out).mono ?_
        rintro e w3 ⟨rfl, hm3, hg3⟩
        have hz3 := HZ2.out.kept hg3 (fun e => hBN (by injection e with e; exact e.symm))
        have hG3 := gr_trans HG2.out hg3
        obtain ⟨z0, z1⟩ := hz3.cells2
        have f0 := hz3.free 0
        have f1 := hz3.free 1
        have HM3 := Lib.hid hm3
        have HZ3 := Lib.hid hz3
        have HG3 := Lib.hid hG3
        clear hm3 hg3 hz3 hG3 hcv
        go_wp2_with fail
        refine bodyPost_ret (ln_result2 (HZ3.out.store2 rfl _ _) rfl _ _ rfl rfl) rfl ⟨by rw [HO2.out]; rfl, ?_, gr_new (gr_new HG3.out (Nat.le_refl _) 0 _) (Nat.le_refl _) 1 _⟩
        rw [HO2.out]
        exact (HM3.out.other ⟨w.heap.size, 0, none⟩ (fun e => hBN e.symm) _).other ⟨w.heap.size, 1, none⟩ (fun e => hBN e.symm) _
      · obtain ⟨i, rfl⟩ : ∃ i : Nat, v = (i : Int) := ⟨v.toNat, by omega⟩
        obtain ⟨ho, him⟩ := HWA.out i rfl
        have HO2 := Lib.hid ho
        have d0 : decide ((i : Int) < 0) = false := decide_eq_false (by omega)
        have i1 : (i : Int) ≤ (m : Int) := by omega
        have i2 : (0 : Int) ≤ (i : Int) := by omega
        obtain ⟨Y, hY⟩ : ∃ Y, (C.drop k).take i = Y := ⟨_, rfl⟩
        have hYl : Y.length = i := by rw [← hY, List.length_take, List.length_drop, HR.out]; omega
        have hcy : ∀ j (h : j < Y.length), W2.cell? ⟨bc, o + j, none⟩ = some (.int .u8 ((Y[j]).toNat : Int)) := by
          intro j hj
          have := HCH2.out.win HR.out HO.out (m := i) j (by rw [hY]; exact hj)
          rw [this]
          simp only [hY]
        have hcv : (convert 57 9 (.slice (some ⟨bc, o, none⟩) i m)).run Try.prog W2.drew = .ok (.string ⟨Y.toArray⟩) W2.drew := by
          have := conv_bytes W2.drew bc o m Y hcy
          rw [hYl] at this
          exact this
        have s1 : ∀ w, (Op.stringOp .add ⟨S.toArray⟩ ⟨Y.toArray⟩).run Try.prog w = .ok (.string ⟨(S ++ Y).toArray⟩) w := fun w => lstr_add S Y (by omega)
        have hSY : (S ++ Y).length < 900000 := by rw [List.length_append]; omega
        have HY := Lib.hid hY
        rw [hY] at HO2
        obtain ⟨k', hk'⟩ : ∃ k', k + (i + 1) = k' := ⟨_, rfl⟩
        have k4 : (k : Int) + ((i : Int) + 1) = (k' : Int) := by omega
        have w1 : IntKind.i64.wrap ((i : Int) + 1) = (i : Int) + 1 := lwrap64 (by omega) (by omega)
        have w2 : IntKind.i64.wrap ((k : Int) + ((i : Int) + 1)) = (k' : Int) := by rw [lwrap64 (by omega) (by omega)]; omega
        have w3 : IntKind.i64.wrap (k' : Int) = (k' : Int) := lwrap64 (by omega) (by omega)
        have hrest : C.length - ((C.drop k).drop (i + 1)).length = k' := by
          rw [List.length_drop, List.length_drop]
          have := HR.out
          omega
        have HRE := Lib.hid hrest
        obtain ⟨c0, c1, c2, c3, c4⟩ := HM2.out.drew.cells5
        clear ho hneg hcy hY hYl hrest hk'
        go_wp2_with fail
        go_region
        all_goals
          clear c0 c1 c2 c3 c4
          obtain ⟨V, hV⟩ : ∃ V, W2.drew = V := ⟨_, rfl⟩
          rw [hV]
          have HMV : Hid (CBlk 59 V B [.int .i64 n, .string ⟨S.toArray⟩, .bool false, .slice (some ⟨bc, 0, none⟩) C.length cap, .int .i64 (k : Int)]) := Lib.hid (by rw [← hV]; exact HM2.out)
          have HZV : Hid (CBlk 27 V w.heap.size [.string ⟨#[]⟩, .bool false]) := Lib.hid (by rw [← hV]; exact HZ2.out)
          have HGV : Hid (w.grownBy V (some B)) := Lib.hid (by rw [← hV]; exact gr_drew HG2.out)
          clear hV HM2 HZ2 HG2 hcv
          obtain ⟨c0, c1, c2, c3, c4⟩ := HMV.out.cells5
          have f1 := HMV.out.free 1
          have f4 := HMV.out.free 4
          obtain ⟨W3, hW3⟩ : ∃ W3, (V.setCell ⟨B, 1, none⟩ (.string ⟨#[]⟩)).setCell ⟨B, 4, none⟩ (.int .i64 (k' : Int)) = W3 := ⟨_, rfl⟩
          have HM3 : Hid (CBlk 59 W3 B [.int .i64 n, .string ⟨#[]⟩, .bool false, .slice (some ⟨bc, 0, none⟩) C.length cap, .int .i64 (k' : Int)]) := Lib.hid (by
            rw [← hW3]
            exact (HMV.out.set 1 (.string ⟨#[]⟩)).set 4 (.int .i64 (k' : Int)))
          have HZ3 : Hid (CBlk 27 W3 w.heap.size [.string ⟨#[]⟩, .bool false]) := Lib.hid (by
            rw [← hW3]
            exact (HZV.out.other ⟨B, 1, none⟩ hBN _).other ⟨B, 4, none⟩ hBN _)
          have HG3 : Hid (w.grownBy W3 (some B)) := Lib.hid (by rw [← hW3]; exact gr_at (gr_at HGV.out 1 _) 4 _)
          go_upto_region 11 with fail
          clear hW3 c0 c1 c2 c3 c4 f1 f4
          go_wp2_with fail
          refine (lineOf_any (S ++ Y) hSY _).mono ?_
          rintro e w4 ⟨rfl, hb⟩
          have hz4 := HZ3.out.below hb HZ3.out.lt
          have hm4 := HM3.out.below hb HM3.out.lt
          have HG4 := Lib.hid (gr_below HG3.out hb)
          obtain ⟨z0, z1⟩ := hz4.cells2
          have f0 := hz4.free 0
          have f1 := hz4.free 1
          have HZ4 := Lib.hid hz4
          have HM4 := Lib.hid hm4
          unfold lnV
          clear hb hz4 hm4
          go_wp2_with fail
          refine bodyPost_ret (ln_result2 (HZ4.out.store2 rfl _ _) rfl _ _ rfl rfl) rfl ⟨by rw [HO2.out]; rfl, ?_, gr_new (gr_new HG4.out (Nat.le_refl _) 0 _) (Nat.le_refl _) 1 _⟩
          rw [HO2.out]
          unfold tkN
          dsimp only
          rw [if_pos rfl, HRE.out]
          exact (HM4.out.other ⟨w.heap.size, 0, none⟩ (fun e => hBN e.symm) _).other ⟨w.heap.size, 1, none⟩ (fun e => hBN e.symm) _
end Go.Proofs.Ytfagjhadfonhdaa
