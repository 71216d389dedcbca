/-
  The law NumberZeros returns true for every input.
-/
import Derived.Test.YtekbahpobhjobaaDoorNBack
import Derived.Laws.IdiomStrings
namespace Go.Proofs.YtekbahpobhjobaaDoor
open Go.RowKit
attribute [local go_sem] ba_get
def zeros40 : List UInt8 := List.replicate 40 48
theorem zeros_take (k : Nat) (h : k ≤ 40) : (ByteArray.mk zeros40.toArray).extract 0 k = ⟨(List.replicate k (48 : UInt8)).toArray⟩ := by
  apply ByteArray.ext
  rw [ByteArray.data_extract, List.extract_toArray, List.extract_eq_take_drop]
  unfold zeros40
  rw [List.drop_zero, Nat.sub_zero, List.take_replicate, Nat.min_eq_left h]
theorem bytes1_text (W : World) (y : Nat) (hy : y < 256) : (convert 37 9 (.slice (some ⟨W.heap.size, 0, none⟩) 1 1)).run Tryd.prog (W.alloc (.cells #[.int .u8 (y : Int)] 5)) = .ok (.string ⟨[UInt8.ofNat y].toArray⟩) (W.alloc (.cells #[.int .u8 (y : Int)] 5)) := by
  refine run_convert_bytes_back (P := Tryd.prog) _ 37 9 5 ⟨W.heap.size, 0, none⟩ 1 [UInt8.ofNat y] Tryd.underlying37 Tryd.underlying5 Tryd.underlying9 (fun j hj => ?_)
  obtain rfl : j = 0 := by simpa using hj
  rw [Addr.add_lit, Nat.add_zero, cell_of_row _ _ 0 _ _ _ (heap_alloc_new W _)]
  show some (Value.int .u8 (y : Int)) = some (.int .u8 ((UInt8.ofNat y).toNat : Int))
  rw [show (UInt8.ofNat y).toNat = y from Nat.mod_eq_of_lt hy]
set_option maxRecDepth 100000 in
set_option maxHeartbeats 8000000 in
theorem zeros_law (n : Nat) (hn : n < U64) (zs : Int) (w : World) (hNT : NTab w) :
    Calls Tryd.prog 7 #[.int .u64 (n : Int), .int .i64 zs] w fun e w' => e = .returned (.bool true) ∧ Below w.heap.size w w' := by
  have hr := modI_range zs 41 (by omega)
  obtain ⟨k, hk⟩ := Int.eq_ofNat_of_zero_le hr.1
  rw [hk] at hr
  have HK := Lib.hid hk
  have hk41 : k < 41 := by omega
  obtain ⟨i1, i2⟩ := digL_is false n hn
  obtain ⟨j1, j2⟩ := digL_is true n hn
  obtain ⟨l1, l2⟩ := digL_length 10 n
  obtain ⟨m1, m2⟩ := digL_length 16 n
  obtain ⟨S, hSe⟩ : ∃ S, digL 10 n = S := ⟨_, rfl⟩
  obtain ⟨T, hTe⟩ : ∃ T, digL 16 n = T := ⟨_, rfl⟩
  rw [show digL (baseN false) n = S from hSe] at i1 i2
  rw [show digL (baseN true) n = T from hTe] at j1 j2
  rw [hSe] at l1 l2
  rw [hTe] at m1 m2
  have HS := Lib.hid hSe
  have HT := Lib.hid hTe
  obtain ⟨u1, u2⟩ := numF_up T 0 j2
  have hUl : (T.map upC).length = T.length := List.length_map _
  obtain ⟨U, hUe⟩ : ∃ U, T.map upC = U := ⟨_, rfl⟩
  rw [hUe] at u1 u2 hUl
  have HU := Lib.hid hUe
  obtain ⟨z1, z2⟩ := zeros_is false k i2
  obtain ⟨y1, y2⟩ := zeros_is true k u2
  have hZl : (List.replicate k (48 : UInt8)).length = k := List.length_replicate
  obtain ⟨Z, hZe⟩ : ∃ Z, List.replicate k (48 : UInt8) = Z := ⟨_, rfl⟩
  rw [hZe] at z1 z2 y1 y2 hZl
  have g0 := zeros_take k (by omega)
  rw [hZe] at g0
  unfold zeros40 at g0
  simp only [List.replicate] at g0
  have hS : S.length < 100000 := by omega
  have hT : T.length < 100000 := by omega
  have hZSl : (Z ++ S).length = k + S.length := by rw [List.length_append, hZl]
  have hZUl : (Z ++ U).length = k + T.length := by rw [List.length_append, hZl, hUl]
  have hZS : (Z ++ S).length < 100000 := by omega
  have hZU : (Z ++ U).length < 100000 := by omega
  have D1 := Lib.hid (decB_ok (l := Z ++ S) (digits := (S.length : Int) + (k : Int)) (most := n) (n := n) (by omega) z2 (z1.trans i1) (by omega) (Nat.le_refl _) hn)
  have D2 := Lib.hid (decB_ok (l := Z ++ U) (digits := (T.length : Int) + (k : Int)) (most := n) (n := n) (by omega) y2 (y1.trans (u1.trans j1)) (by omega) (Nat.le_refl _) hn)
  have D3 : Hid (0 < k → decB false (Z ++ S) ((S.length : Int) + (k : Int) - 1) n 0 4 = true) := Lib.hid (fun h => decB_long (by omega) z2 (by omega))
  have s1 : ∀ w, (Op.stringOp .add ⟨Z.toArray⟩ ⟨S.toArray⟩).run Tryd.prog w = .ok (.string ⟨(Z ++ S).toArray⟩) w := fun w => str_add Z S (by unfold Small; omega)
  have s2 : ∀ w, (Op.stringOp .add ⟨Z.toArray⟩ ⟨U.toArray⟩).run Tryd.prog w = .ok (.string ⟨(Z ++ U).toArray⟩) w := fun w => str_add Z U (by unfold Small; omega)
  have hkk : (k : Int) ≤ 40 := by omega
  clear i1 i2 j1 j2 hSe hTe hk hr u1 u2 hUe z1 z2 y1 y2 hZe hZSl hZUl hZl
  go_enter Tryd.func7, Tryd.ntmps7
  go_wp2_with fail
  refine (mod_any zs 41 (by omega) (by omega) _).mono ?_
  rintro z w' ⟨rfl, rfl⟩
  rw [HK.out]
  go_wp2_with fail
  refine (decText_any n hn _ (by first | exact hNT | exact hNT.below hB | exact hNT.below hB.drew | exact hNT.below (by assumption))).mono ?_
  rintro y w1 ⟨rfl, hB⟩
  rw [HS.out]
  go_wp2_with fail
  refine (hexText_any n hn _ (by first | exact hNT | exact hNT.below hB | exact hNT.below hB.drew | exact hNT.below (by assumption))).mono ?_
  rintro y w2 ⟨rfl, hb⟩
  rw [HT.out]
  have hB := hB.trans (hb.mono hB.size)
  clear hb
  go_wp2_with fail
  go_loopw [8, 9] (fun u i wr => ∃ (j : Nat) (o : List UInt8), j ≤ T.length ∧ i = .int .i64 j ∧ u = .string ⟨o.toArray⟩ ∧ o.length = j ∧ Hid (o = (T.take j).map upC) ∧ Below w.heap.size w wr)
    (fun _ i _ => T.length - (intOf i).toNat)
  case atStart => exact ⟨0, [], Nat.zero_le _, rfl, rfl, rfl, Lib.hid (by rw [List.take_zero]; rfl), hB⟩
  case round =>
  clear hB
  obtain ⟨j, o, hj, rfl, rfl, hol, ho, hB⟩ := hrel
  by_cases hlt : j < T.length
  · have d1 : decide ((j : Int) < (T.length : Int)) = true := decide_eq_true (by omega)
    have hb2 : (j : Int) < (T.length : Int) := by omega
    have hstep : (T.take (j + 1)).map upC = (T.take j).map upC ++ [upC T[j]] := by rw [List.take_succ_eq_append_getElem hlt, List.map_append]; rfl
    have hol2 := Lib.hid hol
    have hol3 : o.length < 100000 := by omega
    obtain ⟨x, hx⟩ : ∃ x, T[j] = x := ⟨_, rfl⟩
    rw [hx] at hstep
    obtain ⟨y, hy⟩ : ∃ y, x.toNat = y := ⟨_, rfl⟩
    have hy256 : y < 256 := by rw [← hy]; exact UInt8.toNat_lt _
    have hle : (97 ≤ x) ↔ 97 ≤ y := by rw [UInt8.le_iff_toNat_le, hy]; rfl
    clear hol
    by_cases h97 : 97 ≤ y
    · have d2 : decide ((97 : Int) ≤ (y : Int)) = true := decide_eq_true (by omega)
      have hup : upC x = UInt8.ofNat (y - 97 + 65) := by
        unfold upC
        rw [if_pos (hle.2 h97)]
        apply UInt8.toNat_inj.1
        rw [UInt8.toNat_add, UInt8.toNat_sub, hy]
        show (_ + 65) % 256 = (y - 97 + 65) % 256
        show ((256 - 97 + y) % 256 + 65) % 256 = _
        omega
      rw [hup] at hstep
      have hnext := Lib.hid hstep
      obtain ⟨c, hc⟩ : ∃ c, y - 97 + 65 = c := ⟨_, rfl⟩
      rw [hc] at hnext
      have q1 : (((y : Int) - 97) % 256 + 65) % 256 = (c : Int) := by omega
      have hc256 : c < 256 := by omega
      have s3 : ∀ w, (Op.stringOp .add ⟨o.toArray⟩ ⟨#[UInt8.ofNat c]⟩).run Tryd.prog w = .ok (.string ⟨(o ++ [UInt8.ofNat c]).toArray⟩) w := fun w => str_add o [UInt8.ofNat c] (by unfold Small; simp; omega)
      have cv := bytes1_text wr c hc256
      clear hstep hup hle h97 hc
      go_wp2_with fail
      go_roundw
      case rel => exact ⟨j + 1, o ++ [UInt8.ofNat c], by omega, by go_num, rfl, by rw [List.length_append, hol2.out]; rfl, Lib.hid (by rw [hnext.out, ho.out]), hB.alloc hB.size _⟩
      case measure => simp [intOf]; omega
    · have d2 : decide ((97 : Int) ≤ (y : Int)) = false := decide_eq_false (by omega)
      have hup : upC x = UInt8.ofNat y := by
        unfold upC
        rw [if_neg (fun h => h97 (hle.1 h)), ← hy]
        exact UInt8.ofNat_toNat.symm
      rw [hup] at hstep
      have hnext := Lib.hid hstep
      have s3 : ∀ w, (Op.stringOp .add ⟨o.toArray⟩ ⟨#[UInt8.ofNat y]⟩).run Tryd.prog w = .ok (.string ⟨(o ++ [UInt8.ofNat y]).toArray⟩) w := fun w => str_add o [UInt8.ofNat y] (by unfold Small; simp; omega)
      have cv := bytes1_text wr y hy256
      clear hstep hup hle h97
      go_wp2_with fail
      go_roundw
      case rel => exact ⟨j + 1, o ++ [UInt8.ofNat y], by omega, by go_num, rfl, by rw [List.length_append, hol2.out]; rfl, Lib.hid (by rw [hnext.out, ho.out]), hB.alloc hB.size _⟩
      case measure => simp [intOf]; omega
  · have d1 : decide ((j : Int) < (T.length : Int)) = false := decide_eq_false (by omega)
    have hoU : U = o := by rw [ho.out, List.take_of_length_le (by omega)]; exact HU.out.symm
    subst hoU
    clear ho hol
    go_wp2_with fail
    refine (ldec_any (Z ++ S) hZS ((S.length : Int) + (k : Int)) n hn n 0 _).mono ?_
    rintro y v21 ⟨rfl, hb⟩
    rw [D1.out]
    have hB := hB.trans (hb.mono hB.size)
    clear hb
    go_wp2_with fail
    refine (lhex_any (Z ++ U) hZU ((T.length : Int) + (k : Int)) n hn n 0 _).mono ?_
    rintro y v22 ⟨rfl, hb⟩
    rw [D2.out]
    have hB := hB.trans (hb.mono hB.size)
    clear hb
    by_cases h0 : k = 0
    · have e1 : ((k : Int) == 0) = true := by rw [beq_iff_eq]; omega
      clear D3
      go_wp2_with fail
      refine (awake_any _ (by first | exact hNT | exact hNT.below hB | exact hNT.below hB.drew | exact hNT.below (by assumption))).mono ?_
      rintro y v41 ⟨rfl, hb⟩
      have hB := hB.trans (hb.mono hB.size)
      clear hb
      go_wp2_with fail
      go_ret
      exact ⟨rfl, hB⟩
    · have e1 : ((k : Int) == 0) = false := by rw [beq_eq_false_iff_ne]; omega
      have e2 : (k == 0) = false := by rw [beq_eq_false_iff_ne]; omega
      have D3 := Lib.hid (D3.out (by omega))
      clear h0
      go_wp2_with fail
      refine (ldec_any (Z ++ S) hZS ((S.length : Int) + (k : Int) - 1) n hn 0 4 _).mono ?_
      rintro y v41 ⟨rfl, hb⟩
      rw [D3.out]
      have hB := hB.trans (hb.mono hB.size)
      clear hb
      go_wp2_with fail
      refine (awake_any _ (by first | exact hNT | exact hNT.below hB | exact hNT.below hB.drew | exact hNT.below (by assumption))).mono ?_
      rintro y v42 ⟨rfl, hb⟩
      have hB := hB.trans (hb.mono hB.size)
      clear hb
      go_wp2_with fail
      go_ret
      exact ⟨rfl, hB⟩
end Go.Proofs.YtekbahpobhjobaaDoor
