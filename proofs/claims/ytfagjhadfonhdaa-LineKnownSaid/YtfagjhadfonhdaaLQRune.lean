/-
  The library's IndexRune, IndexAny and ContainsAny for a few characters of ASCII, for every text.
-/
import Derived.Test.YtfagjhadfonhdaaLQLay
import Derived.Laws.RangeAny
import Derived.Laws.RangeString
import Derived.RangeFuncOwn
namespace Go.Proofs.Ytfagjhadfonhdaa
open Go.RowKit
attribute [local go_sem] lba_get
theorem ofNat_ge {n : Nat} (h1 : 128 ≤ n) (h2 : n < 256) : 128 ≤ (UInt8.ofNat n).toNat := by
  have : (UInt8.ofNat n).toNat = n := by simp; omega
  omega
/-- A rune that is no ASCII is written with two to four bytes, none of which is ASCII. -/
theorem enc_high (r : Nat) (h : 128 ≤ r) : ∃ E : List UInt8, Utf8.encode (r : Int) = ⟨E.toArray⟩ ∧ 2 ≤ E.length ∧ E.length ≤ 4 ∧ ∀ j (hj : j < E.length), 128 ≤ (E[j]).toNat := by
  obtain ⟨c, hc, hc2, hc3⟩ : ∃ c, (if Utf8.valid (r : Int) then ((r : Int)).toNat else Utf8.runeError) = c ∧ 128 ≤ c ∧ c ≤ 1114111 := by
    refine ⟨_, rfl, ?_, ?_⟩
    · split
      · omega
      · decide
    · split
      · rename_i hv
        unfold Utf8.valid at hv
        simp only [Bool.or_eq_true, Bool.and_eq_true, decide_eq_true_eq] at hv
        omega
      · decide
  have he : Utf8.encode (r : Int) = (if c < 0x80 then ⟨#[UInt8.ofNat c]⟩
    else if c < 0x800 then ⟨#[UInt8.ofNat (0xC0 + c / 64), UInt8.ofNat (0x80 + c % 64)]⟩
    else if c < 0x10000 then ⟨#[UInt8.ofNat (0xE0 + c / 4096), UInt8.ofNat (0x80 + c / 64 % 64), UInt8.ofNat (0x80 + c % 64)]⟩
    else ⟨#[UInt8.ofNat (0xF0 + c / 262144), UInt8.ofNat (0x80 + c / 4096 % 64), UInt8.ofNat (0x80 + c / 64 % 64), UInt8.ofNat (0x80 + c % 64)]⟩) := by
    rw [← hc]; rfl
  rw [he, if_neg (by omega)]
  by_cases h2 : c < 2048
  · refine ⟨[_, _], by rw [if_pos h2], by simp, by simp, fun j hj => ?_⟩
    match j, hj with
    | 0, _ => exact ofNat_ge (by omega) (by omega)
    | 1, _ => exact ofNat_ge (by omega) (by omega)
  · rw [if_neg h2]
    by_cases h3 : c < 65536
    · refine ⟨[_, _, _], by rw [if_pos h3], by simp, by simp, fun j hj => ?_⟩
      match j, hj with
      | 0, _ => exact ofNat_ge (by omega) (by omega)
      | 1, _ => exact ofNat_ge (by omega) (by omega)
      | 2, _ => exact ofNat_ge (by omega) (by omega)
    · refine ⟨[_, _, _, _], by rw [if_neg h3], by simp, by simp, fun j hj => ?_⟩
      match j, hj with
      | 0, _ => exact ofNat_ge (by omega) (by omega)
      | 1, _ => exact ofNat_ge (by omega) (by omega)
      | 2, _ => exact ofNat_ge (by omega) (by omega)
      | 3, _ => exact ofNat_ge (by omega) (by omega)
/-- Behind a byte that is no ASCII: the bytes that are decoded are none, either. -/
theorem decode_run (s : ByteArray) (pos : Nat) (h : pos < s.size) (ha : 128 ≤ (s[pos]'h).toNat) :
    pos + (Utf8.decode s pos).2 ≤ s.size ∧ ∀ j, j < (Utf8.decode s pos).2 → 128 ≤ (s.get! (pos + j)).toNat := by
  have hg : (s.get! (pos + 0)).toNat = (s[pos]'h).toNat := by rw [get_at s pos h]
  have key : ∀ m, (m = 1 ∨ m = 2 ∧ pos + 1 < s.size ∧ (s.get! (pos + 1)).toNat / 64 = 2 ∨ m = 3 ∧ pos + 2 < s.size ∧ (s.get! (pos + 1)).toNat / 64 = 2 ∧ (s.get! (pos + 2)).toNat / 64 = 2 ∨
      m = 4 ∧ pos + 3 < s.size ∧ (s.get! (pos + 1)).toNat / 64 = 2 ∧ (s.get! (pos + 2)).toNat / 64 = 2 ∧ (s.get! (pos + 3)).toNat / 64 = 2) → pos + m ≤ s.size ∧ ∀ j, j < m → 128 ≤ (s.get! (pos + j)).toNat := by
    rintro m (rfl | ⟨rfl, h1, h2⟩ | ⟨rfl, h1, h2, h3⟩ | ⟨rfl, h1, h2, h3, h4⟩)
    · exact ⟨by omega, fun j hj => by obtain rfl : j = 0 := by omega
                                      omega⟩
    · refine ⟨by omega, fun j hj => ?_⟩
      match j, hj with
      | 0, _ => omega
      | 1, _ => omega
    · refine ⟨by omega, fun j hj => ?_⟩
      match j, hj with
      | 0, _ => omega
      | 1, _ => omega
      | 2, _ => omega
    · refine ⟨by omega, fun j hj => ?_⟩
      match j, hj with
      | 0, _ => omega
      | 1, _ => omega
      | 2, _ => omega
      | 3, _ => omega
  apply key
  unfold Utf8.decode
  dsimp only
  have hn : ¬ (s.get! (pos + 0)).toNat < 128 := by omega
  rw [if_neg hn]
  split
  · rename_i hc
    simp only [Bool.and_eq_true, beq_iff_eq, decide_eq_true_eq] at hc
    split
    · exact .inr (.inl ⟨rfl, hc.2⟩)
    · exact .inl rfl
  · split
    · rename_i hc
      simp only [Bool.and_eq_true, beq_iff_eq, decide_eq_true_eq] at hc
      split
      · exact .inr (.inr (.inl ⟨rfl, hc.2.1, hc.1.2.2, hc.2.2⟩))
      · exact .inl rfl
    · split
      · rename_i hc
        simp only [Bool.and_eq_true, beq_iff_eq, decide_eq_true_eq] at hc
        split
        · exact .inr (.inr (.inr ⟨rfl, hc.2.1, hc.1.1.2.2, hc.1.2.2, hc.2.2⟩))
        · exact .inl rfl
      · exact .inl rfl
theorem valid_any (r : Int) (w : World) :
    Calls Try.prog 68 #[.int .i32 r] w fun e w' => e = .returned (.bool (Lib.validRune r)) ∧ w = w' :=
  (Any.utf8_ValidRune lays119 r w).mono fun _ _ ⟨h1, h2⟩ => ⟨h1, h2.symm⟩
theorem ix_high (x : UInt8) (hx : 128 ≤ x.toNat) : ∀ l : List UInt8, (∀ b ∈ l, b.toNat < 128) → Lib.indexByte l x = -1
  | [], _ => rfl
  | c :: r, h => by
    have h1 := h c (by simp)
    have ih := ix_high x hx r (fun b hb => h b (by simp [hb]))
    show (if c == x then (0 : Int) else if Lib.indexByte r x == -1 then -1 else Lib.indexByte r x + 1) = -1
    rw [if_neg (by rw [beq_iff_eq]; intro e; rw [e] at h1; omega), ih]
    rfl
set_option maxRecDepth 1000000 in
set_option maxHeartbeats 16000000 in
/-- No rune beyond ASCII is among characters of ASCII. -/
theorem rune_none (cs : List UInt8) (hcs : ∀ b ∈ cs, b.toNat < 128) (r : Nat) (h : 128 ≤ r) (hr : r ≤ 2147483647) (w : World) :
    Calls Try.prog 58 #[.string ⟨cs.toArray⟩, .int .i32 (r : Int)] w fun e w' => e = .returned (.int .i64 (-1)) ∧ Below w.heap.size w w' := by
  have d1 : decide ((0 : Int) ≤ (r : Int)) = true := decide_eq_true (by omega)
  have d2 : decide ((r : Int) < 128) = false := decide_eq_false (by omega)
  have d2n : decide (r < 128) = false := decide_eq_false (by omega)
  by_cases he : r = 65533
  · have e1 : ((r : Int) == 65533) = true := by rw [beq_iff_eq]; omega
    clear he
    go_enter Try.func58, Try.ntmps58
    go_wp2_with fail
    go_loopw [5, 6] (fun _ _ wr => ∃ i : Nat, i ≤ cs.length ∧ wr = w.iter ⟨cs.toArray⟩ i) (fun _ _ wr => cs.length - wr.iterPos w.heap.size)
    case atStart => exact ⟨0, Nat.zero_le _, rfl⟩
    case round =>
      obtain ⟨i, hi, rfl⟩ := hrel
      by_cases hlt : i < cs.length
      · have ha := hcs _ (List.getElem_mem hlt)
        have n0 := fun ty => run_next_ascii (P := Try.prog) w ⟨cs.toArray⟩ i ty hlt ha
        rw [lba_get] at n0
        obtain ⟨y, hy⟩ : ∃ y, (cs[i]).toNat = y := ⟨_, rfl⟩
        rw [hy] at n0 ha
        have q1 : ((y : Int) == 65533) = false := by rw [beq_eq_false_iff_ne]; omega
        go_wp2_with fail
        go_roundw
        case rel => exact ⟨i + 1, by omega, rfl⟩
        case measure => simp; omega
      · obtain rfl : i = cs.length := by omega
        have n2 := fun ty => run_next_end (P := Try.prog) w ⟨cs.toArray⟩ cs.length ty (by show ¬ cs.length < cs.length; omega)
        go_wp2_with fail
        go_ret
        exact ⟨rfl, (Below.refl _ _).alloc (Nat.le_refl _) _⟩
  · have e1 : ((r : Int) == 65533) = false := by rw [beq_eq_false_iff_ne]; omega
    obtain ⟨v, hv⟩ : ∃ v, Lib.validRune (r : Int) = v := ⟨_, rfl⟩
    have HV := Lib.hid hv
    clear he hv
    cases v
    · go_enter Try.func58, Try.ntmps58
      go_wp2_with fail
      refine (valid_any _ _).mono ?_
      rintro e w' ⟨rfl, rfl⟩
      rw [HV.out]
      go_wp2_with fail
      go_ret
      exact ⟨rfl, Below.refl _ _⟩
    · obtain ⟨E, hE, l2, l4, hhi⟩ := enc_high r h
      go_enter Try.func58, Try.ntmps58
      go_wp2_with fail
      refine (valid_any _ _).mono ?_
      rintro e w' ⟨rfl, rfl⟩
      rw [HV.out]
      obtain ⟨n, hn1⟩ : ∃ n, E.length = n + 1 := ⟨E.length - 1, by omega⟩
      have hlt : n < E.length := by omega
      have q1 : IntKind.i64.wrap ((E.length : Int) - 1) = (n : Int) := by rw [IntKind.wrap_i64]; omega
      have q1b : (E.length : Int) - 1 = (n : Int) := by omega
      have hbn : (n : Int) < (E.length : Int) := by omega
      have hx : 128 ≤ (E[n]'hlt).toNat := hhi n hlt
      obtain ⟨x, hxx⟩ : ∃ x, E[n]'hlt = x := ⟨_, rfl⟩
      rw [hxx] at hx
      have hxi := ix_high x hx (cs.drop (n + 1)) (fun b hb => hcs b (List.mem_of_mem_drop hb))
      obtain ⟨y, hy⟩ : ∃ y, x.toNat = y := ⟨_, rfl⟩
      rw [hy] at hx
      have hix : Lib.indexByte (cs.drop (n + 1)) (y : Int).toNat.toUInt8 = -1 := by
        have e : (y : Int).toNat.toUInt8 = x := by
          apply UInt8.toNat_inj.1
          rw [← hy]
          simp
        rw [e]
        exact hxi
      have HN1 := Lib.hid hn1
      have hnl : 1 ≤ n ∧ n ≤ 3 := by omega
      clear hhi hn1 h l2 l4 hxi
      go_wp2_with fail
      go_step3
      go_wp2_with fail
      go_loopw [9, 10] (fun i f wr => i = .int .i64 n ∧ f = .int .i64 0 ∧ wr = w) (fun _ _ _ => 0)
      case atStart => exact ⟨rfl, rfl, rfl⟩
      case round =>
        obtain ⟨rfl, rfl, rfl⟩ := hrel
        by_cases h1 : n < cs.length
        · have ha := hcs _ (List.getElem_mem h1)
          obtain ⟨z, hz⟩ : ∃ z, (cs[n]).toNat = z := ⟨_, rfl⟩
          rw [hz] at ha
          have d9 : ((z : Int) != (y : Int)) = true := by rw [bne_iff_ne]; omega
          have d9n : (z != y) = true := by rw [bne_iff_ne]; omega
          have d5 : decide ((n : Int) < (cs.length : Int)) = true := decide_eq_true (by omega)
          have d5n : decide (n < cs.length) = true := decide_eq_true h1
          have q2 : IntKind.i64.wrap ((n : Int) + 1) = ((n + 1 : Nat) : Int) := by rw [IntKind.wrap_i64]; omega
          have q3 : (n : Int) + 1 = ((n + 1 : Nat) : Int) := by omega
          have hb1 : (n : Int) < (cs.length : Int) := by omega
          have hb2 : ((n + 1 : Nat) : Int) ≤ (cs.length : Int) := by omega
          have hg2 := lba_drop cs (n + 1)
          obtain ⟨n1, hn1⟩ : ∃ n1, n + 1 = n1 := ⟨_, rfl⟩
          have HN := Lib.hid hn1
          rw [hn1] at q2 q3 hb2 hg2 hix
          have q4 : IntKind.i64.wrap (n1 : Int) = (n1 : Int) := by rw [IntKind.wrap_i64]; omega
          clear hn1
          go_wp2_with fail
          go_step3
          go_wp2_with fail
          go_region
          all_goals
            go_wp2_with fail
            refine wp_region_noPanic ?_
            refine wp_region_held_drew (S := fun _ => True) (by kernel_rfl) ?_ (fun hHeld => ?_)
            focus ((try dsimp only); all_goals trivial)
            try simp only [Act.put, List.setIfInBounds_toArray, List.set_cons_zero, List.set_cons_succ]
            refine wpAnyH_take (i := 0) (oi := { dst := some 34, op := Go.Op.move (Go.Operand.tmp 0), type := 9, pos := "strings.go:134", after := #[], guard := none }) (v := ?_) rfl (by kernel_rfl) (by kernel_rfl) (by kernel_rfl) (fun _ _ _ h => h) (Or.inl ⟨by rfl, ?_⟩) (by assumption) ?_
            rotate_left
            focus ((intro w hSw; (try dsimp only at hSw); go_simp) <;> (with_reducible rfl))
            try simp only [Act.put, List.setIfInBounds_toArray, List.set_cons_zero, List.set_cons_succ]
            refine wpAnyH_take (i := 1) (oi := { dst := some 35, op := Go.Op.move (Go.Operand.tmp 9), type := 3, pos := "strings.go:134", after := #[], guard := none }) (v := ?_) rfl (by kernel_rfl) (by kernel_rfl) (by kernel_rfl) (fun _ _ _ h => h) (Or.inl ⟨by rfl, ?_⟩) (by assumption) ?_
            rotate_left
            focus ((intro w hSw; (try dsimp only at hSw); go_simp) <;> (with_reducible rfl))
            try simp only [Act.put, List.setIfInBounds_toArray, List.set_cons_zero, List.set_cons_succ]
            refine wpAnyH_take (i := 2) (oi := { dst := some 36, op := Go.Op.binOp Go.BinOp.add 3 (Go.Operand.tmp 35) (Go.Operand.const (Go.Value.int Go.IntKind.i64 1)) 3, type := 3, pos := "strings.go:134", after := #[{ on := 1, ground := Go.Ground.data }], guard := none }) (v := ?_) rfl (by kernel_rfl) (by kernel_rfl) (by kernel_rfl) (fun _ _ _ h => h) (Or.inl ⟨by rfl, ?_⟩) (by assumption) ?_
            rotate_left
            focus ((intro w hSw; (try dsimp only at hSw); go_simp) <;> (with_reducible rfl))
            try simp only [Act.put, List.setIfInBounds_toArray, List.set_cons_zero, List.set_cons_succ]
            refine wpAnyH_take (i := 3) (oi := { dst := some 37, op := Go.Op.slice 9 (Go.Operand.tmp 34) (some (Go.Operand.tmp 36)) none none, type := 9, pos := "strings.go:134", after := #[{ on := 0, ground := Go.Ground.data }, { on := 2, ground := Go.Ground.data }], guard := none }) (v := ?_) rfl (by kernel_rfl) (by kernel_rfl) (by kernel_rfl) (fun _ _ _ h => h) (Or.inl ⟨by rfl, ?_⟩) (by assumption) ?_
            rotate_left
            focus ((intro w hSw; (try dsimp only at hSw); go_simp) <;> (with_reducible rfl))
            try simp only [Act.put, List.setIfInBounds_toArray, List.set_cons_zero, List.set_cons_succ]
            refine wpAnyH_take (i := 4) (oi := { dst := some 38, op := Go.Op.move (Go.Operand.tmp 7), type := 9, pos := "strings.go:134", after := #[], guard := none }) (v := ?_) rfl (by kernel_rfl) (by kernel_rfl) (by kernel_rfl) (fun _ _ _ h => h) (Or.inl ⟨by rfl, ?_⟩) (by assumption) ?_
            rotate_left
            focus ((intro w hSw; (try dsimp only at hSw); go_simp) <;> (with_reducible rfl))
            try simp only [Act.put, List.setIfInBounds_toArray, List.set_cons_zero, List.set_cons_succ]
            refine wpAnyH_take (i := 5) (oi := { dst := some 39, op := Go.Op.move (Go.Operand.tmp 8), type := 3, pos := "strings.go:134", after := #[], guard := none }) (v := ?_) rfl (by kernel_rfl) (by kernel_rfl) (by kernel_rfl) (fun _ _ _ h => h) (Or.inl ⟨by rfl, ?_⟩) (by assumption) ?_
            rotate_left
            focus ((intro w hSw; (try dsimp only at hSw); go_simp) <;> (with_reducible rfl))
            try simp only [Act.put, List.setIfInBounds_toArray, List.set_cons_zero, List.set_cons_succ]
            refine wpAnyH_take (i := 6) (oi := { dst := some 40, op := Go.Op.index 9 (Go.Operand.tmp 38) (Go.Operand.tmp 39), type := 5, pos := "strings.go:134", after := #[{ on := 4, ground := Go.Ground.data }, { on := 5, ground := Go.Ground.data }], guard := none }) (v := ?_) rfl (by kernel_rfl) (by kernel_rfl) (by kernel_rfl) (fun _ _ _ h => h) (Or.inl ⟨by rfl, ?_⟩) (by assumption) ?_
            rotate_left
            focus ((intro w hSw; (try dsimp only at hSw); go_simp) <;> (with_reducible rfl))
            try simp only [Act.put, List.setIfInBounds_toArray, List.set_cons_zero, List.set_cons_succ]
            refine wpAnyH_ready (rs := [7]) (by kernel_rfl) (by simp) ?_
            refine AllReadyH.cons (o := { dst := some 41, op := Go.Op.call { callee := Go.Callee.value (Go.Operand.func 67), args := #[Go.Operand.tmp 37, Go.Operand.tmp 40], argTypes := #[9, 5] }, type := 3, pos := "strings.go:134", after := #[{ on := 3, ground := Go.Ground.data }, { on := 6, ground := Go.Ground.data }], guard := none }) rfl (fun K hK => ?_) AllReadyH.nil
            go_simp
            (go_at_call 67; refine (ixb_any (cs.drop n1) _ _).mono ?_; rintro e w' ⟨rfl, rfl⟩; rw [hix])
            first | (go_wp2_with fail) | skip
            refine hK.out _ _ ?_ (fun hNew => ?_)
            focus ((try dsimp only); all_goals trivial)
            clear hK K hHeld
            have hHeld := hNew
            clear hNew
            try simp only [Act.put, List.setIfInBounds_toArray, List.set_cons_zero, List.set_cons_succ]
            refine wpAnyH_take (i := 8) (oi := { dst := some 11, op := Go.Op.assign (Go.Operand.tmp 41), type := 3, pos := "strings.go:134", after := #[{ on := 7, ground := Go.Ground.data }, { on := 7, ground := Go.Ground.chain }, { on := 0, ground := Go.Ground.phase }, { on := 1, ground := Go.Ground.phase }, { on := 2, ground := Go.Ground.phase }, { on := 3, ground := Go.Ground.phase }, { on := 4, ground := Go.Ground.phase }, { on := 5, ground := Go.Ground.phase }, { on := 6, ground := Go.Ground.phase }, { on := 7, ground := Go.Ground.phase }], guard := none }) (v := ?_) rfl (by kernel_rfl) (by kernel_rfl) (by kernel_rfl) (fun _ _ _ h => h) (Or.inl ⟨by rfl, ?_⟩) (by assumption) ?_
            rotate_left
            focus ((intro w hSw; (try dsimp only at hSw); go_simp) <;> (with_reducible rfl))
            try simp only [Act.put, List.setIfInBounds_toArray, List.set_cons_zero, List.set_cons_succ]
            refine wpAnyH_done (by kernel_rfl) ?_ _
            refine NoPanic.normal ?_
            go_wp2_with fail
            rw [Exit.noGoto_ret]
            go_wp2_with fail
            rw [Exit.noGoto_ret]
            go_ret
            exact ⟨rfl, ((Below.refl _ _).drew).drew⟩
        · have d5 : decide ((n : Int) < (cs.length : Int)) = false := decide_eq_false (by omega)
          have d5n : decide (n < cs.length) = false := decide_eq_false h1
          go_wp2_with fail
          rw [Exit.noGoto_ret]
          go_ret
          exact ⟨rfl, Below.refl _ _⟩
end Go.Proofs.Ytfagjhadfonhdaa
