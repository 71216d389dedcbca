/-
  The reference's Text for every set: it returns what the program's Text returns.
-/
import Derived.Test.YtbpnhiejmkeclaaDoorRefRead
namespace Go.Proofs.YtbpnhiejmkeclaaDoor
open Go.RowKit
theorem ba_append (a b : List UInt8) : (⟨a.toArray⟩ : ByteArray) ++ (⟨b.toArray⟩ : ByteArray) = ⟨(a ++ b).toArray⟩ := by
  apply ByteArray.ext
  rw [ByteArray.data_append]
  simp
/-- A length that a string may have. -/
def Small (n : Nat) : Prop := n ≤ 9223372036854775807
theorem str_add {P : Program} {w : World} (a b : List UInt8) (h : Small (a.length + b.length)) : (Op.stringOp .add ⟨a.toArray⟩ ⟨b.toArray⟩).run P w = .ok (.string ⟨(a ++ b).toArray⟩) w := by
  rw [← ba_append]
  exact run_string_add_sum _ _ _ h
theorem str_add_dash {P : Program} {w : World} (a : List UInt8) (h : Small (a.length + 1)) : (Op.stringOp .add ⟨a.toArray⟩ ⟨#[45]⟩).run P w = .ok (.string ⟨(a ++ [45]).toArray⟩) w := str_add a [45] h
attribute [local go_sem] w_0 w_1 w_2 w_3
theorem upto_skip {s : WSet} {f : Nat} (h : s.has f = false) : upto s f 256 = upto s (f + 1) 256 := by
  unfold upto
  refine List.filter_congr fun b _ => ?_
  by_cases e : b = f
  · subst e; rw [h]; simp
  · have : f ≤ b ↔ f + 1 ≤ b := by omega
    rw [decide_eq_decide.2 this]
theorem nextOf_skip {s : WSet} {f : Nat} (h : s.has f = false) : nextOf s f = nextOf s (f + 1) := by
  unfold nextOf; rw [upto_skip h]
theorem runsF_skip {s : WSet} {f : Nat} (h : s.has f = false) : ∀ k, runsF s k f = runsF s k (f + 1)
  | 0 => rfl
  | k + 1 => by rw [runsF, runsF, nextOf_skip h]
theorem runsF_last (s : WSet) : ∀ k, runsF s k 256 = []
  | 0 => rfl
  | k + 1 => runsF_nil (nextOf_end fun j h1 h2 => by omega)
theorem runT_1 (f : Nat) : runT (f, f) = written f := by simp [runT]
theorem runT_2 (f : Nat) : runT (f, f + 1) = written f ++ written (f + 1) := by simp [runT]
theorem runT_3 {f m : Nat} (h : f + 1 < m) : runT (f, m) = written f ++ [45] ++ written m := by
  have h1 : 1 < m - f := by omega
  have h2 : f < m := by omega
  simp [runT, h1, h2]
/-- The text so far, and what is still to come. -/
def TextAt (s : WSet) (f : Nat) (o : List UInt8) : Prop := ∃ k, 257 ≤ k + f ∧ u8s (textOf s) = o ++ u8s ((runsF s k f).flatMap runT)
theorem TextAt.start (s : WSet) : TextAt s 0 [] := ⟨257, by omega, rfl⟩
theorem TextAt.skip {s : WSet} {f : Nat} {o : List UInt8} (h : TextAt s f o) (hf : s.has f = false) : TextAt s (f + 1) o := by
  obtain ⟨k, h1, h2⟩ := h
  exact ⟨k, by omega, by rw [h2, runsF_skip hf]⟩
theorem TextAt.run {s : WSet} {f : Nat} {o : List UInt8} (h : TextAt s f o) (hlt : f < 256) (hf : s.has f = true) {m : Nat} (hm : m + 1 = pastOf s f) : TextAt s (m + 1) (o ++ u8s (runT (f, m))) := by
  obtain ⟨k, h1, h2⟩ := h
  cases k with
  | zero => omega
  | succ k =>
    have e : nextOf s f = (f, 0) := nextOf_at (Nat.le_refl _) hlt hf (fun j h1 h2 => by omega)
    have hp := (pastOf_spec s f hlt hf).1
    refine ⟨k, by omega, ?_⟩
    rw [h2, runsF_cons e, List.flatMap_cons, ← hm]
    simp [u8s]
theorem TextAt.stop {s : WSet} {o : List UInt8} (h : TextAt s 256 o) : u8s (textOf s) = o := by
  obtain ⟨k, h1, h2⟩ := h
  rw [h2, runsF_last]
  simp
theorem TextAt.len {s : WSet} {f : Nat} {o : List UInt8} (h : TextAt s f o) : o.length ≤ 1024 := by
  obtain ⟨k, h1, h2⟩ := h
  have := textOf_length s
  have h3 := congrArg List.length h2
  rw [List.length_map, List.length_append] at h3
  omega
set_option maxHeartbeats 4000000 in
theorem refText_any (a b c d : BitVec 64) (w : World) :
    Calls Tryd.prog 34 #[.agg #[.int .u64 a.toNat, .int .u64 b.toNat, .int .u64 c.toNat, .int .u64 d.toNat]] w fun e w' =>
      e = .returned (.string ⟨(u8s (textOf ⟨a, b, c, d⟩)).toArray⟩) ∧ Below w.heap.size w w' := by
  go_enter Tryd.func34, Tryd.ntmps34
  go_wp2_with fail
  go_loopw [3, 4] (fun v i wr => ∃ (f : Nat) (o : List UInt8), f ≤ 256 ∧ i = .int .i64 f ∧ v = .string ⟨o.toArray⟩ ∧ Hid (TextAt ⟨a, b, c, d⟩ f o) ∧ Blk wr w.heap.size ⟨a, b, c, d⟩ ∧ Below w.heap.size w wr)
    (fun _ i _ => 256 - (intOf i).toNat)
  case atStart =>
    exact ⟨0, [], by omega, rfl, rfl, Lib.hid (TextAt.start _), Blk.new w ⟨a, b, c, d⟩, by go_grown⟩
  case round =>
    obtain ⟨f, o, hf, rfl, rfl, ht, a0, hB⟩ := hrel
    obtain ⟨c0, c1, c2, c3⟩ := a0.cells
    by_cases hlt : f < 256
    · have h1 : decide ((f : Int) < 256) = true := decide_eq_true (by omega)
      have hw8 : IntKind.u8.wrap (f : Int) = (f : Int) := by rw [IntKind.wrap_u8']; omega
      go_wp2_with fail
      refine (refHas_any a b c d f hlt _).mono ?_
      rintro x w3 ⟨rfl, hb⟩
      have a0 := a0.below hb a0.lt
      have hB := hB.trans (hb.mono hB.size)
      clear hb c0 c1 c2 c3
      cases hh : (WSet.mk a b c d).has f
      · have ht := Lib.hid (ht.out.skip hh)
        go_wp2_with fail
        go_roundw
        case rel =>
          exact ⟨f + 1, o, by omega, by go_num, rfl, ht, a0, hB⟩
        case measure => simp [intOf]; omega
      · obtain ⟨p1, p2, p3, p4⟩ := pastOf_spec ⟨a, b, c, d⟩ f hlt hh
        have ht0 := ht
        have ht := Lib.hid (fun m hm => ht0.out.run hlt hh (m := m) hm)
        obtain ⟨p, hp⟩ : ∃ p, pastOf ⟨a, b, c, d⟩ f = p := ⟨_, rfl⟩
        have hol := ht0.out.len
        rw [hp] at p1 p2 p3 p4 ht
        replace p3 := Lib.hid p3
        replace p4 := Lib.hid p4
        clear hp
        go_wp2_with fail
        go_loopw [5] (fun i wr => ∃ m : Nat, f ≤ m ∧ m < p ∧ i = .int .i64 m ∧ Blk wr w.heap.size ⟨a, b, c, d⟩ ∧ Below w.heap.size w wr)
          (fun i _ => 256 - (intOf i).toNat)
        case atStart =>
          exact ⟨f, Nat.le_refl _, p1, rfl, a0, hB⟩
        case round =>
          obtain ⟨m, hm1, hm2, rfl, a0, hB⟩ := hrel
          obtain ⟨c0, c1, c2, c3⟩ := a0.cells
          have hmw : IntKind.u8.wrap (m : Int) = (m : Int) := by rw [IntKind.wrap_u8']; omega
          by_cases hlast : m + 1 < p
          · have hz := Lib.hid (p3.out (m + 1) (by omega) hlast)
            have h2 : decide ((m : Int) < 255) = true := decide_eq_true (by omega)
            have hw8' : IntKind.u8.wrap ((m : Int) + 1) = ((m + 1 : Nat) : Int) := by rw [IntKind.wrap_u8']; omega
            go_wp2_with fail
            refine (refHas_any a b c d (m + 1) (by omega) _).mono ?_
            rintro x w5 ⟨rfl, hb⟩
            rw [hz.out]
            have a0 := a0.below hb a0.lt
            have hB := hB.trans (hb.mono hB.size)
            clear hb c0 c1 c2 c3
            go_wp2_with fail
            go_roundw
            case rel =>
              exact ⟨m + 1, by omega, by omega, by go_num, a0, hB⟩
            case measure => simp [intOf]; omega
          · have hmp : m + 1 = p := by omega
            have hT9 := Lib.hid (ht.out m hmp)
            clear ht
            obtain ⟨tf, htf⟩ : ∃ t, Hid (u8s (written f) = t) := ⟨_, Lib.hid rfl⟩
            obtain ⟨tm, htm⟩ : ∃ t, Hid (u8s (written m) = t) := ⟨_, Lib.hid rfl⟩
            have hfl : tf.length ≤ 4 := by rw [← htf.out, List.length_map]; exact (written_length f).2
            have hml : tm.length ≤ 4 := by rw [← htm.out, List.length_map]; exact (written_length m).2
            have s1 : ∀ w, (Op.stringOp .add ⟨o.toArray⟩ ⟨tf.toArray⟩).run Tryd.prog w = .ok (.string ⟨(o ++ tf).toArray⟩) w := fun w => str_add _ _ (by unfold Small; omega)
            have s2 : ∀ w, (Op.stringOp .add ⟨(o ++ tf).toArray⟩ ⟨tm.toArray⟩).run Tryd.prog w = .ok (.string ⟨(o ++ tf ++ tm).toArray⟩) w := fun w => str_add _ _ (by unfold Small; simp; omega)
            have s3 : ∀ w, (Op.stringOp .add ⟨(o ++ tf).toArray⟩ ⟨#[45]⟩).run Tryd.prog w = .ok (.string ⟨(o ++ tf ++ [45]).toArray⟩) w := fun w => str_add_dash _ (by unfold Small; simp; omega)
            have s4 : ∀ w, (Op.stringOp .add ⟨(o ++ tf ++ [45]).toArray⟩ ⟨tm.toArray⟩).run Tryd.prog w = .ok (.string ⟨(o ++ tf ++ [45] ++ tm).toArray⟩) w := fun w => str_add _ _ (by unfold Small; simp; omega)
            have s5 : ∀ w, (Op.stringOp .add ⟨(o ++ (tf ++ [45])).toArray⟩ ⟨tm.toArray⟩).run Tryd.prog w = .ok (.string ⟨(o ++ (tf ++ [45]) ++ tm).toArray⟩) w := fun w => str_add _ _ (by unfold Small; simp; omega)
            clear hfl hml
            by_cases h255 : ¬ m < 255
            · have h2 : decide ((m : Int) < 255) = false := decide_eq_false (by omega)
              by_cases e1 : m = f
              · obtain rfl : f = m := e1.symm
                go_wp2_with fail
                refine (refOne_any f hlt _).mono ?_
                rintro x w6 ⟨rfl, hb⟩
                rw [htf.out]
                have a0 := a0.below hb a0.lt
                have hB := hB.trans (hb.mono hB.size)
                clear hb
                go_wp2_with fail
                go_roundw
                case rel =>
                  refine ⟨f + 1, o ++ u8s (runT (f, f)), by omega, by go_num, ?_, hT9, a0, hB⟩
                  rw [runT_1, htf.out]
                case measure => simp [intOf]; omega
              · have e2 : ((m : Int) == (f : Int)) = false := by rw [beq_eq_false_iff_ne]; omega
                have e3 : (m == f) = false := by rw [beq_eq_false_iff_ne]; omega
                by_cases e4 : m = f + 1
                · have e5 := Lib.hid (show ((m : Int) == (f : Int) + 1) = true by rw [beq_iff_eq]; omega)
                  replace e4 := Lib.hid e4
                  go_upto_if 46 with fail
                  rw [e5.out]
                  go_wp2_with fail
                  refine (refOne_any f hlt _).mono ?_
                  rintro x w6 ⟨rfl, hb⟩
                  rw [htf.out]
                  have a0 := a0.below hb a0.lt
                  have hB := hB.trans (hb.mono hB.size)
                  clear hb
                  go_wp2_with fail
                  refine (refOne_any m (by omega) _).mono ?_
                  rintro x w6 ⟨rfl, hb⟩
                  rw [htm.out]
                  have a0 := a0.below hb a0.lt
                  have hB := hB.trans (hb.mono hB.size)
                  clear hb
                  go_wp2_with fail
                  go_roundw
                  case rel =>
                    refine ⟨m + 1, o ++ u8s (runT (f, m)), by omega, by go_num, ?_, hT9, a0, hB⟩
                    rw [show runT (f, m) = written f ++ written m by rw [e4.out]; exact runT_2 f, show u8s (written f ++ written m) = tf ++ tm by rw [← htf.out, ← htm.out]; simp [u8s]]
                  case measure => simp [intOf]; omega
                · have e5 : ((m : Int) == (f : Int) + 1) = false := by rw [beq_eq_false_iff_ne]; omega
                  go_wp2_with fail
                  refine (refOne_any f hlt _).mono ?_
                  rintro x w6 ⟨rfl, hb⟩
                  rw [htf.out]
                  have a0 := a0.below hb a0.lt
                  have hB := hB.trans (hb.mono hB.size)
                  clear hb
                  go_wp2_with fail
                  refine (refOne_any m (by omega) _).mono ?_
                  rintro x w6 ⟨rfl, hb⟩
                  rw [htm.out]
                  have a0 := a0.below hb a0.lt
                  have hB := hB.trans (hb.mono hB.size)
                  clear hb
                  go_wp2_with fail
                  go_roundw
                  case rel =>
                    refine ⟨m + 1, o ++ u8s (runT (f, m)), by omega, by go_num, ?_, hT9, a0, hB⟩
                    rw [runT_3 (by omega), show u8s (written f ++ [45] ++ written m) = tf ++ [45] ++ tm by rw [← htf.out, ← htm.out]; simp [u8s]]
                    simp
                  case measure => simp [intOf]; omega
            · have h2 : decide ((m : Int) < 255) = true := decide_eq_true (by omega)
              have hz := Lib.hid (p4.out (by omega))
              subst hmp
              have hw8' : IntKind.u8.wrap ((m : Int) + 1) = ((m + 1 : Nat) : Int) := by rw [IntKind.wrap_u8']; omega
              by_cases e1 : m = f
              · obtain rfl : f = m := e1.symm
                go_wp2_with fail
                refine (refHas_any a b c d (f + 1) (by omega) _).mono ?_
                rintro x w5 ⟨rfl, hb⟩
                rw [hz.out]
                have a0 := a0.below hb a0.lt
                have hB := hB.trans (hb.mono hB.size)
                clear hb c0 c1 c2 c3
                go_wp2_with fail
                refine (refOne_any f hlt _).mono ?_
                rintro x w6 ⟨rfl, hb⟩
                rw [htf.out]
                have a0 := a0.below hb a0.lt
                have hB := hB.trans (hb.mono hB.size)
                clear hb
                go_wp2_with fail
                go_roundw
                case rel =>
                  refine ⟨f + 1, o ++ u8s (runT (f, f)), by omega, by go_num, ?_, hT9, a0, hB⟩
                  rw [runT_1, htf.out]
                case measure => simp [intOf]; omega
              · have e2 : ((m : Int) == (f : Int)) = false := by rw [beq_eq_false_iff_ne]; omega
                have e3 : (m == f) = false := by rw [beq_eq_false_iff_ne]; omega
                by_cases e4 : m = f + 1
                · have e5 := Lib.hid (show ((m : Int) == (f : Int) + 1) = true by rw [beq_iff_eq]; omega)
                  replace e4 := Lib.hid e4
                  go_wp2_with fail
                  refine (refHas_any a b c d (m + 1) (by omega) _).mono ?_
                  rintro x w5 ⟨rfl, hb⟩
                  rw [hz.out]
                  have a0 := a0.below hb a0.lt
                  have hB := hB.trans (hb.mono hB.size)
                  clear hb c0 c1 c2 c3
                  go_upto_if 46 with fail
                  rw [e5.out]
                  go_wp2_with fail
                  refine (refOne_any f hlt _).mono ?_
                  rintro x w6 ⟨rfl, hb⟩
                  rw [htf.out]
                  have a0 := a0.below hb a0.lt
                  have hB := hB.trans (hb.mono hB.size)
                  clear hb
                  go_wp2_with fail
                  refine (refOne_any m (by omega) _).mono ?_
                  rintro x w6 ⟨rfl, hb⟩
                  rw [htm.out]
                  have a0 := a0.below hb a0.lt
                  have hB := hB.trans (hb.mono hB.size)
                  clear hb
                  go_wp2_with fail
                  go_roundw
                  case rel =>
                    refine ⟨m + 1, o ++ u8s (runT (f, m)), by omega, by go_num, ?_, hT9, a0, hB⟩
                    rw [show runT (f, m) = written f ++ written m by rw [e4.out]; exact runT_2 f, show u8s (written f ++ written m) = tf ++ tm by rw [← htf.out, ← htm.out]; simp [u8s]]
                  case measure => simp [intOf]; omega
                · have e5 : ((m : Int) == (f : Int) + 1) = false := by rw [beq_eq_false_iff_ne]; omega
                  go_wp2_with fail
                  refine (refHas_any a b c d (m + 1) (by omega) _).mono ?_
                  rintro x w5 ⟨rfl, hb⟩
                  rw [hz.out]
                  have a0 := a0.below hb a0.lt
                  have hB := hB.trans (hb.mono hB.size)
                  clear hb c0 c1 c2 c3
                  go_wp2_with fail
                  refine (refOne_any f hlt _).mono ?_
                  rintro x w6 ⟨rfl, hb⟩
                  rw [htf.out]
                  have a0 := a0.below hb a0.lt
                  have hB := hB.trans (hb.mono hB.size)
                  clear hb
                  go_wp2_with fail
                  refine (refOne_any m (by omega) _).mono ?_
                  rintro x w6 ⟨rfl, hb⟩
                  rw [htm.out]
                  have a0 := a0.below hb a0.lt
                  have hB := hB.trans (hb.mono hB.size)
                  clear hb
                  go_wp2_with fail
                  go_roundw
                  case rel =>
                    refine ⟨m + 1, o ++ u8s (runT (f, m)), by omega, by go_num, ?_, hT9, a0, hB⟩
                    rw [runT_3 (by omega), show u8s (written f ++ [45] ++ written m) = tf ++ [45] ++ tm by rw [← htf.out, ← htm.out]; simp [u8s]]
                    simp
                  case measure => simp [intOf]; omega
    · obtain rfl : f = 256 := by omega
      have hs := Lib.hid ht.out.stop
      go_wp2_with fail
      go_ret
      exact ⟨by rw [hs.out]; rfl, hB⟩
end Go.Proofs.YtbpnhiejmkeclaaDoor
