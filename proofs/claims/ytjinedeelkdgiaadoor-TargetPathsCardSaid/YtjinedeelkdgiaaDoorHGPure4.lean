/-
  Encoding more bytes of a raw path changes nothing of what it says. No condition but those that stand in each line.
-/
import Derived.Test.YtjinedeelkdgiaaDoorHGPure3
namespace Go.Proofs.YtjinedeelkdgiaaDoor
open Go.RowKit
theorem dec_any {l t : List UInt8} {i : Nat} (h : decL l i = .ok t) (j : Nat) : decL l j = .ok t := decF_shift l.length l i j t h
theorem dec_two {x y a b : List UInt8} (hx : ∀ i, decL x i = .ok a) (hy : ∀ i, decL y i = .ok b) : ∀ i, decL (x ++ y) i = .ok (a ++ b) := fun i => dec_any (dec_app hy x.length x 0 a (hx 0)) i
theorem dec_one {c : UInt8} (hc : c ≠ 37) : ∀ i, decL [c] i = .ok [c] := fun i => by
  rw [decL_plain i hc, decL_nil]
  rfl
theorem dec_hex (s : WSet) (c : UInt8) : ∀ i, decL (enc1 s c) i = .ok [c] := fun i => by
  have h := dec_enc s [c] i
  have e : encL s [c] = enc1 s c := by unfold encL; simp
  rw [e] at h
  exact h
theorem dec_step {l t : List UInt8} {k : Nat} (hk : k < l.length) (hd : ∀ i, decL (l.drop k) i = .ok t) :
    (l[k] = 37 → k + 2 < l.length ∧ ∃ c t', t = c :: t' ∧ (∀ i, decL (l.drop (k + 3)) i = .ok t') ∧ ∀ i, decL ((l.drop k).take 3) i = .ok [c]) ∧ (l[k] ≠ 37 → ∃ t', t = l[k] :: t' ∧ ∀ i, decL (l.drop (k + 1)) i = .ok t') := by
  have hdr : l.drop k = l[k] :: l.drop (k + 1) := List.drop_eq_getElem_cons hk
  refine ⟨fun h37 => ?_, fun hne => ?_⟩
  · have he : escB (l.drop k) = true := by
      cases hf : escB (l.drop k) with
      | true => rfl
      | false =>
        exfalso
        have h0 := hd 0
        rw [hdr, h37] at h0 hf
        rw [decL_bad 0 hf] at h0
        cases h0
    have hk2 : k + 2 < l.length := by
      rcases Nat.lt_or_ge (k + 2) l.length with h | h
      · exact h
      · rw [escB_short h] at he
        cases he
    have h0 := hd 0
    rw [decL_esc 0 he] at h0
    cases hr : decL ((l.drop k).drop 3) (0 + 3) with
    | error j => rw [hr] at h0; simp [Except.map] at h0
    | ok u =>
      rw [hr] at h0
      have e : escV (l.drop k) :: u = t := by simpa [Except.map] using h0
      have hr' : decL (l.drop (k + 3)) 3 = .ok u := by rw [List.drop_drop] at hr; exact hr
      refine ⟨hk2, escV (l.drop k), u, e.symm, fun i => dec_any hr' i, fun i => ?_⟩
      have d3 := drop3 hk2
      have ht : (l.drop k).take 3 = [l[k], l[k + 1], l[k + 2]] := by rw [d3]; rfl
      have he3 : escB [l[k], l[k + 1], l[k + 2]] = true := by
        have a := escB_at (l := [l[k], l[k + 1], l[k + 2]]) (k := 0) (by simp)
        have b := escB_at hk2
        rw [he] at b
        rw [List.drop_zero] at a
        rw [a]
        exact b.symm
      have hv3 : escV [l[k], l[k + 1], l[k + 2]] = escV (l.drop k) := by rw [d3]; rfl
      rw [ht, decL_esc i he3, hv3]
      rfl
  · have h0 := hd 0
    rw [hdr, decL_plain 0 hne] at h0
    cases hr : decL (l.drop (k + 1)) (0 + 1) with
    | error j => rw [hr] at h0; simp [Except.map] at h0
    | ok u =>
      rw [hr] at h0
      have e : l[k] :: u = t := by simpa [Except.map] using h0
      exact ⟨u, e.symm, fun i => dec_any hr i⟩
abbrev PQ' := List UInt8 × List UInt8
/-- A raw path that is written anew, up to the place k. -/
structure RW (raw t other : List UInt8) (k : Nat) : Prop where
  dec : ∃ t1 t2, (∀ i, decL other i = .ok t1) ∧ (∀ i, decL (raw.drop k) i = .ok t2) ∧ t = t1 ++ t2
  chars : ∀ x ∈ other, charS.has x.toNat = true ∧ x ≠ 63
  len : other.length ≤ 3 * k
  first : (k = 0 ∧ other = []) ∨ pathB other = true
theorem RW.start {raw t : List UInt8} (h : decL raw 0 = .ok t) : RW raw t [] 0 :=
  ⟨⟨[], t, fun i => decL_nil i, fun i => by rw [List.drop_zero]; exact dec_any h i, rfl⟩, (fun x hx => by cases hx), Nat.zero_le _, .inl ⟨rfl, rfl⟩⟩
theorem path_app {x y : List UInt8} (h : pathB x = true) : pathB (x ++ y) = true := by
  cases x with
  | nil => simp [pathB] at h
  | cons c r => exact h
theorem chars_app {x y : List UInt8} (hx : ∀ z ∈ x, charS.has z.toNat = true ∧ z ≠ 63) (hy : ∀ z ∈ y, charS.has z.toNat = true ∧ z ≠ 63) : ∀ z ∈ x ++ y, charS.has z.toNat = true ∧ z ≠ 63 := fun z hz => by
  rcases List.mem_append.1 hz with h | h
  · exact hx z h
  · exact hy z h
theorem RW.esc {raw t other : List UInt8} {k : Nat} (h : RW raw t other k) (hr : ∀ x ∈ raw, charS.has x.toNat = true ∧ x ≠ 63) (hp : pathB raw = true) (hk : k < raw.length) (h37 : raw[k] = 37) : k + 2 < raw.length ∧ RW raw t (other ++ (raw.drop k).take 3) (k + 3) := by
  obtain ⟨t1, t2, h1, h2, h3⟩ := h.dec
  obtain ⟨hk2, c, t', e, g1, g2⟩ := (dec_step hk h2).1 h37
  refine ⟨hk2, ⟨t1 ++ [c], t', dec_two h1 g2, g1, by rw [h3, e]; simp⟩, ?_, ?_, ?_⟩
  · exact chars_app h.chars fun z hz => hr z (List.mem_of_mem_drop (List.mem_of_mem_take hz))
  · have := h.len
    rw [List.length_append, List.length_take]
    omega
  · rcases h.first with ⟨rfl, -⟩ | hf
    · exfalso
      cases raw with
      | nil => simp at hk
      | cons a r =>
        have ha : a.toNat = 47 := by simpa [pathB] using hp
        have : a = 37 := h37
        rw [this] at ha
        simp at ha
    · exact .inr (path_app hf)
theorem RW.plain {raw t other : List UInt8} {k : Nat} (h : RW raw t other k) (hr : ∀ x ∈ raw, charS.has x.toNat = true ∧ x ≠ 63) (hp : pathB raw = true) (hk : k < raw.length) (h37 : raw[k] ≠ 37) : RW raw t (other ++ [raw[k]]) (k + 1) := by
  obtain ⟨t1, t2, h1, h2, h3⟩ := h.dec
  obtain ⟨t', e, g1⟩ := (dec_step hk h2).2 h37
  refine ⟨⟨t1 ++ [raw[k]], t', dec_two h1 (dec_one h37), g1, by rw [h3, e]; simp⟩, ?_, ?_, ?_⟩
  · exact chars_app h.chars fun z hz => by
      rw [List.mem_singleton.1 hz]
      exact hr _ (List.getElem_mem hk)
  · have := h.len
    simp
    omega
  · rcases h.first with ⟨rfl, rfl⟩ | hf
    · right
      cases raw with
      | nil => simp at hk
      | cons a r => exact hp
    · exact .inr (path_app hf)
theorem enc_none : ∀ b : Fin 256, (enc1 .empty (UInt8.ofNat b.val)).all (fun x => charS.has x.toNat && x != 63) = true := by decide +kernel
theorem RW.hex {raw t other : List UInt8} {k : Nat} (h : RW raw t other k) (h0 : 0 < k) (hk : k < raw.length) (h37 : raw[k] ≠ 37) : RW raw t (other ++ enc1 .empty raw[k]) (k + 1) := by
  obtain ⟨t1, t2, h1, h2, h3⟩ := h.dec
  obtain ⟨t', e, g1⟩ := (dec_step hk h2).2 h37
  refine ⟨⟨t1 ++ [raw[k]], t', dec_two h1 (dec_hex _ _), g1, by rw [h3, e]; simp⟩, ?_, ?_, ?_⟩
  · exact chars_app h.chars fun z hz => by
      have k := enc_none ⟨(raw[k]).toNat, UInt8.toNat_lt _⟩
      rw [List.all_eq_true] at k
      dsimp only at k
      rw [UInt8.ofNat_toNat] at k
      have := k z hz
      simpa using this
  · have a := h.len
    have b := enc1_length .empty raw[k]
    rw [List.length_append]
    omega
  · rcases h.first with ⟨e0, -⟩ | hf
    · omega
    · exact .inr (path_app hf)
/-- What stands behind the raw path. -/
theorem rest_parts {s : List UInt8} : s = rawL s ++ s.drop (rawL s).length ∧ (s.drop (rawL s).length = [] ∧ qL s = [] ∨ s.drop (rawL s).length = 63 :: qL s) := by
  unfold rawL qL
  by_cases h : 63 ∈ s
  · have e := (cut_parts s).1 h
    have d : s.drop (cutB 63 s).1.length = 63 :: (cutB 63 s).2 := by
      have := congrArg (List.drop (cutB 63 s).1.length) e
      rw [List.drop_left] at this
      exact this
    exact ⟨by rw [d]; exact e, .inr d⟩
  · obtain ⟨a, b⟩ := (cut_parts s).2.1 h
    rw [a, b]
    simp
theorem RW.done {s t other : List UInt8} {n : Int} {r : PQ'} (h : RW (rawL s) t other (rawL s).length) (hr : rdR s n = .inr r) (hd : decL (rawL s) 0 = .ok t) (hs : s.length ≤ 200) : rdR (other ++ s.drop (rawL s).length) n = .inr r := by
  obtain ⟨h1, h2, h3, h4, ⟨t', hd', hsafe, hc⟩, h5, h6, h7⟩ := rd_good hr
  rw [hd] at hd'
  cases hd'
  obtain ⟨hla, hlb⟩ := cut_len s
  have hp : pathB other = true := by
    rcases h.first with ⟨e0, -⟩ | hf
    · exfalso
      have hp : pathB (rawL s) = true := raw_path (by unfold tgtB at h4; exact (Bool.and_eq_true_iff.1 h4).1)
      rw [List.eq_nil_of_length_eq_zero e0] at hp
      simp [pathB] at hp
    · exact hf
  have hdo : decL other 0 = .ok t := by
    obtain ⟨t1, t2, g1, g2, g3⟩ := h.dec
    rw [List.drop_length] at g2
    have := g2 0
    rw [decL_nil] at this
    cases this
    rw [g3, List.append_nil]
    exact g1 0
  obtain ⟨e1, e2⟩ := rest_parts (s := s)
  have hcut : rawL (other ++ s.drop (rawL s).length) = other ∧ qL (other ++ s.drop (rawL s).length) = qL s := by
    rcases e2 with ⟨a, b⟩ | a
    · rw [a, b, List.append_nil]
      have hm : 63 ∉ other := fun hm => (h.chars 63 hm).2 rfl
      exact (cut_parts other).2.1 hm
    · rw [a]
      unfold rawL qL
      rw [cutB_mark _ _ fun x hx => (h.chars x hx).2]
      exact ⟨rfl, rfl⟩
  have hch : charB (other ++ s.drop (rawL s).length) = true := by
    unfold charB
    rw [List.all_append, Bool.and_eq_true]
    refine ⟨List.all_eq_true.2 fun x hx => (h.chars x hx).1, ?_⟩
    have h4 := (Bool.and_eq_true_iff.1 (show (pathB s && charB s) = true from h4)).2
    unfold charB at h4
    rw [List.all_eq_true] at h4 ⊢
    exact fun x hx => h4 x (List.mem_of_mem_drop hx)
  have hl := h.len
  have k := rd_of (s := other ++ s.drop (rawL s).length) (t := t) (p := r.1) h1 h2 (by rw [List.length_append, List.length_drop]; omega) (by unfold tgtB; rw [path_app hp, hch]; rfl) (by rw [hcut.1]; exact hdo) hsafe hc h6 (by rw [hcut.2, ← h5]; exact h7)
  rw [hcut.2, ← h5] at k
  exact k
theorem rd_more {s : List UInt8} {n m : Int} {r : PQ'} (h : rdR s n = .inr r) (h1 : n ≤ m) (h2 : m ≤ 128) : rdR s m = .inr r := by
  obtain ⟨g1, g2, g3, g4, ⟨t, hd, hs, hc⟩, g5, g6, g7⟩ := rd_good h
  have k := rd_of (n := m) (p := r.1) (by omega) h2 g3 g4 hd hs hc (by omega) (by rw [← g5]; exact g7)
  rw [← g5] at k
  exact k
theorem rd_stat {s : List UInt8} {n : Int} {e : Nat × Nat} (h : rdR s n = .inl e) : e.2 ≠ 200 := by
  unfold rdR at h
  split at h
  · cases h; simp
  split at h
  · cases h; simp
  split at h
  · unfold midR at h
    split at h
    · cases h; simp
    split at h
    · unfold clnR at h
      split at h
      · cases h; simp
      · unfold endR at h
        split at h
        · cases h; simp
        · cases h
    · cases h; simp
  · cases h; simp
theorem rd_path {s : List UInt8} {n : Int} {r : PQ'} (h : rdR s n = .inr r) : r.1 ≠ [] := by
  obtain ⟨-, -, -, -, ⟨t, -, -, hc⟩, -, -, -⟩ := rd_good h
  obtain ⟨K, o, -, e⟩ := clean_made hc
  intro h0
  have := put_path K o
  rw [← e, h0] at this
  simp [pathB] at this
end Go.Proofs.YtjinedeelkdgiaaDoor
