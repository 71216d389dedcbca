/-
  A path and a query are read from their canonical target. No condition but those that stand in each line.
-/
import Derived.Test.YtjinedeelkdgiaaDoorHPure
import Derived.Test.YtjinedeelkdgiaaDoorHGBackF
namespace Go.Proofs.YtjinedeelkdgiaaDoor
open Go.RowKit
theorem enc_stay : ∀ b : Fin 256, (enc1 stay17 (UInt8.ofNat b.val)).all (fun x => charS.has x.toNat && x != 63) = true := by decide +kernel
theorem enc1_good (b x : UInt8) (h : x ∈ enc1 stay17 b) : charS.has x.toNat = true ∧ x ≠ 63 := by
  have k := enc_stay ⟨b.toNat, UInt8.toNat_lt b⟩
  rw [List.all_eq_true] at k
  have e : UInt8.ofNat b.toNat = b := UInt8.ofNat_toNat
  dsimp only at k
  rw [e] at k
  have := k x h
  simpa using this
theorem encL_good (l : List UInt8) : ∀ x ∈ encL stay17 l, charS.has x.toNat = true ∧ x ≠ 63 := fun x hx => by
  obtain ⟨b, _, hb⟩ := List.mem_flatMap.1 hx
  exact enc1_good b x hb
theorem cutB_mark : ∀ (a b : List UInt8), (∀ x ∈ a, x ≠ 63) → cutB 63 (a ++ 63 :: b) = (a, b)
  | [], b, _ => by simp [cutB]
  | c :: a, b, h => by
    have hc : c ≠ 63 := h c List.mem_cons_self
    have ih := cutB_mark a b (fun x hx => h x (List.mem_cons_of_mem _ hx))
    rw [List.cons_append, cutB, if_neg hc, ih]
theorem can_parts (p q : List UInt8) : rawL (canL p q) = encL stay17 p ∧ qL (canL p q) = q := by
  have hn : ∀ x ∈ encL stay17 p, x ≠ 63 := fun x hx => (encL_good p x hx).2
  cases q with
  | nil =>
    have e : canL p [] = encL stay17 p := by unfold canL; simp
    have hm : 63 ∉ encL stay17 p := fun h => hn 63 h rfl
    obtain ⟨a, b⟩ := (cut_parts (encL stay17 p)).2.1 hm
    rw [e]
    exact ⟨a, b⟩
  | cons c r =>
    have e : canL p (c :: r) = encL stay17 p ++ 63 :: (c :: r) := by unfold canL; simp
    rw [e]
    unfold rawL qL
    rw [cutB_mark _ _ hn]
    exact ⟨rfl, rfl⟩
theorem can_path {p q : List UInt8} (h : pathB p = true) : pathB (canL p q) = true := by
  cases p with
  | nil => simp [pathB] at h
  | cons c r =>
    have hc : c = 47 := UInt8.toNat_inj.1 (by simpa [pathB] using h)
    subst hc
    have e : encL stay17 (47 :: r) = 47 :: encL stay17 r := by
      show enc1 stay17 47 ++ encL stay17 r = _
      rw [show enc1 stay17 47 = [47] by decide +kernel]
      rfl
    unfold canL
    rw [e]
    rfl
theorem can_chars {p q : List UInt8} (h : qryB q = true) : charB (canL p q) = true := by
  unfold charB canL
  rw [List.all_append, Bool.and_eq_true]
  refine ⟨List.all_eq_true.2 fun x hx => (encL_good p x hx).1, ?_⟩
  split
  · rfl
  · unfold qryB at h
    rw [List.all_cons, char_qry, h, Bool.and_true]
    decide +kernel
theorem can_tgt {p q : List UInt8} (hp : pathB p = true) (hq : qryB q = true) : tgtB (canL p q) = true := by
  unfold tgtB
  rw [can_path hp, can_chars hq]
  rfl
theorem can_read {p q : List UInt8} {n : Int} (h1 : 1 ≤ n) (h2 : n ≤ 128) (hn : normB p = true) (hs : safeB p = true) (hq : qryB q = true) (hl : q.length ≤ 128) (hp : (p.length : Int) ≤ n) : rdR (canL p q) n = .inr (p, q) := by
  obtain ⟨a, b⟩ := can_parts p q
  obtain ⟨n1, n2, -⟩ := norm_parts hn
  have hlen := can_len (p := p) (q := q)
  have h := rd_of (s := canL p q) (t := p) (p := p) h1 h2 (by omega) (can_tgt n1 hq) (by rw [a]; exact dec_enc stay17 p 0) hs (clean_norm hn) hp (by rw [b]; exact hl)
  rw [b] at h
  exact h
theorem can_can {p q : List UInt8} (hn : normB p = true) (hs : safeB p = true) (hq : qryB q = true) (hl : q.length ≤ 128) : canR (canL p q) = .inr (canL p q) := by
  obtain ⟨_, n2, -⟩ := norm_parts hn
  unfold canR
  rw [can_read (by omega) (by omega) hn hs hq hl (by omega)]
end Go.Proofs.YtjinedeelkdgiaaDoor
