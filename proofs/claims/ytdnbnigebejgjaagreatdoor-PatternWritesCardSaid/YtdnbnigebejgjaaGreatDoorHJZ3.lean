/-
  The reference's walker: the children of a node, given what it does with a node.
-/
import Derived.Test.YtdnbnigebejgjaaGreatDoorHJZ2
import Derived.Test.YtdnbnigebejgjaaGreatDoorHZ1
namespace Go.Proofs.YtdnbnigebejgjaaGreatDoor
open Go.RowKit Go.Shelf
theorem KL.fun {L : List ND} {kd : Int} {nx : Nat} {k : Int} {e e' : Nat} (h : KL L kd nx k e) (h' : KL L kd nx k e') : e = e' := by
  obtain ⟨f, h⟩ := h
  obtain ⟨f', h'⟩ := h'
  have a := kl_up (by omega : f ≤ f + f') h
  have b := kl_up (by omega : f' ≤ f + f') h'
  rw [a] at b
  injection b
def KidsPost (L : List ND) (v : Value) (bb en : Bool) (g : Int) (B nx gr : Nat) (bd nb : Bool) (k : Int) (W : World) (e : Ending) (w' : World) : Prop :=
  ∃ (n nx' gr' : Nat) (bd' nb' : Bool), e = .returned (.int .i64 (n : Int)) ∧ WKB w' B v bb en g nx' gr' bd' nb' ∧ W.grownBy w' (some B) ∧ KidsRes L nx gr bd nb k n nx' gr' bd' nb'
def NodePost (L : List ND) (v : Value) (bb en : Bool) (g : Int) (B nx gr : Nat) (nb : Bool) (n : ND) (W : World) (e : Ending) (w' : World) : Prop :=
  ∃ (nx' gr' : Nat) (bd' nb' : Bool), e = .returned (.tuple #[]) ∧ WKB w' B v bb en g nx' gr' bd' nb' ∧ W.grownBy w' (some B) ∧ NodeRes L nx gr nb n nx' gr' bd' nb'
def NodeS (L : List ND) (b off cap B : Nat) (bb en : Bool) (g : Int) (m : Nat) : Prop :=
  ∀ (n : ND) (nx gr : Nat) (nb : Bool) (W : World), L.length - nx < m → nx ≤ L.length → gr + 1 ≤ nx → NdsIn W (some ⟨b, off, none⟩) L → b < W.heap.size → WKB W B (.slice (some ⟨b, off, none⟩) L.length cap) bb en g nx gr false nb →
    Calls Tryz.prog 62 #[.pointer (some ⟨B, 0, none⟩), ndV n] W (NodePost L (.slice (some ⟨b, off, none⟩) L.length cap) bb en g B nx gr nb n W)
def KidsS (L : List ND) (b off cap B : Nat) (bb en : Bool) (g : Int) (m : Nat) : Prop :=
  ∀ (nx gr : Nat) (bd nb : Bool) (k : Int) (W : World), L.length - nx ≤ m → nx ≤ L.length → gr ≤ nx → NdsIn W (some ⟨b, off, none⟩) L → b < W.heap.size → WKB W B (.slice (some ⟨b, off, none⟩) L.length cap) bb en g nx gr bd nb →
    Calls Tryz.prog 41 #[.pointer (some ⟨B, 0, none⟩), .int .i64 k] W (KidsPost L (.slice (some ⟨b, off, none⟩) L.length cap) bb en g B nx gr bd nb k W)
/-- What the loop over children keeps. -/
structure WKI (L : List ND) (nx gr : Nat) (nb : Bool) (k : Int) (n nx1 gr1 : Nat) (nb1 : Bool) (x : Int) : Prop where
  i0 : ∀ e m, CH L nx1 x e m → CH L nx k e (n + m)
  i1 : ∀ e m, CH L nx k e m → ∃ m', m = n + m' ∧ CH L nx1 x e m'
  gq : gr1 = gr + gct (seg L nx nx1)
  nq : nb1 = (nb || !numOK (seg L nx nx1) (gr : Int))
theorem WKI.start (L : List ND) (nx gr : Nat) (nb : Bool) (k : Int) : WKI L nx gr nb k 0 nx gr nb k :=
  ⟨fun e m h => by rwa [Nat.zero_add], fun e m h => ⟨m, (Nat.zero_add m).symm, h⟩, by rw [seg_nil]; rfl, by rw [seg_nil]; simp [numOK]⟩
theorem WKI.step {L : List ND} {nx gr : Nat} {nb : Bool} {k : Int} {n nx1 gr1 nx2 gr2 : Nat} {nb1 nb2 : Bool} (h : WKI L nx gr nb k n nx1 gr1 nb1 (nx1 : Int)) (h1 : nx1 < L.length) (h0 : nx ≤ nx1) (hn : NodeOK L L[nx1] (nx1 + 1) nx2) (hg : gr2 = gr1 + gct (L[nx1] :: seg L (nx1 + 1) nx2)) (hb : nb2 = (nb1 || !numOK (L[nx1] :: seg L (nx1 + 1) nx2) (gr1 : Int))) : WKI L nx gr nb k (n + 1) nx2 gr2 nb2 L[nx1].next := by
  have hge := hn.2.ge.1
  have hs : seg L nx nx2 = seg L nx nx1 ++ (L[nx1] :: seg L (nx1 + 1) nx2) := by
    rw [seg_app h0 (by omega : nx1 ≤ nx2), seg_cons h1 (by omega)]
  refine ⟨fun e m hc => ?_, fun e m hc => ?_, ?_, ?_⟩
  · have := h.i0 e (m + 1) (.cons nx1 nx2 e m h1 trivial hn hc)
    rwa [show n + (m + 1) = n + 1 + m by omega] at this
  · obtain ⟨m', rfl, hc'⟩ := h.i1 e m hc
    rcases hc'.inv with ⟨hx, _⟩ | ⟨_, k2, m'', _, rfl, _, h2, h3⟩
    · omega
    · obtain rfl := h2.2.fun hn.2
      exact ⟨m'', by omega, h3⟩
  · rw [hg, h.gq, hs, gct_app]
    omega
  · rw [hb, h.nq, hs, numOK_app, h.gq, Int.natCast_add]
    cases nb <;> cases numOK (seg L nx nx1) (gr : Int) <;> simp
def nxM (n B : Nat) (w : World) : Nat := match w.cell? ⟨B, 4, none⟩ with
  | some (.int _ z) => n + 1 - z.toNat
  | _ => 0
set_option maxHeartbeats 4000000 in
set_option maxRecDepth 100000 in
theorem kids_step (L : List ND) (hL : L.length < 1000000) (b off cap B : Nat) (hbB : b ≠ B) (bb en : Bool) (g : Int) (m : Nat) (hNode : NodeS L b off cap B bb en g m) : KidsS L b off cap B bb en g m := by
  intro nx gr bd nb k W hm hnx hgr hN hb h
  have HN := Lib.hid hN
  have H0 := Lib.hid h
  cases bd with
  | true =>
    have c6 := CBlk.cell h 6 (by simp)
    clear hN h
    obtain ⟨q, hq⟩ : ∃ q, (k != -1) = q := ⟨_, rfl⟩
    go_enter Tryz.func41, Tryz.ntmps41
    go_wp2_with fail
    refine wp_loop_rounds 1 ?_
    rw [rounds_succ]
    cases q
    all_goals
      go_wp2_with fail
      go_ret
      exact ⟨0, nx, gr, true, nb, rfl, H0.out, jgrefl _ _, Nat.zero_le _, Nat.le_refl _, hnx, hgr, fun _ => ⟨rfl, rfl⟩, fun h => (by cases h), fun h => (by cases h)⟩
  | false =>
    clear hN h
    have HNode := Lib.hid hNode
    clear hNode
    go_enter Tryz.func41, Tryz.ntmps41
    go_wp2_with fail
    go_loopw [5, 6] (fun nv xv wr => ∃ (n nx1 gr1 : Nat) (bd1 nb1 : Bool) (x : Int), nv = .int .i64 n ∧ xv = .int .i64 x ∧ n ≤ L.length ∧ n + nx ≤ nx1 ∧ nx1 ≤ L.length ∧ gr1 ≤ nx1 ∧ Hid (WKB wr B (.slice (some ⟨b, off, none⟩) L.length cap) bb en g nx1 gr1 bd1 nb1) ∧ Hid (W.grownBy wr (some B)) ∧ Hid (bd1 = false → WKI L nx gr nb k n nx1 gr1 nb1 x) ∧ Hid (bd1 = true → ∀ e m, ¬CH L nx k e m)) (fun _ _ wr => nxM L.length B wr)
    case atStart => exact ⟨0, nx, gr, false, nb, k, rfl, rfl, Nat.zero_le _, by omega, hnx, hgr, H0, Lib.hid (jgrefl W _), Lib.hid (fun _ => WKI.start L nx gr nb k), Lib.hid (fun h => by cases h)⟩
    case round =>
      obtain ⟨n, nx1, gr1, bd1, nb1, x, rfl, rfl, hn, hn1, hnx1, hgr1, hw, hg, hi, hf⟩ := hrel
      have c6 := CBlk.cell hw.out 6 (by simp)
      have hdone : x = -1 ∨ bd1 = true → KidsRes L nx gr false nb k n nx1 gr1 bd1 nb1 := by
        intro hx
        refine ⟨hn, by omega, hnx1, hgr1, fun h => (by cases h), fun _ hb => ?_, fun _ hb => hf.out hb⟩
        rcases hx with rfl | h
        · have q := hi.out hb
          exact ⟨q.i0 nx1 0 (.nil nx1), q.gq, q.nq⟩
        · rw [h] at hb; cases hb
      by_cases hx1 : x = -1
      · subst hx1
        have e1 : ((-1 : Int) != -1) = false := rfl
        have HD := Lib.hid (hdone (.inl rfl))
        clear hdone
        go_wp2_with fail
        go_ret
        exact ⟨n, nx1, gr1, bd1, nb1, rfl, hw.out, hg.out, HD.out⟩
      have e1 : (x != -1) = true := by simpa using hx1
      have e1' : (x == -1) = false := by simpa using hx1
      cases bd1 with
      | true =>
        have HD := Lib.hid (hdone (.inr rfl))
        clear hdone
        go_wp2_with fail
        go_ret
        exact ⟨n, nx1, gr1, true, nb1, rfl, hw.out, hg.out, HD.out⟩
      | false =>
        have hki := hi.out rfl
        have HKI := Lib.hid hki
        have c0 := CBlk.cell hw.out 0 (by simp)
        have c4 := CBlk.cell hw.out 4 (by simp)
        have f4 := CBlk.free hw.out 4
        have f6 := CBlk.free hw.out 6
        have hlt := CBlk.lt hw.out
        have hwb := Lib.hid (hw.out.bad true)
        have hgb := Lib.hid (jgtrans hg.out (jgset wr B 6 (.bool true)))
        clear hdone hi hf hki
        by_cases hxn : x = (nx1 : Int)
        case neg =>
          have e2 : (x != (nx1 : Int)) = true := by simpa using hxn
          have e2' : (x == (nx1 : Int)) = false := by simpa using hxn
          have hres : KidsRes L nx gr false nb k n nx1 gr1 true nb1 := by
            refine ⟨hn, by omega, hnx1, hgr1, fun h => (by cases h), fun _ hb => (by cases hb), fun _ _ e m hc => ?_⟩
            obtain ⟨m', _, hc⟩ := HKI.out.i1 e m hc
            rcases hc.inv with ⟨h, _⟩ | ⟨_, _, _, h, _⟩
            · exact hx1 h
            · exact hxn h
          have HD := Lib.hid hres
          clear hres
          go_wp2_with fail
          go_ret
          exact ⟨n, nx1, gr1, true, nb1, rfl, hwb.out, hgb.out, HD.out⟩
        subst hxn
        have e2 : ((nx1 : Int) != (nx1 : Int)) = false := by simp
        by_cases hnl : nx1 < L.length
        case neg =>
          have e3 : decide ((L.length : Int) ≤ (nx1 : Int)) = true := decide_eq_true (by omega)
          have e3' : decide (L.length ≤ nx1) = true := decide_eq_true (by omega)
          have hres : KidsRes L nx gr false nb k n nx1 gr1 true nb1 := by
            refine ⟨hn, by omega, hnx1, hgr1, fun h => (by cases h), fun _ hb => (by cases hb), fun _ _ e m hc => ?_⟩
            obtain ⟨m', _, hc⟩ := HKI.out.i1 e m hc
            rcases hc.inv with ⟨h, _⟩ | ⟨h, _⟩
            · exact hx1 h
            · exact hnl h
          have HD := Lib.hid hres
          clear hres
          go_wp2_with fail
          go_ret
          exact ⟨n, nx1, gr1, true, nb1, rfl, hwb.out, hgb.out, HD.out⟩
        have e3 : decide ((L.length : Int) ≤ (nx1 : Int)) = false := decide_eq_false (by omega)
        have e3' : decide (L.length ≤ nx1) = false := decide_eq_false (by omega)
        have hkI : (nx1 : Int) < (L.length : Int) := by omega
        have ww : IntKind.i64.wrap ((nx1 : Int) + 1) = (nx1 : Int) + 1 := jwrap (by omega) (by omega)
        have wn : IntKind.i64.wrap ((n : Int) + 1) = (n : Int) + 1 := jwrap (by omega) (by omega)
        have hNr := nds_grown HN.out hg.out hbB hb
        have hbr : b < wr.heap.size := Nat.lt_of_lt_of_le hb hg.out.size
        have hw2 := hw.out.next (nx1 + 1)
        rw [show ((nx1 + 1 : Nat) : Int) = (nx1 : Int) + 1 by omega] at hw2
        have hN2 := nds_grown hNr (jgset wr B 4 (.int .i64 ((nx1 : Int) + 1))) hbB hbr
        obtain ⟨nd, hnd⟩ : ∃ n, L[nx1] = n := ⟨_, rfl⟩
        have HC := Lib.hid (HNode.out nd (nx1 + 1) gr1 nb1 (wr.setCell ⟨B, 4, none⟩ (.int .i64 ((nx1 : Int) + 1))) (by omega) (by omega) (by omega) hN2 (by rw [World.size_setCell]; exact hbr) hw2)
        unfold ndV ndC at HC
        obtain ⟨m0, m1, m2, m3, m4, m5, m6, m7, m8⟩ := ndV_cells hNr hnl
        rw [hnd] at m0 m1 m2 m3 m4 m5 m6 m7 m8
        have HND := Lib.hid hnd
        have hg2 := Lib.hid (jgtrans hg.out (jgset wr B 4 (.int .i64 ((nx1 : Int) + 1))))
        clear hnd hw2 hN2 hNr hwb hgb f6 e1 e1'
        go_wp2_with fail
        refine HC.out.mono ?_
        rintro e w5 ⟨nx2, gr2, bd2, nb2, rfl, hw5, hg5, r1, r2, r3, r4, r5⟩
        have hg6 := Lib.hid (jgtrans hg2.out hg5)
        have hN5 := nds_grown HN.out hg6.out hbB hb
        have hw6 := Lib.hid hw5
        have k8 := (ndV_cells hN5 hnl).2.2.2.2.2.2.2.2
        rw [HND.out] at k8
        have k0 := CBlk.cell hw5 0 (by simp)
        have k4 := CBlk.cell hw5 4 (by simp)
        have hrel : (bd2 = false → WKI L nx gr nb k (n + 1) nx2 gr2 nb2 nd.next) ∧ (bd2 = true → ∀ e m, ¬CH L nx k e m) := by
          constructor
          · intro h
            obtain ⟨q1, q2, q3⟩ := r4 h
            rw [← HND.out] at q1 q2 q3 ⊢
            exact HKI.out.step hnl (by omega) q1 q2 q3
          · intro h e m hc
            obtain ⟨m', _, hc⟩ := HKI.out.i1 e m hc
            rcases hc.inv with ⟨h, _⟩ | ⟨_, k2, _, _, _, _, h, _⟩
            · exact hx1 h
            · rw [HND.out] at h
              exact r5 ‹_› k2 h
        have hr1 := Lib.hid hrel.1
        have hr2 := Lib.hid hrel.2
        clear hrel r4 r5 hw5 hg5 hN5 m0 m1 m2 m3 m4 m5 m6 m7 m8 c0 c6 f4 HC hx1
        go_wp2_with fail
        go_roundw
        case rel => exact ⟨n + 1, nx2, gr2, bd2, nb2, nd.next, by go_num, rfl, by omega, by omega, r2, r3, hw6, hg6, hr1, hr2⟩
        case measure =>
          have k4' : w5.cell? ⟨B, 4, none⟩ = some (.int .i64 (nx2 : Int)) := k4
          have c4' : wr.cell? ⟨B, 4, none⟩ = some (.int .i64 (nx1 : Int)) := c4
          simp [nxM, k4', c4']
          omega
end Go.Proofs.YtdnbnigebejgjaaGreatDoor
