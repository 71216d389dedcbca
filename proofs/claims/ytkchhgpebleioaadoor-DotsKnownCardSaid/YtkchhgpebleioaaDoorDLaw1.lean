/-
  The law texts' helpers: clean, under, text, parent, join, common, awake. The library's variable of the search must hold a number.
-/
import Derived.Test.YtkchhgpebleioaaDoorDProg8
namespace Go.Proofs.YtkchhgpebleioaaDoor
open Go.RowKit
set_option maxHeartbeats 2000000 in
theorem lclean_ok (p t : List UInt8) (hl : p.length < 40000) (hr : cleanR p = .inr t) (w : World) :
    Calls Tryd.prog 13 #[.string ⟨p.toArray⟩, .string ⟨t.toArray⟩] w fun e w' => e = .returned (.bool true) ∧ Below w.heap.size w w' := by
  have h := clean_any p hl w
  rw [hr] at h
  have H := Lib.hid h
  clear h hr
  go_enter Tryd.func13, Tryd.ntmps13
  go_wp2_with fail
  refine H.out.mono ?_
  rintro e w1 ⟨rfl, hB⟩
  unfold strR
  dsimp only
  go_wp2_with fail
  go_ret
  exact ⟨rfl, hB⟩
set_option maxHeartbeats 2000000 in
theorem lunder_ok (p d : List UInt8) (b : Bool) (hl : p.length < 40000) (hd : d.length < 40000) (hr : underR p d = .tuple #[.bool b, .int .i64 0]) (w : World) (hM : ML w) :
    Calls Tryd.prog 18 #[.string ⟨p.toArray⟩, .string ⟨d.toArray⟩, .bool b] w fun e w' => e = .returned (.bool true) ∧ Below w.heap.size w w' := by
  have h := under_any p d hl hd w hM
  rw [hr] at h
  have H := Lib.hid h
  clear h hr hM
  cases b <;>
  · go_enter Tryd.func18, Tryd.ntmps18
    go_wp2_with fail
    refine H.out.mono ?_
    rintro e w1 ⟨rfl, hB⟩
    go_wp2_with fail
    go_ret
    exact ⟨rfl, hB⟩
set_option maxHeartbeats 2000000 in
theorem ltext_ok (t : List UInt8) (w : World) :
    Calls Tryd.prog 22 #[.string ⟨t.toArray⟩, .int .i64 0, .string ⟨t.toArray⟩] w fun e w' => e = .returned (.bool true) ∧ w = w' := by
  go_enter Tryd.func22, Tryd.ntmps22
  go_wp2_with fail
  go_ret
  exact ⟨rfl, rfl⟩
set_option maxHeartbeats 2000000 in
theorem lparent_ok (p t : List UInt8) (hl : p.length < 40000) (hr : parentR p = .inr t) (w : World) (hM : ML w) :
    Calls Tryd.prog 19 #[.string ⟨p.toArray⟩, .string ⟨t.toArray⟩] w fun e w' => e = .returned (.bool true) ∧ Below w.heap.size w w' := by
  have h := parent_any p hl w hM
  rw [hr] at h
  have H := Lib.hid h
  clear h hr hM
  go_enter Tryd.func19, Tryd.ntmps19
  go_wp2_with fail
  refine H.out.mono ?_
  rintro e w1 ⟨rfl, hB⟩
  unfold strR
  dsimp only
  go_wp2_with fail
  refine (ltext_ok t _).mono ?_
  rintro e w' ⟨rfl, rfl⟩
  go_wp2_with fail
  go_ret
  exact ⟨rfl, hB⟩
set_option maxHeartbeats 2000000 in
theorem ljoin_ok (d s t : List UInt8) (hd : d.length < 40000) (hs : s.length < 40000) (hr : joinR d s = .inr t) (w : World) (hM : ML w) :
    Calls Tryd.prog 20 #[.string ⟨d.toArray⟩, .string ⟨s.toArray⟩, .string ⟨t.toArray⟩] w fun e w' => e = .returned (.bool true) ∧ Below w.heap.size w w' := by
  have h := join_any d s hd hs w hM
  rw [hr] at h
  have H := Lib.hid h
  clear h hr hM
  go_enter Tryd.func20, Tryd.ntmps20
  go_wp2_with fail
  refine H.out.mono ?_
  rintro e w1 ⟨rfl, hB⟩
  unfold strR
  dsimp only
  go_wp2_with fail
  refine (ltext_ok t _).mono ?_
  rintro e w' ⟨rfl, rfl⟩
  go_wp2_with fail
  go_ret
  exact ⟨rfl, hB⟩
set_option maxHeartbeats 2000000 in
theorem lcommon_ok (a b t : List UInt8) (ha : a.length < 40000) (hb : b.length < 40000) (hr : commonR a b = .inr t) (w : World) (hM : ML w) :
    Calls Tryd.prog 23 #[.string ⟨a.toArray⟩, .string ⟨b.toArray⟩, .string ⟨t.toArray⟩] w fun e w' => e = .returned (.bool true) ∧ Below w.heap.size w w' := by
  have h := common_any a b ha hb w hM
  rw [hr] at h
  have H := Lib.hid h
  clear h hr hM
  go_enter Tryd.func23, Tryd.ntmps23
  go_wp2_with fail
  refine H.out.mono ?_
  rintro e w1 ⟨rfl, hB⟩
  unfold strR
  dsimp only
  go_wp2_with fail
  refine (ltext_ok t _).mono ?_
  rintro e w' ⟨rfl, rfl⟩
  go_wp2_with fail
  go_ret
  exact ⟨rfl, hB⟩
theorem aw1 : cleanR [47, 97, 47, 47, 46, 46, 47, 98] = .inr [47, 98] := by decide +kernel
theorem aw2 : underR [47, 97, 47, 98] [47, 97] = .tuple #[.bool true, .int .i64 0] := by kernel_rfl
theorem aw3 : underR [47, 97, 98] [47, 97] = .tuple #[.bool false, .int .i64 0] := by kernel_rfl
theorem aw4 : normB [47, 97, 47] = true := by decide +kernel
theorem aw5 : normB [47, 97, 47, 47, 98] = false := by decide +kernel
set_option maxRecDepth 100000 in
set_option maxHeartbeats 4000000 in
theorem awake_any (w : World) (hM : ML w) :
    Calls Tryd.prog 24 #[] w fun e w' => e = .returned (.bool true) ∧ Below w.heap.size w w' := by
  have HM := Lib.hid hM
  clear hM
  go_enter Tryd.func24, Tryd.ntmps24
  go_wp2_with fail
  refine (lclean_ok [47, 97, 47, 47, 46, 46, 47, 98] [47, 98] (by decide) aw1 _).mono ?_
  rintro e w1 ⟨rfl, hB⟩
  go_wp2_with fail
  refine (lunder_ok [47, 97, 47, 98] [47, 97] true (by decide) (by decide) aw2 _ (HM.out.below hB)).mono ?_
  rintro e w2 ⟨rfl, hb⟩
  have hB := hB.trans (hb.mono hB.size)
  clear hb
  go_wp2_with fail
  refine (lunder_ok [47, 97, 98] [47, 97] false (by decide) (by decide) aw3 _ (HM.out.below hB)).mono ?_
  rintro e w3 ⟨rfl, hb⟩
  have hB := hB.trans (hb.mono hB.size)
  clear hb
  go_wp2_with fail
  refine (normal_any [47, 97, 47] (by decide) _ (HM.out.below hB)).mono ?_
  rintro e w4 ⟨rfl, hb⟩
  rw [aw4]
  have hB := hB.trans (hb.mono hB.size)
  clear hb
  go_wp2_with fail
  refine (normal_any [47, 97, 47, 47, 98] (by decide) _ (HM.out.below hB)).mono ?_
  rintro e w5 ⟨rfl, hb⟩
  rw [aw5]
  have hB := hB.trans (hb.mono hB.size)
  clear hb
  go_wp2_with fail
  go_ret
  exact ⟨rfl, hB⟩
end Go.Proofs.YtkchhgpebleioaaDoor
