/-
  What the reader of package pattern does, purely: each method as a function of the text and of the reader's state.
-/
import Derived.Test.YtdnbnigebejgjaaGreatDoorHRun
import Derived.Lib.Strings
namespace Go.Proofs.YtdnbnigebejgjaaGreatDoor
open Go.RowKit
/-- The state of a reader: its place, and the error and the place of its fault (0, 0: none). -/
structure RS where
  k : Nat
  e : Nat
  a : Nat
deriving DecidableEq
/-- What is still to be read. -/
def restR (t : List UInt8) (s : RS) : List UInt8 := if s.e = 0 then t.drop s.k else []
def failR (s : RS) (e a : Nat) : RS := if s.e = 0 then ⟨s.k, e, a⟩ else s
def takeB (t : List UInt8) (s : RS) (x : List UInt8) : Bool := Lib.hasPrefix (restR t s) x
def takeR (t : List UInt8) (s : RS) (x : List UInt8) : RS := if takeB t s x = true then ⟨s.k + x.length, s.e, s.a⟩ else s
def needR (t : List UInt8) (s : RS) (x : List UInt8) : RS := if takeB t s x = true then takeR t s x else failR s 3 s.k
def seesL (o : List UInt8) : List UInt8 → Bool
  | [] => false
  | c :: _ => !(o.contains c)
def seesB (t : List UInt8) (s : RS) (o : List UInt8) : Bool := seesL o (restR t s)
def oneV (t : List UInt8) (s : RS) (o : List UInt8) : UInt8 := if seesB t s o = true then t.getD s.k 0 else 0
def oneR (t : List UInt8) (s : RS) (o : List UInt8) : RS := if seesB t s o = true then ⟨s.k + 1, s.e, s.a⟩ else failR s 3 s.k
/-- The set of a text that has no error. -/
def setW (l : List UInt8) : WSet := match parseOf l with
  | .ok s => s
  | .error _ => .empty
def digitsL : List UInt8 := [48, 45, 57]
def wordsL : List UInt8 := [48, 45, 57, 65, 45, 90, 95, 97, 45, 122]
def namedV (t : List UInt8) (s : RS) : WSet × Bool := if takeB t s [92, 100] = true then (setW digitsL, true) else if takeB t s [92, 119] = true then (setW wordsL, true) else (.empty, false)
def namedR (t : List UInt8) (s : RS) : RS := if takeB t s [92, 100] = true then takeR t s [92, 100] else takeR t s [92, 119]
def cbV (t : List UInt8) (s : RS) : UInt8 := if takeB t s [92] = true then oneV t (takeR t s [92]) [100, 119] else oneV t s [93, 45]
def cbR (t : List UInt8) (s : RS) : RS := if takeB t s [92] = true then oneR t (takeR t s [92]) [100, 119] else oneR t s [93, 45]
/-- The set of the bytes of one range, and whether it is one. -/
def spanW (lo hi : UInt8) : WSet := if lo.toNat ≤ hi.toNat then WSet.empty.or (spanTo lo.toNat (hi.toNat + 1 - lo.toNat)) else .empty
def ofW (b : UInt8) : WSet := WSet.empty.add b.toNat
def elV (t : List UInt8) (s : RS) : WSet :=
  if (namedV t s).2 = true then (namedV t s).1
  else if takeB t (cbR t s) [45] = true then spanW (cbV t s) (cbV t (takeR t (cbR t s) [45]))
  else ofW (cbV t s)
def elR (t : List UInt8) (s : RS) : RS :=
  if (namedV t s).2 = true then namedR t s
  else if takeB t (cbR t s) [45] = true then
    (if (cbV t s).toNat ≤ (cbV t (takeR t (cbR t s) [45])).toNat then cbR t (takeR t (cbR t s) [45]) else failR (cbR t (takeR t (cbR t s) [45])) 8 (takeR t (cbR t s) [45]).k)
  else cbR t s
/-- The elements of a class behind the first one. -/
def clsL (t : List UInt8) : Nat → RS → WSet → WSet × RS
  | 0, s, w => (w, s)
  | n + 1, s, w => if seesB t s [93] = true then clsL t n (elR t s) (w.or (elV t s)) else (w, s)
def clsEnd (t : List UInt8) (w : WSet) (s : RS) : RS := needR t (if w = .empty then failR s 3 s.k else s) [93]
def clsW (o : Bool) (w : WSet) : WSet := if o = true then w.not else w
def clsIn (t : List UInt8) (s : RS) : WSet × RS := clsL t t.length (elR t (takeR t s [94])) (elV t (takeR t s [94]))
def clsV (t : List UInt8) (s : RS) : WSet := clsW (takeB t s [94]) (clsIn t s).1
def clsR (t : List UInt8) (s : RS) : RS := clsEnd t (clsV t s) (clsIn t s).2
def setV (t : List UInt8) (s : RS) : WSet :=
  if (namedV t s).2 = true then (namedV t s).1
  else if takeB t s [46] = true then WSet.empty.not
  else if takeB t s [91] = true then clsV t (takeR t s [91])
  else ofW (oneV t (takeR t s [92]) [])
def setR (t : List UInt8) (s : RS) : RS :=
  if (namedV t s).2 = true then namedR t s
  else if takeB t s [46] = true then takeR t s [46]
  else if takeB t s [91] = true then clsR t (takeR t s [91])
  else oneR t (takeR t s [92]) []
/-- How often a piece stands: the sign of 1, 2, 3. -/
def signL : Nat → List UInt8
  | 1 => [42]
  | 2 => [43]
  | 3 => [63]
  | _ => []
def timesV (t : List UInt8) (s : RS) : List Nat → Nat
  | [] => 0
  | x :: l => if takeB t s (signL x) = true then x else timesV t s l
def timesR (t : List UInt8) (s : RS) : List Nat → RS
  | [] => s
  | x :: l => if takeB t s (signL x) = true then takeR t s (signL x) else timesR t s l
/-- A node of a pattern. -/
structure ND where
  kind : Int
  times : Int
  set : WSet
  group : Int
  first : Int
  next : Int
deriving DecidableEq
/-- The state of a parser. -/
structure PS where
  r : RS
  L : List ND
  g : Nat
deriving DecidableEq
def addP (s : PS) (n : ND) : PS := { s with L := s.L ++ [{ n with first := -1, next := -1 }] }
/-- A place in a node: its number, and whether it is Next (or First). -/
def putL (L : List ND) (p : Nat × Bool) (v : Nat) : List ND := L.modify p.1 fun n => if p.2 = true then { n with next := (v : Int) } else { n with first := (v : Int) }
def adoptL (L : List ND) (p : Nat × Bool) : List Nat → List ND
  | [] => L
  | k :: l => adoptL (putL L p k) (k, true) l
def adoptP (s : PS) (at_ : Nat) (kids : List Nat) : PS := { s with L := adoptL s.L (at_, false) kids }
def bare (k : Int) (w : WSet) (g : Int) : ND := ⟨k, 0, w, g, -1, -1⟩
def behindL : List UInt8 := [94, 36, 42, 43, 63, 41, 93, 124]
def seqLoop (t : List UInt8) (pc : PS → Nat × PS) : Nat → PS → List Nat → List Nat × PS
  | 0, s, l => (l, s)
  | n + 1, s, l => if seesB t s.r behindL = true then seqLoop t pc n (pc s).2 (l ++ [(pc s).1]) else (l, s)
def seqP (t : List UInt8) (pc : PS → Nat × PS) (s : PS) : Nat × PS :=
  (s.L.length, adoptP (seqLoop t pc t.length (addP s (bare 2 .empty 0)) []).2 s.L.length (seqLoop t pc t.length (addP s (bare 2 .empty 0)) []).1)
def choLoop (t : List UInt8) (pc : PS → Nat × PS) : Nat → PS → List Nat → List Nat × PS
  | 0, s, l => (l, s)
  | n + 1, s, l => if takeB t s.r [124] = true then choLoop t pc n (seqP t pc { s with r := takeR t s.r [124] }).2 (l ++ [(seqP t pc { s with r := takeR t s.r [124] }).1]) else (l, s)
def choP (t : List UInt8) (pc : PS → Nat × PS) (s : PS) : Nat × PS :=
  let s1 := seqP t pc (addP s (bare 3 .empty 0))
  let q := choLoop t pc t.length s1.2 [s1.1]
  (s.L.length, adoptP q.2 s.L.length q.1)
def setTimes (L : List ND) (at_ x : Nat) : List ND := L.modify at_ fun n => { n with times := (x : Int) }
def grpP (t : List UInt8) (pc : PS → Nat × PS) (s : PS) : Nat × PS :=
  let s0 : PS := if s.g = 9 then { s with r := failR s.r 14 s.r.k } else s
  let s1 : PS := { s0 with r := needR t s0.r [40], g := s0.g + 1 }
  let s2 := addP s1 (bare 4 .empty (s1.g : Int))
  let q := choP t pc s2
  let s3 := adoptP q.2 s.L.length [q.1]
  let s4 : PS := { s3 with r := needR t s3.r [41] }
  (s.L.length, { s4 with r := timesR t s4.r [3], L := setTimes s4.L s.L.length (timesV t s4.r [3]) })
def atomP (t : List UInt8) (s : PS) : Nat × PS :=
  let s1 := addP { s with r := setR t s.r } (bare 1 (setV t s.r) 0)
  (s.L.length, { s1 with r := timesR t s1.r [1, 2, 3], L := setTimes s1.L s.L.length (timesV t s1.r [1, 2, 3]) })
def pieceP (t : List UInt8) (pc : PS → Nat × PS) (s : PS) : Nat × PS := if Lib.hasPrefix (restR t s.r) [40] = true then grpP t pc s else atomP t s
def pcP (t : List UInt8) : Nat → PS → Nat × PS
  | 0, s => (0, s)
  | f + 1, s => pieceP t (pcP t f) s
/-- The whole text: whether it is anchored at its beginning and at its end, and the state. -/
def patS (t : List UInt8) : PS := (choP t (pcP t t.length) ⟨takeR t ⟨0, 0, 0⟩ [94], [], 0⟩).2
def endB (t : List UInt8) (r : RS) : Bool := decide (restR t r = [36])
def endR (t : List UInt8) (r : RS) : RS := if endB t r = true then takeR t r [36] else r
def lastR (t : List UInt8) (r : RS) : RS := if restR t (endR t r) = [] then endR t r else failR (endR t r) 3 (endR t r).k
/-- A tree. -/
structure TR where
  L : List ND
  b : Bool
  en : Bool
  g : Int
deriving DecidableEq
def TR.none : TR := ⟨[], false, false, 0⟩
/-- What Parse answers: a tree, and the error and the place of a fault. -/
def parP (t : List UInt8) : TR × Nat × Nat :=
  if 64 < t.length then (.none, 4, 64)
  else
    let s := patS t
    let r := lastR t s.r
    if r.e = 0 then (⟨s.L, takeB t ⟨0, 0, 0⟩ [94], endB t s.r, (s.g : Int)⟩, 0, 0) else (.none, r.e, r.a)
def pe (l : List UInt8) : Nat × Nat := (parP l).2
example : pe [42] = (3, 0) := by decide +kernel
example : pe [97, 42, 42] = (3, 2) := by decide +kernel
example : pe [40, 97, 41, 42] = (3, 3) := by decide +kernel
example : pe [91, 122, 45, 97, 93] = (8, 3) := by decide +kernel
example : pe [91, 97, 45, 92, 100, 93] = (3, 4) := by decide +kernel
example : pe [91, 94, 0, 45, 255, 93] = (3, 5) := by decide +kernel
example : (parP [94, 47, 40, 97, 124, 98, 43, 41, 63, 99]).1.L.map (fun n => (n.kind, n.times, n.group, n.first, n.next)) = [(3, 0, 0, 1, -1), (2, 0, 0, 2, -1), (1, 0, 0, -1, 3), (4, 3, 1, 4, 9), (3, 0, 0, 5, -1), (2, 0, 0, 6, 7), (1, 0, 0, -1, -1), (2, 0, 0, 8, -1), (1, 2, 0, -1, -1), (1, 0, 0, -1, -1)] := by decide +kernel
end Go.Proofs.YtdnbnigebejgjaaGreatDoor
