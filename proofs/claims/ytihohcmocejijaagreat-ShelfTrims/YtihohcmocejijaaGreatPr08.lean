/-
  A shelf, plainly: its lines by rising series, what its clients were told, ops and entries done; no Go in sight.
  The contract of the answer's May: which samples may be.
-/
import Derived.Test.YtihohcmocejijaaGreatPr05
import Derived.Test.YtihohcmocejijaaGreatPr07
import Derived.Test.YtihohcmocejijaaGreatPr06
namespace Go.Proofs.YtihohcmocejijaaGreat.Bk
def IsSer (s : ByteArray) : Prop := ∃ nm ls, Lb.ParsesTo s nm ls ∧ Lb.textL nm ls = Lb.sg s
abbrev Ln := ByteArray × List Sm
def ln0 : Ln := (⟨#[]⟩, [])
structure An where
  cd : Int
  hs : Bool
  nn : Int
def an0 : An := ⟨0, false, 0⟩
structure Dn where
  cl : Int
  id : Int
  an : An
def dn0 : Dn := ⟨0, 0, an0⟩
structure Opp where
  k : Int
  s : ByteArray
  t : Int
  v : Int
  f : Int
  u : Int
  m : Int
structure Ent where
  ep : Int
  cl : Int
  id : Int
  op : Opp
structure Shf where
  ls : List Ln
  ds : List Dn
  fl : Int
def shf0 : Shf := ⟨[], [], 0⟩
def OpMay (o : Opp) : Prop :=
  (o.k = 1 ∧ IsSer o.s ∧ InS (o.t, o.v) ∧ o.f = 0 ∧ o.u = 0 ∧ o.m = 0) ∨ (o.k = 2 ∧ o.s = ⟨#[]⟩ ∧ o.t = 0 ∧ o.v = 0 ∧ o.u = 0 ∧ o.m = 0 ∧ 0 ≤ o.f ∧ o.f ≤ 1099511627776) ∨
  (o.k = 3 ∧ IsSer o.s ∧ o.t = 0 ∧ o.v = 0 ∧ 1 ≤ o.m ∧ o.m ≤ 5) ∨ (o.k = 4 ∧ IsSer o.s ∧ o.t = 0 ∧ o.v = 0 ∧ o.u = 0 ∧ o.m = 0)
def Count (n : Int) : Prop := 1 ≤ n ∧ n ≤ 2147483647
def EntMay (e : Ent) : Prop := (0 ≤ e.cl ∧ e.cl ≤ 2147483647) ∧ Count e.id
def LnOk (ls : List Ln) (fl : Int) (i : Nat) : Prop := (0 < i → Lb.ltB (ls.getD (i - 1) ln0).1 (ls.getD i ln0).1 = true) ∧ IsSer (ls.getD i ln0).1 ∧ (ls.getD i ln0).2 ≠ [] ∧ MayS (ls.getD i ln0).2 ∧ fl ≤ ((ls.getD i ln0).2.getD 0 sm0).1
def LnsMay (ls : List Ln) (fl : Int) : Prop := ls.length ≤ 16 ∧ ∀ i, i < ls.length → LnOk ls fl i
def DnOk (ds : List Dn) (i : Nat) : Prop := (0 < i → (ds.getD (i - 1) dn0).cl < (ds.getD i dn0).cl) ∧ Count (ds.getD i dn0).cl ∧ Count (ds.getD i dn0).id
def DnsMay (ds : List Dn) : Prop := ds.length ≤ 8 ∧ ∀ i, i < ds.length → DnOk ds i
def ShMay (s : Shf) : Prop := (0 ≤ s.fl ∧ s.fl ≤ 1099511627776) ∧ LnsMay s.ls s.fl ∧ DnsMay s.ds
def findL (ls : List Ln) (n : ByteArray) : Option (List Sm) := (ls.find? fun l => decide (l.1 = n)).map (·.2)
def putLn (ls : List Ln) (n : ByteArray) (x : List Sm) : List Ln := ls.filter (fun l => Lb.ltB l.1 n) ++ (n, x) :: ls.filter (fun l => Lb.ltB n l.1)
def trimL (ls : List Ln) (f : Int) : List Ln := (ls.map fun l => (l.1, trimP l.2 f)).filter fun l => decide (l.2 ≠ [])
noncomputable def writeS (s : Shf) (n : ByteArray) (x : Sm) : Shf × An :=
  if x.1 < s.fl then (s, ⟨9, false, 0⟩) else match findL s.ls n with
  | some xs => if putE xs x = 0 then (⟨putLn s.ls n (putL xs x), s.ds, s.fl⟩, ⟨0, true, 0⟩) else if putE xs x = 7 then (s, an0) else (s, ⟨putE xs x, false, 0⟩)
  | none => if 16 ≤ s.ls.length then (s, ⟨6, false, 0⟩) else (⟨putLn s.ls n [x], s.ds, s.fl⟩, ⟨0, true, 0⟩)
def trimS (s : Shf) (f : Int) : Shf × An := if f < s.fl then (s, ⟨9, false, 0⟩) else (⟨trimL s.ls f, s.ds, f⟩, an0)
def linS (s : Shf) (n : ByteArray) : List Sm := (findL s.ls n).getD []
def totS (s : Shf) (o : Opp) : An := ⟨0, (totP o.m (rangeP (linS s o.s) o.f o.u)).isSome, (totP o.m (rangeP (linS s o.s) o.f o.u)).getD 0⟩
def getS (s : Shf) (o : Opp) : An := ⟨0, (findP (linS s o.s) o.f).isSome, ((findP (linS s o.s) o.f).getD sm0).2⟩
noncomputable def opS (s : Shf) (o : Opp) : Shf × An :=
  if o.k = 1 then writeS s o.s (o.t, o.v) else if o.k = 2 then trimS s o.f else if o.k = 3 then (s, totS s o) else (s, getS s o)
noncomputable def applyS (s : Shf) (o : Opp) : Shf × An := open Classical in if OpMay o then opS s o else (s, ⟨1, false, 0⟩)
def findD (ds : List Dn) (c : Int) : Option Dn := ds.find? fun d => decide (d.cl = c)
def minIx (ds : List Dn) : Nat → Nat
  | 0 => 0
  | j + 1 => if (ds.getD (j + 1) dn0).id < (ds.getD (minIx ds j) dn0).id then j + 1 else minIx ds j
def leastD (ds : List Dn) : Nat := minIx ds (ds.length - 1)
def roomD (ds : List Dn) (c : Int) : List Dn := if (findD ds c).isSome then ds else if 8 ≤ ds.length then ds.eraseIdx (leastD ds) else ds
def noteD (ds : List Dn) (d : Dn) : List Dn := (roomD ds d.cl).filter (fun x => decide (x.cl < d.cl)) ++ d :: (roomD ds d.cl).filter (fun x => decide (d.cl < x.cl))
noncomputable def doneS (s : Shf) (e : Ent) : Shf × An := (⟨(applyS s e.op).1.ls, noteD (applyS s e.op).1.ds ⟨e.cl, e.id, (applyS s e.op).2⟩, (applyS s e.op).1.fl⟩, (applyS s e.op).2)
noncomputable def doS (s : Shf) (e : Ent) : Shf × An :=
  if e.cl = 0 then applyS s e.op else match findD s.ds e.cl with
  | some d => if e.id ≤ d.id then (s, if d.id = e.id then d.an else ⟨9, false, 0⟩) else doneS s e
  | none => doneS s e
noncomputable def stepS (s : Shf) (e : Ent) : Shf := open Classical in if EntMay e then (doS s e).1 else s
noncomputable def foldS (es : List Ent) : Shf := es.foldl stepS shf0
end Go.Proofs.YtihohcmocejijaaGreat.Bk
namespace Go.Proofs.YtihohcmocejijaaGreat.Bk
open Go.ChangeShapes Go.WideShapes Go.ChangeAt Go.RowKit
end Go.Proofs.YtihohcmocejijaaGreat.Bk
