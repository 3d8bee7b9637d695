/-
  What a parameter of nodes reads as, opened.
  What a parameter that is a map reads as, opened.
  Deltas as they lie in memory; parameters that are deltas, opened.
-/
import Derived.Test.YtcncbjknfcjnmaaGreatPr00
import Derived.Deep.Slices
import Derived.ChangeSame
import Derived.ChangeSlices
import Derived.ChangeArms
namespace Go.Proofs.YtcncbjknfcjnmaaGreat.Tp
open Go.ChangeShapes Go.WideShapes Go.ChangeAt Go.RowKit
theorem cells25 : Tryz.prog.cellsOf 72 = 6 := by kernel_rfl
theorem cells3 : Tryz.prog.cellsOf 3 = 1 := by kernel_rfl
theorem cells4 : Tryz.prog.cellsOf 4 = 1 := by kernel_rfl
theorem trod_struct6 {P : Program} {H : Type} {enc : TypeId × Value -> H} {w : World} {base : Nat} {spare : Nat -> Bool} {held : Bool} {t : TypeId} {f0 f1 f2 f3 f4 f5 : Field} {fuel : Nat} {cs : List Value} {x : DataW H × List MemPlace} (ht : P.underlying t = some (.struct #[f0,f1,f2,f3,f4,f5])) (h : DataW.trod enc P w base spare held fuel t cs = some x) :
  ∃ y0 y1 y2 y3 y4 y5 n,DataW.trod enc P w base spare held n f0.type ((cs.drop f0.offset).take (P.cellsOf f0.type)) = some y0 /\ DataW.trod enc P w base spare held n f1.type ((cs.drop f1.offset).take (P.cellsOf f1.type)) = some y1 /\ DataW.trod enc P w base spare held n f2.type ((cs.drop f2.offset).take (P.cellsOf f2.type)) = some y2 /\ DataW.trod enc P w base spare held n f3.type ((cs.drop f3.offset).take (P.cellsOf f3.type)) = some y3 /\ DataW.trod enc P w base spare held n f4.type ((cs.drop f4.offset).take (P.cellsOf f4.type)) = some y4 /\ DataW.trod enc P w base spare held n f5.type ((cs.drop f5.offset).take (P.cellsOf f5.type)) = some y5 := by
 obtain ⟨xs,n,_,rfl,hl,hlen,hf⟩ := DataW.trod_struct ht h
 match xs,hlen with
 | [y0,y1,y2,y3,y4,y5],_ => exact ⟨y0,y1,y2,y3,y4,y5,n,by simpa using hf 0 f0 rfl,by simpa using hf 1 f1 rfl,by simpa using hf 2 f2 rfl,by simpa using hf 3 f3 rfl,by simpa using hf 4 f4 rfl,by simpa using hf 5 f5 rfl⟩
theorem open_nd {H : Type} {enc : TypeId × Value -> H} {w : World} {base : Nat} {spare : Nat -> Bool} {held : Bool} {fuel : Nat} {c0 c1 c2 c3 c4 c5 : Value} {x : DataW H × List MemPlace} (h : DataW.trod enc Tryz.prog w base spare held fuel 72 [c0,c1,c2,c3,c4,c5] = some x) :
  ∃ n : Nd,[c0,c1,c2,c3,c4,c5] = ndCells n := by
 obtain ⟨y0,y1,y2,y3,y4,y5,n,h0,h1,h2,h3,h4,h5⟩ := trod_struct6 Tryz.underlying72 h
 simp only [cells3,cells4] at h0 h1 h2 h3 h4 h5
 obtain ⟨s0,e0,_,z0⟩ := DataW.trod_int Tryz.underlying3 h0
 obtain ⟨s1,e1,_,z1⟩ := DataW.trod_int Tryz.underlying3 h1
 obtain ⟨s2,e2,_,z2⟩ := DataW.trod_int Tryz.underlying3 h2
 obtain ⟨s3,e3,_,z3⟩ := DataW.trod_int Tryz.underlying3 h3
 obtain ⟨s4,e4,_⟩ := DataW.trod_bool Tryz.underlying4 h4
 obtain ⟨s5,e5,_⟩ := DataW.trod_bool Tryz.underlying4 h5
 simp at e0 e1 e2 e3 e4 e5
 exact ⟨⟨s0,s1,s2,s3,s4,s5⟩,by rw [e0,e1,e2,e3,e4,e5]; rfl⟩
theorem open_nodes {H : Type} {enc : TypeId × Value -> H} {w : World} {base : Nat} {spare : Nat -> Bool} {held : Bool} {fuel : Nat} {cs : List Value} {x : DataW H × List MemPlace} (h : DataW.trod enc Tryz.prog w base spare held fuel 22 cs = some x) :
  ∃ a len cap ls,cs = [.slice a len cap] /\ NdsAt w a len cap ls := by
 rcases Go.Deep.open_slice Tryz.underlying22 h with ⟨hcs,_⟩ | ⟨a,len,cap,m,n,D,Pl,hcs,_,hl,hm,hmm,_,hx⟩
 ·exact ⟨none,0,0,[],hcs,⟨rfl,Nat.le_refl _,Nat.zero_le _,.inl rfl⟩⟩
 ·have hlm : len <= m := by rw [hmm]; split <;> omega
  have each : ∀ i,∃ l : Nd,i < len -> ∀ j,j < 6 -> w.cell? ((a.add (i * 6)).add j) = (ndCells l)[j]? := fun i => by
   by_cases hi : i < len
   ·obtain ⟨cs',h1,h2⟩ := hx i (by omega)
    rw [cells25] at h1
    obtain ⟨_,hlen,hc⟩ := World.cells?_some h1
    match cs',hlen with
    | [c0,c1,c2,c3,c4,c5],_ =>
     obtain ⟨n,hn⟩ := open_nd h2
     refine ⟨n,fun _ j hj => ?_⟩
     rw [<- hn]
     have := hc j (by simpa using hj)
     rw [this]
   ·exact ⟨nd0,fun h => absurd h hi⟩
  obtain ⟨f,hf⟩ := Classical.axiomOfChoice each
  refine ⟨some a,len,cap,(List.range len).map f,hcs,⟨by simp,hl,hm,?_⟩⟩
  by_cases h0 : len = 0
  ·exact .inl h0
  ·obtain ⟨b,off,spot⟩ := a
   have h1 := hf 0 (by omega) 0 (by omega)
   have hspot : spot = none := by simpa [Addr.add] using World.cell?_spot h1
   subst hspot
   refine .inr ⟨b,off,rfl,fun i hi => ?_⟩
   have h2 := hf i hi
   have eg : ((List.range len).map f).getD i nd0 = f i := by simp [hi]
   rw [eg]
   have h3 : ∀ j,j < 6 -> w.cell? ⟨b,off + i * 6 + j,none⟩ = (ndCells (f i))[j]? := fun j hj => by
    have := h2 j hj
    rw [addr_add,addr_add] at this
    exact this
   exact ⟨h3 0 (by omega),h3 1 (by omega),h3 2 (by omega),h3 3 (by omega),h3 4 (by omega),h3 5 (by omega)⟩
end Go.Proofs.YtcncbjknfcjnmaaGreat.Tp
namespace Go.Proofs.YtcncbjknfcjnmaaGreat.Tp
open Go.ChangeShapes Go.WideShapes Go.ChangeAt Go.RowKit
theorem cellsTm : Tryz.prog.cellsOf 59 = 2 := by kernel_rfl
theorem cellsSp : Tryz.prog.cellsOf 55 = 2 := by kernel_rfl
theorem cellsTr : Tryz.prog.cellsOf 53 = 2 := by kernel_rfl
theorem cellsMp : Tryz.prog.cellsOf 26 = 7 := by kernel_rfl
theorem cellsIs : Tryz.prog.cellsOf 35 = 1 := by kernel_rfl
theorem cellsSs : Tryz.prog.cellsOf 51 = 1 := by kernel_rfl
theorem cellsNs : Tryz.prog.cellsOf 22 = 1 := by kernel_rfl
theorem cellsTs : Tryz.prog.cellsOf 23 = 1 := by kernel_rfl
theorem cellsRs : Tryz.prog.cellsOf 24 = 1 := by kernel_rfl
theorem open_rowI {H : Type} {enc : TypeId × Value -> H} {w : World} {base : Nat} {spare : Nat -> Bool} {held : Bool} {fuel : Nat} {cs : List Value} {x : DataW H × List MemPlace} (h : DataW.trod enc Tryz.prog w base spare held fuel 35 cs = some x) : ∃ a len cap ls,cs = [.slice a len cap] /\ RowI w a len cap ls := by
 rcases Go.Deep.open_slice Tryz.underlying35 h with ⟨hcs,_⟩ | ⟨a,len,cap,m,n,D,Pl,hcs,_,hl,hm,hmm,_,hx⟩
 ·exact ⟨none,0,0,[],hcs,RowI.nil w⟩
 ·have hlm : len <= m := by rw [hmm]; split <;> omega
  have each : ∀ i,∃ l : Int,i < len -> w.cell? (a.add i) = some (.int .i64 l) := fun i => by
   by_cases hi : i < len
   ·obtain ⟨cs',h1,h2⟩ := hx i (by omega)
    rw [cells3] at h1
    obtain ⟨_,hlen,hc⟩ := World.cells?_some h1
    match cs',hlen with
    | [c0],_ =>
     obtain ⟨s0,e0,_,z0⟩ := DataW.trod_int Tryz.underlying3 h2
     simp at e0
     refine ⟨s0,fun _ => ?_⟩
     have := hc 0 (by simp)
     rw [e0] at this
     simpa [Addr.add] using this
   ·exact ⟨0,fun h => absurd h hi⟩
  obtain ⟨f,hf⟩ := Classical.axiomOfChoice each
  refine ⟨some a,len,cap,(List.range len).map f,hcs,⟨by simp,hl,hm,nofun,?_⟩⟩
  by_cases h0 : len = 0
  ·exact .inl h0
  ·obtain ⟨b,off,spot⟩ := a
   have h1 := hf 0 (by omega)
   have hspot : spot = none := by simpa [Addr.add] using World.cell?_spot h1
   subst hspot
   refine .inr ⟨b,off,rfl,fun i hi => ?_⟩
   have h2 := hf i hi
   rw [show ((List.range len).map f).getD i 0 = f i by simp [hi]]
   rw [addr_add] at h2
   exact h2
theorem open_tm {H : Type} {enc : TypeId × Value -> H} {w : World} {base : Nat} {spare : Nat -> Bool} {held : Bool} {fuel : Nat} {c0 c1 : Value} {x : DataW H × List MemPlace} (h : DataW.trod enc Tryz.prog w base spare held fuel 59 [c0,c1] = some x) : ∃ n : Tm,c0 = .int .i64 n.g /\ ∃ a len cap,c1 = .slice a len cap /\ RowI w a len cap n.ns := by
 obtain ⟨y0,y1,n,_,_,h0,h1⟩ := trod_struct2 Tryz.underlying59 h
 simp only [cells3,cellsIs] at h0 h1
 obtain ⟨s0,e0,_,z0⟩ := DataW.trod_int Tryz.underlying3 h0
 obtain ⟨a,len,cap,ls,e1,hr⟩ := open_rowI h1
 simp at e0 e1
 exact ⟨⟨s0,ls⟩,e0,a,len,cap,e1,hr⟩
theorem open_sp {H : Type} {enc : TypeId × Value -> H} {w : World} {base : Nat} {spare : Nat -> Bool} {held : Bool} {fuel : Nat} {c0 c1 : Value} {x : DataW H × List MemPlace} (h : DataW.trod enc Tryz.prog w base spare held fuel 55 [c0,c1] = some x) : ∃ n : Tm,c0 = .int .i64 n.g /\ ∃ a len cap,c1 = .slice a len cap /\ RowI w a len cap n.ns := by
 obtain ⟨y0,y1,n,_,_,h0,h1⟩ := trod_struct2 Tryz.underlying55 h
 simp only [cells3,cellsIs] at h0 h1
 obtain ⟨s0,e0,_,z0⟩ := DataW.trod_int Tryz.underlying3 h0
 obtain ⟨a,len,cap,ls,e1,hr⟩ := open_rowI h1
 simp at e0 e1
 exact ⟨⟨s0,ls⟩,e0,a,len,cap,e1,hr⟩
theorem open_tms {H : Type} {enc : TypeId × Value -> H} {w : World} {base : Nat} {spare : Nat -> Bool} {held : Bool} {fuel : Nat} {cs : List Value} {x : DataW H × List MemPlace} (h : DataW.trod enc Tryz.prog w base spare held fuel 23 cs = some x) : ∃ a len cap ls,cs = [.slice a len cap] /\ TmsAt w a len cap ls := by
 rcases Go.Deep.open_slice Tryz.underlying23 h with ⟨hcs,_⟩ | ⟨a,len,cap,m,n,D,Pl,hcs,_,hl,hm,hmm,_,hx⟩
 ·exact ⟨none,0,0,[],hcs,TmsAt.nil w⟩
 ·have hlm : len <= m := by rw [hmm]; split <;> omega
  have each : ∀ i,∃ l : Tm,i < len -> ∃ c0 c1,w.cell? ((a.add (i * 2)).add 0) = some c0 /\ w.cell? ((a.add (i * 2)).add 1) = some c1 /\ c0 = .int .i64 l.g /\ ∃ a' len' cap',c1 = .slice a' len' cap' /\ RowI w a' len' cap' l.ns := fun i => by
   by_cases hi : i < len
   ·obtain ⟨cs',h1,h2⟩ := hx i (by omega)
    rw [cellsTm] at h1
    obtain ⟨_,hlen,hc⟩ := World.cells?_some h1
    match cs',hlen with
    | [c0,c1],_ =>
     obtain ⟨n,e0,hn⟩ := open_tm h2
     exact ⟨n,fun _ => ⟨c0,c1,hc 0 (by simp),hc 1 (by simp),e0,hn⟩⟩
   ·exact ⟨tm0,fun h => absurd h hi⟩
  obtain ⟨f,hf⟩ := Classical.axiomOfChoice each
  refine ⟨some a,len,cap,(List.range len).map f,hcs,⟨by simp,hl,hm,nofun,?_⟩⟩
  by_cases h0 : len = 0
  ·exact .inl h0
  ·obtain ⟨b,off,spot⟩ := a
   obtain ⟨c0,c1,h1,-⟩ := hf 0 (by omega)
   have hspot : spot = none := by simpa [Addr.add] using World.cell?_spot h1
   subst hspot
   refine .inr ⟨b,off,rfl,fun i hi => ?_⟩
   obtain ⟨c0,c1,k0,k1,e0,a',len',cap',e1,hr⟩ := hf i hi
   rw [show ((List.range len).map f).getD i tm0 = f i by simp [hi]]
   rw [addr_add,addr_add] at k0 k1
   rw [e0] at k0
   rw [e1] at k1
   exact ⟨k0,a',len',cap',k1,hr⟩
theorem open_sps {H : Type} {enc : TypeId × Value -> H} {w : World} {base : Nat} {spare : Nat -> Bool} {held : Bool} {fuel : Nat} {cs : List Value} {x : DataW H × List MemPlace} (h : DataW.trod enc Tryz.prog w base spare held fuel 51 cs = some x) : ∃ a len cap ls,cs = [.slice a len cap] /\ TmsAt w a len cap ls := by
 rcases Go.Deep.open_slice Tryz.underlying51 h with ⟨hcs,_⟩ | ⟨a,len,cap,m,n,D,Pl,hcs,_,hl,hm,hmm,_,hx⟩
 ·exact ⟨none,0,0,[],hcs,TmsAt.nil w⟩
 ·have hlm : len <= m := by rw [hmm]; split <;> omega
  have each : ∀ i,∃ l : Tm,i < len -> ∃ c0 c1,w.cell? ((a.add (i * 2)).add 0) = some c0 /\ w.cell? ((a.add (i * 2)).add 1) = some c1 /\ c0 = .int .i64 l.g /\ ∃ a' len' cap',c1 = .slice a' len' cap' /\ RowI w a' len' cap' l.ns := fun i => by
   by_cases hi : i < len
   ·obtain ⟨cs',h1,h2⟩ := hx i (by omega)
    rw [cellsSp] at h1
    obtain ⟨_,hlen,hc⟩ := World.cells?_some h1
    match cs',hlen with
    | [c0,c1],_ =>
     obtain ⟨n,e0,hn⟩ := open_sp h2
     exact ⟨n,fun _ => ⟨c0,c1,hc 0 (by simp),hc 1 (by simp),e0,hn⟩⟩
   ·exact ⟨tm0,fun h => absurd h hi⟩
  obtain ⟨f,hf⟩ := Classical.axiomOfChoice each
  refine ⟨some a,len,cap,(List.range len).map f,hcs,⟨by simp,hl,hm,nofun,?_⟩⟩
  by_cases h0 : len = 0
  ·exact .inl h0
  ·obtain ⟨b,off,spot⟩ := a
   obtain ⟨c0,c1,h1,-⟩ := hf 0 (by omega)
   have hspot : spot = none := by simpa [Addr.add] using World.cell?_spot h1
   subst hspot
   refine .inr ⟨b,off,rfl,fun i hi => ?_⟩
   obtain ⟨c0,c1,k0,k1,e0,a',len',cap',e1,hr⟩ := hf i hi
   rw [show ((List.range len).map f).getD i tm0 = f i by simp [hi]]
   rw [addr_add,addr_add] at k0 k1
   rw [e0] at k0
   rw [e1] at k1
   exact ⟨k0,a',len',cap',k1,hr⟩
theorem open_tr {H : Type} {enc : TypeId × Value -> H} {w : World} {base : Nat} {spare : Nat -> Bool} {held : Bool} {fuel : Nat} {c0 c1 : Value} {x : DataW H × List MemPlace} (h : DataW.trod enc Tryz.prog w base spare held fuel 53 [c0,c1] = some x) : ∃ n : Tr,c0 = .int .i64 n.since /\ ∃ a len cap,c1 = .slice a len cap /\ TmsAt w a len cap n.past := by
 obtain ⟨y0,y1,n,_,_,h0,h1⟩ := trod_struct2 Tryz.underlying53 h
 simp only [cells3,cellsSs] at h0 h1
 obtain ⟨s0,e0,_,z0⟩ := DataW.trod_int Tryz.underlying3 h0
 obtain ⟨a,len,cap,ls,e1,hr⟩ := open_sps h1
 simp at e0 e1
 exact ⟨⟨s0,ls⟩,e0,a,len,cap,e1,hr⟩
theorem open_trs {H : Type} {enc : TypeId × Value -> H} {w : World} {base : Nat} {spare : Nat -> Bool} {held : Bool} {fuel : Nat} {cs : List Value} {x : DataW H × List MemPlace} (h : DataW.trod enc Tryz.prog w base spare held fuel 24 cs = some x) : ∃ a len cap ls,cs = [.slice a len cap] /\ TrsAt w a len cap ls := by
 rcases Go.Deep.open_slice Tryz.underlying24 h with ⟨hcs,_⟩ | ⟨a,len,cap,m,n,D,Pl,hcs,_,hl,hm,hmm,_,hx⟩
 ·exact ⟨none,0,0,[],hcs,TrsAt.nil w⟩
 ·have hlm : len <= m := by rw [hmm]; split <;> omega
  have each : ∀ i,∃ l : Tr,i < len -> ∃ c0 c1,w.cell? ((a.add (i * 2)).add 0) = some c0 /\ w.cell? ((a.add (i * 2)).add 1) = some c1 /\ c0 = .int .i64 l.since /\ ∃ a' len' cap',c1 = .slice a' len' cap' /\ TmsAt w a' len' cap' l.past := fun i => by
   by_cases hi : i < len
   ·obtain ⟨cs',h1,h2⟩ := hx i (by omega)
    rw [cellsTr] at h1
    obtain ⟨_,hlen,hc⟩ := World.cells?_some h1
    match cs',hlen with
    | [c0,c1],_ =>
     obtain ⟨n,e0,hn⟩ := open_tr h2
     exact ⟨n,fun _ => ⟨c0,c1,hc 0 (by simp),hc 1 (by simp),e0,hn⟩⟩
   ·exact ⟨tr0,fun h => absurd h hi⟩
  obtain ⟨f,hf⟩ := Classical.axiomOfChoice each
  refine ⟨some a,len,cap,(List.range len).map f,hcs,⟨by simp,hl,hm,nofun,?_⟩⟩
  by_cases h0 : len = 0
  ·exact .inl h0
  ·obtain ⟨b,off,spot⟩ := a
   obtain ⟨c0,c1,h1,-⟩ := hf 0 (by omega)
   have hspot : spot = none := by simpa [Addr.add] using World.cell?_spot h1
   subst hspot
   refine .inr ⟨b,off,rfl,fun i hi => ?_⟩
   obtain ⟨c0,c1,k0,k1,e0,a',len',cap',e1,hr⟩ := hf i hi
   rw [show ((List.range len).map f).getD i tr0 = f i by simp [hi]]
   rw [addr_add,addr_add] at k0 k1
   rw [e0] at k0
   rw [e1] at k1
   exact ⟨k0,a',len',cap',k1,hr⟩
theorem trod_struct7 {P : Program} {H : Type} {enc : TypeId × Value -> H} {w : World} {base : Nat} {spare : Nat -> Bool} {held : Bool} {t : TypeId} {f0 f1 f2 f3 f4 f5 f6 : Field} {fuel : Nat} {cs : List Value} {x : DataW H × List MemPlace} (ht : P.underlying t = some (.struct #[f0,f1,f2,f3,f4,f5,f6])) (h : DataW.trod enc P w base spare held fuel t cs = some x) :
  ∃ y0 y1 y2 y3 y4 y5 y6 n,DataW.trod enc P w base spare held n f0.type ((cs.drop f0.offset).take (P.cellsOf f0.type)) = some y0 /\ DataW.trod enc P w base spare held n f1.type ((cs.drop f1.offset).take (P.cellsOf f1.type)) = some y1 /\ DataW.trod enc P w base spare held n f2.type ((cs.drop f2.offset).take (P.cellsOf f2.type)) = some y2 /\ DataW.trod enc P w base spare held n f3.type ((cs.drop f3.offset).take (P.cellsOf f3.type)) = some y3 /\ DataW.trod enc P w base spare held n f4.type ((cs.drop f4.offset).take (P.cellsOf f4.type)) = some y4 /\ DataW.trod enc P w base spare held n f5.type ((cs.drop f5.offset).take (P.cellsOf f5.type)) = some y5 /\ DataW.trod enc P w base spare held n f6.type ((cs.drop f6.offset).take (P.cellsOf f6.type)) = some y6 := by
 obtain ⟨xs,n,_,rfl,hl,hlen,hf⟩ := DataW.trod_struct ht h
 match xs,hlen with
 | [y0,y1,y2,y3,y4,y5,y6],_ => exact ⟨y0,y1,y2,y3,y4,y5,y6,n,by simpa using hf 0 f0 rfl,by simpa using hf 1 f1 rfl,by simpa using hf 2 f2 rfl,by simpa using hf 3 f3 rfl,by simpa using hf 4 f4 rfl,by simpa using hf 5 f5 rfl,by simpa using hf 6 f6 rfl⟩
theorem open_nodes0 {H : Type} {enc : TypeId × Value -> H} {w : World} {base : Nat} {spare : Nat -> Bool} {held : Bool} {fuel : Nat} {cs : List Value} {x : DataW H × List MemPlace} (h : DataW.trod enc Tryz.prog w base spare held fuel 22 cs = some x) : ∃ a len cap ls,cs = [.slice a len cap] /\ NdsAt w a len cap ls /\ (a = none -> cap = 0) := by
 obtain ⟨a,len,cap,ls,e,hn⟩ := open_nodes h
 refine ⟨a,len,cap,ls,e,hn,fun ha => ?_⟩
 rcases Go.Deep.open_slice Tryz.underlying22 h with ⟨hcs,_⟩ | ⟨a',len',cap',m,n,D,Pl,hcs,_⟩
 ·rw [e] at hcs
  simp at hcs
  exact hcs.2.2
 ·rw [e] at hcs
  simp at hcs
  rw [ha] at hcs
  exact absurd hcs.1 (by simp)
theorem open_map {H : Type} {enc : TypeId × Value -> H} {w : World} {base : Nat} {spare : Nat -> Bool} {held : Bool} {fuel : Nat} {c0 c1 c2 c3 c4 c5 c6 : Value} {x : DataW H × List MemPlace} (h : DataW.trod enc Tryz.prog w base spare held fuel 26 [c0,c1,c2,c3,c4,c5,c6] = some x) : ∃ m s,[c0,c1,c2,c3,c4,c5,c6] = mapCells m s /\ MapAt w m s := by
 obtain ⟨y0,y1,y2,y3,y4,y5,y6,n,h0,h1,h2,h3,h4,h5,h6⟩ := trod_struct7 Tryz.underlying26 h
 simp only [cells3,cellsNs,cellsTs,cellsRs] at h0 h1 h2 h3 h4 h5 h6
 obtain ⟨s0,e0,_,z0⟩ := DataW.trod_int Tryz.underlying3 h0
 obtain ⟨s1,e1,_,z1⟩ := DataW.trod_int Tryz.underlying3 h1
 obtain ⟨s2,e2,_,z2⟩ := DataW.trod_int Tryz.underlying3 h2
 obtain ⟨s3,e3,_,z3⟩ := DataW.trod_int Tryz.underlying3 h3
 obtain ⟨aN,lN,cN,nds,e4,hN,hn0⟩ := open_nodes0 h4
 obtain ⟨aT,lT,cT,tms,e5,hT⟩ := open_tms h5
 obtain ⟨aR,lR,cR,trs,e6,hR⟩ := open_trs h6
 simp at e0 e1 e2 e3 e4 e5 e6
 exact ⟨⟨s0,s1,s2,s3,nds,tms,trs⟩,⟨aN,lN,cN,aT,lT,cT,aR,lR,cR⟩,by rw [e0,e1,e2,e3,e4,e5,e6]; rfl,hN,hn0,hT,hR⟩
set_option maxRecDepth 60000 in
theorem open_mapv {H : Type} {enc : TypeId × Value -> H} {w : World} {base : Nat} {spare : Nat -> Bool} {held : Bool} {r : Reach} {b0 : Nat} {v : Value} {d : DataW H} {p : List MemPlace} (hv : Value.okWide Tryz.prog w r b0 26 v) (h : DataW.Trod enc Tryz.prog w base spare held 26 v d p) :
  ∃ m s,v = .agg (mapCells m s).toArray /\ MapAt w m s := by
 obtain ⟨cs,rfl,hs⟩ := okWide_struct Tryz.underlying26 hv
 obtain ⟨fuel,hf⟩ := h
 rw [cellsMp] at hs
 obtain ⟨l⟩ := cs
 match l,hs with
 | [c0,c1,c2,c3,c4,c5,c6],_ =>
  obtain ⟨m,s,e,hm⟩ := open_map (by simpa [Value.cells] using hf)
  exact ⟨m,s,by rw [<- e],hm⟩
end Go.Proofs.YtcncbjknfcjnmaaGreat.Tp
namespace Go.Proofs.YtcncbjknfcjnmaaGreat.Tp
open Go.ChangeShapes Go.WideShapes Go.ChangeAt Go.RowKit
structure Dl where
 k : Int
 id : Int
 zn : Int
 rk : Int
 wt : Int
 g : Int
 ns : List Int
def dl0 : Dl := ⟨0,0,0,0,0,0,[]⟩
def dlCells (d : Dl) (a : Option Addr) (len cap : Nat) : List Value := [.int .i64 d.k,.int .i64 d.id,.int .i64 d.zn,.int .i64 d.rk,.int .i64 d.wt,.int .i64 d.g,.slice a len cap]
def DlAt (w : World) (b o : Nat) (x : Dl) : Prop := (w.cell? ⟨b,o,none⟩ = some (.int .i64 x.k) /\ w.cell? ⟨b,o + 1,none⟩ = some (.int .i64 x.id) /\ w.cell? ⟨b,o + 2,none⟩ = some (.int .i64 x.zn) /\ w.cell? ⟨b,o + 3,none⟩ = some (.int .i64 x.rk) /\ w.cell? ⟨b,o + 4,none⟩ = some (.int .i64 x.wt) /\ w.cell? ⟨b,o + 5,none⟩ = some (.int .i64 x.g)) /\ ∃ a len cap,w.cell? ⟨b,o + 6,none⟩ = some (.slice a len cap) /\ RowI w a len cap x.ns
theorem DlAt.below {w w' : World} {b o : Nat} {x : Dl} (h : DlAt w b o x) (hb : Below w.heap.size w w') : DlAt w' b o x := by
 obtain ⟨⟨h0,h1,h2,h3,h4,h5⟩,a,len,cap,h6,hr⟩ := h
 have hlt : b < w.heap.size := World.block_lt_of_cell? w ⟨b,o,none⟩ h0
 exact ⟨⟨(hb.cell (p := ⟨b,o,none⟩) hlt).trans h0,(hb.cell (p := ⟨b,o + 1,none⟩) hlt).trans h1,(hb.cell (p := ⟨b,o + 2,none⟩) hlt).trans h2,(hb.cell (p := ⟨b,o + 3,none⟩) hlt).trans h3,(hb.cell (p := ⟨b,o + 4,none⟩) hlt).trans h4,(hb.cell (p := ⟨b,o + 5,none⟩) hlt).trans h5⟩,a,len,cap,(hb.cell (p := ⟨b,o + 6,none⟩) hlt).trans h6,hr.below hb⟩
def DlsAt (w : World) (a : Option Addr) (len cap : Nat) (ls : List Dl) : Prop :=
 ls.length = len /\ len <= cap /\ cap <= maxLen /\ (a = none -> cap = 0) /\ (len = 0 ∨ ∃ b off,a = some ⟨b,off,none⟩ /\ ∀ i,i < len -> DlAt w b (off + i * 7) (ls.getD i dl0))
theorem DlsAt.below {w w' : World} {a : Option Addr} {len cap : Nat} {ls : List Dl} (h : DlsAt w a len cap ls) (hb : Below w.heap.size w w') : DlsAt w' a len cap ls := by
 refine ⟨h.1,h.2.1,h.2.2.1,h.2.2.2.1,?_⟩
 rcases h.2.2.2.2 with h0 | ⟨b,off,e,hc⟩
 ·exact .inl h0
 ·exact .inr ⟨b,off,e,fun i hi => (hc i hi).below hb⟩
theorem DlsAt.some {w : World} {a : Option Addr} {len cap : Nat} {ls : List Dl} (h : DlsAt w a len cap ls) (h0 : 0 < len) :
  ∃ b off,a = Option.some ⟨b,off,none⟩ /\ b < w.heap.size /\ ∀ i,i < len -> DlAt w b (off + i * 7) (ls.getD i dl0) := by
 rcases h.2.2.2.2 with h | ⟨b,off,e,h⟩
 ·omega
 ·exact ⟨b,off,e,World.block_lt_of_cell? w ⟨b,off + 0 * 7,none⟩ (h 0 h0).1.1,h⟩
theorem DlsAt.nil (w : World) : DlsAt w none 0 0 [] := ⟨rfl,Nat.le_refl _,Nat.zero_le _,fun _ => rfl,.inl rfl⟩
theorem cellsDl : Tryz.prog.cellsOf 37 = 7 := by kernel_rfl
theorem open_dl {H : Type} {enc : TypeId × Value -> H} {w : World} {base : Nat} {spare : Nat -> Bool} {held : Bool} {fuel : Nat} {c0 c1 c2 c3 c4 c5 c6 : Value} {x : DataW H × List MemPlace} (h : DataW.trod enc Tryz.prog w base spare held fuel 37 [c0,c1,c2,c3,c4,c5,c6] = some x) : ∃ d a len cap,[c0,c1,c2,c3,c4,c5,c6] = dlCells d a len cap /\ RowI w a len cap d.ns := by
 obtain ⟨y0,y1,y2,y3,y4,y5,y6,n,h0,h1,h2,h3,h4,h5,h6⟩ := trod_struct7 Tryz.underlying37 h
 simp only [cells3,cellsIs] at h0 h1 h2 h3 h4 h5 h6
 obtain ⟨s0,e0,_,z0⟩ := DataW.trod_int Tryz.underlying3 h0
 obtain ⟨s1,e1,_,z1⟩ := DataW.trod_int Tryz.underlying3 h1
 obtain ⟨s2,e2,_,z2⟩ := DataW.trod_int Tryz.underlying3 h2
 obtain ⟨s3,e3,_,z3⟩ := DataW.trod_int Tryz.underlying3 h3
 obtain ⟨s4,e4,_,z4⟩ := DataW.trod_int Tryz.underlying3 h4
 obtain ⟨s5,e5,_,z5⟩ := DataW.trod_int Tryz.underlying3 h5
 obtain ⟨a,len,cap,ls,e6,hr⟩ := open_rowI h6
 simp at e0 e1 e2 e3 e4 e5 e6
 exact ⟨⟨s0,s1,s2,s3,s4,s5,ls⟩,a,len,cap,by rw [e0,e1,e2,e3,e4,e5,e6]; rfl,hr⟩
theorem open_dls {H : Type} {enc : TypeId × Value -> H} {w : World} {base : Nat} {spare : Nat -> Bool} {held : Bool} {fuel : Nat} {cs : List Value} {x : DataW H × List MemPlace} (h : DataW.trod enc Tryz.prog w base spare held fuel 42 cs = some x) : ∃ a len cap ls,cs = [.slice a len cap] /\ DlsAt w a len cap ls := by
 rcases Go.Deep.open_slice Tryz.underlying42 h with ⟨hcs,_⟩ | ⟨a,len,cap,m,n,D,Pl,hcs,_,hl,hm,hmm,_,hx⟩
 ·exact ⟨none,0,0,[],hcs,DlsAt.nil w⟩
 ·have hlm : len <= m := by rw [hmm]; split <;> omega
  have each : ∀ i,∃ l : Dl,i < len -> ∃ a' len' cap',(∀ j,j < 7 -> w.cell? ((a.add (i * 7)).add j) = (dlCells l a' len' cap')[j]?) /\ RowI w a' len' cap' l.ns := fun i => by
   by_cases hi : i < len
   ·obtain ⟨cs',h1,h2⟩ := hx i (by omega)
    rw [cellsDl] at h1
    obtain ⟨_,hlen,hc⟩ := World.cells?_some h1
    match cs',hlen with
    | [c0,c1,c2,c3,c4,c5,c6],_ =>
     obtain ⟨d,a',len',cap',e,hr⟩ := open_dl h2
     refine ⟨d,fun _ => ⟨a',len',cap',fun j hj => ?_,hr⟩⟩
     rw [<- e]
     exact hc j (by simpa using hj)
   ·exact ⟨dl0,fun h => absurd h hi⟩
  obtain ⟨f,hf⟩ := Classical.axiomOfChoice each
  refine ⟨some a,len,cap,(List.range len).map f,hcs,⟨by simp,hl,hm,nofun,?_⟩⟩
  by_cases h0 : len = 0
  ·exact .inl h0
  ·obtain ⟨b,off,spot⟩ := a
   obtain ⟨_,_,_,h1,-⟩ := hf 0 (by omega)
   have hspot : spot = none := by simpa [Addr.add] using World.cell?_spot (h1 0 (by omega))
   subst hspot
   refine .inr ⟨b,off,rfl,fun i hi => ?_⟩
   obtain ⟨a',len',cap',h2,hr⟩ := hf i hi
   rw [show ((List.range len).map f).getD i dl0 = f i by simp [hi]]
   have h3 : ∀ j,j < 7 -> w.cell? ⟨b,off + i * 7 + j,none⟩ = (dlCells (f i) a' len' cap')[j]? := fun j hj => by
    have := h2 j hj
    rw [addr_add,addr_add] at this
    exact this
   exact ⟨⟨h3 0 (by omega),h3 1 (by omega),h3 2 (by omega),h3 3 (by omega),h3 4 (by omega),h3 5 (by omega)⟩,a',len',cap',h3 6 (by omega),hr⟩
set_option maxRecDepth 60000 in
theorem open_deltasv {H : Type} {enc : TypeId × Value -> H} {w : World} {base : Nat} {spare : Nat -> Bool} {held : Bool} {r : Reach} {b0 : Nat} {v : Value} {d : DataW H} {p : List MemPlace} (hv : Value.okWide Tryz.prog w r b0 42 v) (h : DataW.Trod enc Tryz.prog w base spare held 42 v d p) :
  ∃ a len cap ls,v = .slice a len cap /\ DlsAt w a len cap ls := by
 obtain ⟨a,len,cap,rfl⟩ := okWide_slice Tryz.underlying42 hv
 obtain ⟨fuel,hf⟩ := h
 obtain ⟨a',len',cap',ms,e,hm⟩ := open_dls hf
 simp [Value.cells] at e
 obtain ⟨rfl,rfl,rfl⟩ := e
 exact ⟨_,_,_,ms,rfl,hm⟩
end Go.Proofs.YtcncbjknfcjnmaaGreat.Tp
