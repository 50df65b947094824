import Derived.Test.YthieaobjdpfcoaaGreatDoorVQa
import Derived.Test.YthieaobjdpfcoaaGreatDoorVEzh
namespace Go.Proofs.YthieaobjdpfcoaaGreatDoor
section
open Go.RowKit Px
namespace Ew
open Nx (Nt Sp eJ kK)
theorem Zi {w2:World}{c:Nat}{O b1 b2 b3 b4 b5 s a0 a1 y I a4 a5 J:Value}(hc:w2.heap[c]?=some (.cells #[O,b1,b2,b3,b4,b5,s] 26 (0,0))) {w3:World}(Q:w3=((((((w2.setCell ⟨c,0,none⟩ a0).setCell ⟨c,1,none⟩ a1).setCell ⟨c,2,none⟩ y).setCell ⟨c,3,none⟩ I).setCell ⟨c,4,none⟩ a4).setCell ⟨c,5,none⟩ a5).setCell ⟨c,6,none⟩ J) :
    w3.heap[c]?=some (.cells #[a0,a1,y,I,a4,a5,J] 26 (0,0))/\(∀k,k≠c->w3.heap[k]?=w2.heap[k]?)/\(∀B a,Below B a w2->B≤c->Below B a w3)/\w3.heap.size=w2.heap.size:=by
 have X:=cH (l:=[O,b1,b2,b3,b4,b5,s]) hc 0 a0
 have h1:=cH (l:=[a0,b1,b2,b3,b4,b5,s]) X 1 a1
 have U:=cH (l:=[a0,a1,b2,b3,b4,b5,s]) h1 2 y
 have Y:=cH (l:=[a0,a1,y,b3,b4,b5,s]) U 3 I
 have h4:=cH (l:=[a0,a1,y,I,b4,b5,s]) Y 4 a4
 have h5:=cH (l:=[a0,a1,y,I,a4,b5,s]) h4 5 a5
 have e:=cH (l:=[a0,a1,y,I,a4,a5,s]) h5 6 J
 have D:∀(W:World) (j:Nat) (u:Value) (k:Nat),k≠c->(W.setCell ⟨c,j,none⟩ u).heap[k]?=W.heap[k]?:=fun W j u k Z=>Below.heap_setCell _ _ _ _ Z
 have bl:∀(B:Nat) (a W:World) (j:Nat) (u:Value),Below B a W->B≤c->Below B a (W.setCell ⟨c,j,none⟩ u):=fun B a W j u h hB=>h.setCell (p:=⟨c,j,none⟩) hB u
 have sz:∀(W:World) (j:Nat) (u:Value),(W.setCell ⟨c,j,none⟩ u).heap.size=W.heap.size:=fun W j u=>by simp[World.setCell]
 rw[Q]
 refine ⟨e,fun k r=>?_,fun B a hb n=>?_,?_⟩
 ·rw[D _ _ _ _ r,D _ _ _ _ r,D _ _ _ _ r,D _ _ _ _ r,D _ _ _ _ r,D _ _ _ _ r,D _ _ _ _ r]
 ·exact bl _ _ _ _ _ (bl _ _ _ _ _ (bl _ _ _ _ _ (bl _ _ _ _ _ (bl _ _ _ _ _ (bl _ _ _ _ _ (bl _ _ _ _ _ hb n) n) n) n) n) n) n
 ·rw[sz,sz,sz,sz,sz,sz,sz]
theorem Nh {B:Nat}{n:Nt}{w:World}{vF vI vO vK vN vC:Value}(h:eJ B w n vF vI vO vK vN vC) (hB:B≤w.heap.size) (hr:kK n) :
 Calls Tryz.prog 21 #[.agg #[.int .i64 n.places,vF,vI,vO,vK,vN,vC]] w fun e w'=>e=.returned .nilIface/\Hid (Below w.heap.size w w'):=
 (Nx.iU B n w _ _ _ _ _ _ h hB hr.small).mono fun e w' h=>by
  obtain ⟨v,rfl,he,hb⟩:=h
  rw[Nx.Hn hr] at he
  rcases he with ⟨_,_,rfl⟩|⟨c1,_,_⟩|⟨c1,_⟩
  ·exact ⟨rfl,hb⟩
  ·exact absurd rfl c1
  ·exact absurd rfl c1
theorem yU {V:World}{b:Nat}{zs:List Int}{t:TypeId}(cap:Nat) (h:V.heap[b]?=some (.cells (zs.map (Value.int .i64)).toArray t (0,0))):Nx.bH (· < V.heap.size) V (.slice (some ⟨b,0,none⟩) zs.length cap) zs:=
 (show Nx.Own V (.slice (some ⟨b,0,none⟩) zs.length cap) zs b from ⟨_,cap,rfl,fun _=>⟨rfl,[],t,by rw[List.append_nil];exact h⟩⟩).ints fun _=>aB h
theorem Am {V:World}{A:Nat->Prop}:Nx.bH A V (.slice none 0 0) []:=⟨none,0,0,0,rfl,fun h=>absurd h (by simp),fun j hj=>absurd hj (by simp)⟩
theorem Lq {V:World}{b:Nat}{l:List Sp}{t:TypeId}(cap:Nat) (h:V.heap[b]?=some (.cells (l.flatMap rS).toArray t (0,0))):Nx.jA (· < V.heap.size) V (.slice (some ⟨b,0,none⟩) l.length cap) l:=by
 have at':∀j i,j<l.length->i<5->V.cell? ⟨b,0+j*5+i,none⟩=(rS (l.getD j Nx.eD))[i]?:=fun j i c k=>by
  rw[aX3,Nx.mR h,Tg l j i (l.getD j Nx.eD) (by rw[iO,aN4 c];rfl) k]
 exact ⟨_,b,0,cap,rfl,fun _=>⟨rfl,aB h⟩,fun j c=>⟨at' j 0 c (by omega),at' j 1 c (by omega),at' j 2 c (by omega),at' j 3 c (by omega),at' j 4 c (by omega)⟩⟩
theorem pJ {A:Nat->Prop}{V:World}{f:Option Addr}{k c:Nat}{l:List Sp}(h:Nx.jA A V (.slice f k c) l):k=l.length/\∃b off,(0<l.length->f=some ⟨b,off,none⟩)/\∀j,j<l.length->V.cell? ⟨b,off+j*5,none⟩=some (.int .i64 (l.getD j Nx.eD).code)/\V.cell? ⟨b,off+j*5+1,none⟩=some (.int .i64 (l.getD j Nx.eD).dst)/\V.cell? ⟨b,off+j*5+2,none⟩=some (.int .i64 (l.getD j Nx.eD).a)/\V.cell? ⟨b,off+j*5+3,none⟩=some (.int .i64 (l.getD j Nx.eD).b)/\V.cell? ⟨b,off+j*5+4,none⟩=some (.int .i64 (l.getD j Nx.eD).c):=by
 obtain ⟨u,b,off,cap,e,s,r⟩:=h
 injection e with e1 e2 e3
 subst e1
 exact ⟨e2,b,off,fun n=>(s n).1,r⟩
structure Bx (q:Nat) (w W:World) (n:Nt) (vF vI vO vK vN vC:Value):Prop where
 bel:Below w.heap.size w W
 hq:q=w.heap.size
 b1:W.heap[q]?=some (.cells #[.int .i64 n.places,vF,vI,vO,vK,vN,vC] 26 (0,0))
 b2:W.heap[q+1]?=some (.cells ZN 26 (0,0))
theorem Bx.next {q:Nat}{w W W':World}{n:Nt}{vF vI vO vK vN vC:Value}(h:Bx q w W n vF vI vO vK vN vC) (hb:Below (q+2) W W'):Bx q w W' n vF vI vO vK vN vC:=
 ⟨h.bel.trans (hb.mono (by have:=h.hq;omega)),h.hq,by rw[hb.block q (by omega)];exact h.b1,by rw[hb.block (q+1) (by omega)];exact h.b2⟩
theorem Bx.size {q:Nat}{w W:World}{n:Nt}{vF vI vO vK vN vC:Value}(h:Bx q w W n vF vI vO vK vN vC):q+2≤W.heap.size:=by have:=aB h.b2;omega
theorem Bx.start (w:World) (n:Nt) (h c k r l j:Value):Bx w.heap.size w ((w.alloc (.cells #[.int .i64 n.places,h,c,k,r,l,j] 26)).alloc (.cells ZN 26)) n h c k r l j:=by
 have e:(w.alloc (.cells #[.int .i64 n.places,h,c,k,r,l,j] 26)).heap.size=w.heap.size+1:=by simp
 exact ⟨aQ (aL _ _) (aL _ _),rfl,aD (aL _ _) (aX w _),by rw[<-e];exact aX _ _⟩
theorem Bx.old {q B:Nat}{w W:World}{n m:Nt}{vF vI vO vK vN vC uF uI uO uK uN uC:Value}(h:Bx q w W n vF vI vO vK vN vC) (hB:B≤w.heap.size) (hN:eJ B w m uF uI uO uK uN uC):eJ B W m uF uI uO uK uN uC:=hN.below (h.bel.mono hB) (aO4 _)
theorem Ud {w w1 w2 X:World}{q B:Nat}{N:Nt}{Y:Int}{u r O s I j:Option Addr}{D d1 l d2 n d3 J d4 y d5 k d6:Nat}{b0 b1 b2 b3 b4 b5 Z:Value}(hB:B≤q) (hq:q<w1.heap.size) (hk:w2.heap[q]?=some (.cells #[b0,b1,b2,b3,b4,b5,Z] 26 (0,0))) (hX:X=((((((w2.setCell ⟨q,0,none⟩ (.int .i64 Y)).setCell ⟨q,1,none⟩ (.slice u D d1)).setCell ⟨q,2,none⟩ (.slice r l d2)).setCell ⟨q,3,none⟩ (.slice O n d3)).setCell ⟨q,4,none⟩ (.slice s J d4)).setCell ⟨q,5,none⟩ (.slice I y d5)).setCell ⟨q,6,none⟩ (.slice j k d6)) (U:Below w.heap.size w w2) (Q:w.heap.size≤q) :
    Below w.heap.size w X/\X.heap[q]?=some (.cells #[.int .i64 Y,.slice u D d1,.slice r l d2,.slice O n d3,.slice s J d4,.slice I y d5,.slice j k d6] 26 (0,0))/\(Zx (fun x=>x<B\/w1.heap.size≤x/\x<w2.heap.size) w2 N (.slice u D d1) (.slice r l d2) (.slice O n d3) (.slice s J d4) (.slice I y d5) (.slice j k d6)->eJ X.heap.size X N (.slice u D d1) (.slice r l d2) (.slice O n d3) (.slice s J d4) (.slice I y d5) (.slice j k d6)/\kK N/\(∀x∈N.first,jF x)/\∀x∈N.nums,jF x):=by
 obtain ⟨y0,e,y2,y3⟩:=Zi hk hX
 refine ⟨y2 _ _ U Q,y0,fun c=>⟨(c.v.carry (A':=fun x=>x<X.heap.size) (w':=X) fun x hx hl=>⟨by rw[y3];exact hl,e x ?_⟩).netV fun _ h=>h,Nx.Ho c.ok,c.nf,c.nn⟩⟩
 rcases hx with hx|hx<;>omega
end Ew
end
section
namespace Nx
structure Fd where
 kn:Int->Option Int
 nums:List Int
 code:List Sp
theorem Yj {P:Int}{N:Nat}{s:Sp}(h:eA P N s=0):1≤s.code/\s.code≤17/\s.code≠3:=by
 unfold eA at h
 split at h
 ·omega
 ·omega
theorem sD {P:Int}{N:Nat}{s:Sp}(h:eA P N s=0):cR P s.dst=true/\(aN3 s).all (cR P)=true:=by
 unfold eA at h
 split at h
 ·omega
 ·split at h
  ·omega
  ·rename_i h2;exact Decidable.of_not_not h2
theorem My (nums:List Int) {cs ds:List Sp}(V:List Int) (k:Nat) (h:∀i,i<k->cs.getD i eD=ds.getD i eD):iZ nums cs V k=iZ nums ds V k:=by
 induction k with
 | zero=>rfl
 | succ k ih=>rw[iZ,iZ,ih (fun i c=>h i (by omega)),h k (by omega)]
end Nx
end
end Go.Proofs.YthieaobjdpfcoaaGreatDoor
