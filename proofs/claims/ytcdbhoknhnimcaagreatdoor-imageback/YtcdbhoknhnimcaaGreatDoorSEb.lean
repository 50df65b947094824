import Derived.Test.YtcdbhoknhnimcaaGreatDoorSUa
import Derived.Test.YtcdbhoknhnimcaaGreatDoorSCe2
import Derived.Test.YtcdbhoknhnimcaaGreatDoorSPsets
import Derived.Maps.AppendAt
import Derived.Deep.RegionLaw
import Derived.Deep.AppendLies
set_option maxRecDepth 100000
set_option maxHeartbeats 2000000
namespace Go.Proofs.YtcdbhoknhnimcaaGreatDoor
section
open Go.RowKit Px
namespace Ew
open Px.Em (Kd Vr)
open Nx (Nt Sp)
structure bV (P:Nat->Prop) (w w':World):Prop where
 os:w'.os=w.os
 tape:w'.tape=w.tape
 output:w'.output=w.output
 size:w.heap.size≤w'.heap.size
 block:∀b,b<w.heap.size->¬P b->w'.heap[b]?=w.heap[b]?
def Up (P:Nat->Prop) (w w':World) (b:Nat):Prop:=P b\/w.heap.size≤b/\b<w'.heap.size
section
variable {P Q A:Nat->Prop}{w w' w'':World}
theorem bV.refl (P:Nat->Prop) (w:World):bV P w w:=⟨rfl,rfl,rfl,Nat.le_refl _,fun _ _ _=>rfl⟩
theorem bV.trans (h:bV P w w') (k:bV Q w' w'') (hQ:∀b,b<w.heap.size->Q b->P b):bV P w w'':=
 ⟨k.os.trans h.os,k.tape.trans h.tape,k.output.trans h.output,Nat.le_trans h.size k.size,fun b hb hp=>(k.block b (Nat.lt_of_lt_of_le hb h.size) (fun hq=>hp (hQ b hb hq))).trans (h.block b hb hp)⟩
theorem bV.up (h:bV P w w') (k:bV (Up P w w') w' w''):bV P w w'':=h.trans k fun b hb hq=>hq.elim id fun h=>absurd h.1 (by omega)
theorem Up.size (h:w'.heap.size≤w''.heap.size):∀b,Up P w w' b->Up P w w'' b:=fun b hb=>hb.elim .inl fun hb=>.inr ⟨hb.1,by omega⟩
theorem Up.up (h:w.heap.size≤w'.heap.size) (h':w'.heap.size≤w''.heap.size):∀b,Up (Up P w w') w' w'' b->Up P w w'' b:=fun b hb=>by
 rcases hb with (hb|hb)|hb
 ·exact .inl hb
 ·exact .inr ⟨hb.1,by omega⟩
 ·exact .inr ⟨by omega,hb.2⟩
theorem bV.of_below (h:Below w.heap.size w w'):bV P w w':=⟨h.os,h.tape,h.output,h.size,fun b hb _=>h.block b hb⟩
theorem bV.alloc (h:bV P w w') (o:Obj):bV P w (w'.alloc o):=
 ⟨h.os,h.tape,h.output,by simp;have:=h.size;omega,fun b hb hp=>by rw[Below.heap_alloc _ _ _ (Nat.lt_of_lt_of_le hb h.size)];exact h.block b hb hp⟩
theorem bV.setCell (h:bV P w w') {p:Addr}(hp:P p.block\/w.heap.size≤p.block) (u:Value):bV P w (w'.setCell p u):=
 ⟨h.os,h.tape,h.output,by simp[World.setCell];exact h.size,fun b hb hb'=>by rw[Below.heap_setCell _ _ _ _ (fun e=>by rcases hp with hp|hp;exact hb' (e▸hp);omega)];exact h.block b hb hb'⟩
theorem bV.grown {r:Option Nat}(h:bV P w w') (hg:w'.grownBy w'' r) (hr:∀b,r=some b->P b\/w.heap.size≤b):bV P w w'':=
 ⟨hg.os.trans h.os,hg.tape.trans h.tape,hg.output.trans h.output,Nat.le_trans h.size hg.size,fun b hb hp=>by
  rw[hg.block b (Nat.lt_of_lt_of_le hb h.size) (fun e=>by rcases hr b e.symm with h|h;exact hp h;omega)];exact h.block b hb hp⟩
theorem bV.drew (h:bV P w w'):bV P w w'.drew:=⟨h.os,h.tape,h.output,h.size,h.block⟩
theorem bV.keep (h:bV P w w') (hA:∀b,A b->¬P b):bD A A w w':=fun b ha hb=>⟨ha,h.block b hb (hA b ha)⟩
theorem bV.cell (h:bV P w w') {a:Addr}{v:Value}(hc:w.cell? a=some v) (hp:¬P a.block):w'.cell? a=some v:=by
 rw[World.cell?_of_block (w:=w) (h.block a.block (World.block_lt_of_cell? w a hc) hp)];exact hc
theorem bV.heap (h:bV P w w') {b:Nat}{o:Obj}(hb:w.heap[b]?=some o) (hp:¬P b):w'.heap[b]?=some o:=by rw[h.block b (aB hb) hp];exact hb
theorem bV.below (h:bV P w w') {B:Nat}(hB:B≤w.heap.size) (hP:∀b,P b->B≤b):Below B w w':=⟨h.os,h.tape,h.output,h.size,fun b hb=>h.block b (by omega) fun hp=>by have:=hP b hp;omega⟩
end
theorem eN (w:World) (l:List Value) (t:TypeId):∀j u,l[j]?=some u->(w.alloc (.cells l.toArray t)).cell? ((⟨w.heap.size,0,none⟩:Addr).add j)=some u:=by
 intro j u hj
 have hk:=bF w (.cells l.toArray t)
 have e:(⟨w.heap.size,0,none⟩:Addr).add j=⟨w.heap.size,j,none⟩:=by unfold Addr.add;split<;>simp_all
 rw[e]
 exact aA hk j (by simpa using hj)
def tM (s:Sp):List Value:=[.int .i64 s.code,.int .i64 s.dst,.int .i64 s.a,.int .i64 s.b,.int .i64 s.c]
def Dg:Nat->TypeId
 | 1=>2
 | 5=>2
 | 6=>39
 | _=>3
def Dh:Nat->Nat
 | 6=>5
 | _=>1
def pH (n:Nt):Nat->List Value
 | 1=>n.first.map (Value.int .i64)
 | 2=>n.ins.map (Value.int .i64)
 | 3=>n.outs.map (Value.int .i64)
 | 4=>n.keeps.map (Value.int .i64)
 | 5=>n.nums.map (Value.int .i64)
 | 6=>n.code.flatMap tM
 | _=>[]
def nT (n:Nt):Nat->Nat
 | 1=>n.first.length
 | 2=>n.ins.length
 | 3=>n.outs.length
 | 4=>n.keeps.length
 | 5=>n.nums.length
 | 6=>n.code.length
 | _=>0
structure Cv where
 v:Nat->Value
 mv:Nat
 mn:Nat
 nv:Nat
 nn:Nat
 role:Nat->Nat
def Cv.cells (c:Cv) (p:Int):List Value:=[.int .i64 p,c.v 1,c.v 2,c.v 3,c.v 4,c.v 5,c.v 6,.map (some c.mv),.map (some c.mn)]
def Cv.withRow (c:Cv) (i:Nat) (v:Value):Cv:={ c with v:=fun j=>if j=i then v else c.v j,role:=fun b=>if v.ownBlock=some b then i else c.role b }
def Av (v:Vr):Value:=.agg #[.int .i64 v.now,.int .i64 v.was,.int .i64 v.first]
def Ci:Vr:=⟨0,0,0⟩
structure CM (P:Nat->Prop) (w:World) (kb:Nat) (k:Kd) (c:Cv):Prop where
 hk:w.heap[kb]?=some (.cells (c.cells k.net.places).toArray 168 (0,0))
 row:∀i,1≤i->i≤6->w.ownsRow 0 (Dg i) (Dh i) (c.v i) (nT k.net i) (pH k.net i)
 hv:∃f,Gm.Mp Tryz.prog 9 w c.mv c.nv f/\∀s:bA,(f (.string s)).getD (Av Ci)=Av (k.vars s)
 hn:∃f,Gm.Mp Tryz.prog 2 w c.mn c.nn f/\∀x:Int,f (.int .i64 x)=(k.nums x).map (Value.int .i64)
 p0:P kb/\c.role kb=0
 pr:∀i g,1≤i->i≤6->(c.v i).ownBlock=some g->P g/\c.role g=i
 pv:P c.mv/\c.role c.mv=7
 pn:P c.mn/\c.role c.mn=8
 nv:c.nv≤k.net.first.length
 nn:c.nn≤k.net.nums.length
 mvk:c.mv+2=kb
def wG (ns:List bA) (k:Kd):Nat:=(ns.filter fun s=>decide ((k.vars s).was=-1)).length
structure pW (E:Nat) (ns:List bA) (k:Kd):Prop where
 len:k.net.places=k.net.first.length
 pot:k.net.first.length+wG ns k≤k.net.code.length+E
 code:k.net.code.length≤4000
 keeps:k.net.keeps.length≤k.net.first.length
 ins:k.net.ins.length≤k.net.first.length
 outs:k.net.outs.length≤k.net.first.length
 nums:k.net.nums.length≤k.net.code.length
 e:E≤1000000
 nf:∀x∈k.net.first,gQ x
 nn:∀x∈k.net.nums,gQ x
 vf:∀s,gQ (k.vars s).first
 out:∀s,s∉ns->(k.vars s).was≠-1
def dZ (E:Nat) (ns:List bA) (P:Nat->Prop) (w:World) (kb:Nat) (k:Kd):Prop:=(∃c,CM P w kb k c)/\pW E ns k/\∀b,P b->b<w.heap.size
section
variable {P Q:Nat->Prop}{w w':World}{kb:Nat}{k:Kd}{c:Cv}
theorem CM.carry (h:CM P w kb k c) (hK:bD P Q w w'):CM Q w' kb k c:=by
 obtain ⟨fv,hv1,hv2⟩:=h.hv
 obtain ⟨fn,hn1,hn2⟩:=h.hn
 have k0:=hK kb h.p0.1 (aB h.hk)
 have kv:=hK c.mv h.pv.1 hv1.lt
 have kn:=hK c.mn h.pn.1 hn1.lt
 refine ⟨by rw[k0.2];exact h.hk,fun i h1 h6=>fF (h.row i h1 h6) (fun g hg=>(h.pr i g h1 h6 hg).1) hK,⟨fv,hv1.keep kv.2,hv2⟩,⟨fn,hn1.keep kn.2,hn2⟩,⟨k0.1,h.p0.2⟩,fun i g h1 h6 hg=>?_,⟨kv.1,h.pv.2⟩,⟨kn.1,h.pn.2⟩,h.nv,h.nn,h.mvk⟩
 have:=h.pr i g h1 h6 hg
 exact ⟨(hK g this.1 ((h.row i h1 h6).lt g hg).2).1,this.2⟩
theorem CM.mono (h:CM P w kb k c) (hQ:∀b,P b->Q b):CM Q w kb k c:=h.carry fun b hb _=>⟨hQ b hb,rfl⟩
theorem CM.below (h:CM P w kb k c) (hb:Below w.heap.size w w'):CM P w' kb k c:=h.carry fun b hp hl=>⟨hp,hb.block b hl⟩
theorem dZ.below {E:Nat}{ns:List bA}(h:dZ E ns P w kb k) (hb:Below w.heap.size w w'):dZ E ns P w' kb k:=⟨h.1.imp fun _ h=>h.below hb,h.2.1,fun b hp=>Nat.lt_of_lt_of_le (h.2.2 b hp) hb.size⟩
theorem dZ.mono {E:Nat}{ns:List bA}(h:dZ E ns P w kb k) (hQ:∀b,P b->Q b) (hl:∀b,Q b->b<w.heap.size):dZ E ns Q w kb k:=⟨h.1.imp fun _ h=>h.mono hQ,h.2.1,hl⟩
theorem gZ (h:∀b,P b->b<w.heap.size) (hs:w.heap.size≤w'.heap.size):∀b,Up P w w' b->b<w'.heap.size:=fun b hb=>by
 rcases hb with hb|hb
 ·have:=h b hb;omega
 ·exact hb.2
theorem dZ.up {E:Nat}{ns:List bA}{w'':World}(h:dZ E ns (Up (Up P w w') w' w'') w'' kb k) (hP:∀b,P b->b<w.heap.size) (h1:w.heap.size≤w'.heap.size) (h2:w'.heap.size≤w''.heap.size):dZ E ns (Up P w w'') w'' kb k:=h.mono (Up.up h1 h2) (gZ hP (Nat.le_trans h1 h2))
theorem CM.cell (h:CM P w kb k c) (j:Nat) {u:Value}(hj:(c.cells k.net.places).toArray[j]?=some u):w.cell? ⟨kb,j,none⟩=some u:=aA h.hk j hj
theorem aX7 (c:Cv) (p:Int) {i:Nat}(h1:1≤i) (h6:i≤6) (v:Value):(c.cells p).set i v=(c.withRow i v).cells p:=by
 obtain rfl|rfl|rfl|rfl|rfl|rfl:i=1\/i=2\/i=3\/i=4\/i=5\/i=6:=by omega
 all_goals simp[Cv.cells,Cv.withRow]
theorem CM.grow (h:CM P w kb k c) {i:Nat}(h1:1≤i) (h6:i≤6) {w0 w5:World}{v5:Value}{new:List Value}{n5:Nt}(hw:Below w.heap.size w w0)
    (hown:w5.ownsRow 0 (Dg i) (Dh i) v5 (nT k.net i+1) (pH k.net i++new)) (hg:w0.grownBy w5 (c.v i).ownBlock) (hat:v5.ownBlock=(c.v i).ownBlock\/v5.ownBlock=some w0.heap.size)
    (hp:n5.places=k.net.places) (hx:∀j,j≠i->pH n5 j=pH k.net j/\nT n5 j=nT k.net j) (hxi:pH n5 i=pH k.net i++new/\nT n5 i=nT k.net i+1) :
    CM (Up P w (w5.setCell ⟨kb,i,none⟩ v5)) (w5.setCell ⟨kb,i,none⟩ v5) kb { k with net:=n5 } (c.withRow i v5)/\bV P w (w5.setCell ⟨kb,i,none⟩ v5):=by
 obtain ⟨fv,hv1,hv2⟩:=h.hv
 obtain ⟨fn,hn1,hn2⟩:=h.hn
 have hs:=hw.size
 have l0:=aB h.hk
 have ne:∀b,b<w.heap.size->c.role b≠i->v5.ownBlock≠some b:=fun b hb hr e=>by
  rcases hat with h'|h'
  ·exact hr (h.pr i b h1 h6 (h'.symm.trans e)).2
  ·rw[e] at h';injection h' with h';omega
 have no:∀b,c.role b≠i->(c.v i).ownBlock≠some b:=fun b hr e=>hr (h.pr i b h1 h6 e).2
 have kp:∀b,b<w.heap.size->b≠kb->c.role b≠i->(w5.setCell ⟨kb,i,none⟩ v5).heap[b]?=w.heap[b]?:=fun b hb hk hr=>by
  rw[Below.heap_setCell _ _ _ _ hk,hg.block b (by omega) (fun e=>no b hr e.symm),hw.block b hb]
 have k5:w5.heap[kb]?=w.heap[kb]?:=by rw[hg.block kb (by omega) (fun e=>no kb (by rw[h.p0.2];omega) e.symm),hw.block kb l0]
 have r':∀b,v5.ownBlock≠some b->(c.withRow i v5).role b=c.role b:=fun b hb=>if_neg hb
 have rl:∀j,nT k.net j≤nT n5 j:=fun j=>by
  by_cases hj:j=i
  ·rw[hj,hxi.2];omega
  ·rw[(hx j hj).2];exact Nat.le_refl _
 constructor
 ·refine ⟨?_,fun j j1 j6=>?_,⟨fv,hv1.keep ?_,hv2⟩,⟨fn,hn1.keep ?_,hn2⟩,⟨.inl h.p0.1,?_⟩,fun j g j1 j6 hj=>?_,⟨.inl h.pv.1,?_⟩,⟨.inl h.pn.1,?_⟩,Nat.le_trans h.nv (rl 1),Nat.le_trans h.nn (rl 5),h.mvk⟩
  ·rw[show ({ k with net:=n5 }:Kd).net.places=k.net.places from hp,<-aX7 c _ h1 h6 v5]
   exact bS (l:=c.cells k.net.places) (by rw[k5];exact h.hk) i v5
  ·by_cases hj:j=i
   ·subst hj
    show World.ownsRow _ _ _ _ (if j=j then v5 else c.v j) (nT n5 j) (pH n5 j)
    rw[if_pos rfl,hxi.1,hxi.2]
    refine fF (A:=fun b=>v5.ownBlock=some b) (A':=fun _=>True) hown (fun _ h=>h) fun b hb _=>⟨trivial,Below.heap_setCell _ _ _ _ fun e=>?_⟩
    have e:=e
    subst e
    exact ne b l0 (by rw[h.p0.2];omega) hb
   ·show World.ownsRow _ _ _ _ (if j=i then v5 else c.v j) (nT n5 j) (pH n5 j)
    rw[if_neg hj,(hx j hj).1,(hx j hj).2]
    refine fF (A:=fun b=>(c.v j).ownBlock=some b) (A':=fun _=>True) (h.row j j1 j6) (fun _ h=>h) fun b hb hl=>⟨trivial,kp b hl (fun e=>?_) ?_⟩
    ·have:=(h.pr j b j1 j6 hb).2;rw[e,h.p0.2] at this;omega
    ·rw[(h.pr j b j1 j6 hb).2];exact hj
  ·exact kp _ hv1.lt (fun e=>by have:=h.pv.2;rw[e,h.p0.2] at this;omega) (by rw[h.pv.2];omega)
  ·exact kp _ hn1.lt (fun e=>by have:=h.pn.2;rw[e,h.p0.2] at this;omega) (by rw[h.pn.2];omega)
  ·rw[r' kb (ne kb l0 (by rw[h.p0.2];omega))];exact h.p0.2
  ·by_cases hji:j=i
   ·subst hji
    have hj:v5.ownBlock=some g:=by have h':=hj;show _;simpa [Cv.withRow] using h'
    refine ⟨?_,if_pos hj⟩
    rcases hat with h'|h'
    ·exact .inl (h.pr j g h1 h6 (h'.symm.trans hj)).1
    ·rw[hj] at h';injection h' with h'
     have:=(hown.lt g hj).2
     exact .inr ⟨by omega,by simp[World.setCell];exact this⟩
   ·have hj:(c.v j).ownBlock=some g:=by have h':=hj;simpa [Cv.withRow,hji] using h'
    have:=h.pr j g j1 j6 hj
    exact ⟨.inl this.1,by rw[r' g (ne g ((h.row j j1 j6).lt g hj).2 (by rw[this.2];exact hji))];exact this.2⟩
  ·show (c.withRow i v5).role c.mv=7
   rw[r' _ (ne _ hv1.lt (by rw[h.pv.2];omega))];exact h.pv.2
  ·show (c.withRow i v5).role c.mn=8
   rw[r' _ (ne _ hn1.lt (by rw[h.pn.2];omega))];exact h.pn.2
 ·exact ((bV.of_below hw).grown hg fun b hb=>.inl (h.pr i b h1 h6 hb).1).setCell (.inl h.p0.1) _
theorem CM.setP (h:CM P w kb k c) (p:Int):CM P (w.setCell ⟨kb,0,none⟩ (.int .i64 p)) kb { k with net:={ k.net with places:=p } } c/\bV P w (w.setCell ⟨kb,0,none⟩ (.int .i64 p)):=by
 obtain ⟨fv,hv1,hv2⟩:=h.hv
 obtain ⟨fn,hn1,hn2⟩:=h.hn
 have kp:∀b,b≠kb->(w.setCell ⟨kb,0,none⟩ (.int .i64 p)).heap[b]?=w.heap[b]?:=fun b hb=>Below.heap_setCell _ _ _ _ hb
 refine ⟨⟨bS (l:=c.cells k.net.places) h.hk 0 _,fun j j1 j6=>?_,⟨fv,hv1.keep (kp _ fun e=>?_),hv2⟩,⟨fn,hn1.keep (kp _ fun e=>?_),hn2⟩,h.p0,h.pr,h.pv,h.pn,h.nv,h.nn,h.mvk⟩,(bV.refl _ _).setCell (.inl h.p0.1) _⟩
 ·have e1:pH { k.net with places:=p } j=pH k.net j:=by unfold pH;split<;>rfl
  have e2:nT { k.net with places:=p } j=nT k.net j:=by unfold nT;split<;>rfl
  show World.ownsRow _ _ _ _ _ (nT { k.net with places:=p } j) (pH { k.net with places:=p } j)
  rw[e1,e2]
  refine fF (A:=fun b=>(c.v j).ownBlock=some b) (A':=fun _=>True) (h.row j j1 j6) (fun _ h=>h) fun b hb _=>⟨trivial,kp b fun e=>?_⟩
  have:=(h.pr j b j1 j6 hb).2;rw[e,h.p0.2] at this;omega
 ·have:=h.pv.2;rw[e,h.p0.2] at this;omega
 ·have:=h.pn.2;rw[e,h.p0.2] at this;omega
theorem CM.setV (h:CM P w kb k c) {f:Lit->Option Value}{n':Nat}{vars':bA->Vr}(hm:Gm.Mp Tryz.prog 9 w' c.mv n' f) (hf:∀s:bA,(f (.string s)).getD (Av Ci)=Av (vars' s)) (hg:w.grownBy w' (some c.mv)) (hn':n'≤k.net.first.length) :
    CM P w' kb { k with vars:=vars' } { c with nv:=n' }/\bV P w w':=by
 obtain ⟨fn,hn1,hn2⟩:=h.hn
 have kp:∀b,b<w.heap.size->b≠c.mv->w'.heap[b]?=w.heap[b]?:=fun b hb hne=>hg.block b hb fun e=>hne (by injection e)
 refine ⟨⟨?_,fun j j1 j6=>?_,⟨f,hm,hf⟩,⟨fn,hn1.keep (kp _ hn1.lt fun e=>?_),hn2⟩,h.p0,h.pr,h.pv,h.pn,hn',h.nn,h.mvk⟩,(bV.refl _ _).grown hg fun b hb=>.inl (by injection hb with hb;rw[<-hb];exact h.pv.1)⟩
 ·have:=kp kb (aB h.hk) fun e=>by { have:=h.pv.2;rw[<-e,h.p0.2] at this;omega }
  rw[this];exact h.hk
 ·refine fF (A:=fun b=>(c.v j).ownBlock=some b) (A':=fun _=>True) (h.row j j1 j6) (fun _ h=>h) fun b hb hl=>⟨trivial,kp b hl fun e=>?_⟩
  have:=(h.pr j b j1 j6 hb).2;rw[e,h.pv.2] at this;omega
 ·have:=h.pn.2;rw[e,h.pv.2] at this;omega
theorem CM.setN (h:CM P w kb k c) {f:Lit->Option Value}{n':Nat}{nums':Int->Option Int}(hm:Gm.Mp Tryz.prog 2 w' c.mn n' f) (hf:∀x:Int,f (.int .i64 x)=(nums' x).map (Value.int .i64)) (hg:w.grownBy w' (some c.mn)) (hn':n'≤k.net.nums.length) :
    CM P w' kb { k with nums:=nums' } { c with nn:=n' }/\bV P w w':=by
 obtain ⟨fv,hv1,hv2⟩:=h.hv
 have kp:∀b,b<w.heap.size->b≠c.mn->w'.heap[b]?=w.heap[b]?:=fun b hb hne=>hg.block b hb fun e=>hne (by injection e)
 refine ⟨⟨?_,fun j j1 j6=>?_,⟨fv,hv1.keep (kp _ hv1.lt fun e=>?_),hv2⟩,⟨f,hm,hf⟩,h.p0,h.pr,h.pv,h.pn,h.nv,hn',h.mvk⟩,(bV.refl _ _).grown hg fun b hb=>.inl (by injection hb with hb;rw[<-hb];exact h.pn.1)⟩
 ·have:=kp kb (aB h.hk) fun e=>by { have:=h.pn.2;rw[<-e,h.p0.2] at this;omega }
  rw[this];exact h.hk
 ·refine fF (A:=fun b=>(c.v j).ownBlock=some b) (A':=fun _=>True) (h.row j j1 j6) (fun _ h=>h) fun b hb hl=>⟨trivial,kp b hl fun e=>?_⟩
  have:=(h.pr j b j1 j6 hb).2;rw[e,h.pn.2] at this;omega
 ·have:=h.pv.2;rw[e,h.pn.2] at this;omega
end
abbrev Bj:Ending:=.panicked [{ v:=.iface 94 (.int .i64 4),recovered:=false }]
def eV {α:Type}(E:Nat) (ns:List bA) (P:Nat->Prop) (kb:Nat) (w:World) (k:Kd) (o:Option (α×Kd)) (val:α->Value) (e:Ending) (w':World):Prop:=
 (e=Bj/\Hid (o=none)/\Hid (bV P w w'))\/∃a k',e=.returned (val a)/\Hid (o=some (a,k'))/\Hid (dZ E ns (Up P w w') w' kb k'/\bV P w w'/\k.net.places≤k'.net.places)
theorem bind_some {α β:Type}{m:Em.M α}{f:α->Em.M β}{k k':Kd}{a:α}(h:m k=some (a,k')):(m >>= f) k=f a k':=by
 show (m k).bind _=_
 rw[h];rfl
theorem aE {α β:Type}{m:Em.M α}{f:α->Em.M β}{k:Kd}(h:m k=none):(m >>= f) k=none:=by
 show (m k).bind _=_
 rw[h];rfl
end Ew
end
section
open Go.RowKit Px
namespace Ew
open Px.Em (Kd Vr)
open Nx (Nt Sp)
theorem bI1:(Tryz.prog.info? 2).map (fun i=>(i.zero,i.size,i.bytes))=some (some (.int .i64 0),1,8):=by kernel_rfl
theorem bI0:(Tryz.prog.info? 3).map (fun i=>(i.zero,i.size,i.bytes))=some (some (.int .i64 0),1,8):=by kernel_rfl
theorem cE3:(Tryz.prog.info? 39).map (fun i=>(i.zero,i.size,i.bytes))=some (some (.agg #[.int .i64 0,.int .i64 0,.int .i64 0,.int .i64 0,.int .i64 0]),5,40):=by kernel_rfl
def aQ (k:Kd) (x:Int):Kd:={ k with net:={ k.net with first:=k.net.first++[x],places:=k.net.places+1 } }
theorem cH3 (k:Kd) (x:Int):Em.place x k=some (k.net.places,aQ k x):=rfl
def bB (k:Kd) (p:Int):Kd:={ k with net:={ k.net with keeps:=k.net.keeps++[p] } }
theorem aM4 (k:Kd) (x:Int):Em.kept x k=some (k.net.places,bB (aQ k x) k.net.places):=rfl
def added (k:Kd) (s:Sp):Kd:={ k with net:={ k.net with code:=k.net.code++[s] } }
section
variable {P:Nat->Prop}{w:World}{kb E:Nat}{ns:List bA}{k:Kd}
theorem pW.place {x:Int}(h:pW E ns k) (hE:E<1000000) (hx:gQ x):pW (E+1) ns (aQ k x):=by
 have hl:(aQ k x).net.first.length=k.net.first.length+1:=by simp[aQ]
 have h2:=h.pot
 refine ⟨?_,?_,h.code,?_,?_,?_,h.nums,by omega,fun y hy=>?_,h.nn,h.vf,h.out⟩
 ·show k.net.places+1=_
  rw[hl,h.len];simp
 ·rw[hl];show _+wG ns k≤k.net.code.length+_;omega
 ·rw[hl];have:=h.keeps;show k.net.keeps.length≤_;omega
 ·rw[hl];have:=h.ins;show k.net.ins.length≤_;omega
 ·rw[hl];have:=h.outs;show k.net.outs.length≤_;omega
 ·rcases List.mem_append.1 hy with h'|h'
  ·exact h.nf y h'
  ·rw[List.mem_singleton.1 h'];exact hx
theorem pW.few (h:pW E ns k):k.net.first.length≤1004000:=by have:=h.pot;have:=h.code;have:=h.e;omega
theorem pW.kept {x p:Int}(h:pW E ns k) (hE:E<1000000) (hx:gQ x):pW (E+1) ns (bB (aQ k x) p):=by
 have h1:=h.place hE hx
 refine ⟨h1.len,h1.pot,h1.code,?_,h1.ins,h1.outs,h1.nums,h1.e,h1.nf,h1.nn,h1.vf,h1.out⟩
 have:=h.keeps
 simp only[bB,aQ,List.length_append,List.length_cons,List.length_nil]
 omega
theorem pW.add {E':Nat}{s:Sp}(h:pW E' ns k) (hE:E'≤E+1) (hE2:E≤1000000) (hc:k.net.code.length<4000):pW E ns (added k s):=by
 have hl:(added k s).net.code.length=k.net.code.length+1:=by simp[added]
 have h1:=h.pot
 have h2:=h.nums
 refine ⟨h.len,?_,by omega,h.keeps,h.ins,h.outs,?_,hE2,h.nf,h.nn,h.vf,h.out⟩
 ·rw[hl];show k.net.first.length+wG ns k≤_;omega
 ·rw[hl];show k.net.nums.length≤_;omega
theorem sQ {x:Int}(h:dZ E ns P w kb k) (hE:E<1000000) (hx:gQ x) :
    Calls Tryz.prog 145 #[.pointer (some ⟨kb,0,none⟩),.int .i64 x] w fun e w'=>e=.returned (.int .i64 k.net.places)/\Hid (dZ (E+1) ns (Up P w w') w' kb (aQ k x)/\bV P w w'):=by
 obtain ⟨⟨c,hc⟩,hF,hlt⟩:=h
 obtain ⟨i0,hi,hz0,hz1,hz2⟩:=info_parts bI1
 have hr:w.ownsRow 0 2 1 (c.v 1) k.net.first.length (k.net.first.map (Value.int .i64)):=hc.row 1 (by omega) (by omega)
 obtain ⟨ao,cap,e1⟩:=aL hr
 have c1:=hc.cell 1 (u:=c.v 1) rfl
 have HC:Hid (_/\_/\_):=⟨hc,hF,e1⟩
 rw[e1] at c1 hr
 have hl:=hF.few
 have hp:0≤k.net.places/\k.net.places≤1004000:=by have:=hF.len;omega
 obtain ⟨p,hpp⟩:∃p,p=k.net.places:=⟨_,rfl⟩
 have HP:Hid _:=hpp
 rw[<-hpp] at hp
 have hkk:=hc.hk
 rw[<-hpp] at hkk
 rw[<-hpp]
 obtain ⟨n,hn⟩:∃n,n=k.net.first.length:=⟨_,rfl⟩
 have HN:Hid _:=hn
 rw[<-hn] at c1 hr hl
 obtain ⟨hp0,hp1⟩:=hp
 have lkb:=aB hkk
 have HK:Hid (w.heap[kb]?=some (.cells (c.cells p).toArray 168 (0,0))/\∀g,(Value.slice ao n cap).ownBlock=some g->g≠kb):=⟨hkk,fun g hg e=>by
  have h1:=hc.pr 1 g (by omega) (by omega) (by rw[e1,<-hn];exact hg)
  rw[e,hc.p0.2] at h1;exact absurd h1.2 (by omega)⟩
 have hs1:IntKind.i64.wrap (p+1)=p+1:=by rw[IntKind.wrap_i64];omega
 have hs2:IntKind.i64.wrap (p+1-1)=p:=by rw[IntKind.wrap_i64];omega
 clear hc hF e1 hpp hn hkk
 go_enter Tryz.func145,Tryz.ntmps145
 go_wp2_with (at_builtin;refine wpList_append_own_at _ rfl (.tmp 10) (.tmp 12) 22 rfl 0 2 i0 _ 1 8 Tryz.underlying22 hi hz0 hz1 hz2 rfl (by decide) _ _ _ rfl (hr.alloc _) ⟨w.heap.size,0,none⟩ 1 1 [.int .i64 x] rfl rfl (eN _ _ _) (by intro u hu;simp at hu;subst hu;rfl) (by unfold maxLen;omega) (by omega) (by simp) ?_;intro v5 w5 hown5 hgrow _ hat;obtain ⟨a5,m5,e5⟩:=aL hown5;subst e5;have hk5:w5.heap[kb]?=some (.cells (c.cells p).toArray 168 (0,0)):=by { rw[hgrow.block kb (by simp;omega) (fun e=>(HK.out.2 kb e.symm) rfl),dR HK.out.1] };have d0:=aA hk5 0 (u:=.int .i64 p) rfl;have d1:=aA hk5 1 (u:=c.v 1) rfl;have f0:=aH hk5 0;have f1:=aH hk5 1)
 go_ret
 refine ⟨rfl,?_⟩
 obtain ⟨hC,hF,e1⟩:=HC.out
 rw[<-HN.out] at e1
 obtain ⟨g1,g2⟩:=hC.grow (i:=1) (by omega) (by omega) (w0:=w.alloc (.cells #[.int .i64 x] 2)) (n5:={ k.net with first:=k.net.first++[x] }) (aD _ _) (new:=[.int .i64 x]) (by show World.ownsRow _ _ _ _ _ (k.net.first.length+1) _;rw[<-HN.out];exact hown5) (by rw[e1];exact hgrow) (by rw[e1];exact hat) rfl (fun j hj=>by unfold pH nT;split<;>first|exact absurd rfl hj|exact ⟨rfl,rfl⟩) ⟨by simp[pH],by simp[nT]⟩
 obtain ⟨g3,g4⟩:=g1.setP (p+1)
 have e:aQ k x={ ({ k with net:={ k.net with first:=k.net.first++[x] } }:Kd) with net:={ ({ k with net:={ k.net with first:=k.net.first++[x] } }:Kd).net with places:=p+1 } }:=by rw[HP.out];rfl
 rw[<-e] at g3
 exact ⟨⟨⟨_,g3.mono (Up.size g4.size)⟩,hF.place hE hx,gZ hlt (g2.trans g4 fun b hb hq=>hq.elim id fun h=>absurd h.1 (by omega)).size⟩,g2.trans g4 fun b hb hq=>hq.elim id fun h=>absurd h.1 (by omega)⟩
theorem wM {x:Int}(h:dZ E ns P w kb k) (hE:E<1000000) (hx:gQ x) :
    Calls Tryz.prog 146 #[.pointer (some ⟨kb,0,none⟩),.int .i64 x] w fun e w'=>e=.returned (.int .i64 k.net.places)/\Hid (dZ (E+1) ns (Up P w w') w' kb (bB (aQ k x) k.net.places)/\bV P w w'):=by
 have hcall:=sQ h hE hx
 have HH:Hid (pW E ns k/\∀b,P b->b<w.heap.size):=h.2
 obtain ⟨i0,hi,hz0,hz1,hz2⟩:=info_parts bI0
 obtain ⟨p,hp⟩:∃p,p=k.net.places:=⟨_,rfl⟩
 rw[<-hp] at hcall ⊢
 clear h hp
 go_enter Tryz.func146,Tryz.ntmps146
 go_upto_region 2 with (go_at_call 145;refine hcall.mono ?_;rintro e w1 ⟨rfl,h1⟩)
 obtain ⟨⟨⟨c,hc⟩,hF,hlt⟩,hfr⟩:=h1.out
 have hr:w1.ownsRow 0 3 1 (c.v 4) (aQ k x).net.keeps.length ((aQ k x).net.keeps.map (Value.int .i64)):=hc.row 4 (by omega) (by omega)
 obtain ⟨ao,cap,e1⟩:=aL hr
 have c1:=hc.cell 4 (u:=c.v 4) rfl
 have HC:Hid (_/\_/\_):=⟨hc,e1,hfr⟩
 rw[e1] at c1 hr
 have hl:=hF.few
 have hl2:=hF.keeps
 obtain ⟨n,hn⟩:∃n,n=(aQ k x).net.keeps.length:=⟨_,rfl⟩
 have HN:Hid _:=hn
 rw[<-hn] at c1 hr hl2
 have hkk:=hc.hk
 have lkb:=aB hkk
 have HK:Hid (w1.heap[kb]?=some (.cells (c.cells (aQ k x).net.places).toArray 168 (0,0))/\∀g,(Value.slice ao n cap).ownBlock=some g->g≠kb):=⟨hkk,fun g hg e=>by
  have h1:=hc.pr 4 g (by omega) (by omega) (by rw[e1,<-hn];exact hg)
  rw[e,hc.p0.2] at h1;exact absurd h1.2 (by omega)⟩
 have hn6:n≤1004000:=by omega
 clear hc hF e1 hn hkk hl hl2 hfr h1 hcall
 go_wp2_with (at_builtin;refine wpList_append_own_at _ rfl (.tmp 14) (.tmp 16) 23 rfl 0 3 i0 _ 1 8 Tryz.underlying23 hi hz0 hz1 hz2 rfl (by decide) _ _ _ rfl (hr.alloc _) ⟨w1.heap.size,0,none⟩ 1 1 [.int .i64 p] rfl rfl (eN _ _ _) (by intro u hu;simp at hu;subst hu;rfl) (by unfold maxLen;omega) (by omega) (by simp) ?_;intro v5 w5 hown5 hgrow _ hat;obtain ⟨a5,m5,e5⟩:=aL hown5;subst e5;have hk5:w5.heap[kb]?=some (.cells (c.cells (aQ k x).net.places).toArray 168 (0,0)):=by { rw[hgrow.block kb (by simp;omega) (fun e=>(HK.out.2 kb e.symm) rfl),dR HK.out.1] };have d1:=aA hk5 4 (u:=c.v 4) rfl;have f1:=aH hk5 4)
 go_ret
 refine ⟨rfl,?_⟩
 obtain ⟨hC,e1,hfr⟩:=HC.out
 rw[<-HN.out] at e1
 obtain ⟨g1,g2⟩:=hC.grow (i:=4) (by omega) (by omega) (w0:=w1.alloc (.cells #[.int .i64 p] 3)) (n5:=(bB (aQ k x) p).net) (aD _ _) (new:=[.int .i64 p]) (by show World.ownsRow _ _ _ _ _ ((aQ k x).net.keeps.length+1) _;rw[<-HN.out];exact hown5) (by rw[e1];exact hgrow) (by rw[e1];exact hat) rfl (fun j hj=>by unfold pH nT;split<;>first|exact absurd rfl hj|exact ⟨rfl,rfl⟩) ⟨by simp[pH,bB],by simp[nT,bB]⟩
 exact ⟨⟨⟨_,g1.mono (Up.up hfr.size g2.size)⟩,HH.out.1.kept hE hx,gZ HH.out.2 (hfr.up g2).size⟩,hfr.up g2⟩
theorem H9 (s:Sp) (h:dZ E ns P w kb k) (hc:4000≤k.net.code.length) :
    Calls Tryz.prog 150 #[.pointer (some ⟨kb,0,none⟩),.agg #[.int .i64 s.code,.int .i64 s.dst,.int .i64 s.a,.int .i64 s.b,.int .i64 s.c]] w fun e w'=>e=Bj/\Hid (bV P w w'):=by
 obtain ⟨⟨c,hC⟩,hF,hlt⟩:=h
 have hr:w.ownsRow 0 39 5 (c.v 6) k.net.code.length (k.net.code.flatMap tM):=hC.row 6 (by omega) (by omega)
 obtain ⟨ao,cap,e1⟩:=aL hr
 have c1:=hC.cell 6 (u:=c.v 6) rfl
 rw[e1] at c1
 have lkb:=aB hC.hk
 have hp:∀(v:Value) (w:World),(Instr.panic (.iface 94 v)).run Tryz.prog w=.halt (.panic (.iface 94 v)) w:=fun _ _=>rfl
 have hn6:=hF.code
 obtain ⟨n,hn⟩:∃n,n=k.net.code.length:=⟨_,rfl⟩
 rw[<-hn] at c1 hc hn6
 obtain rfl:n=4000:=by omega
 clear hC hF hr e1 hn hc hn6
 go_enter Tryz.func150,Tryz.ntmps150
 go_wp2
 exact ⟨rfl,rfl,(bV.refl _ _).alloc _⟩
theorem aJ8 {E':Nat}(s:Sp) (h:dZ E' ns P w kb k) (hE:E'≤E+1) (hE2:E≤1000000) (hc:k.net.code.length<4000) :
    Calls Tryz.prog 150 #[.pointer (some ⟨kb,0,none⟩),.agg #[.int .i64 s.code,.int .i64 s.dst,.int .i64 s.a,.int .i64 s.b,.int .i64 s.c]] w fun e w'=>e=.returned (.tuple #[])/\Hid (dZ E ns (Up P w w') w' kb (added k s)/\bV P w w'):=by
 obtain ⟨i0,hi,hz0,hz1,hz2⟩:=info_parts cE3
 obtain ⟨W,hW⟩:∃W,W=w.alloc (.cells #[.int .i64 s.code,.int .i64 s.dst,.int .i64 s.a,.int .i64 s.b,.int .i64 s.c] 39):=⟨_,rfl⟩
 have hbw:Below w.heap.size w W:=by rw[hW];exact aD _ _
 have hkq:W.heap[w.heap.size]?=some (.cells #[.int .i64 s.code,.int .i64 s.dst,.int .i64 s.a,.int .i64 s.b,.int .i64 s.c] 39 (0,0)):=by rw[hW];exact bF w _
 obtain ⟨q,hq⟩:∃q,q=w.heap.size:=⟨_,rfl⟩
 rw[<-hq] at hkq
 obtain ⟨⟨c,hC⟩,hF,hlt⟩:=h
 have hC:=hC.below hbw
 have hr:W.ownsRow 0 39 5 (c.v 6) k.net.code.length (k.net.code.flatMap tM):=hC.row 6 (by omega) (by omega)
 obtain ⟨ao,cap,e1⟩:=aL hr
 have c1:=hC.cell 6 (u:=c.v 6) rfl
 have HC:Hid (CM P W kb k c/\pW E' ns k/\c.v 6=.slice ao k.net.code.length cap/\Below w.heap.size w W/\∀b,P b->b<w.heap.size):=⟨hC,hF,e1,hbw,hlt⟩
 rw[e1] at c1 hr
 obtain ⟨n,hn⟩:∃n,n=k.net.code.length:=⟨_,rfl⟩
 have HN:Hid _:=hn
 rw[<-hn] at c1 hr
 have hn4:(n:Int)<4000:=by omega
 have hkk:=hC.hk
 have lkb:=aB hkk
 have HK:Hid (W.heap[kb]?=some (.cells (c.cells k.net.places).toArray 168 (0,0))/\∀g,(Value.slice ao n cap).ownBlock=some g->g≠kb):=⟨hkk,fun g hg e=>by
  have h1:=hC.pr 6 g (by omega) (by omega) (by rw[e1,<-hn];exact hg)
  rw[e,hC.p0.2] at h1;exact absurd h1.2 (by omega)⟩
 have q0:=aA hkq 0 (u:=.int .i64 s.code) rfl
 have q1:=aA hkq 1 (u:=.int .i64 s.dst) rfl
 have q2:=aA hkq 2 (u:=.int .i64 s.a) rfl
 have q3:=aA hkq 3 (u:=.int .i64 s.b) rfl
 have q4:=aA hkq 4 (u:=.int .i64 s.c) rfl
 have HL:Hid _:=hc
 clear hC hF e1 hn hkk hbw hkq hc hlt
 go_enter Tryz.func150,Tryz.ntmps150
 go_upto_region 1 with fail
 rw[<-hW,<-hq]
 have hwq:=hq.symm
 clear hW hq
 go_wp2_with fail
 obtain ⟨V,hV⟩:∃V,V=W.alloc (.cells #[.int .i64 s.code,.int .i64 s.dst,.int .i64 s.a,.int .i64 s.b,.int .i64 s.c] 39):=⟨_,rfl⟩
 go_region_law (first
  | (refine step_append_lies _ (by rfl) (.tmp 17) (.tmp 19) 24 (by rfl) 0 39 i0 _ 5 40 Tryz.underlying24 hi hz0 hz1 hz2 rfl (by decide) (Value.slice ao n cap) n _ (by rfl) (hr.alloc _) ⟨W.heap.size,0,none⟩ 1 1 (tM s) (by rfl) (by rfl) (eN _ (tM s) _) (by intro u hu;simp[tM] at hu;rcases hu with rfl|rfl|rfl|rfl|rfl<;>rfl) (by omega) (by unfold maxLen;omega) (by omega) (by simp) (W.heap.size+1) (by simp) ?_
     intro g5 cap5 w5 hown5 hgrow hat hlt5
     have hk5:w5.heap[kb]?=some (.cells (c.cells k.net.places).toArray 168 (0,0)):=by { rw[hgrow.block kb (by simp;omega) (fun e=>(HK.out.2 kb e.symm) rfl)];exact dR HK.out.1 }
     have d1:=aA hk5 6 (u:=c.v 6) rfl
     have f1:=aH hk5 6))
 all_goals
  go_wp2_with fail
  go_end0
  obtain ⟨hC,hF,e1,hbw,hlt⟩:=HC.out
  rw[<-HN.out] at e1
  obtain ⟨g1,g2⟩:=hC.grow (i:=6) (by omega) (by omega) (n5:=(added k s).net) (w0:=(W.alloc (.cells #[.int .i64 s.code,.int .i64 s.dst,.int .i64 s.a,.int .i64 s.b,.int .i64 s.c] 39)).drew) ((aD _ _).drew) (new:=tM s) (by show World.ownsRow _ _ _ _ _ (k.net.code.length+1) _;rw[<-HN.out];exact hown5) (by rw[e1];exact hgrow) (by rw[e1];rcases hat with h|h;exact .inl h.symm;exact .inr (by rw[h];simp[Value.ownBlock])) rfl (fun j hj=>by unfold pH nT;split<;>first|exact absurd rfl hj|exact ⟨rfl,rfl⟩) ⟨by simp[pH,added],by simp[nT,added]⟩
  have hfr:bV P w _:=(bV.of_below hbw).trans g2 (fun b hb hq=>hq)
  exact ⟨rfl,⟨⟨_,g1.mono fun b hb=>hb.elim .inl fun h=>.inr ⟨by have:=hbw.size;omega,h.2⟩⟩,hF.add hE hE2 HL.out,gZ hlt hfr.size⟩,hfr⟩
theorem yV {c a b d:Int}(h:4000≤k.net.code.length):Em.made c a b d k=none:=by
 unfold Em.made
 rw[bind_some (cH3 k 0)]
 exact aE (if_pos h)
theorem yU {c a b d:Int}(h:k.net.code.length<4000):Em.made c a b d k=some (k.net.places,added (aQ k 0) ⟨c,k.net.places,a,b,d⟩):=by
 unfold Em.made
 rw[bind_some (cH3 k 0)]
 exact bind_some (if_neg (show ¬4000≤(aQ k 0).net.code.length from by show ¬4000≤k.net.code.length;omega))
theorem hJ (c a b d:Int) (h:dZ E ns P w kb k) (hE:E<1000000) :
    Calls Tryz.prog 233 #[.pointer (some ⟨kb,0,none⟩),.agg #[.int .i64 c,.int .i64 0,.int .i64 a,.int .i64 b,.int .i64 d]] w (eV E ns P kb w k (Em.made c a b d k) (Value.int .i64)):=by
 obtain ⟨W,hW⟩:∃W,W=w.alloc (.cells #[.int .i64 c,.int .i64 0,.int .i64 a,.int .i64 b,.int .i64 d] 39):=⟨_,rfl⟩
 have hbw:Below w.heap.size w W:=by rw[hW];exact aD _ _
 have hkq:W.heap[w.heap.size]?=some (.cells #[.int .i64 c,.int .i64 0,.int .i64 a,.int .i64 b,.int .i64 d] 39 (0,0)):=by rw[hW];exact bF w _
 have hcall:=sQ (x:=0) (h.below hbw) hE gQ.zero
 obtain ⟨q,hq⟩:∃q,q=w.heap.size:=⟨_,rfl⟩
 rw[<-hq] at hkq
 have HH:Hid (_/\_/\_/\_/\¬P q):=⟨hbw,h.2.2,hq.symm,hkq,fun hp=>by have:=h.2.2 q hp;omega⟩
 obtain ⟨p,hp⟩:∃p,p=k.net.places:=⟨_,rfl⟩
 have HP:Hid _:=hp
 rw[<-hp] at hcall
 clear h hbw hkq hp
 by_cases hcl:4000≤k.net.code.length
 all_goals
  go_enter Tryz.func233,Tryz.ntmps233
  go_upto_region 1 with fail
  rw[<-hW,<-hq]
  clear hW hq
  go_upto_region 2 with (go_at_call 145;refine hcall.mono ?_;rintro e w1 ⟨rfl,h1⟩;have hk1:=h1.out.2.heap HH.out.2.2.2.1 HH.out.2.2.2.2;have d1:=aA hk1 1 (u:=.int .i64 0) rfl;have f1:=aH hk1 1)
  obtain ⟨X,hX⟩:∃X,X=w1.setCell ⟨q,1,none⟩ (.int .i64 p):=⟨_,rfl⟩
  have hkx:X.heap[q]?=some (.cells #[.int .i64 c,.int .i64 p,.int .i64 a,.int .i64 b,.int .i64 d] 39 (0,0)):=by rw[hX];exact bS (l:=[.int .i64 c,.int .i64 0,.int .i64 a,.int .i64 b,.int .i64 d]) hk1 1 _
  have hUq:¬Up P W w1 q:=fun hu=>hu.elim HH.out.2.2.2.2 fun h=>by have:=aB HH.out.2.2.2.1;omega
  have hkeep:bD (Up P W w1) (Up P W w1) w1 X:=fun b hb hl=>⟨hb,by rw[hX];exact Below.heap_setCell _ _ _ _ (fun e=>hUq (by have e:b=q:=e;rw[<-e];exact hb))⟩
  have hCX:dZ (E+1) ns (Up P W w1) X kb (aQ k 0):=⟨h1.out.1.1.imp fun _ h=>h.carry hkeep,h1.out.1.2.1,fun b hb=>by rw[hX];simp[World.setCell];exact h1.out.1.2.2 b hb⟩
  rw[<-hX]
  have HX:Hid (bV P w X/\_/\_/\X.heap.size=w1.heap.size/\_):=⟨by rw[hX];exact ((bV.of_below HH.out.1).trans h1.out.2 fun _ _ h=>h).setCell (.inr (by rw[HH.out.2.2.1];exact Nat.le_refl _)) _,hkx,hUq,by rw[hX];simp[World.setCell],h1.out.2.size⟩
  have x0:=aA hkx 0 (u:=.int .i64 c) rfl
  have x1:=aA hkx 1 (u:=.int .i64 p) rfl
  have x2:=aA hkx 2 (u:=.int .i64 a) rfl
  have x3:=aA hkx 3 (u:=.int .i64 b) rfl
  have x4:=aA hkx 4 (u:=.int .i64 d) rfl
  clear hX hk1 d1 f1 hkx hUq hkeep h1 hcall
 ·have hadd:=H9 (E:=E+1) ⟨c,p,a,b,d⟩ hCX hcl
  clear hCX
  go_wp2_with (go_at_call 150;refine hadd.mono ?_;rintro e w2 ⟨rfl,h2⟩)
  exact ⟨rfl,.inl ⟨rfl,yV hcl,HX.out.1.trans h2.out fun b hb hq=>hq.elim id fun h=>absurd h.1 (by have:=HH.out.1.size;omega)⟩⟩
 ·have hadd:=aJ8 (E:=E) (E':=E+1) ⟨c,p,a,b,d⟩ hCX (Nat.le_refl _) (by omega) (by have:=hcl;show k.net.code.length<4000;omega)
  clear hCX
  go_wp2_with (go_at_call 150;refine hadd.mono ?_;rintro e w2 ⟨rfl,h2⟩;have hk2:=h2.out.2.heap HX.out.2.1 HX.out.2.2.1;have y1:=aA hk2 1 (u:=.int .i64 p) rfl)
  go_ret
  have hs:=HH.out.1.size
  have hs2:=h2.out.2.size
  have hfr:bV P w w2:=HX.out.1.trans h2.out.2 fun b hb hq=>hq.elim id fun h=>absurd h.1 (by omega)
  refine .inr ⟨p,added (aQ k 0) ⟨c,p,a,b,d⟩,rfl,?_,h2.out.1.mono (fun b hb=>?_) (gZ HH.out.2.1 hfr.size),hfr,?_⟩
  ·rw[HP.out];exact yU (by have:=hcl;omega)
  ·rcases hb with (hb|hb)|hb
   ·exact .inl hb
   ·exact .inr ⟨by omega,by have:=HX.out.2.2.2.1;omega⟩
   ·exact .inr ⟨by have:=HX.out.2.2.2;omega,hb.2⟩
  ·show k.net.places≤k.net.places+1
   omega
end
end Ew
end
end Go.Proofs.YtcdbhoknhnimcaaGreatDoor
