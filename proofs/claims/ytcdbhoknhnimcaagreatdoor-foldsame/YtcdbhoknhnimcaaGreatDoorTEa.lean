import Derived.Test.YtcdbhoknhnimcaaGreatDoorTCk2
import Derived.Test.YtcdbhoknhnimcaaGreatDoorTCe2
import Derived.Test.YtcdbhoknhnimcaaGreatDoorTCr
import Derived.Maps.OwnSet
import Derived.Test.YtcdbhoknhnimcaaGreatDoorTGm
import Derived.Test.YtcdbhoknhnimcaaGreatDoorTPsets
import Derived.Maps.AppendAt
namespace Go.Proofs.YtcdbhoknhnimcaaGreatDoor
section
open Go.RowKit
namespace Px
abbrev Ay:=bB->Int
end Px
end
section
open Go.RowKit Go.Maps Go.WideMaps Px
def eF (x:Int):Prop:=-9223372036854775808≤x/\x≤9223372036854775807
theorem eF.wf {x:Int}(h:eF x):(Lit.int .i64 x).wf=true:=by
 have e1:IntKind.i64.min=-9223372036854775808:=by decide
 have e2:IntKind.i64.max=9223372036854775807:=by decide
 unfold eF at h
 simp[Lit.wf,e1,e2]
 omega
theorem eF.zero:eF 0:=by unfold eF;omega
theorem Eu (b:Bool):eF (Ar b):=by unfold eF Ar;split<;>omega
theorem Mf (c a:Int):eF (vA c a):=by
 unfold vA
 split
 ·exact sW _
 ·split
  ·exact Eu _
  ·exact eF.zero
theorem Me {c a b:Int}(hb:eF b):eF (vZ c a b):=by
 unfold vZ
 repeat' split
 all_goals first
  | exact sW _
  | exact Eu _
  | exact eF.zero
  | skip
 ·unfold Ti;split
  ·exact eF.zero
  ·exact sW _
 ·unfold Tg;split
  ·exact eF.zero
  ·have:=Bi a b hb (by assumption)
   unfold eF
   omega
end
section
open Go.RowKit Px
namespace Ew
open Px.Em (Kd Vr)
open Nx (Nt Sp)
structure bH (P:Nat->Prop) (w w':World):Prop where
 os:w'.os=w.os
 tape:w'.tape=w.tape
 output:w'.output=w.output
 size:w.heap.size≤w'.heap.size
 block:∀b,b<w.heap.size->¬P b->w'.heap[b]?=w.heap[b]?
def Up (P:Nat->Prop) (w w':World) (b:Nat):Prop:=P b\/w.heap.size≤b/\b<w'.heap.size
section
variable {P Q A:Nat->Prop}{w w' w'':World}
theorem bH.refl (P:Nat->Prop) (w:World):bH P w w:=⟨rfl,rfl,rfl,Nat.le_refl _,fun _ _ _=>rfl⟩
theorem bH.trans (h:bH P w w') (k:bH Q w' w'') (hQ:∀b,b<w.heap.size->Q b->P b):bH P w w'':=
 ⟨k.os.trans h.os,k.tape.trans h.tape,k.output.trans h.output,Nat.le_trans h.size k.size,fun b hb hp=>(k.block b (Nat.lt_of_lt_of_le hb h.size) (fun hq=>hp (hQ b hb hq))).trans (h.block b hb hp)⟩
theorem bH.up (h:bH P w w') (k:bH (Up P w w') w' w''):bH P w w'':=h.trans k fun b hb hq=>hq.elim id fun h=>absurd h.1 (by omega)
theorem Up.size (h:w'.heap.size≤w''.heap.size):∀b,Up P w w' b->Up P w w'' b:=fun b hb=>hb.elim .inl fun hb=>.inr ⟨hb.1,by omega⟩
theorem Up.up (h:w.heap.size≤w'.heap.size) (h':w'.heap.size≤w''.heap.size):∀b,Up (Up P w w') w' w'' b->Up P w w'' b:=fun b hb=>by
 rcases hb with (hb|hb)|hb
 ·exact .inl hb
 ·exact .inr ⟨hb.1,by omega⟩
 ·exact .inr ⟨by omega,hb.2⟩
theorem bH.wide (h:bH P w w') (hQ:∀b,b<w.heap.size->P b->Q b):bH Q w w':=⟨h.os,h.tape,h.output,h.size,fun b hb hq=>h.block b hb fun hp=>hq (hQ b hb hp)⟩
theorem bH.of_below (h:Below w.heap.size w w'):bH P w w':=⟨h.os,h.tape,h.output,h.size,fun b hb _=>h.block b hb⟩
theorem bH.alloc (h:bH P w w') (o:Obj):bH P w (w'.alloc o):=
 ⟨h.os,h.tape,h.output,by simp;have:=h.size;omega,fun b hb hp=>by rw[Below.heap_alloc _ _ _ (Nat.lt_of_lt_of_le hb h.size)];exact h.block b hb hp⟩
theorem bH.setCell (h:bH P w w') {p:Addr}(hp:P p.block\/w.heap.size≤p.block) (u:Value):bH P w (w'.setCell p u):=
 ⟨h.os,h.tape,h.output,by simp[World.setCell];exact h.size,fun b hb hb'=>by rw[Below.heap_setCell _ _ _ _ (fun e=>by rcases hp with hp|hp;exact hb' (e▸hp);omega)];exact h.block b hb hb'⟩
theorem bH.grown {r:Option Nat}(h:bH P w w') (hg:w'.grownBy w'' r) (hr:∀b,r=some b->P b\/w.heap.size≤b):bH P w w'':=
 ⟨hg.os.trans h.os,hg.tape.trans h.tape,hg.output.trans h.output,Nat.le_trans h.size hg.size,fun b hb hp=>by
  rw[hg.block b (Nat.lt_of_lt_of_le hb h.size) (fun e=>by rcases hr b e.symm with h|h;exact hp h;omega)];exact h.block b hb hp⟩
theorem bH.drew (h:bH P w w'):bH P w w'.drew:=⟨h.os,h.tape,h.output,h.size,h.block⟩
theorem bH.keep (h:bH P w w') (hA:∀b,A b->¬P b):aX A A w w':=fun b ha hb=>⟨ha,h.block b hb (hA b ha)⟩
theorem bH.cell (h:bH P w w') {a:Addr}{v:Value}(hc:w.cell? a=some v) (hp:¬P a.block):w'.cell? a=some v:=by
 rw[World.cell?_of_block (w:=w) (h.block a.block (World.block_lt_of_cell? w a hc) hp)];exact hc
theorem bH.heap (h:bH P w w') {b:Nat}{o:Obj}(hb:w.heap[b]?=some o) (hp:¬P b):w'.heap[b]?=some o:=by rw[h.block b (aB hb) hp];exact hb
theorem bH.below (h:bH P w w') {B:Nat}(hB:B≤w.heap.size) (hP:∀b,P b->B≤b):Below B w w':=⟨h.os,h.tape,h.output,h.size,fun b hb=>h.block b (by omega) fun hp=>by have:=hP b hp;omega⟩
end
theorem dX (w:World) (l:List Value) (t:TypeId):∀j u,l[j]?=some u->(w.alloc (.cells l.toArray t)).cell? ((⟨w.heap.size,0,none⟩:Addr).add j)=some u:=by
 intro j u hj
 have hk:=bE w (.cells l.toArray t)
 have e:(⟨w.heap.size,0,none⟩:Addr).add j=⟨w.heap.size,j,none⟩:=by unfold Addr.add;split<;>simp_all
 rw[e]
 exact aA hk j (by simpa using hj)
def rA (s:Sp):List Value:=[.int .i64 s.code,.int .i64 s.dst,.int .i64 s.a,.int .i64 s.b,.int .i64 s.c]
def rTy:Nat->TypeId
 | 1=>2
 | 5=>2
 | 6=>39
 | _=>3
def rSz:Nat->Nat
 | 6=>5
 | _=>1
def qH (n:Nt):Nat->List Value
 | 1=>n.first.map (Value.int .i64)
 | 2=>n.ins.map (Value.int .i64)
 | 3=>n.outs.map (Value.int .i64)
 | 4=>n.keeps.map (Value.int .i64)
 | 5=>n.nums.map (Value.int .i64)
 | 6=>n.code.flatMap rA
 | _=>[]
def oV (n:Nt):Nat->Nat
 | 1=>n.first.length
 | 2=>n.ins.length
 | 3=>n.outs.length
 | 4=>n.keeps.length
 | 5=>n.nums.length
 | 6=>n.code.length
 | _=>0
structure Cv where
 v:Nat->Value
 mv:Nat
 mn:Nat
 nv:Nat
 nn:Nat
 role:Nat->Nat
def Cv.cells (c:Cv) (p:Int):List Value:=[.int .i64 p,c.v 1,c.v 2,c.v 3,c.v 4,c.v 5,c.v 6,.map (some c.mv),.map (some c.mn)]
def Cv.withRow (c:Cv) (i:Nat) (v:Value):Cv:={ c with v:=fun j=>if j=i then v else c.v j,role:=fun b=>if v.ownBlock=some b then i else c.role b }
def He (v:Vr):Value:=.agg #[.int .i64 v.now,.int .i64 v.was,.int .i64 v.first]
def vr0:Vr:=⟨0,0,0⟩
structure CM (P:Nat->Prop) (w:World) (kb:Nat) (k:Kd) (c:Cv):Prop where
 hk:w.heap[kb]?=some (.cells (c.cells k.net.places).toArray 168 (0,0))
 row:∀i,1≤i->i≤6->w.ownsRow 0 (rTy i) (rSz i) (c.v i) (oV k.net i) (qH k.net i)
 hv:∃f,Gm.Mp Tryz.prog 9 w c.mv c.nv f/\∀s:bB,(f (.string s)).getD (He vr0)=He (k.vars s)
 hn:∃f,Gm.Mp Tryz.prog 2 w c.mn c.nn f/\∀x:Int,f (.int .i64 x)=(k.nums x).map (Value.int .i64)
 p0:P kb/\c.role kb=0
 pr:∀i g,1≤i->i≤6->(c.v i).ownBlock=some g->P g/\c.role g=i
 pv:P c.mv/\c.role c.mv=7
 pn:P c.mn/\c.role c.mn=8
 nv:c.nv≤k.net.first.length
 nn:c.nn≤k.net.nums.length
 mvk:c.mv+2=kb
def xG (ns:List bB) (k:Kd):Nat:=(ns.filter fun s=>decide ((k.vars s).was=-1)).length
structure qY (E:Nat) (ns:List bB) (k:Kd):Prop where
 len:k.net.places=k.net.first.length
 pot:k.net.first.length+xG ns k≤k.net.code.length+E
 code:k.net.code.length≤4000
 keeps:k.net.keeps.length≤k.net.first.length
 ins:k.net.ins.length≤k.net.first.length
 outs:k.net.outs.length≤k.net.first.length
 nums:k.net.nums.length≤k.net.code.length
 e:E≤1000000
 nf:∀x∈k.net.first,eF x
 nn:∀x∈k.net.nums,eF x
 vf:∀s,eF (k.vars s).first
 out:∀s,s∉ns->(k.vars s).was≠-1
def eG (E:Nat) (ns:List bB) (P:Nat->Prop) (w:World) (kb:Nat) (k:Kd):Prop:=(∃c,CM P w kb k c)/\qY E ns k/\∀b,P b->b<w.heap.size
section
variable {P Q:Nat->Prop}{w w':World}{kb:Nat}{k:Kd}{c:Cv}
theorem CM.carry (h:CM P w kb k c) (hK:aX P Q w w'):CM Q w' kb k c:=by
 obtain ⟨fv,hv1,hv2⟩:=h.hv
 obtain ⟨fn,hn1,hn2⟩:=h.hn
 have k0:=hK kb h.p0.1 (aB h.hk)
 have kv:=hK c.mv h.pv.1 hv1.lt
 have kn:=hK c.mn h.pn.1 hn1.lt
 refine ⟨by rw[k0.2];exact h.hk,fun i h1 h6=>dK (h.row i h1 h6) (fun g hg=>(h.pr i g h1 h6 hg).1) hK,⟨fv,hv1.keep kv.2,hv2⟩,⟨fn,hn1.keep kn.2,hn2⟩,⟨k0.1,h.p0.2⟩,fun i g h1 h6 hg=>?_,⟨kv.1,h.pv.2⟩,⟨kn.1,h.pn.2⟩,h.nv,h.nn,h.mvk⟩
 have:=h.pr i g h1 h6 hg
 exact ⟨(hK g this.1 ((h.row i h1 h6).lt g hg).2).1,this.2⟩
theorem CM.mono (h:CM P w kb k c) (hQ:∀b,P b->Q b):CM Q w kb k c:=h.carry fun b hb _=>⟨hQ b hb,rfl⟩
theorem CM.below (h:CM P w kb k c) (hb:Below w.heap.size w w'):CM P w' kb k c:=h.carry fun b hp hl=>⟨hp,hb.block b hl⟩
theorem eG.below {E:Nat}{ns:List bB}(h:eG E ns P w kb k) (hb:Below w.heap.size w w'):eG E ns P w' kb k:=⟨h.1.imp fun _ h=>h.below hb,h.2.1,fun b hp=>Nat.lt_of_lt_of_le (h.2.2 b hp) hb.size⟩
theorem eG.mono {E:Nat}{ns:List bB}(h:eG E ns P w kb k) (hQ:∀b,P b->Q b) (hl:∀b,Q b->b<w.heap.size):eG E ns Q w kb k:=⟨h.1.imp fun _ h=>h.mono hQ,h.2.1,hl⟩
theorem fL (h:∀b,P b->b<w.heap.size) (hs:w.heap.size≤w'.heap.size):∀b,Up P w w' b->b<w'.heap.size:=fun b hb=>by
 rcases hb with hb|hb
 ·have:=h b hb;omega
 ·exact hb.2
theorem eG.up {E:Nat}{ns:List bB}{w'':World}(h:eG E ns (Up (Up P w w') w' w'') w'' kb k) (hP:∀b,P b->b<w.heap.size) (h1:w.heap.size≤w'.heap.size) (h2:w'.heap.size≤w''.heap.size):eG E ns (Up P w w'') w'' kb k:=h.mono (Up.up h1 h2) (fL hP (Nat.le_trans h1 h2))
theorem CM.cell (h:CM P w kb k c) (j:Nat) {u:Value}(hj:(c.cells k.net.places).toArray[j]?=some u):w.cell? ⟨kb,j,none⟩=some u:=aA h.hk j hj
theorem Ai (c:Cv) (p:Int) {i:Nat}(h1:1≤i) (h6:i≤6):(c.cells p).toArray[i]?=some (c.v i):=by
 obtain rfl|rfl|rfl|rfl|rfl|rfl:i=1\/i=2\/i=3\/i=4\/i=5\/i=6:=by omega
 all_goals rfl
theorem Kz (c:Cv) (p:Int) {i:Nat}(h1:1≤i) (h6:i≤6) (v:Value):(c.cells p).set i v=(c.withRow i v).cells p:=by
 obtain rfl|rfl|rfl|rfl|rfl|rfl:i=1\/i=2\/i=3\/i=4\/i=5\/i=6:=by omega
 all_goals simp[Cv.cells,Cv.withRow]
theorem CM.grow (h:CM P w kb k c) {i:Nat}(h1:1≤i) (h6:i≤6) {w0 w5:World}{v5:Value}{new:List Value}{n5:Nt}(hw:Below w.heap.size w w0)
    (hown:w5.ownsRow 0 (rTy i) (rSz i) v5 (oV k.net i+1) (qH k.net i++new)) (hg:w0.grownBy w5 (c.v i).ownBlock) (hat:v5.ownBlock=(c.v i).ownBlock\/v5.ownBlock=some w0.heap.size)
    (hp:n5.places=k.net.places) (hx:∀j,j≠i->qH n5 j=qH k.net j/\oV n5 j=oV k.net j) (hxi:qH n5 i=qH k.net i++new/\oV n5 i=oV k.net i+1) :
    CM (Up P w (w5.setCell ⟨kb,i,none⟩ v5)) (w5.setCell ⟨kb,i,none⟩ v5) kb { k with net:=n5 } (c.withRow i v5)/\bH P w (w5.setCell ⟨kb,i,none⟩ v5):=by
 obtain ⟨fv,hv1,hv2⟩:=h.hv
 obtain ⟨fn,hn1,hn2⟩:=h.hn
 have hs:=hw.size
 have l0:=aB h.hk
 have ne:∀b,b<w.heap.size->c.role b≠i->v5.ownBlock≠some b:=fun b hb hr e=>by
  rcases hat with h'|h'
  ·exact hr (h.pr i b h1 h6 (h'.symm.trans e)).2
  ·rw[e] at h';injection h' with h';omega
 have no:∀b,c.role b≠i->(c.v i).ownBlock≠some b:=fun b hr e=>hr (h.pr i b h1 h6 e).2
 have kp:∀b,b<w.heap.size->b≠kb->c.role b≠i->(w5.setCell ⟨kb,i,none⟩ v5).heap[b]?=w.heap[b]?:=fun b hb hk hr=>by
  rw[Below.heap_setCell _ _ _ _ hk,hg.block b (by omega) (fun e=>no b hr e.symm),hw.block b hb]
 have k5:w5.heap[kb]?=w.heap[kb]?:=by rw[hg.block kb (by omega) (fun e=>no kb (by rw[h.p0.2];omega) e.symm),hw.block kb l0]
 have r':∀b,v5.ownBlock≠some b->(c.withRow i v5).role b=c.role b:=fun b hb=>if_neg hb
 have rl:∀j,oV k.net j≤oV n5 j:=fun j=>by
  by_cases hj:j=i
  ·rw[hj,hxi.2];omega
  ·rw[(hx j hj).2];exact Nat.le_refl _
 constructor
 ·refine ⟨?_,fun j j1 j6=>?_,⟨fv,hv1.keep ?_,hv2⟩,⟨fn,hn1.keep ?_,hn2⟩,⟨.inl h.p0.1,?_⟩,fun j g j1 j6 hj=>?_,⟨.inl h.pv.1,?_⟩,⟨.inl h.pn.1,?_⟩,Nat.le_trans h.nv (rl 1),Nat.le_trans h.nn (rl 5),h.mvk⟩
  ·rw[show ({ k with net:=n5 }:Kd).net.places=k.net.places from hp,<-Kz c _ h1 h6 v5]
   exact bQ (l:=c.cells k.net.places) (by rw[k5];exact h.hk) i v5
  ·by_cases hj:j=i
   ·subst hj
    show World.ownsRow _ _ _ _ (if j=j then v5 else c.v j) (oV n5 j) (qH n5 j)
    rw[if_pos rfl,hxi.1,hxi.2]
    refine dK (A:=fun b=>v5.ownBlock=some b) (A':=fun _=>True) hown (fun _ h=>h) fun b hb _=>⟨trivial,Below.heap_setCell _ _ _ _ fun e=>?_⟩
    have e:=e
    subst e
    exact ne b l0 (by rw[h.p0.2];omega) hb
   ·show World.ownsRow _ _ _ _ (if j=i then v5 else c.v j) (oV n5 j) (qH n5 j)
    rw[if_neg hj,(hx j hj).1,(hx j hj).2]
    refine dK (A:=fun b=>(c.v j).ownBlock=some b) (A':=fun _=>True) (h.row j j1 j6) (fun _ h=>h) fun b hb hl=>⟨trivial,kp b hl (fun e=>?_) ?_⟩
    ·have:=(h.pr j b j1 j6 hb).2;rw[e,h.p0.2] at this;omega
    ·rw[(h.pr j b j1 j6 hb).2];exact hj
  ·exact kp _ hv1.lt (fun e=>by have:=h.pv.2;rw[e,h.p0.2] at this;omega) (by rw[h.pv.2];omega)
  ·exact kp _ hn1.lt (fun e=>by have:=h.pn.2;rw[e,h.p0.2] at this;omega) (by rw[h.pn.2];omega)
  ·rw[r' kb (ne kb l0 (by rw[h.p0.2];omega))];exact h.p0.2
  ·by_cases hji:j=i
   ·subst hji
    have hj:v5.ownBlock=some g:=by have h':=hj;show _;simpa [Cv.withRow] using h'
    refine ⟨?_,if_pos hj⟩
    rcases hat with h'|h'
    ·exact .inl (h.pr j g h1 h6 (h'.symm.trans hj)).1
    ·rw[hj] at h';injection h' with h'
     have:=(hown.lt g hj).2
     exact .inr ⟨by omega,by simp[World.setCell];exact this⟩
   ·have hj:(c.v j).ownBlock=some g:=by have h':=hj;simpa [Cv.withRow,hji] using h'
    have:=h.pr j g j1 j6 hj
    exact ⟨.inl this.1,by rw[r' g (ne g ((h.row j j1 j6).lt g hj).2 (by rw[this.2];exact hji))];exact this.2⟩
  ·show (c.withRow i v5).role c.mv=7
   rw[r' _ (ne _ hv1.lt (by rw[h.pv.2];omega))];exact h.pv.2
  ·show (c.withRow i v5).role c.mn=8
   rw[r' _ (ne _ hn1.lt (by rw[h.pn.2];omega))];exact h.pn.2
 ·exact ((bH.of_below hw).grown hg fun b hb=>.inl (h.pr i b h1 h6 hb).1).setCell (.inl h.p0.1) _
theorem CM.setP (h:CM P w kb k c) (p:Int):CM P (w.setCell ⟨kb,0,none⟩ (.int .i64 p)) kb { k with net:={ k.net with places:=p } } c/\bH P w (w.setCell ⟨kb,0,none⟩ (.int .i64 p)):=by
 obtain ⟨fv,hv1,hv2⟩:=h.hv
 obtain ⟨fn,hn1,hn2⟩:=h.hn
 have kp:∀b,b≠kb->(w.setCell ⟨kb,0,none⟩ (.int .i64 p)).heap[b]?=w.heap[b]?:=fun b hb=>Below.heap_setCell _ _ _ _ hb
 refine ⟨⟨bQ (l:=c.cells k.net.places) h.hk 0 _,fun j j1 j6=>?_,⟨fv,hv1.keep (kp _ fun e=>?_),hv2⟩,⟨fn,hn1.keep (kp _ fun e=>?_),hn2⟩,h.p0,h.pr,h.pv,h.pn,h.nv,h.nn,h.mvk⟩,(bH.refl _ _).setCell (.inl h.p0.1) _⟩
 ·have e1:qH { k.net with places:=p } j=qH k.net j:=by unfold qH;split<;>rfl
  have e2:oV { k.net with places:=p } j=oV k.net j:=by unfold oV;split<;>rfl
  show World.ownsRow _ _ _ _ _ (oV { k.net with places:=p } j) (qH { k.net with places:=p } j)
  rw[e1,e2]
  refine dK (A:=fun b=>(c.v j).ownBlock=some b) (A':=fun _=>True) (h.row j j1 j6) (fun _ h=>h) fun b hb _=>⟨trivial,kp b fun e=>?_⟩
  have:=(h.pr j b j1 j6 hb).2;rw[e,h.p0.2] at this;omega
 ·have:=h.pv.2;rw[e,h.p0.2] at this;omega
 ·have:=h.pn.2;rw[e,h.p0.2] at this;omega
theorem CM.setV (h:CM P w kb k c) {f:Lit->Option Value}{n':Nat}{vars':bB->Vr}(hm:Gm.Mp Tryz.prog 9 w' c.mv n' f) (hf:∀s:bB,(f (.string s)).getD (He vr0)=He (vars' s)) (hg:w.grownBy w' (some c.mv)) (hn':n'≤k.net.first.length) :
    CM P w' kb { k with vars:=vars' } { c with nv:=n' }/\bH P w w':=by
 obtain ⟨fn,hn1,hn2⟩:=h.hn
 have kp:∀b,b<w.heap.size->b≠c.mv->w'.heap[b]?=w.heap[b]?:=fun b hb hne=>hg.block b hb fun e=>hne (by injection e)
 refine ⟨⟨?_,fun j j1 j6=>?_,⟨f,hm,hf⟩,⟨fn,hn1.keep (kp _ hn1.lt fun e=>?_),hn2⟩,h.p0,h.pr,h.pv,h.pn,hn',h.nn,h.mvk⟩,(bH.refl _ _).grown hg fun b hb=>.inl (by injection hb with hb;rw[<-hb];exact h.pv.1)⟩
 ·have:=kp kb (aB h.hk) fun e=>by { have:=h.pv.2;rw[<-e,h.p0.2] at this;omega }
  rw[this];exact h.hk
 ·refine dK (A:=fun b=>(c.v j).ownBlock=some b) (A':=fun _=>True) (h.row j j1 j6) (fun _ h=>h) fun b hb hl=>⟨trivial,kp b hl fun e=>?_⟩
  have:=(h.pr j b j1 j6 hb).2;rw[e,h.pv.2] at this;omega
 ·have:=h.pn.2;rw[e,h.pv.2] at this;omega
theorem CM.setN (h:CM P w kb k c) {f:Lit->Option Value}{n':Nat}{nums':Int->Option Int}(hm:Gm.Mp Tryz.prog 2 w' c.mn n' f) (hf:∀x:Int,f (.int .i64 x)=(nums' x).map (Value.int .i64)) (hg:w.grownBy w' (some c.mn)) (hn':n'≤k.net.nums.length) :
    CM P w' kb { k with nums:=nums' } { c with nn:=n' }/\bH P w w':=by
 obtain ⟨fv,hv1,hv2⟩:=h.hv
 have kp:∀b,b<w.heap.size->b≠c.mn->w'.heap[b]?=w.heap[b]?:=fun b hb hne=>hg.block b hb fun e=>hne (by injection e)
 refine ⟨⟨?_,fun j j1 j6=>?_,⟨fv,hv1.keep (kp _ hv1.lt fun e=>?_),hv2⟩,⟨f,hm,hf⟩,h.p0,h.pr,h.pv,h.pn,h.nv,hn',h.mvk⟩,(bH.refl _ _).grown hg fun b hb=>.inl (by injection hb with hb;rw[<-hb];exact h.pn.1)⟩
 ·have:=kp kb (aB h.hk) fun e=>by { have:=h.pn.2;rw[<-e,h.p0.2] at this;omega }
  rw[this];exact h.hk
 ·refine dK (A:=fun b=>(c.v j).ownBlock=some b) (A':=fun _=>True) (h.row j j1 j6) (fun _ h=>h) fun b hb hl=>⟨trivial,kp b hl fun e=>?_⟩
  have:=(h.pr j b j1 j6 hb).2;rw[e,h.pn.2] at this;omega
 ·have:=h.pv.2;rw[e,h.pn.2] at this;omega
end
abbrev Sv:Ending:=.panicked [{ v:=.iface 94 (.int .i64 4),recovered:=false }]
def eY {α:Type}(E:Nat) (ns:List bB) (P:Nat->Prop) (kb:Nat) (w:World) (k:Kd) (o:Option (α×Kd)) (val:α->Value) (e:Ending) (w':World):Prop:=
 (e=Sv/\Hid (o=none)/\Hid (bH P w w'))\/∃a k',e=.returned (val a)/\Hid (o=some (a,k'))/\Hid (eG E ns (Up P w w') w' kb k'/\bH P w w'/\k.net.places≤k'.net.places)
theorem bind_some {α β:Type}{m:Em.M α}{f:α->Em.M β}{k k':Kd}{a:α}(h:m k=some (a,k')):(m >>= f) k=f a k':=by
 show (m k).bind _=_
 rw[h];rfl
theorem aF {α β:Type}{m:Em.M α}{f:α->Em.M β}{k:Kd}(h:m k=none):(m >>= f) k=none:=by
 show (m k).bind _=_
 rw[h];rfl
end Ew
end
end Go.Proofs.YtcdbhoknhnimcaaGreatDoor
