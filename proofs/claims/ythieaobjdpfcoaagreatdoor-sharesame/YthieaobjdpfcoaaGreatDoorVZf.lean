import Derived.Test.YthieaobjdpfcoaaGreatDoorVFc
import Derived.DeepKeys5
set_option maxRecDepth 100000
set_option maxHeartbeats 4000000
namespace Go.Proofs.YthieaobjdpfcoaaGreatDoor
open Go.Proofs.Tryz (prog)
section
open Go.RowKit Px
namespace Sx
open Nx (Nt Sp aN3 bH get put iH)
open Ew (bM Up rS)
open Fw (wA Si)
def N5 (s:Sp):Prop:=jF s.code/\jF s.dst/\jF s.a/\jF s.b/\jF s.c
theorem Hb:(match prog.underlying 38 with|some (.array _ _)|some (.struct _)=>true|_=>false)=true:=by rw[Tryz.underlying38]
theorem Uf:prog.keyTypeAt 2 38=true:=by kernel_rfl
theorem Rb:prog.tiled 2 38=true:=by kernel_rfl
theorem stepLaw:Maps.Keyed prog 38:=Maps.Keyed.of_law (deep_law (m:=2) (show 2+1≤10000 by omega) Uf Rb Hb)
theorem Ve:prog.cellsOf 3=1:=by kernel_rfl
theorem Mb:prog.cellsOf 38=5:=by kernel_rfl
theorem aI1:prog.keyType 38=true:=by kernel_rfl
theorem tys:prog.types.size=355:=by kernel_rfl
theorem G2 (d:Nat) {x:Int}(h:jF x):prog.keyLits (d+1) 3 [.int .i64 x]=some [.int .i64 x]:=by
 have j:(Lit.int .i64 x).wf=true:=h.wf
 simp[Program.keyLits,Tryz.underlying3,j]
theorem Rt {s:Sp}(h:N5 s):∃l,keyOf prog 38 (wA s)=some l:=by
 obtain ⟨J,I,u,O,y⟩:=h
 have k:(wA s).formed prog 38=true:=by simp[Value.formed,Tryz.underlying38,Mb]
 unfold keyOf
 rw[Tryz.underlying38]
 simp only[aI1,k,Bool.and_self,if_true]
 rw[tys]
 have j:=G2 (355-1) J
 have n:=G2 (355-1) I
 have X:=G2 (355-1) u
 have r:=G2 (355-1) O
 have D:=G2 (355-1) y
 have key:∃L,prog.keyLits (355+1) 38 (wA s).cells.toList=some L:=by
  unfold Program.keyLits
  rw[Tryz.underlying38]
  simp[Value.cells,Mb,Ve,j,n,X,r,D]
 obtain ⟨L,U⟩:=key
 rw[U]
 exact ⟨_,rfl⟩
noncomputable def kl (s:Sp):Lit:=(keyOf prog 38 (wA s)).getD (.bool false)
theorem wF {s:Sp}(h:N5 s):keyOf prog 38 (wA s)=some (kl s):=by
 obtain ⟨l,j⟩:=Rt h
 unfold kl
 rw[j];rfl
theorem Rs {s t:Sp}(j:N5 s) (h:N5 t) (e:kl s=kl t):s=t:=by
 have:=stepLaw.inj (wF j) (by rw[e];exact wF h)
 obtain ⟨D,y,n,r,O⟩:=s
 obtain ⟨u,k,l,I,J⟩:=t
 simpa using this
theorem Gy (w:World):(zeroValue 3).run prog w=.ok (.int .i64 0) w:=by kernel_rfl
theorem Qf (w:World):(zeroValue 23).run prog w=.ok (.slice none 0 0) w:=by kernel_rfl
theorem vB {w w':World}{B e size n:Nat}{v:Value}{xs:List Value}(h:w.ownsRow B e size v n xs) (hk:∀b,v.ownBlock=some b->w'.heap[b]?=w.heap[b]?):w'.ownsRow B e size v n xs:=
 eY (A:=fun b=>v.ownBlock=some b) (A':=fun _=>True) h (fun _ h=>h) fun b hb _=>⟨trivial,hk b hb⟩
structure Sv where
 bm:Nat
 bc:Nat
 nm:Nat
 nc:Nat
 vT:Value
 vN:Value
 vC:Value
 fv:Int->Value
structure SM (P:Nat->Prop) (B:Nat) (w:World) (sb m:Nat) (nums:List Int) (g:Sg) (c:Sv):Prop where
 hk:w.heap[sb]?=some (.cells #[.map (some c.bm),.map (some c.bc),c.vT,.int .i64 g.things,c.vN,c.vC] 61 (0,0))
 rt:iH 3 0 w c.vT g.there
 rc:w.ownsRow 0 38 5 c.vC g.code.length (g.code.flatMap rS)
 md:∃f,Gm.Mp prog 38 w c.bm c.nm f/\∀h,N5 h->f (kl h)=(g.made h).map (Value.int .i64)
 cp:∃f,Gm.Mp prog 3 w c.bc c.nc f/\∀t:Int,f (.int .i64 t)=if g.copies t=[] then none else some (c.fv t)
 rw:∀t,g.copies t≠[]->iH 3 0 w (c.fv t) (g.copies t)
 nu:bH (· < B) w c.vN nums
 up:B≤w.heap.size/\∀b,P b->B≤b/\b<w.heap.size
 pb:P sb/\P c.bm/\P c.bc
 pt:∀b,c.vT.ownBlock=some b->P b/\b≠sb/\b≠c.bm/\b≠c.bc
 pc:∀b,c.vC.ownBlock=some b->P b/\b≠sb/\b≠c.bm/\b≠c.bc/\c.vT.ownBlock≠some b
 pw:∀t,g.copies t≠[]->∀b,(c.fv t).ownBlock=some b->P b/\b≠sb/\b≠c.bm/\b≠c.bc/\c.vT.ownBlock≠some b/\c.vC.ownBlock≠some b
 ps:∀t u,g.copies t≠[]->g.copies u≠[]->t≠u->∀b,(c.fv t).ownBlock=some b->(c.fv u).ownBlock≠some b
 ne:sb≠c.bm/\sb≠c.bc/\c.bm≠c.bc
 few:c.nm≤m/\c.nc≤m/\g.there.length≤m/\g.code.length≤m/\0≤g.things/\g.things≤m/\m≤100000
 lw:∀t,(g.copies t).length≤m
noncomputable def cvS (g:Sg) (c:Sv) (t:Int):Value:=if g.copies t=[] then .slice none 0 0 else c.fv t
section
variable {P Q:Nat->Prop}{B:Nat}{w w':World}{sb m:Nat}{nums:List Int}{g:Sg}{c:Sv}
theorem SM.cells (h:SM P B w sb m nums g c):w.cell? ⟨sb,0,none⟩=some (.map (some c.bm))/\w.cell? ⟨sb,1,none⟩=some (.map (some c.bc))/\w.cell? ⟨sb,2,none⟩=some c.vT/\w.cell? ⟨sb,3,none⟩=some (.int .i64 g.things)/\w.cell? ⟨sb,4,none⟩=some c.vN/\w.cell? ⟨sb,5,none⟩=some c.vC/\∀j,w.frozen? ⟨sb,j,none⟩=false:=
 ⟨aF h.hk 0 rfl,aF h.hk 1 rfl,aF h.hk 2 rfl,aF h.hk 3 rfl,aF h.hk 4 rfl,aF h.hk 5 rfl,fun j=>aG h.hk j⟩
theorem SM.carry (h:SM P B w sb m nums g c) (j:∀b,P b->w'.heap[b]?=w.heap[b]?) (hB:∀b,b<B->b<w.heap.size->w'.heap[b]?=w.heap[b]?) (D:w.heap.size≤w'.heap.size) (k:∀b,P b->Q b) (n:∀b,Q b->B≤b/\b<w'.heap.size):SM Q B w' sb m nums g c:=by
 obtain ⟨y,u,r⟩:=h.md
 obtain ⟨gc,c1,c2⟩:=h.cp
 refine ⟨by rw[j sb h.pb.1];exact h.hk,h.rt.keep fun b hb=>j b (h.pt b hb).1,vB h.rc fun b hb=>j b (h.pc b hb).1,⟨y,u.keep (j _ h.pb.2.1),r⟩,⟨gc,c1.keep (j _ h.pb.2.2),c2⟩,fun t l=>(h.rw t l).keep fun b hb=>j b (h.pw t l b hb).1,h.nu.carry fun b hb s=>⟨hb,hB b hb s⟩,⟨aO6 h.up.1 D,n⟩,⟨k _ h.pb.1,k _ h.pb.2.1,k _ h.pb.2.2⟩,fun b hb=>⟨k b (h.pt b hb).1,(h.pt b hb).2⟩,fun b hb=>⟨k b (h.pc b hb).1,(h.pc b hb).2⟩,fun t l b hb=>⟨k b (h.pw t l b hb).1,(h.pw t l b hb).2⟩,h.ps,h.ne,h.few,h.lw⟩
theorem SM.below (h:SM P B w sb m nums g c) (hb:Below w.heap.size w w'):SM P B w' sb m nums g c:=
 h.carry (fun b hp=>hb.block b (h.up.2 b hp).2) (fun b _ hl=>hb.block b hl) hb.size (fun _ h=>h) fun b hp=>⟨(h.up.2 b hp).1,aO5 (h.up.2 b hp).2 hb.size⟩
theorem SM.more {m':Nat}(h:SM P B w sb m nums g c) (hm:m≤m') (hm':m'≤100000):SM P B w sb m' nums g c:=
 { h with few:=by have:=h.few;omega,lw:=fun t=>aO6 (h.lw t) hm }
theorem SM.lookM (h:SM P B w sb m nums g c) {s:Sp}(j:N5 s):(Instr.lookup 58 (.map (some c.bm)) (wA s) true).run prog w=.ok (.tuple #[.int .i64 ((g.made s).getD 0),.bool (g.made s).isSome]) w:=by
 obtain ⟨f,k,l⟩:=h.md
 rw[k.look_ok stepLaw Tryz.underlying58 (Gy w) (wF j),l s j]
 cases g.made s<;>rfl
theorem SM.lookC (h:SM P B w sb m nums g c) {t:Int}(k:jF t):(Instr.lookup 59 (.map (some c.bc)) (.int .i64 t) false).run prog w=.ok (cvS g c t) w:=by
 obtain ⟨f,j,l⟩:=h.cp
 rw[j.look Si Tryz.underlying59 (Qf w) (Maps.keyOf_int_mk Tryz.underlying3 k.wf),l t]
 unfold cvS
 split<;>rfl
theorem SM.rowC (h:SM P B w sb m nums g c) (t:Int):iH 3 0 w (cvS g c t) (g.copies t):=by
 unfold cvS
 split
 ·rename_i e
  rw[e];exact iH.nil _ _ _
 ·exact h.rw t ‹_›
theorem SM.rowP (h:SM P B w sb m nums g c) (t:Int):∀b,(cvS g c t).ownBlock=some b->P b/\b≠sb/\b≠c.bm/\b≠c.bc/\c.vT.ownBlock≠some b/\c.vC.ownBlock≠some b:=by
 unfold cvS
 split
 ·intro b hb;simp[Value.ownBlock] at hb
 ·exact h.pw t ‹_›
theorem SM.setK (h:SM P B w sb m nums g c) (k:Int) (n:0≤k/\k≤m):SM P B (w.setCell ⟨sb,3,none⟩ (.int .i64 k)) sb m nums { g with things:=k } c/\bM P w (w.setCell ⟨sb,3,none⟩ (.int .i64 k)):=by
 have j:∀b,b≠sb->(w.setCell ⟨sb,3,none⟩ (.int .i64 k)).heap[b]?=w.heap[b]?:=fun b hb=>Below.heap_setCell _ _ _ _ hb
 have D:(w.setCell ⟨sb,3,none⟩ (.int .i64 k)).heap.size=w.heap.size:=by simp[World.setCell]
 obtain ⟨y,u,s⟩:=h.md
 obtain ⟨gc,c1,c2⟩:=h.cp
 refine ⟨⟨cH (l:=[.map (some c.bm),.map (some c.bc),c.vT,.int .i64 g.things,c.vN,c.vC]) h.hk 3 _,h.rt.keep fun b hb=>j b (h.pt b hb).2.1,vB h.rc fun b hb=>j b (h.pc b hb).2.1,⟨y,u.keep (j _ h.ne.1.symm),s⟩,⟨gc,c1.keep (j _ h.ne.2.1.symm),c2⟩,fun t r=>(h.rw t r).keep fun b hb=>j b (h.pw t r b hb).2.1,h.nu.carry fun b hb I=>⟨hb,j b fun e=>?_⟩,by rw[D];exact h.up,h.pb,h.pt,h.pc,h.pw,h.ps,h.ne,?_,h.lw⟩,(bM.refl _ _).setCell (p:=⟨sb,3,none⟩) (.inl h.pb.1) _⟩
 ·have:=(h.up.2 sb h.pb.1).1;omega
 ·have:=h.few
  exact ⟨this.1,this.2.1,this.2.2.1,this.2.2.2.1,n.1,n.2,this.2.2.2.2.2.2⟩
theorem SM.putM (h:SM P B w sb m nums g c) {f:Lit->Option Value}{l:Nat}{mk:Sp->Option Int}(u:Gm.Mp prog 38 w' c.bm l f) (y:∀h,N5 h->f (kl h)=(mk h).map (Value.int .i64)) (k:w.grownBy w' (some c.bm)) (I:l≤m) :
    SM P B w' sb m nums { g with made:=mk } { c with nm:=l }/\bM P w w':=by
 have s:∀b,b<w.heap.size->b≠c.bm->w'.heap[b]?=w.heap[b]?:=fun b hb n=>k.block b hb fun e=>n (by injection e)
 have j:∀b,P b->b≠c.bm->w'.heap[b]?=w.heap[b]?:=fun b hb=>s b (h.up.2 b hb).2
 obtain ⟨gc,c1,c2⟩:=h.cp
 refine ⟨⟨by rw[j sb h.pb.1 h.ne.1];exact h.hk,h.rt.keep fun b hb=>j b (h.pt b hb).1 (h.pt b hb).2.2.1,vB h.rc fun b hb=>j b (h.pc b hb).1 (h.pc b hb).2.2.1,⟨f,u,y⟩,⟨gc,c1.keep (j _ h.pb.2.2 h.ne.2.2.symm),c2⟩,fun t r=>(h.rw t r).keep fun b hb=>j b (h.pw t r b hb).1 (h.pw t r b hb).2.2.1,h.nu.carry fun b hb D=>⟨hb,s b D fun e=>?_⟩,⟨aO6 h.up.1 k.size,fun b hb=>⟨(h.up.2 b hb).1,aO5 (h.up.2 b hb).2 k.size⟩⟩,h.pb,h.pt,h.pc,h.pw,h.ps,h.ne,⟨I,h.few.2⟩,h.lw⟩,(bM.refl _ _).grown k fun b hb=>.inl (by injection hb with hb;rw[<-hb];exact h.pb.2.1)⟩
 have:=(h.up.2 _ h.pb.2.1).1;omega
theorem SM.left (h:SM P B w sb m nums g c) {w1:World}{t:Int}{l:List Int}{v:Value}{f:Lit->Option Value}{n':Nat}(X:bM (fun b=>(cvS g c t).ownBlock=some b) w w1) (hv:l≠[]->iH 3 0 w1 v l/\v.ownBlock=(cvS g c t).ownBlock) (U:w1.grownBy w' (some c.bc)) (hm:Gm.Mp prog 3 w' c.bc n' f) (hf:∀u:Int,f (.int .i64 u)=if u=t then (if l=[] then none else some v) else if g.copies u=[] then none else some (c.fv u)) (hn:n'≤m) (Y:l.length≤m) :
    SM P B w' sb m nums { g with copies:=fun u=>if u=t then l else g.copies u } { c with nc:=n',fv:=fun u=>if u=t then v else c.fv u }/\bM P w w':=by
 have kp:∀b,b<w.heap.size->b≠c.bc->(cvS g c t).ownBlock≠some b->w'.heap[b]?=w.heap[b]?:=fun b hb k hn=>by
  rw[U.block b (aO5 hb X.size) fun e=>k (by injection e)]
  exact X.block b hb hn
 have nn:∀b,b=sb\/b=c.bm\/b=c.bc\/c.vT.ownBlock=some b\/c.vC.ownBlock=some b->(cvS g c t).ownBlock≠some b:=fun b hb e=>by
  obtain ⟨-,e1,e2,e3,e4,e5⟩:=h.rowP t b e
  rcases hb with h|h|h|h|h
  ·exact e1 h
  ·exact e2 h
  ·exact e3 h
  ·exact e4 h
  ·exact e5 h
 have Z:∀b,P b->b≠c.bc->(cvS g c t).ownBlock≠some b->w'.heap[b]?=w.heap[b]?:=fun b hb=>kp b (h.up.2 b hb).2
 obtain ⟨gm,m1,m2⟩:=h.md
 have aa:∀u,(if u=t then l else g.copies u)≠[]->u≠t->g.copies u≠[]/\(cvS g c t).ownBlock≠(c.fv u).ownBlock\/(g.copies u≠[]/\∀b,(c.fv u).ownBlock=some b->(cvS g c t).ownBlock≠some b):=fun u j k=>by
  rw[if_neg k] at j
  refine .inr ⟨j,fun b hb e=>?_⟩
  unfold cvS at e
  split at e
  ·simp[Value.ownBlock] at e
  ·rename_i hc
   exact h.ps t u hc j (fun x=>k x.symm) b e hb
 have y:∀u,(if u=t then l else g.copies u)≠[]->u≠t->g.copies u≠[]/\∀b,(c.fv u).ownBlock=some b->(cvS g c t).ownBlock≠some b:=fun u j k=>by
  rcases aa u j k with h|h
  ·exact ⟨h.1,fun b hb e=>h.2 (by rw[e,hb])⟩
  ·exact h
 have D:∀b,l≠[]->v.ownBlock=some b->(cvS g c t).ownBlock=some b:=fun b Y hb=>by rw[<-(hv Y).2];exact hb
 refine ⟨⟨by rw[Z sb h.pb.1 h.ne.2.1 (nn _ (.inl rfl))];exact h.hk,h.rt.keep fun b hb=>Z b (h.pt b hb).1 (h.pt b hb).2.2.2 (nn _ (.inr (.inr (.inr (.inl hb))))),vB h.rc fun b hb=>Z b (h.pc b hb).1 (h.pc b hb).2.2.2.1 (nn _ (.inr (.inr (.inr (.inr hb))))),⟨gm,m1.keep (Z _ h.pb.2.1 h.ne.2.2 (nn _ (.inr (.inl rfl)))),m2⟩,⟨f,hm,fun u=>?_⟩,fun u j=>?_,h.nu.carry fun b hb Y=>⟨hb,kp b Y (fun e=>?_) (fun e=>?_)⟩,⟨aO6 h.up.1 (aO6 X.size U.size),fun b hb=>⟨(h.up.2 b hb).1,aO5 (h.up.2 b hb).2 (aO6 X.size U.size)⟩⟩,h.pb,h.pt,h.pc,fun u j b hb=>?_,fun u I j r k b hb n=>?_,h.ne,⟨h.few.1,hn,h.few.2.2⟩,fun u=>?_⟩,?_⟩
 ·rw[hf u]
  by_cases e:u=t
  ·simp only[if_pos e]
  ·simp only[if_neg e]
 ·show iH _ 0 w' (if u=t then v else c.fv u) (if u=t then l else g.copies u)
  have j:(if u=t then l else g.copies u)≠[]:=j
  by_cases e:u=t
  ·rw[if_pos e] at j
   rw[if_pos e,if_pos e]
   have hb:=(h.rowP t)
   exact (hv j).1.keep fun b s=>U.block b (((hv j).1.lt b s).2) fun e2=>(hb b (D b j s)).2.2.2.1 (by injection e2)
  ·obtain ⟨J,ab⟩:=y u j e
   rw[if_neg e,if_neg e]
   exact (h.rw u J).keep fun b s=>Z b (h.pw u J b s).1 (h.pw u J b s).2.2.2.1 (ab b s)
 ·have:=(h.up.2 _ h.pb.2.2).1;omega
 ·have:=(h.up.2 _ (h.rowP t b e).1).1;omega
 ·have j:(if u=t then l else g.copies u)≠[]:=j
  have hb:(if u=t then v else c.fv u).ownBlock=some b:=hb
  by_cases e:u=t
  ·rw[if_pos e] at j hb
   exact h.rowP t b (D b j hb)
  ·rw[if_neg e] at hb
   exact h.pw u (y u j e).1 b hb
 ·have j:(if u=t then l else g.copies u)≠[]:=j
  have r:(if I=t then l else g.copies I)≠[]:=r
  have hb:(if u=t then v else c.fv u).ownBlock=some b:=hb
  have n:(if I=t then v else c.fv I).ownBlock=some b:=n
  by_cases e:u=t
  ·have O:¬I=t:=fun x=>k (e.trans x.symm)
   rw[if_pos e] at j hb
   rw[if_neg O] at n
   exact (y I r O).2 b n (D b j hb)
  ·rw[if_neg e] at hb
   by_cases O:I=t
   ·rw[if_pos O] at r n
    exact (y u j e).2 b hb (D b r n)
   ·rw[if_neg O] at n
    exact h.ps u I (y u j e).1 (y I r O).1 k b hb n
 ·show (if u=t then l else g.copies u).length≤m
  split
  ·exact Y
  ·exact h.lw u
 ·exact ((bM.refl P w).trans X fun b _ e=>(h.rowP t b e).1).grown U fun b hb=>.inl (by injection hb with hb;rw[<-hb];exact h.pb.2.2)
end
section
variable {P Q:Nat->Prop}{B:Nat}{w w':World}{sb m:Nat}{nums:List Int}{g:Sg}{c:Sv}
theorem SM.setT (h:SM P B w sb m nums g c) {bT cap:Nat}(n:c.vT=.slice (some ⟨bT,0,none⟩) g.there.length cap) (p t:Int) (D:0≤p):SM P B (w.setCell ⟨bT,p.toNat,none⟩ (.int .i64 t)) sb m nums { g with there:=put g.there p t } c/\bM P w (w.setCell ⟨bT,p.toNat,none⟩ (.int .i64 t)):=by
 have j:∀b,b≠bT->(w.setCell ⟨bT,p.toNat,none⟩ (.int .i64 t)).heap[b]?=w.heap[b]?:=fun b hb=>Below.heap_setCell _ _ _ _ hb
 have U:(w.setCell ⟨bT,p.toNat,none⟩ (.int .i64 t)).heap.size=w.heap.size:=by simp[World.setCell]
 have k:c.vT.ownBlock=some bT:=by rw[n];rfl
 obtain ⟨r,X,Z,Y⟩:=h.pt bT k
 obtain ⟨O,J,I⟩:=h.md
 obtain ⟨gc,c1,c2⟩:=h.cp
 have s:=h.rt
 rw[n] at s
 have l:=(World.ownsRow.stored s p.toNat (.int .i64 t)).1
 refine ⟨⟨by rw[j sb (fun e=>X e.symm)];exact h.hk,?_,vB h.rc fun b hb=>j b fun e=>(h.pc b hb).2.2.2.2 (by rw[e];exact k),⟨O,J.keep (j _ fun e=>Z e.symm),I⟩,⟨gc,c1.keep (j _ fun e=>Y e.symm),c2⟩,fun u y=>(h.rw u y).keep fun b hb=>j b fun e=>(h.pw u y b hb).2.2.2.2.1 (by rw[e];exact k),h.nu.carry fun b hb hl=>⟨hb,j b fun e=>?_⟩,by rw[U];exact h.up,h.pb,h.pt,h.pc,h.pw,h.ps,h.ne,?_,h.lw⟩,(bM.refl _ _).setCell (p:=⟨bT,p.toNat,none⟩) (.inl r) _⟩
 ·show iH _ 0 _ c.vT (put g.there p t)
  rw[Nx.Qe _ _ _ D,n]
  show World.ownsRow _ 0 _ 1 _ (g.there.set p.toNat t).length _
  rw[aW4,List.map_set]
  exact l
 ·have:=(h.up.2 bT r).1;omega
 ·have:=h.few
  exact ⟨this.1,this.2.1,by show (put g.there p t).length≤m;rw[Nx.tB];exact this.2.2.1,this.2.2.2⟩
theorem SM.moreC (h:SM P B w sb m nums g c) {w0 w5:World}{t p:Int}{v:Value}{f:Lit->Option Value}{n':Nat}(I:Below w.heap.size w w0) (hv:iH 3 0 w5 v (g.copies t++[p])) (D:w0.grownBy w5 (cvS g c t).ownBlock) (U:∀b,v.ownBlock=some b->(cvS g c t).ownBlock=some b\/b=w0.heap.size) (hg:w5.grownBy w' (some c.bc)) (hm:Gm.Mp prog 3 w' c.bc n' f) (hf:∀u:Int,f (.int .i64 u)=if u=t then some v else if g.copies u=[] then none else some (c.fv u)) (hn:n'≤m+1) (ab:m<100000) :
    SM (Up P w w') B w' sb (m+1) nums { g with copies:=fun u=>if u=t then g.copies t++[p] else g.copies u } { c with nc:=n',fv:=fun u=>if u=t then v else c.fv u }/\bM P w w':=by
 have s0:=I.size
 have s5:=D.size
 have s6:=hg.size
 have kp:∀b,b<w.heap.size->b≠c.bc->(cvS g c t).ownBlock≠some b->w'.heap[b]?=w.heap[b]?:=fun b hb l hn=>by
  rw[hg.block b (by omega) fun e=>l (by injection e),D.block b (by omega) fun e=>hn e.symm]
  exact I.block b hb
 have nn:∀b,b=sb\/b=c.bm\/b=c.bc\/c.vT.ownBlock=some b\/c.vC.ownBlock=some b->(cvS g c t).ownBlock≠some b:=fun b hb e=>by
  obtain ⟨-,e1,e2,e3,e4,e5⟩:=h.rowP t b e
  rcases hb with h|h|h|h|h
  ·exact e1 h
  ·exact e2 h
  ·exact e3 h
  ·exact e4 h
  ·exact e5 h
 have Z:∀b,P b->b≠c.bc->(cvS g c t).ownBlock≠some b->w'.heap[b]?=w.heap[b]?:=fun b hb=>kp b (h.up.2 b hb).2
 obtain ⟨gm,m1,m2⟩:=h.md
 have Y:∀u,g.copies u≠[]->u≠t->∀b,(c.fv u).ownBlock=some b->(cvS g c t).ownBlock≠some b:=fun u j l b hb e=>by
  unfold cvS at e
  split at e
  ·simp[Value.ownBlock] at e
  ·rename_i hc
   exact h.ps t u hc j (fun x=>l x.symm) b e hb
 have O:∀b,v.ownBlock=some b->b<w5.heap.size:=fun b hb=>(hv.lt b hb).2
 have J:∀b,v.ownBlock=some b->Up P w w' b/\b≠sb/\b≠c.bm/\b≠c.bc/\c.vT.ownBlock≠some b/\c.vC.ownBlock≠some b:=fun b hb=>by
  rcases U b hb with e|e
  ·have:=h.rowP t b e
   exact ⟨.inl this.1,this.2⟩
  ·have ll:=O b hb
   have f1:=(h.up.2 _ h.pb.1).2
   have f2:=(h.up.2 _ h.pb.2.1).2
   have f3:=(h.up.2 _ h.pb.2.2).2
   exact ⟨.inr ⟨by omega,by omega⟩,by omega,by omega,by omega,fun x=>by have:=(h.up.2 _ (h.pt b x).1).2;omega,fun x=>by have:=(h.up.2 _ (h.pc b x).1).2;omega⟩
 have y:bM P w w':=(((bM.of_below (P:=P) I).grown D fun b hb=>.inl (h.rowP t b hb).1)).grown hg fun b hb=>.inl (by injection hb with hb;rw[<-hb];exact h.pb.2.2)
 refine ⟨⟨by rw[Z sb h.pb.1 h.ne.2.1 (nn _ (.inl rfl))];exact h.hk,h.rt.keep fun b hb=>Z b (h.pt b hb).1 (h.pt b hb).2.2.2 (nn _ (.inr (.inr (.inr (.inl hb))))),vB h.rc fun b hb=>Z b (h.pc b hb).1 (h.pc b hb).2.2.2.1 (nn _ (.inr (.inr (.inr (.inr hb))))),⟨gm,m1.keep (Z _ h.pb.2.1 h.ne.2.2 (nn _ (.inr (.inl rfl)))),m2⟩,⟨f,hm,fun u=>?_⟩,fun u j=>?_,h.nu.carry fun b hb hl=>⟨hb,kp b hl (fun e=>?_) (fun e=>?_)⟩,⟨aO6 h.up.1 y.size,fun b hb=>?_⟩,⟨.inl h.pb.1,.inl h.pb.2.1,.inl h.pb.2.2⟩,fun b hb=>⟨.inl (h.pt b hb).1,(h.pt b hb).2⟩,fun b hb=>⟨.inl (h.pc b hb).1,(h.pc b hb).2⟩,fun u j b hb=>?_,fun u s j n l b hb k=>?_,h.ne,?_,fun u=>?_⟩,y⟩
 ·rw[hf u]
  by_cases e:u=t
  ·subst e
   simp
  ·simp only[if_neg e]
 ·show iH _ 0 w' (if u=t then v else c.fv u) (if u=t then g.copies t++[p] else g.copies u)
  have j:(if u=t then g.copies t++[p] else g.copies u)≠[]:=j
  by_cases e:u=t
  ·rw[if_pos e,if_pos e]
   exact hv.keep fun b r=>hg.block b (O b r) fun e2=>(J b r).2.2.2.1 (by injection e2)
  ·rw[if_neg e] at j
   rw[if_neg e,if_neg e]
   exact (h.rw u j).keep fun b r=>Z b (h.pw u j b r).1 (h.pw u j b r).2.2.2.1 (Y u j e b r)
 ·have:=(h.up.2 _ h.pb.2.2).1;omega
 ·have:=(h.up.2 _ (h.rowP t b e).1).1;omega
 ·rcases hb with hb|hb
  ·exact ⟨(h.up.2 b hb).1,aO5 (h.up.2 b hb).2 y.size⟩
  ·exact ⟨aO6 h.up.1 hb.1,hb.2⟩
 ·have j:(if u=t then g.copies t++[p] else g.copies u)≠[]:=j
  have hb:(if u=t then v else c.fv u).ownBlock=some b:=hb
  by_cases e:u=t
  ·rw[if_pos e] at hb
   exact J b hb
  ·rw[if_neg e] at j hb
   exact ⟨.inl (h.pw u j b hb).1,(h.pw u j b hb).2⟩
 ·have j:(if u=t then g.copies t++[p] else g.copies u)≠[]:=j
  have n:(if s=t then g.copies t++[p] else g.copies s)≠[]:=n
  have hb:(if u=t then v else c.fv u).ownBlock=some b:=hb
  have k:(if s=t then v else c.fv s).ownBlock=some b:=k
  have two:∀x,g.copies x≠[]->x≠t->(c.fv x).ownBlock=some b->v.ownBlock=some b->False:=fun x hx aa h1 h2=>by
   rcases U b h2 with e|e
   ·exact Y x hx aa b h1 e
   ·have:=(h.up.2 _ (h.pw x hx b h1).1).2;omega
  by_cases e:u=t
  ·have X:¬s=t:=fun x=>l (e.trans x.symm)
   rw[if_pos e] at hb
   rw[if_neg X] at k n
   exact two s n X k hb
  ·rw[if_neg e] at hb j
   by_cases X:s=t
   ·rw[if_pos X] at k
    exact two u j e hb k
   ·rw[if_neg X] at k n
    exact h.ps u s j n l b hb k
 ·have:=h.few
  exact ⟨by show c.nm≤m+1;omega,hn,by show g.there.length≤m+1;omega,by show g.code.length≤m+1;omega,this.2.2.2.2.1,by show g.things≤((m+1:Nat):Int);omega,by omega⟩
 ·show (if u=t then g.copies t++[p] else g.copies u).length≤m+1
  split
  ·rw[aO9,aX2];have:=h.lw t;omega
  ·have:=h.lw u;omega
theorem SM.addS (h:SM P B w sb m nums g c) {s:Sp}{w0 w5:World}{v5:Value}(r:Below w.heap.size w w0) (j:w5.ownsRow 0 38 5 v5 (g.code.length+1) (g.code.flatMap rS++rS s)) (n:w0.grownBy w5 c.vC.ownBlock) (D:∀b,v5.ownBlock=some b->c.vC.ownBlock=some b\/b=w0.heap.size) (Z:g.code.length<m) :
    SM (Up P w (w5.setCell ⟨sb,5,none⟩ v5)) B (w5.setCell ⟨sb,5,none⟩ v5) sb m nums { g with code:=g.code++[s] } { c with vC:=v5 }/\bM P w (w5.setCell ⟨sb,5,none⟩ v5):=by
 obtain ⟨gm,m1,m2⟩:=h.md
 obtain ⟨gc,c1,c2⟩:=h.cp
 have s0:=r.size
 have s5:=n.size
 have I:∀b,b<w.heap.size->c.vC.ownBlock≠some b->w5.heap[b]?=w.heap[b]?:=fun b hb hn=>by rw[n.block b (by omega) (fun e=>hn e.symm),r.block b hb]
 have kp:∀b,b<w.heap.size->b≠sb->c.vC.ownBlock≠some b->(w5.setCell ⟨sb,5,none⟩ v5).heap[b]?=w.heap[b]?:=fun b hb h1 h3=>by rw[Below.heap_setCell _ _ _ _ h1,I b hb h3]
 have J:∀b,P b->b≠sb->c.vC.ownBlock≠some b->(w5.setCell ⟨sb,5,none⟩ v5).heap[b]?=w.heap[b]?:=fun b hb=>kp b (h.up.2 b hb).2
 have X:c.vC.ownBlock≠some sb:=fun e=>(h.pc sb e).2.1 rfl
 have U:c.vC.ownBlock≠some c.bm:=fun e=>(h.pc _ e).2.2.1 rfl
 have O:c.vC.ownBlock≠some c.bc:=fun e=>(h.pc _ e).2.2.2.1 rfl
 have hsz:(w5.setCell ⟨sb,5,none⟩ v5).heap.size=w5.heap.size:=by simp[World.setCell]
 have f1:=(h.up.2 _ h.pb.1).2
 have f2:=(h.up.2 _ h.pb.2.1).2
 have f3:=(h.up.2 _ h.pb.2.2).2
 have o5:∀b,v5.ownBlock=some b->Up P w (w5.setCell ⟨sb,5,none⟩ v5) b/\b≠sb/\b≠c.bm/\b≠c.bc/\c.vT.ownBlock≠some b:=fun b hb=>by
  have Z:=(j.lt b hb).2
  rcases D b hb with e|e
  ·have q:=h.pc b e
   exact ⟨.inl q.1,q.2⟩
  ·exact ⟨.inr ⟨by omega,by omega⟩,by omega,by omega,by omega,fun x=>by have:=(h.up.2 _ (h.pt b x).1).2;omega⟩
 have Y:w5.heap[sb]?=some (.cells #[.map (some c.bm),.map (some c.bc),c.vT,.int .i64 g.things,c.vN,c.vC] 61 (0,0)):=by rw[I sb f1 X,h.hk]
 have k:bM P w (w5.setCell ⟨sb,5,none⟩ v5):=(((bM.of_below (P:=P) r).grown n fun b hb=>.inl (h.pc b hb).1)).setCell (p:=⟨sb,5,none⟩) (.inl h.pb.1) _
 refine ⟨⟨cH (l:=[.map (some c.bm),.map (some c.bc),c.vT,.int .i64 g.things,c.vN,c.vC]) Y 5 v5,h.rt.keep fun b hb=>J b (h.pt b hb).1 (h.pt b hb).2.1 fun e=>(h.pc b e).2.2.2.2 hb,?_,⟨gm,m1.keep (J _ h.pb.2.1 h.ne.1.symm U),m2⟩,⟨gc,c1.keep (J _ h.pb.2.2 h.ne.2.1.symm O),c2⟩,fun u y=>(h.rw u y).keep fun b hb=>J b (h.pw u y b hb).1 (h.pw u y b hb).2.1 (h.pw u y b hb).2.2.2.2.2,h.nu.carry fun b hb Z=>⟨hb,kp b Z (fun e=>?_) (fun e=>?_)⟩,⟨aO6 h.up.1 k.size,fun b hb=>?_⟩,⟨.inl h.pb.1,.inl h.pb.2.1,.inl h.pb.2.2⟩,fun b hb=>⟨.inl (h.pt b hb).1,(h.pt b hb).2⟩,fun b hb=>o5 b hb,fun u y b hb=>?_,h.ps,h.ne,?_,h.lw⟩,k⟩
 ·show World.ownsRow _ 0 38 5 v5 (g.code++[s]).length ((g.code++[s]).flatMap rS)
  rw[aO9,List.flatMap_append,List.flatMap_singleton]
  exact vB j fun b hb=>Below.heap_setCell _ _ _ _ (o5 b hb).2.1
 ·have:=(h.up.2 _ h.pb.1).1;omega
 ·have:=(h.up.2 _ (h.pc b e).1).1;omega
 ·rcases hb with hb|hb
  ·exact ⟨(h.up.2 b hb).1,aO5 (h.up.2 b hb).2 k.size⟩
  ·exact ⟨aO6 h.up.1 hb.1,hb.2⟩
 ·obtain ⟨q0,q1,q2,q3,q4,q5⟩:=h.pw u y b hb
  refine ⟨.inl q0,q1,q2,q3,q4,fun e=>?_⟩
  have e:v5.ownBlock=some b:=e
  rcases D b e with e'|e'
  ·exact q5 e'
  ·have:=(h.up.2 _ q0).2;omega
 ·have:=h.few
  exact ⟨this.1,this.2.1,this.2.2.1,by show (g.code++[s]).length≤m;rw[aO9,aX2];omega,this.2.2.2.2⟩
theorem tI (h:SM P B w sb m nums g c) (y:m<100000) :
 Calls prog 42 #[.pointer (some ⟨sb,0,none⟩)] w fun e w'=>e=.returned (.int .i64 g.things)/\Hid (SM P B w' sb (m+1) nums { g with things:=g.things+1 } c/\bM P w w'):=by
 have l:=h.few
 have HR:Hid (SM P B (w.setCell ⟨sb,3,none⟩ (.int .i64 (g.things+1))) sb (m+1) nums { g with things:=g.things+1 } c/\bM P w (w.setCell ⟨sb,3,none⟩ (.int .i64 (g.things+1)))):=(h.more (m':=m+1) (by omega) (by omega)).setK (g.things+1) (by omega)
 obtain ⟨k,j⟩:=gQx g.things
 rw[<-j] at l HR ⊢
 have s:IntKind.i64.wrap (k+1)=k+1:=by rw[IntKind.wrap_i64];omega
 have u:wrap64 k=k:=by unfold wrap64;omega
 obtain ⟨-,-,-,c3,-,-,r⟩:=h.cells
 have cf3:=r 3
 obtain ⟨-,-,-,n,-,-,-⟩:=HR.out.1.cells
 have n:(w.setCell ⟨sb,3,none⟩ (.int .i64 (k+1))).cell? ⟨sb,3,none⟩=some (.int .i64 (k+1)):=n
 rw[<-j] at c3
 clear h l j r
 go_enter Tryz.func42,Tryz.ntmps42
 go_wp2
 go_ret
 exact ⟨rfl,HR⟩
end
theorem I1 {A:Nat->Prop}{w:World}{v:Value}{zs:List Int}(x:Int) (h:bH A w v zs) (hl:zs.length≤100000) :
 Calls prog 76 #[v,.int .i64 x] w fun e w'=>e=.returned (.int .i64 (if x∈zs then (zs.idxOf x:Int) else -1))/\w'=w:=by
 obtain ⟨ad,b,I,cap,rfl,h1,h2⟩:=h
 have HP:Hid ((0<zs.length->ad=some ⟨b,I,none⟩)/\∀k,k<zs.length->w.cell? ⟨b,I+k,none⟩=some (.int .i64 (zs.getD k 0))):=⟨fun h=>(h1 h).1,h2⟩
 obtain ⟨l,D⟩:=gQx zs.length
 have Z:Hid (l=zs.length):=D
 obtain ⟨r,X⟩:∃r:Int,r=if x∈zs then (zs.idxOf x:Int) else -1:=⟨_,rfl⟩
 have HR:Hid (r=if x∈zs then (zs.idxOf x:Int) else -1):=X
 rw[<-X,<-D]
 have ac:l≤100000:=by omega
 clear h1 h2 hl D X
 go_enter Tryz.func76,Tryz.ntmps76
 go_wp2
 go_loopw [8] (fun i wr=>∃k:Nat,k≤l/\i=.int .i64 k/\Hid (wr=w/\∀j,j<k->zs.getD j 0≠x)) (fun i _=>l-(intOf i).toNat)
 case atStart=>exact ⟨0,aP6 _,rfl,rfl,fun j O=>absurd O (Nat.not_lt_zero _)⟩
 case round=>
  obtain ⟨k,hk,rfl,u⟩:=hrel
  obtain rfl:=u.out.1.symm
  have Y:Hid (∀j,j<k->zs.getD j 0≠x):=u.out.2
  clear u
  by_cases hlt:k<l
  ·have ab:=Nx.aL4 ad b I l cap k hlt (fun h=>HP.out.1 (by rw[<-Z.out];exact h))
   obtain ⟨y,J⟩:=gQx (zs.getD k 0)
   have n:k<zs.length:=by rw[<-Z.out];exact hlt
   have cy:=HP.out.2 k n
   rw[<-J] at cy
   have s:zs[k]?=some y:=by rw[J,iO,aN4 n];rfl
   by_cases hxy:x=y
   ·have HE:Hid (r=(k:Int)):=by
     unfold Hid
     have U:x∈zs:=by rw[hxy];exact aP1 s
     rw[HR.out,if_pos U]
     have h3:=List.idxOf_lt_length_of_mem U
     have h4:zs.getD (zs.idxOf x) 0=x:=by rw[iO,aN4 h3,List.getElem_idxOf];rfl
     have h5:¬zs.idxOf x<k:=fun e=>Y.out _ e h4
     have h6:¬k<zs.idxOf x:=fun e=>by
      have:=List.not_of_lt_findIdx (p:=fun z=>z==x) (xs:=zs) e
      obtain ⟨_,h7⟩:=aO7.1 s
      rw[h7,hxy] at this
      simp at this
     have:zs.idxOf x=k:=by omega
     rw[this]
    have t1:(x==y)=true:=by simp[hxy]
    clear J s hxy n
    go_wp2_with fail
    go_ret
    exact ⟨by rw[HE.out];rfl,rfl⟩
   ·have t1:(x==y)=false:=by simp[hxy]
    have HX:Hid (zs.getD k 0≠x):=by rw[<-J];exact fun e=>hxy e.symm
    clear J s hxy n
    go_wp2_with fail
    go_roundw
    case rel=>exact ⟨k+1,by omega,by go_num,trivial,fun j O=>by
     by_cases e:j=k
     ·rw[e];exact HX.out
     ·exact Y.out j (by omega)⟩
    case measure=>simp[intOf];omega
  ·obtain rfl:k=l:=by omega
   have HE:Hid (r=-1):=by
    unfold Hid
    rw[HR.out,if_neg]
    intro U
    obtain ⟨j,O,aa⟩:=List.getElem_of_mem U
    exact Y.out j (by rw[Z.out];exact O) (by rw[iO,aN4 O];exact aa)
   go_wp2_with fail
   go_ret
   exact ⟨by rw[HE.out];rfl,rfl⟩
theorem Z8 {A:Nat->Prop}{w:World}{v:Value}{zs:List Int}(x:Int) (h:bH A w v zs) (hl:zs.length≤100000) :
 Calls prog 77 #[v,.int .i64 x] w fun e w'=>e=.returned (.int .i64 (if x∈zs then (zs.idxOf x:Int) else -1))/\w'=w:=by
 obtain ⟨ad,b,I,cap,rfl,h1,h2⟩:=h
 have HP:Hid ((0<zs.length->ad=some ⟨b,I,none⟩)/\∀k,k<zs.length->w.cell? ⟨b,I+k,none⟩=some (.int .i64 (zs.getD k 0))):=⟨fun h=>(h1 h).1,h2⟩
 obtain ⟨l,D⟩:=gQx zs.length
 have Z:Hid (l=zs.length):=D
 obtain ⟨r,X⟩:∃r:Int,r=if x∈zs then (zs.idxOf x:Int) else -1:=⟨_,rfl⟩
 have HR:Hid (r=if x∈zs then (zs.idxOf x:Int) else -1):=X
 rw[<-X,<-D]
 have ac:l≤100000:=by omega
 clear h1 h2 hl D X
 go_enter Tryz.func77,Tryz.ntmps77
 go_wp2
 go_loopw [8] (fun i wr=>∃k:Nat,k≤l/\i=.int .i64 k/\Hid (wr=w/\∀j,j<k->zs.getD j 0≠x)) (fun i _=>l-(intOf i).toNat)
 case atStart=>exact ⟨0,aP6 _,rfl,rfl,fun j O=>absurd O (Nat.not_lt_zero _)⟩
 case round=>
  obtain ⟨k,hk,rfl,u⟩:=hrel
  obtain rfl:=u.out.1.symm
  have Y:Hid (∀j,j<k->zs.getD j 0≠x):=u.out.2
  clear u
  by_cases hlt:k<l
  ·have ab:=Nx.Q7 ad b I l cap k hlt (fun h=>HP.out.1 (by rw[<-Z.out];exact h))
   obtain ⟨y,J⟩:=gQx (zs.getD k 0)
   have n:k<zs.length:=by rw[<-Z.out];exact hlt
   have cy:=HP.out.2 k n
   rw[<-J] at cy
   have s:zs[k]?=some y:=by rw[J,iO,aN4 n];rfl
   by_cases hxy:x=y
   ·have HE:Hid (r=(k:Int)):=by
     unfold Hid
     have U:x∈zs:=by rw[hxy];exact aP1 s
     rw[HR.out,if_pos U]
     have h3:=List.idxOf_lt_length_of_mem U
     have h4:zs.getD (zs.idxOf x) 0=x:=by rw[iO,aN4 h3,List.getElem_idxOf];rfl
     have h5:¬zs.idxOf x<k:=fun e=>Y.out _ e h4
     have h6:¬k<zs.idxOf x:=fun e=>by
      have:=List.not_of_lt_findIdx (p:=fun z=>z==x) (xs:=zs) e
      obtain ⟨_,h7⟩:=aO7.1 s
      rw[h7,hxy] at this
      simp at this
     have:zs.idxOf x=k:=by omega
     rw[this]
    have t1:(x==y)=true:=by simp[hxy]
    clear J s hxy n
    go_wp2_with fail
    go_ret
    exact ⟨by rw[HE.out];rfl,rfl⟩
   ·have t1:(x==y)=false:=by simp[hxy]
    have HX:Hid (zs.getD k 0≠x):=by rw[<-J];exact fun e=>hxy e.symm
    clear J s hxy n
    go_wp2_with fail
    go_roundw
    case rel=>exact ⟨k+1,by omega,by go_num,trivial,fun j O=>by
     by_cases e:j=k
     ·rw[e];exact HX.out
     ·exact Y.out j (by omega)⟩
    case measure=>simp[intOf];omega
  ·obtain rfl:k=l:=by omega
   have HE:Hid (r=-1):=by
    unfold Hid
    rw[HR.out,if_neg]
    intro U
    obtain ⟨j,O,aa⟩:=List.getElem_of_mem U
    exact Y.out j (by rw[Z.out];exact O) (by rw[iO,aN4 O];exact aa)
   go_wp2_with fail
   go_ret
   exact ⟨by rw[HE.out];rfl,rfl⟩
theorem U0 {A:Nat->Prop}{w:World}{v:Value}{zs:List Int}(x:Int) (h:bH A w v zs) (u:zs.length≤100000) :
 Calls prog 44 #[v,.int .i64 x] w fun e w'=>e=.returned (.bool (decide (x∈zs)))/\w'=w:=by
 have j:=Z8 x h u
 obtain ⟨D,b,s,cap,rfl,-,-⟩:=h
 by_cases hm:x∈zs
 ·rw[if_pos hm] at j
  have n:Hid (decide (x∈zs)=true):=decide_eq_true hm
  obtain ⟨k,r⟩:∃k:Nat,k=zs.idxOf x:=⟨_,rfl⟩
  rw[<-r] at j
  have y:decide (0≤(k:Int))=true:=decide_eq_true (by omega)
  clear hm r
  go_enter Tryz.func44,Tryz.ntmps44
  go_wp2_with (go_at_call 77;refine j.mono ?_;rintro e w1 ⟨rfl,l⟩;obtain rfl:=l.symm)
  go_ret
  exact ⟨by rw[n.out];rfl,rfl⟩
 ·rw[if_neg hm] at j
  have n:Hid (decide (x∈zs)=false):=decide_eq_false hm
  clear hm
  go_enter Tryz.func44,Tryz.ntmps44
  go_wp2_with (go_at_call 77;refine j.mono ?_;rintro e w1 ⟨rfl,l⟩;obtain rfl:=l.symm)
  go_ret
  exact ⟨by rw[n.out];rfl,rfl⟩
theorem pU {w:World}{v:Value}{l:List Int}(h:iH 3 0 w v l) (r:l≠[]):∃b cap,v=.slice (some ⟨b,0,none⟩) l.length cap/\(∀k,k<l.length->w.cell? ⟨b,k,none⟩=some (.int .i64 (l.getD k 0)))/\∀k,w.frozen? ⟨b,k,none⟩=false:=by
 have s:0<l.length:=List.length_pos_iff.2 r
 obtain ⟨I,h|⟨b,cap,n,rfl,U,D,J,u,O,y⟩⟩:=id h
 ·exact absurd h.2 (by omega)
 ·refine ⟨b,cap,rfl,fun k j=>?_,fun k=>?_⟩
  ·rw[World.ownsRow.cellAt h k (by omega),aW6,aN4 j,iO,aN4 j];rfl
  ·exact World.ownsRow.frozenAt h k
section
variable {P:Nat->Prop}{B:Nat}{w:World}{sb m:Nat}{nums:List Int}{g:Sg}{c:Sv}
theorem O0 (h:SM P B w sb m nums g c) {q:Nat}(O:w.cell? ⟨q,0,none⟩=some (.pointer (some ⟨sb,0,none⟩))) {p:Int}(l:0≤p/\p<g.there.length) :
 Calls prog 75 #[.int .i64 p,.pointer (some ⟨q,0,none⟩)] w fun e w'=>e=.returned (.int .i64 (get g.there p))/\w'=w:=by
 obtain ⟨s,cap,D,I,-⟩:=pU h.rt (fun e=>by rw[e] at l;simp at l;omega)
 obtain ⟨-,-,c2,-,-,-,-⟩:=h.cells
 rw[D] at c2
 obtain ⟨k,rfl⟩:∃k:Nat,p=k:=⟨p.toNat,by omega⟩
 have J:=I k (by omega)
 have j:=Nx.Q7 (some ⟨s,0,none⟩) s 0 g.there.length cap k (by omega) (fun _=>rfl)
 rw[show (0:Nat)+k=k by omega] at j
 rw[Nx.Yb]
 obtain ⟨y,r⟩:=gQx (g.there.getD k 0)
 obtain ⟨n,u⟩:=gQx g.there.length
 rw[<-r] at J ⊢
 rw[<-u] at c2 j
 clear h D I l r u
 go_enter Tryz.func75,Tryz.ntmps75
 go_wp2
 go_ret
 exact ⟨rfl,rfl⟩
theorem Om (h:SM P B w sb m nums g c) {q:Nat}(hq:w.cell? ⟨q,0,none⟩=some (.pointer (some ⟨sb,0,none⟩))) {p:Int}(X:0≤p/\p<g.there.length) (hN:jF (get g.there p)) (j:g.copies (get g.there p)≠[]) :
 Calls prog 46 #[.int .i64 p,.pointer (some ⟨q,0,none⟩)] w fun e w'=>e=.returned (.int .i64 (mA g p))/\Hid (Below w.heap.size w w'):=by
 obtain ⟨Y,cap,hv,hc,-⟩:=pU h.rt (fun e=>by rw[e] at X;simp at X;omega)
 have U:=h.below (Below.refl _ w).drew
 have r:=U.lookC hN
 have J:cvS g c (get g.there p)=c.fv (get g.there p):=if_neg j
 obtain ⟨bC,O,I,D,-⟩:=pU (U.rw _ j) j
 rw[J,I] at r
 have hr:mA g p=(g.copies (get g.there p)).getD 0 0:=by
  unfold mA
  cases g.copies (get g.there p)<;>rfl
 have c0:=D 0 (List.length_pos_iff.2 j)
 obtain ⟨-,d1,Z,-,-,-,-⟩:=U.cells
 rw[hv] at Z
 rw[hr]
 obtain ⟨x,hx⟩:=gQx ((g.copies (get g.there p)).getD 0 0)
 obtain ⟨k,rfl⟩:∃k:Nat,p=k:=⟨p.toNat,by omega⟩
 have ck:w.drew.cell? ⟨Y,k,none⟩=some (.int .i64 (g.there.getD k 0)):=hc k (by omega)
 have u:=Nx.Q7 (some ⟨Y,0,none⟩) Y 0 g.there.length cap k (by omega) (fun _=>rfl)
 rw[show (0:Nat)+k=k by omega] at u
 have s:0<(g.copies (get g.there k)).length:=List.length_pos_iff.2 j
 rw[Nx.Yb] at r c0 hx s
 rw[Nx.Yb]
 have ab:w.drew.cell? ⟨q,0,none⟩=some (.pointer (some ⟨sb,0,none⟩)):=hq
 obtain ⟨y,hy⟩:=gQx (g.there.getD k 0)
 obtain ⟨n,hn⟩:=gQx g.there.length
 obtain ⟨l,hl⟩:=gQx ((g.copies (g.there.getD k 0)).length)
 rw[<-hx] at c0 ⊢
 rw[<-hl] at r s
 have aa:=Nx.Q7 (some ⟨bC,0,none⟩) bC 0 l O 0 s (fun _=>rfl)
 rw[<-hy] at ck r
 rw[<-hn] at Z u
 clear h U hv hc X hy hn hN j J I D hr hx hl hq
 go_enter Tryz.func46,Tryz.ntmps46
 go_upto_region 1 with fail
 go_region
 all_goals
  go_wp2_with fail
  go_ret
  exact ⟨rfl,(Below.refl _ w).drew⟩
end
open Nx (nI)
open Fw (X4 Ur Jq)
def wk (f:Int->Int) (s:Sp):Nat->List Int
 | 0=>[s.code,s.dst,s.a,s.b,s.c]
 | k+1=>(wk f s k).set (2+k) (f ((aN3 s).getD k 0))
theorem J5 (f:Int->Int) (s:Sp):∀k,(wk f s k).length=5
 | 0=>rfl
 | k+1=>by rw[wk,aW4,J5 f s k]
theorem E3 (s:Sp):(aN3 s).length≤3:=by unfold aN3;split<;>(try split)<;>(try split)<;>simp
theorem mF (s:Sp):aN3 s=[]\/aN3 s=[s.a]\/aN3 s=[s.a,s.b]\/aN3 s=[s.a,s.b,s.c]:=by
 unfold aN3
 split
 ·simp
 ·split
  ·simp
  ·split<;>simp
theorem Pv (f:Int->Int) (s:Sp) {k:Nat}(j:k<(aN3 s).length):(wk f s k).getD (2+k) 0=(aN3 s).getD k 0:=by
 rcases mF s with h|h|h|h
 ·rw[h] at j;exact absurd j (Nat.not_lt_zero _)
 ·rw[h] at j
  obtain rfl:k=0:=by simpa using j
  simp[wk,h]
 ·have l:k<2:=by simpa [h] using j
  obtain rfl|rfl:k=0\/k=1:=by omega
  all_goals simp[wk,h]
 ·have l:k<3:=by simpa [h] using j
  obtain rfl|rfl|rfl:k=0\/k=1\/k=2:=by omega
  all_goals simp[wk,h]
theorem Ak (f:Int->Int) (s:Sp):wk f s (aN3 s).length=[(bL f s).code,(bL f s).dst,(bL f s).a,(bL f s).b,(bL f s).c]:=by
 rcases mF s with h|h|h|h<;>simp[wk,bL,h]
theorem Gw (q k:Nat):(⟨q,0,none⟩:Addr).add k=⟨q,k,none⟩:=by unfold Addr.add;split<;>simp_all
theorem ixP (q n c k:Nat) (h:k<n) (w:World):(Instr.indexAt 112 (.slice (some ⟨q,0,none⟩) n c) (.int .i64 (k:Int))).run prog w=.ok (.pointer (some ⟨q,k,none⟩)) w:=by
 rw[aY8 _ _ _ _ _ _ _ (by kernel_rfl),if_pos ⟨by omega,by omega⟩]
 have e:(sizeOf (prog.elem 112)).run prog w=.ok 1 w:=by kernel_rfl
 rw[e]
 have:=Gw q k
 simp[Result.andThen,this]
theorem yI (h:Array Value) (W:World) (g:Nat) (j:Array Value) (hsz:j.size=5) (k:h[4]?.getD undef=.pointer (some ⟨g,0,none⟩)) (l:W.heap[g]?=some (.cells j 38 (0,0))) :
    (results Tryz.f45 h).run prog W=.ok (.agg j) W:=by
 simp[results,Tryz.results45,k,asAddr,Jq hsz l]
structure WI (w3 wr:World) (q:Nat) (l:List Int):Prop where
 box:wr.heap[q]?=some (.cells (l.map (Value.int .i64)).toArray 38 (0,0))
 fr:bM (fun b=>b=q) w3 wr
theorem WI.cell {w3 wr:World}{q:Nat}{l:List Int}(h:WI w3 wr q l) {k:Nat}(hk:k<l.length):wr.cell? ⟨q,k,none⟩=some (.int .i64 (l.getD k 0)):=
 aF h.box k (by simp[List.getD_eq_getElem?_getD,hk])
theorem WI.set {w3 wr w4:World}{q:Nat}{l:List Int}(h:WI w3 wr q l) (hb:Below wr.heap.size wr w4) (k:Nat) (x:Int):WI w3 (w4.setCell ⟨q,k,none⟩ (.int .i64 x)) q (l.set k x):=by
 refine ⟨?_,((h.fr.trans (bM.of_below (P:=fun _=>False) hb) fun _ _ h=>h.elim).setCell (p:=⟨q,k,none⟩) (.inl rfl) _)⟩
 rw[List.map_set]
 exact cH (aD hb h.box) k _
theorem F2 {s:Sp}{F q0:Nat}(hF:F=75\/F=46) {f:Int->Int}{w:World}(hc:∀W,Below w.heap.size w W->∀p∈aN3 s,Calls prog F #[.int .i64 p,.pointer (some ⟨q0,0,none⟩)] W fun e W'=>e=.returned (.int .i64 (f p))/\Hid (Below W.heap.size W W')) :
 Calls prog 45 #[wA s,.func (.func F) #[] #[.pointer (some ⟨q0,0,none⟩)]] w fun e w'=>e=.returned (wA (bL f s))/\Hid (Below w.heap.size w w'):=by
 obtain ⟨U,hU⟩:=gQx (w.alloc (.cells #[.int .i64 s.code,.int .i64 s.dst,.int .i64 s.a,.int .i64 s.b,.int .i64 s.c] 38))
 obtain ⟨u,l⟩:=gQx (U.alloc (.cells #[.int .i64 0,.int .i64 0,.int .i64 0,.int .i64 0,.int .i64 0] 38))
 obtain ⟨q,hq⟩:=gQx w.heap.size
 have sU:U.heap.size=q+1:=by rw[hU,hq];simp
 have O:u.heap.size=q+1+1:=by rw[l];simp[sU]
 have y:=O
 obtain ⟨j,I⟩:=gQx (u.alloc (.cells #[.pointer (some ⟨q,2,none⟩),.pointer (some ⟨q,3,none⟩),.pointer (some ⟨q,4,none⟩)] 113))
 have b1:Below w.heap.size w U:=by rw[hU];exact aL _ _
 have b2:Below U.heap.size U u:=by rw[l];exact aL _ _
 have b3:Below u.heap.size u j:=by rw[I];exact aL _ _
 have k1:j.heap[q]?=some (.cells #[.int .i64 s.code,.int .i64 s.dst,.int .i64 s.a,.int .i64 s.b,.int .i64 s.c] 38 (0,0)):=aD b3 (aD b2 (by rw[hU,hq];exact aX w _))
 have k2:j.heap[q+1]?=some (.cells #[.int .i64 0,.int .i64 0,.int .i64 0,.int .i64 0,.int .i64 0] 38 (0,0)):=aD b3 (by rw[<-sU,l];exact aX U _)
 have k3:j.heap[q+1+1]?=some (.cells #[.pointer (some ⟨q,2,none⟩),.pointer (some ⟨q,3,none⟩),.pointer (some ⟨q,4,none⟩)] 113 (0,0)):=by rw[<-O,I];exact aX u _
 obtain ⟨a0,a1,a2,a3,a4⟩:=Ur k1
 have Y:Hid (Below w.heap.size w j/\j.heap[q]?=some (.cells ((wk f s 0).map (Value.int .i64)).toArray 38 (0,0))/\j.heap[q+1]?=some (.cells #[.int .i64 0,.int .i64 0,.int .i64 0,.int .i64 0,.int .i64 0] 38 (0,0))/\j.heap[q+1+1]?=some (.cells #[.pointer (some ⟨q,2,none⟩),.pointer (some ⟨q,3,none⟩),.pointer (some ⟨q,4,none⟩)] 113 (0,0))/\w.heap.size=q):=⟨aQ b1 (aQ b2 b3),k1,k2,k3,hq.symm⟩
 have r:Calls prog 11 #[.agg #[.int .i64 s.code,.int .i64 s.dst,.int .i64 s.a,.int .i64 s.b,.int .i64 s.c]] j fun e w'=>∃ad cap,e=.returned (.slice ad (aN3 s).length cap)/\Hid (Below j.heap.size j w'):=
  (nI s.code s.dst s.a s.b s.c j).mono fun e w' ⟨v,he,⟨ad,b,off,cap,hv,h1,h2⟩,hb⟩=>⟨ad,cap,by rw[he,hv],hb⟩
 obtain ⟨n,hn⟩:=gQx ((aN3 s).length)
 have ac:n≤3:=by rw[hn];exact E3 s
 have HN:Hid (n=(aN3 s).length):=hn
 have HC:Hid (∀W,Below w.heap.size w W->∀p∈aN3 s,Calls prog F #[.int .i64 p,.pointer (some ⟨q0,0,none⟩)] W fun e W'=>e=.returned (.int .i64 (f p))/\Hid (Below W.heap.size W W')):=hc
 rw[<-hn] at r
 rw[hU] at l
 clear hU sU O b1 b2 b3 k1 k2 k3 hc hn
 subst I
 have ab:=fun k (hk:k<n) (W:World)=>ixP (q+1+1) n 3 k hk W
 have aa:Hid (u.heap.size=q+1+1):=y
 clear y
 have hsz:=aa.out
 rcases hF with rfl|rfl
 all_goals
  go_enter Tryz.func45,Tryz.ntmps45
  go_upto_region 1 with fail
  rw[<-l,<-hq]
  clear l hq
  go_wp2_with (go_at_call 11;refine r.mono ?_;rintro e w1 ⟨ad,cap,rfl,HX⟩;clear r)
  have h:Hid (Below w.heap.size w w1/\WI w1 w1 q (wk f s 0)/\w1.heap[q+1]?=some (.cells #[.int .i64 0,.int .i64 0,.int .i64 0,.int .i64 0,.int .i64 0] 38 (0,0))/\w1.heap[q+1+1]?=some (.cells #[.pointer (some ⟨q,2,none⟩),.pointer (some ⟨q,3,none⟩),.pointer (some ⟨q,4,none⟩)] 113 (0,0))/\w.heap.size=q):=
   ⟨aQ Y.out.1 HX.out,⟨aD HX.out Y.out.2.1,bM.refl _ _⟩,aD HX.out Y.out.2.2.1,aD HX.out Y.out.2.2.2.1,Y.out.2.2.2.2⟩
  clear a0 a1 a2 a3 a4 Y HX aa hsz
  go_loopw [16] (fun i wr=>∃k:Nat,k≤n/\i=.int .i64 k/\Hid (WI w1 wr q (wk f s k))) (fun i _=>n-(intOf i).toNat)
  case atStart=>exact ⟨0,aP6 _,rfl,h.out.2.1⟩
  case round=>
   obtain ⟨k,hk,rfl,HR⟩:=hrel
   have HW:Hid (Below w.heap.size w wr):=h.out.1.trans (HR.out.fr.below (B:=w.heap.size) h.out.1.size (fun b hb=>by rw[hb];have:=h.out.2.2.2.2;omega))
   by_cases hlt:k<n
   ·have hi:=ab k hlt
    have D:k<(aN3 s).length:=by rw[<-HN.out];exact hlt
    obtain ⟨x,hx⟩:=gQx ((aN3 s).getD k 0)
    have Z:Hid (x=(aN3 s).getD k 0):=hx
    have cx:wr.cell? ⟨q,2+k,none⟩=some (.int .i64 x):=by rw[HR.out.cell (by rw[J5];omega),Pv f s D,hx]
    have J:=HC.out wr HW.out x (by rw[hx,iO,aN4 D];exact aY3 _)
    have cp:wr.cell? ⟨q+1+1,k,none⟩=some (.pointer (some ⟨q,2+k,none⟩)):=by
     have hb:wr.heap[q+1+1]?=_:=HR.out.fr.heap h.out.2.2.2.1 (by omega)
     have:k=0\/k=1\/k=2:=by omega
     rcases this with rfl|rfl|rfl
     ·exact aF hb 0 rfl
     ·exact aF hb 1 rfl
     ·exact aF hb 2 rfl
    obtain ⟨d,hd⟩:=gQx (2+k)
    rw[<-hd] at cx cp
    have HD:Hid (d=2+k):=hd
    clear hx D hd
    go_wp2_with ((first|go_at_call 75|go_at_call 46);refine J.mono ?_;rintro e w4 ⟨rfl,h4⟩;have c4:=aN h4.out cx;have f4:=aG (aD h4.out HR.out.box) d)
    go_roundw
    case rel=>exact ⟨k+1,by omega,by go_num,by
     have:=HR.out.set h4.out (2+k) (f x)
     rw[Z.out] at this
     rw[HD.out,Z.out]
     exact this⟩
    case measure=>simp[intOf];omega
   ·obtain rfl:k=n:=by omega
    have hb:=HR.out.box
    rw[HN.out,Ak] at hb
    obtain ⟨c0,c1,c2,c3,c4⟩:=Ur hb
    have kz:wr.heap[q+1]?=_:=HR.out.fr.heap h.out.2.2.1 (by omega)
    obtain ⟨z0,z1,z2,z3,z4⟩:=Ur kz
    have rf:=fun o=>aG kz o
    go_wp2_with fail
    obtain ⟨X,hX⟩:=gQx (((((wr.setCell ⟨q+1,0,none⟩ (.int .i64 (bL f s).code)).setCell ⟨q+1,1,none⟩ (.int .i64 (bL f s).dst)).setCell ⟨q+1,2,none⟩ (.int .i64 (bL f s).a)).setCell ⟨q+1,3,none⟩ (.int .i64 (bL f s).b)).setCell ⟨q+1,4,none⟩ (.int .i64 (bL f s).c))
    rw[<-hX]
    obtain ⟨y0,_,y2,_⟩:=X4 kz hX
    clear hX
    refine aY9 (yI _ X (q+1) _ rfl rfl y0) rfl ⟨rfl,?_⟩
    exact y2 _ _ HW.out (by have:=h.out.2.2.2.2;omega)
end Sx
end
end Go.Proofs.YthieaobjdpfcoaaGreatDoor
