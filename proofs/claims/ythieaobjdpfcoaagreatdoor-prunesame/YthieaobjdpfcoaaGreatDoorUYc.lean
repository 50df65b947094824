import Derived.Test.YthieaobjdpfcoaaGreatDoorUFo
import Derived.Test.YthieaobjdpfcoaaGreatDoorUNt8b
import Derived.Test.YthieaobjdpfcoaaGreatDoorUCo2
set_option maxRecDepth 100000
set_option maxHeartbeats 8000000
namespace Go.Proofs.YthieaobjdpfcoaaGreatDoor
open Go.RowKit Go.Shelf Px
attribute [local go_sem] Oper.semAt_some
namespace Yw
open Nx (Nt Sp bH jA eD asks)
open Ew (bM)
theorem aL8:(Tryz.prog.info? 4).map (fun i=>(i.zero,i.size,i.bytes))=some (some (.bool false),1,1):=by kernel_rfl
theorem aK2 (n:Nat):(madeCells (Value.cells (.bool false)) (n*1))=((List.replicate n false).map Value.bool).toArray:=by
 apply Array.toList_inj.1
 apply List.ext_getElem
 ·simp[madeCells]
 ·intro k h c
  simp[madeCells,Value.cells,Nat.mod_one]
theorem Rf (w:World) (n:Nat) (l:n≤1000000):(Instr.makeSlice 71 (.int .i64 (n:Int)) (.int .i64 (n:Int))).run Tryz.prog w=.ok (sK w.heap.size n) (w.alloc (.cells ((List.replicate n false).map Value.bool).toArray 4)):=by
 obtain ⟨i0,k,c,j,h⟩:=aX6 aL8
 have:=run_make (P:=Tryz.prog) w 71 4 i0 (.bool false) Tryz.underlying71 k c .i64 .i64 (n:Int) (n:Int) (by omega) (by omega) (by rw[h];omega) (by omega)
 rw[this,j]
 simp only[aP2]
 rw[aK2]
structure Pv where
 bw:Nat
 bm:Nat
 vC:Value
 vK:Value
structure PM (w:World) (pb:Nat) (A:Nat->Prop) (cs:List Sp) (wd may:List Bool) (keeps:List Int) (c:Pv):Prop where
 hk:w.heap[pb]?=some (.cells #[c.vC,sK c.bw cs.length,sK c.bm may.length,c.vK] 73 (0,0))
 code:Nx.jA A w c.vC cs
 wt:bL w c.bw wd
 wl:wd.length=cs.length
 m:bL w c.bm may
 k:w.ownsRow 0 3 1 c.vK keeps.length (keeps.map (Value.int .i64))
 ne:pb≠c.bw/\pb≠c.bm/\c.bw≠c.bm
 kn:∀g,c.vK.ownBlock=some g->g≠pb/\g≠c.bw/\g≠c.bm/\¬A g
 an:¬A pb/\¬A c.bw/\¬A c.bm
def lH (a:List Bool×List Bool) (i:Nat) (s:Sp):List Bool×List Bool:=
 if a.1.getD s.dst.toNat false=true then (if a.2.getD i false=true then (a.1.set s.dst.toNat false,a.2) else (cM (a.1.set s.dst.toNat false) (asks s) true,a.2.set i true)) else a
def kJ {cs:List Sp}(a:List Bool×List Bool) (pre:List (XS cs)):List Bool×List Bool:=pre.foldl (fun a x=>lH a x.1.1 x.1.2) a
theorem D7 {cs:List Sp}(a:List Bool×List Bool) (pre:List (XS cs)) (x:XS cs):kJ a (pre++[x])=lH (kJ a pre) x.1.1 x.1.2:=by simp[kJ]
theorem eX (bs:List Bool) (ps:List Int) (x:Bool):(cM bs ps x).length=bs.length:=E5 _ _ _ _
theorem Ke (a:List Bool×List Bool) (i:Nat) (s:Sp):(lH a i s).1.length=a.1.length/\(lH a i s).2.length=a.2.length:=by
 unfold lH
 split
 ·split
  ·exact ⟨by simp,rfl⟩
  ·exact ⟨by simp[eX],by simp⟩
 ·exact ⟨rfl,rfl⟩
theorem sX {cs:List Sp}(a:List Bool×List Bool) (pre:List (XS cs)):(kJ a pre).1.length=a.1.length/\(kJ a pre).2.length=a.2.length:=by
 induction pre generalizing a with
 | nil=>exact ⟨rfl,rfl⟩
 | cons x r ih=>
  have h:=ih (lH a x.1.1 x.1.2)
  have c:=Ke a x.1.1 x.1.2
  exact ⟨h.1.trans c.1,h.2.trans c.2⟩
structure aN4 (w W:World) (pb q ba:Nat) (A:Nat->Prop) (cs:List Sp) (asked wd may:List Bool) (keeps:List Int) (c:Pv) (adC:Option Addr) (capC:Nat):Prop where
 bel:Below w.heap.size w W
 hq:q=w.heap.size
 hba:ba=q+1
 b0:W.heap[q]?=some (.cells #[.pointer (some ⟨pb,0,none⟩)] 65 (0,0))
 b2:W.heap[q+2]?=some (.cells #[sK ba may.length] 71 (0,0))
 b3:W.heap[q+3]?=some (.cells #[.func (.func 51) #[] #[.pointer (some ⟨q+2,0,none⟩)]] 85 (0,0))
 b4:W.heap[q+4]?=some (.cells #[.slice adC cs.length capC] 24 (0,0))
 ask:bL W ba asked
 al:asked.length=may.length
 size:W.heap.size=q+5
theorem PM.below {w w':World}{pb:Nat}{A:Nat->Prop}{cs:List Sp}{wd may:List Bool}{keeps:List Int}{c:Pv}(h:PM w pb A cs wd may keeps c) (hb:Below w.heap.size w w'):PM w' pb A cs wd may keeps c:=
 ⟨aD hb h.hk,h.code.carry fun b ha hl=>⟨ha,hb.block b hl⟩,aD hb h.wt,h.wl,aD hb h.m,eY (A:=fun _=>True) (A':=fun _=>True) h.k (fun _ _=>trivial) fun b _ hl=>⟨trivial,hb.block b hl⟩,h.ne,h.kn,h.an⟩
theorem sB {D:Nat->Prop}{w w':World}(h:bM D w w') (hD:∀b,D b->∃l T f,w.heap[b]?=some (.cells l T f)):KeepsOthers w w':=⟨h.size,fun k o hk ho=>by
 by_cases hd:D k
 ·obtain ⟨l,T,f,e⟩:=hD k hd
  rw[hk] at e
  injection e with e
  subst e
  cases ho
 ·rw[h.block k (Array.getElem?_eq_some_iff.1 hk).1 hd];exact hk⟩
structure zQ (w5:World) (ba bw:Nat) (a:List Bool×List Bool) (W:World):Prop where
 ask:bL W ba a.1
 wt:bL W bw a.2
 fr:bM (fun b=>b=ba\/b=bw) w5 W
theorem Ec {β:Type}{w5:World}{ba bw:Nat}(f:β->List Bool×List Bool) (ha:ba<w5.heap.size) (hb:bw<w5.heap.size):OwnFrom w5.heap.size (fun s W=>zQ w5 ba bw (f s) W):=fun s W W' row hs hg hr=>by
 have kp:∀b,b<w5.heap.size->W'.heap[b]?=W.heap[b]?:=fun b hl=>hg.block b (aH3 hl hs.fr.size) fun e=>by have:=(hr b e.symm).1;omega
 exact ⟨by unfold bL;rw[kp ba ha];exact hs.ask,by unfold bL;rw[kp bw hb];exact hs.wt,hg.os.trans hs.fr.os,hg.tape.trans hs.fr.tape,hg.output.trans hs.fr.output,aH5 hs.fr.size hg.size,fun b hl hn=>by rw[kp b hl];exact hs.fr.block b hl hn⟩
def dX (aq may:List Bool):Nat->List Int
 | 0=>[]
 | k+1=>if may.getD k false=true/\aq.getD k false=true then dX aq may k++[(k:Int)] else dX aq may k
theorem nD (aq n:List Bool) (k:Nat) (p:Int):p∈dX aq n k↔∃j:Nat,j<k/\p=(j:Int)/\n.getD j false=true/\aq.getD j false=true:=by
 induction k with
 | zero=>simp[dX]
 | succ k ih=>
  rw[dX]
  split
  ·rename_i h
   simp only[aJ6,ih,aI1]
   constructor
   ·rintro (⟨j,s,c⟩|rfl)
    ·exact ⟨j,by omega,c⟩
    ·exact ⟨k,by omega,rfl,h⟩
   ·rintro ⟨j,s,c,r⟩
    rcases aW5 j k with l|l
    ·exact .inl ⟨j,l,c,r⟩
    ·obtain rfl:j=k:=by omega
     exact .inr c
  ·rename_i h
   rw[ih]
   constructor
   ·rintro ⟨j,s,c⟩;exact ⟨j,by omega,c⟩
   ·rintro ⟨j,s,c,r⟩
    rcases aW5 j k with l|l
    ·exact ⟨j,l,c,r⟩
    ·obtain rfl:j=k:=by omega
     exact absurd r h
theorem qO (aq c:List Bool) (k:Nat):(dX aq c k).length≤k:=by
 induction k with
 | zero=>simp[dX]
 | succ k ih=>
  rw[dX]
  split
  ·rw[aH7,aP4];omega
  ·omega
theorem rF {F:Fence}{n:Nat}{P:Program}{w w':World}{ops:Array Oper}{rest:List Oper}{o:Oper}{a:Act}{Q:Exit->Act->World->Prop}(hgd:o.guard=none) (s x:Operand) (t:TypeId)
    (ho:o.op=.call { callee:=.builtin .append,args:=#[s,x],argTypes:=#[t,t] }) (vs vx r:Value) (hs:a.eval s=vs) (hx:a.eval x=vx) (hr:(Builtin.append_ #[t,t] o.type #[vs,vx]).run P w=.ok r w') (h:wpListIn F n P ops Q rest (a.put o.dst r) w'):wpListIn F n P ops Q (o::rest) a w:=
 wpListIn_plain hgd fun K hK=>by
  unfold Oper.wpIn
  refine ⟨by simp[Oper.about,ho,resolve,Target.leads,Sem.run_pure],?_⟩
  rw[Oper.semAt_plain F _ _ (by rw[ho];intro c hc';cases hc')]
  simp[execOp,ho,resolve,invoke,builtin,hs,hx,hr,Result.andThen]
  exact hK _ _ h
theorem Jg {F:Fence}{j:Nat}{P:Program}{s:Code}{K:Act->World->Prop}{k:Exit->Act->World->Prop}{a:Act}{w:World}(h:s.wpIn F j P (Exit.then K fun _ _ _=>False) a w):s.wpIn F j P (Exit.then K k) a w:=by
 refine wpIn_mono h ?_
 intro e n r c
 cases e with
 | normal=>exact c
 | exit id=>exact c.elim
 | goto l=>exact c.elim
 | ret=>exact c.elim
 | panic ch=>exact c.elim
 | outgrown=>exact c.elim
theorem aN3 (B:Nat) (w:World) (v:Value) (zs:List Int) (x:Int) (q:Nat) (h:Nx.iH 3 B w v zs) (n:w.cell? ⟨q,0,none⟩=some (.int .i64 x)) (hB:B≤w.heap.size) (s:zs.length≤900000) :
    ∃g cap w',(Builtin.append_ #[23,23] 23 #[v,.slice (some ⟨q,0,none⟩) 1 1]).run Tryz.prog w=.ok (.slice (some ⟨g,0,none⟩) (zs.length+1) cap) w'/\Nx.iH 3 B w' (.slice (some ⟨g,0,none⟩) (zs.length+1) cap) (zs++[x])/\w.grownBy w' v.ownBlock:=by
 obtain ⟨g,cap,w',l,c,r,_,_⟩:=Nx.aG9 (A:=fun _=>True) 23 3 Tryz.underlying23 Tryz.ckInfoInt B w v (.slice (some ⟨q,0,none⟩) 1 1) zs [x] h ⟨_,q,0,1,rfl,fun _=>⟨rfl,trivial⟩,fun k j=>by
  obtain rfl:k=0:=by simpa using j
  exact n⟩ hB (.inr (by simp)) (by simp;omega)
 exact ⟨g,cap,w',l,c,r⟩
structure Ux (A:Nat->Prop) (w w':World) (pb:Nat) (cs:List Sp) (may:List Bool) (keeps:List Int) (aF wF:List Bool) (c:Pv) (v:Value) (c':Pv):Prop where
 more:bH (fun b=>w.heap.size≤b/\b<w'.heap.size) w' v (dX aF may may.length)
 pm:PM w' pb A cs wF (cM may (dX aF may may.length) false) (keeps++dX aF may may.length) c'
 same:c'.bw=c.bw/\c'.bm=c.bm/\c'.vC=c.vC
 fr:bM (fun b=>b=pb\/b=c.bw\/b=c.bm\/c.vK.ownBlock=some b) w w'
 nk:∀g,c'.vK.ownBlock=some g->c.vK.ownBlock=some g\/w.heap.size≤g
theorem aV8 {A:Nat->Prop}(w:World) (v x:Value) (zs c:List Int) (h:Nx.iH 3 0 w v zs) (hx:bH A w x c) (I:c=[]->x=.slice none 0 0) (y:zs.length+c.length≤1000000) :
    ∃v' w',(Builtin.append_ #[23,23] 23 #[v,x]).run Tryz.prog w=.ok v' w'/\Nx.iH 3 0 w' v' (zs++c)/\w.grownBy w' v.ownBlock/\(∀g,v'.ownBlock=some g->(v.ownBlock=some g\/g=w.heap.size)/\g<w'.heap.size):=by
 by_cases hp:0<zs.length\/0<c.length
 ·obtain ⟨g,cap,w',D,k,U,J,l⟩:=Nx.aG9 23 3 Tryz.underlying23 Tryz.ckInfoInt 0 w v x zs c h hx (aJ5 _) hp y
  refine ⟨_,w',D,?_,U,fun O j=>?_⟩
  ·exact k
  ·have:g=O:=by simpa [Value.ownBlock] using j
   subst this
   exact ⟨J,l⟩
 ·obtain rfl:zs=[]:=aO2.1 (by omega)
  obtain rfl:c=[]:=aO2.1 (by omega)
  obtain ⟨i0,u,n,r,Q⟩:=aX6 Tryz.ckInfoInt
  rw[I rfl]
  obtain ⟨_,_,_,s⟩:=h.form
  exact ⟨v,w,run_append_owned_none (P:=Tryz.prog) w 0 23 23 3 i0 1 Tryz.underlying23 u v 0 [] h,h,⟨rfl,rfl,rfl,aF4 _,fun _ _ _=>rfl⟩,fun g j=>⟨.inl j,(s g j).2⟩⟩
attribute [-go_sem] Builtin.append_
theorem Om {A Ap:Nat->Prop}{w:World}{pb:Nat}{cs:List Sp}{wd I:List Bool}{keeps ps:List Int}{c:Pv}{vp:Value}(h:PM w pb A cs wd I keeps c) (hp:bH Ap w vp ps) (cz:∀b,Ap b->b<w.heap.size) (dt:∀b,A b->b<w.heap.size) (dd:keeps.length≤4000) (en:ps.length≤4000) (dy:∀p∈ps,0≤p/\p<I.length) (db:cs.length≤4000) (cq:I.length≤4000) {nn:Nat}(hst:∀k,k<cs.length->Nx.eA (I.length:Int) nn (cs.getD k eD)=0) :
    Calls Tryz.prog 29 #[.pointer (some ⟨pb,0,none⟩),vp] w fun e w'=>∃v c',e=.returned v/\Hid (Ux A w w' pb cs I keeps (kJ (cM (List.replicate I.length false) ps true,wd) (eU cs cs.length)).1 (kJ (cM (List.replicate I.length false) ps true,wd) (eU cs cs.length)).2 c v c'):=by
 obtain ⟨wl,cn⟩:∃l,l=cs.length:=⟨_,rfl⟩
 obtain ⟨P,hP⟩:∃P,P=I.length:=⟨_,rfl⟩
 obtain ⟨q,hq⟩:∃q,q=w.heap.size:=⟨_,rfl⟩
 obtain ⟨ak,bC,oC,ab,cd,ai,ap⟩:=h.code
 obtain ⟨U1,au⟩:∃U,U=w.alloc (.cells #[.pointer (some ⟨pb,0,none⟩)] 65):=⟨_,rfl⟩
 obtain ⟨U2,aw⟩:∃U,U=U1.alloc (.cells ((List.replicate P false).map Value.bool).toArray 4):=⟨_,rfl⟩
 obtain ⟨U3,bh⟩:∃U,U=U2.alloc (.cells #[sK (q+1) P] 71):=⟨_,rfl⟩
 have s1:U1.heap.size=q+1:=by rw[au,hq];simp
 have s2:U2.heap.size=q+2:=by rw[aw];simp[s1]
 have s3:U3.heap.size=q+3:=by rw[bh];simp[s2]
 have b1:Below w.heap.size w U1:=by rw[au];exact aC _ _
 have b2:Below U1.heap.size U1 U2:=by rw[aw];exact aC _ _
 have b3:Below U2.heap.size U2 U3:=by rw[bh];exact aC _ _
 have k1:U1.heap[q]?=some (.cells #[.pointer (some ⟨pb,0,none⟩)] 65 (0,0)):=by rw[au,hq];exact aX _ _
 have k2:bL U2 (q+1) (List.replicate P false):=by rw[<-s1,aw];exact aX _ _
 have k3:U3.heap[q+2]?=some (.cells #[sK (q+1) P] 71 (0,0)):=by rw[<-s2,bh];exact aX _ _
 have dm:=aD b3 (aD b2 k1)
 have dr:bL U3 (q+1) (List.replicate P false):=aD b3 k2
 have cx:Below w.heap.size w U3:=aQ b1 (aQ b2 b3)
 have bf:=pU (b:=q+1) (n:=P) true dr (by simp) (hp.carry (A':=Ap) (w':=U3) fun b hb hl=>⟨hb,cx.block b hl⟩) (fun hh=>by have:=cz _ hh;omega) (by rw[hP];exact dy) (by omega)
 have HH:Hid (PM w pb A cs wd I keeps c/\Below w.heap.size w U3/\U3.heap[q]?=some (.cells #[.pointer (some ⟨pb,0,none⟩)] 65 (0,0))/\U3.heap[q+2]?=some (.cells #[sK (q+1) P] 71 (0,0))/\U3.heap.size=q+3/\q=w.heap.size/\P=I.length/\wl=cs.length):=⟨h,cx,dm,k3,s3,hq,hP,cn⟩
 have ez:=aB h.hk
 have bk:=h.hk
 rw[cd,<-cn,<-hP] at bk
 have c2:=aA bk 2 (u:=sK c.bm P) rfl
 have c0:=aA bk 0 (u:=.slice ak wl ab) rfl
 have dk:Hid (c.vC=.slice ak cs.length ab/\cs.length≤4000/\I.length≤4000):=⟨cd,db,cq⟩
 have eh:Hid (0<cs.length->∃b o,ak=some ⟨b,o,none⟩/\b<q):=fun hp=>⟨bC,oC,(ai hp).1,by rw[hq];exact cC (ap 0 hp).1⟩
 have ee:Hid (∀k,k<cs.length->Nx.eA (I.length:Int) nn (cs.getD k eD)=0):=hst
 clear hst
 have ce:Hid ((∀b,A b->b<w.heap.size)/\keeps.length≤4000/\P≤4000):=⟨dt,dd,by omega⟩
 clear dt dd
 have mk:=fun W=>Rf W P (by omega)
 have di:=X4 ak wl ab
 have HU:Hid (((w.alloc (.cells #[.pointer (some ⟨pb,0,none⟩)] 65)).alloc (.cells (Array.replicate P (.bool false)) 4)).alloc (.cells #[.slice (some ⟨w.heap.size+1,0,none⟩) P P] 71)=U3/\w.heap.size=q):=⟨by rw[bh,aw,au,hq];simp,hq.symm⟩
 clear s1 s2 s3 b1 b2 b3 k1 k2 k3 dm dr cx cd ai ap bk h hp en dy au aw bh hq cn hP cz db cq
 refine (callsIn_wide (n:=6)).1 ?_
 refine callsIn_of_wp_marks Tryz.func29 rfl trivial ?_ rfl
 simp only[Tryz.ntmps29,List.size_toArray,aO4,aW4,Nat.reduceAdd,Nat.reduceSub,Array.replicate_succ,Array.replicate_zero,List.push_toArray,List.append_toArray,List.nil_append,List.cons_append]
 gi_wp2_with (first
  | (refine ⟨trivial,?_⟩;gi_at_call 50;rw[HU.out.1,HU.out.2];refine (callsIn_wide.2 bf).mono ?_;rintro e w3 ⟨rfl,h3⟩;clear bf
     have dh:w3.heap.size=q+3:=h3.out.2.2.trans HH.out.2.2.2.2.1
     have x0:w3.cell? ⟨q,0,none⟩=some (.pointer (some ⟨pb,0,none⟩)):=aA (h3.out.2.1.heap HH.out.2.2.1 (by omega)) 0 rfl
     have y0:w3.cell? ⟨pb,0,none⟩=some (.slice ak wl ab):=h3.out.2.1.cell (aN HH.out.2.1 c0) (by show ¬pb=q+1;have:=HU.out.2;omega)
     have lq:q<w3.heap.size:=by omega
     have lp:pb<w3.heap.size:=by have:=HU.out.2;omega
     have cg:Hid (w3.heap.size=q+3):=dh
     clear dh)
  | (refine ⟨trivial,?_⟩;gi_at_call 52;refine (callsIn_wide.2 (di _)).mono ?_;rintro e w5 ⟨rfl,cr⟩;clear di
     rw[aX3,cg.out,show q+1+1=q+2 from rfl,show q+3+1=q+4 from rfl]
     rw[show q+1+1=q+2 from rfl] at cr
     have ek:Hid (w5=_):=cr
     clear cr))
 obtain ⟨a0,ci⟩:∃a0,a0=cM (List.replicate P false) ps true:=⟨_,rfl⟩
 have ea:Hid (a0=cM (List.replicate P false) ps true):=ci
 have eb:=h3.out.1
 rw[<-ci] at eb
 clear ci
 have J:Hid (aN4 w w5 pb q (q+1) A cs a0 wd I keeps c ak ab):=by
  obtain ⟨ct,g1,g2,g3,g4,g5,g6,g7⟩:=HH.out
  obtain ⟨-,f1,f2⟩:=h3.out
  have e5:=ek.out
  obtain ⟨w4,bn⟩:∃w4,w4=w3.alloc (.cells #[.func (.func 51) #[] #[.pointer (some ⟨q+2,0,none⟩)]] 85):=⟨_,rfl⟩
  rw[<-bn] at e5
  have s4:w4.heap.size=q+4:=by rw[bn];simp[cg.out]
  have b4:Below w3.heap.size w3 w4:=by rw[bn];exact aC _ _
  have b5:Below w4.heap.size w4 w5:=by rw[e5];exact aC _ _
  have k3:w4.heap[q+3]?=some (.cells #[.func (.func 51) #[] #[.pointer (some ⟨q+2,0,none⟩)]] 85 (0,0)):=by rw[<-cg.out,bn];exact aX _ _
  have bo:=aQ b4 b5
  refine ⟨(g1.trans (f1.below (B:=w.heap.size) g1.size fun b hb=>by rw[hb];omega)).trans (bo.mono (by omega)),g5,rfl,aD bo (f1.heap g2 (by omega)),?_,aD b5 k3,?_,aD bo eb,by rw[ea.out,eX];simp[g6],by rw[e5];simp[s4]⟩
  ·rw[<-g6];exact aD bo (f1.heap g3 (by omega))
  ·rw[<-s4,e5,<-g7];exact aX _ _
 have y:Hid (PM w5 pb A cs wd I keeps c/\pb<q/\c.bw<q/\c.bm<q):=⟨HH.out.1.below J.out.bel,by have:=HU.out.2;omega,by rw[J.out.hq];exact aB HH.out.1.wt,by rw[J.out.hq];exact aB HH.out.1.m⟩
 have az:=y.out.1.code
 rw[dk.out.1] at az
 obtain ⟨fp,bC,oC,er,he,ai,ap⟩:=az
 injection he with he1 he2 he3
 subst he1 he3
 have hD:∀b,(b=q+4\/0<cs.length/\b=bC)->b<w5.heap.size:=fun b hb=>by
  have:=J.out.size
  rcases hb with rfl|⟨hp,rfl⟩
  ·omega
  ·exact cC (ap 0 hp).1
 have ew:=J.out.size
 have HD:Hid (∀b,(b=q+4\/0<cs.length/\b=bC)->b<w5.heap.size):=hD
 have cp:Hid (∀b,(b=q+4\/0<cs.length/\b=bC)->b≠q+1/\b≠c.bw):=fun b hb=>by
  have fq:=y.out.2.2.1
  rcases hb with rfl|⟨hp,rfl⟩
  ·exact ⟨by omega,by omega⟩
  ·obtain ⟨b',o',h1,h2⟩:=eh.out hp
   have h3:=(ai hp).1
   rw[h1] at h3
   injection h3 with h3
   injection h3 with h3
   exact ⟨by omega,fun e=>y.out.1.an.2.1 (e▸(ai hp).2)⟩
 refine wpIn_rangeFunc_ownH (F:=Fence.wide) (n:=6) rfl (by omega) (gf:=85) (lb:=#[.pointer (some ⟨q+4,0,none⟩)]) rfl trivial (enters_of Tryz.func85 (by kernel_rfl) rfl)
  (Gw (cs:=cs) (D:=fun b=>b=q+4\/0<cs.length/\b=bC) 5 (by omega) ⟨.inl rfl,fun h=>.inr ⟨h,rfl⟩⟩ (by have:=dk.out.2.1;omega) (w:=w5) (aA J.out.b4 0 rfl) (fun h=>(ai h).1) ap)
  Ih (Zo hD) (Below.refl _ _) (fun _=>rfl)
  (fun pre W=>zQ w5 (q+1) c.bw (kJ (a0,wd) pre) W) (fun _ _ _=>False)
  (Ec _ (by omega) (by have:=y.out.2.2.1;omega)) (fun _ _ _ _ _ hs _ _=>hs) ⟨J.out.ask,y.out.1.wt,bM.refl _ _⟩
  (fun x a' W=>∃z,w5.heap.size≤z/\W.heap[z]?=some (.cells #[.int .i64 x.1.2.code,.int .i64 x.1.2.dst,.int .i64 x.1.2.a,.int .i64 x.1.2.b,.int .i64 x.1.2.c] 38 (0,0))/\a'={ tmps:=#[.pointer (some ⟨pb,0,none⟩),vp,.pointer (some ⟨q,0,none⟩),undef,.slice none 0 0,.pointer (some ⟨q+2,0,none⟩),.pointer (some ⟨q+3,0,none⟩),.int .i64 (x.1.1:Int),.pointer (some ⟨z,0,none⟩),undef,undef,.pointer (some ⟨pb,0,none⟩),.pointer (some ⟨pb,0,none⟩),.pointer (some ⟨pb,2,none⟩),sK c.bm P,.int .i64 P,sK (q+1) P,.slice (some ⟨q+1,0,none⟩) P P,vp,.tuple #[],.func (.func 51) #[] #[.pointer (some ⟨q+2,0,none⟩)],.pointer (some ⟨pb,0,none⟩),.pointer (some ⟨pb,0,none⟩),.pointer (some ⟨pb,0,none⟩),.slice ak wl ab,.func (.func 85) #[] #[.pointer (some ⟨q+4,0,none⟩)],.int .i64 (x.1.1:Int),.agg #[.int .i64 x.1.2.code,.int .i64 x.1.2.dst,.int .i64 x.1.2.a,.int .i64 x.1.2.b,.int .i64 x.1.2.c],undef,undef,undef,undef,undef,undef,undef,undef,undef,undef,undef,undef,undef,undef,undef,undef,undef,undef,undef,undef,undef,undef,undef,undef,undef,undef,undef,undef,undef,undef,undef,undef,undef,undef,undef,undef,undef,undef,undef,undef,undef,undef,undef,undef,undef,undef,undef,undef,undef,undef,undef,undef,undef,undef,undef,undef,undef,undef,undef,undef,undef,undef,undef,undef,undef,undef,undef,undef],defers:=[] })
  (fun x a' s W W' row hs hg hr=>by
   obtain ⟨z,hz,hk,he⟩:=hs
   refine ⟨z,hz,?_,he⟩
   rw[hg.block z (aB hk) fun e=>by { obtain ⟨_,o,ho,hc⟩:=hr z e.symm;rw[hk] at ho;injection ho with ho;subst ho;cases hc }]
   exact hk) ?assign ?body ?done ?stop
 case assign=>
  intro l pre x W K hi hK
  gi_wp2
  exact hK _ _ ((KeepsOthers.alloc _ _).from _) (fun b hb=>Below.heap_alloc _ _ _ (aH3 (HD.out b hb) hi.fr.size)) ⟨aD (aC _ _) hi.ask,aD (aC _ _) hi.wt,hi.fr.alloc _⟩ ⟨W.heap.size,hi.fr.size,aX _ _,rfl⟩
 case body=>
  rintro l pre x a' W hl ⟨r,hr⟩ hI ⟨z,hz,kz,rfl⟩ ck
  have bc:Hid (∀a,kJ a (pre++[x])=lH (kJ a pre) x.1.1 x.1.2):=fun a=>D7 a pre x
  have hx1:=x.2.1
  have hs:=ee.out x.1.1 hx1
  rw[<-x.2.2] at hs
  obtain ⟨i,hi⟩:∃i,i=x.1.1:=⟨_,rfl⟩
  obtain ⟨s,du⟩:∃s,s=x.1.2:=⟨_,rfl⟩
  rw[<-hi] at hx1 bc ⊢
  rw[<-du] at hs kz bc ⊢
  clear hi du
  obtain ⟨aq,has⟩:∃aq,aq=(kJ (a0,wd) pre).1:=⟨_,rfl⟩
  obtain ⟨ws,ae⟩:∃ws,ws=(kJ (a0,wd) pre).2:=⟨_,rfl⟩
  have hlen:=sX (a0,wd) pre
  rw[<-has,<-ae] at hlen
  have ba:=(Nx.iN _ _).1 (Nx.sD hs).1
  have O:Hid (bL W (q+1) aq/\bL W c.bw ws/\bM (fun b=>b=q+1\/b=c.bw) w5 W/\aq.length=I.length/\ws.length=cs.length/\kJ (a0,wd) pre=(aq,ws)/\(0≤s.dst/\s.dst<(I.length:Int))/\(∀p∈asks s,0≤p/\p<(I.length:Int))/\i<cs.length/\W.heap[z]?=some (.cells #[.int .i64 s.code,.int .i64 s.dst,.int .i64 s.a,.int .i64 s.b,.int .i64 s.c] 38 (0,0))/\w5.heap.size≤z):=by
   refine ⟨by rw[has];exact hI.ask,by rw[ae];exact hI.wt,hI.fr,by rw[hlen.1];exact J.out.al,by rw[hlen.2];exact y.out.1.wl,by rw[has,ae],ba,fun p hp=>(Nx.iN _ _).1 (aR6.1 (Nx.sD hs).2 p hp),hx1,kz,hz⟩
  have r0:W.cell? ⟨q,0,none⟩=some (.pointer (some ⟨pb,0,none⟩)):=aA (O.out.2.2.1.heap J.out.b0 (by have:=y.out.2.2.1;omega)) 0 rfl
  have r2:W.cell? ⟨q+2,0,none⟩=some (sK (q+1) I.length):=aA (O.out.2.2.1.heap J.out.b2 (by have:=y.out.2.2.1;omega)) 0 rfl
  have r3:=aA (O.out.2.2.1.heap J.out.b3 (by have:=y.out.2.2.1;omega)) 0 (u:=.func (.func 51) #[] #[.pointer (some ⟨q+2,0,none⟩)]) rfl
  have kp:=O.out.2.2.1.heap y.out.1.hk (by have:=y.out.1.ne;have:=y.out.2.1;omega)
  have r1:W.cell? ⟨pb,1,none⟩=some (sK c.bw cs.length):=aA kp 1 rfl
  have z0:=aA kz 0 (u:=.int .i64 s.code) rfl
  have z1:=aA kz 1 (u:=.int .i64 s.dst) rfl
  have z2:=aA kz 2 (u:=.int .i64 s.a) rfl
  have z3:=aA kz 3 (u:=.int .i64 s.b) rfl
  have z4:=aA kz 4 (u:=.int .i64 s.c) rfl
  have Z:=wO (w:=W) (qb:=q+2) r2 O.out.1 O.out.2.2.2.1 ba
  obtain ⟨j,hj⟩:∃j,j=s.dst.toNat:=⟨_,rfl⟩
  obtain ⟨bv,ch⟩:∃bv,bv=aq.getD s.dst.toNat false:=⟨_,rfl⟩
  obtain ⟨wv,cv⟩:∃wv,wv=ws.getD i false:=⟨_,rfl⟩
  have HJ:Hid (j=s.dst.toNat/\bv=aq.getD s.dst.toNat false/\wv=ws.getD i false):=⟨hj,ch,cv⟩
  rw[<-ch] at Z
  have dc:=ixB (q+1) I.length s.dst ba.1 ba.2
  rw[<-hj] at dc
  have cb:=O.out.1.cell (k:=j) (by have:=O.out.2.2.2.1;omega)
  have fb:=aG O.out.1 j
  have ej:=ixB c.bw cs.length (i:Int) (by omega) (by omega)
  rw[aP2] at ej
  have cw:=O.out.2.1.cell (k:=i) (by rw[O.out.2.2.2.2.1];exact hx1)
  rw[<-cv] at cw
  have fw:=aG O.out.2.1 i
  have e1:¬pb=q+1:=by have:=y.out.2.1;omega
  have e2:¬q+1=pb:=fun e=>e1 e.symm
  have e3:¬c.bw=q+1:=by have:=y.out.2.2.1;omega
  have e4:¬q+1=c.bw:=fun e=>e3 e.symm
  have e5:¬z=q+1:=by have:=J.out.size;omega
  have e6:¬q+1=z:=fun e=>e5 e.symm
  have e7:¬c.bw=z:=by have:=J.out.size;have:=y.out.2.2.1;omega
  have e8:¬z=c.bw:=fun e=>e7 e.symm
  have e9:¬c.bw=q+2:=by have:=y.out.2.2.1;omega
  have e10:¬q+2=c.bw:=fun e=>e9 e.symm
  have e11:¬pb=c.bw:=y.out.1.ne.1
  have e12:¬c.bw=pb:=fun e=>e11 e.symm
  have eo:¬q=c.bw:=by have:=y.out.2.2.1;omega
  have e14:¬c.bw=q:=fun e=>eo e.symm
  obtain ⟨sc,sd,sa,sb,se⟩:=s
  dsimp only at z0 z1 z2 z3 z4 Z dc ⊢
  clear hI has ae hlen ba kz hj ch cv kp ck hs
  cases bv with
  | false=>
   gi_wp2_with (refine ⟨trivial,?_⟩;gi_at_call 51;refine (CallsIn.inRound l (callsIn_wide.2 Z)).mono ?_;rintro e w' ⟨rfl,af⟩;obtain rfl:=af.symm)
   refine ⟨KeepsFrom.refl _ _,fun _ _=>rfl,?_⟩
   show zQ w5 (q+1) c.bw (kJ (a0,wd) (pre++[x])) _
   rw[bc.out,O.out.2.2.2.2.2.1]
   have:lH (aq,ws) i ⟨sc,sd,sa,sb,se⟩=(aq,ws):=by unfold lH;rw[if_neg (by rw[<-HJ.out.2.1];simp)]
   rw[this]
   exact ⟨O.out.1,O.out.2.1,O.out.2.2.1⟩
  | true=>
   have am:Hid (bL (W.setCell ⟨q+1,j,none⟩ (.bool false)) (q+1) (aq.set j false)/\bL (W.setCell ⟨q+1,j,none⟩ (.bool false)) c.bw ws/\bM (fun b=>b=q+1\/b=c.bw) w5 (W.setCell ⟨q+1,j,none⟩ (.bool false))):=⟨O.out.1.set j false,by unfold bL;rw[Below.heap_setCell _ _ _ _ e3];exact O.out.2.1,O.out.2.2.1.setCell (p:=⟨q+1,j,none⟩) (.inl (.inl rfl)) _⟩
   cases wv with
   | true=>
    gi_wp2_with (refine ⟨trivial,?_⟩;gi_at_call 51;refine (CallsIn.inRound l (callsIn_wide.2 Z)).mono ?_;rintro e w' ⟨rfl,af⟩;obtain rfl:=af.symm)
    refine ⟨(KeepsOthers.setCell _ _ _).from _,fun b hb=>Below.heap_setCell _ _ _ _ ?_,?_⟩
    ·exact (cp.out b hb).1
    ·show zQ w5 (q+1) c.bw (kJ (a0,wd) (pre++[x])) _
     rw[bc.out,O.out.2.2.2.2.2.1]
     have:lH (aq,ws) i ⟨sc,sd,sa,sb,se⟩=(aq.set j false,ws):=by unfold lH;rw[if_pos HJ.out.2.1.symm,if_pos HJ.out.2.2.symm,HJ.out.1]
     rw[this]
     exact ⟨am.out.1,am.out.2.1,am.out.2.2⟩
   | false=>
    obtain ⟨la,co⟩:∃la,la=(asks ⟨sc,sd,sa,sb,se⟩).length:=⟨_,rfl⟩
    have br:∀X,Calls Tryz.prog 11 #[.agg #[.int .i64 sc,.int .i64 sd,.int .i64 sa,.int .i64 sb,.int .i64 se]] X fun e w'=>∃ad cap,e=.returned (.slice ad la cap)/\Hid (Below X.heap.size X w'/\bH (fun b=>X.heap.size≤b) w' (.slice ad la cap) (asks ⟨sc,sd,sa,sb,se⟩)):=fun X=>(Nx.nI sc sd sa sb se X).mono fun e w' ⟨v,he,hi,hb⟩=>by
     obtain ⟨ad,_,_,cap,rfl,_⟩:=id hi
     rw[<-co] at he hi
     exact ⟨ad,cap,he,hb,hi⟩
    have HX:Hid (∀X wA,X=((W.setCell ⟨q+1,j,none⟩ (.bool false)).setCell ⟨c.bw,i,none⟩ (.bool true)).drew->Below X.heap.size X wA->bL wA (q+1) (aq.set j false)/\bL wA c.bw (ws.set i true)/\bM (fun b=>b=q+1\/b=c.bw) w5 wA/\KeepsFrom w5.heap.size W wA/\(∀b,(b=q+4\/0<cs.length/\b=bC)->wA.heap[b]?=W.heap[b]?)/\w5.heap.size≤X.heap.size):=fun X wA hX hA=>by
     have x1:bL X (q+1) (aq.set j false):=by rw[hX];unfold bL;rw[show ∀Y:World,Y.drew.heap=Y.heap from fun _=>rfl,Below.heap_setCell _ _ _ _ e4];exact am.out.1
     have x2:bL X c.bw (ws.set i true):=by rw[hX];exact am.out.2.1.set i true
     have x3:bM (fun b=>b=q+1\/b=c.bw) w5 X:=by rw[hX];exact (am.out.2.2.setCell (p:=⟨c.bw,i,none⟩) (.inl (.inr rfl)) _).drew
     have x4:KeepsOthers W X:=by rw[hX];exact ((KeepsOthers.setCell _ _ _).trans (KeepsOthers.setCell _ _ _)).trans (KeepsOthers.drew _)
     have x5:∀b,(b=q+4\/0<cs.length/\b=bC)->X.heap[b]?=W.heap[b]?:=fun b hb=>by
      obtain ⟨n1,n2⟩:=cp.out b hb
      rw[hX,show ∀Y:World,Y.drew.heap=Y.heap from fun _=>rfl,Below.heap_setCell _ _ _ _ n2,Below.heap_setCell _ _ _ _ n1]
     have hf:bM (fun _=>False) X wA:=bM.of_below hA
     refine ⟨aD hA x1,aD hA x2,x3.trans hf fun _ _ h=>h.elim,(x4.trans (sB hf fun _ h=>h.elim)).from _,fun b hb=>by rw[hA.block b (aH3 (HD.out b hb) x3.size)];exact x5 b hb,x3.size⟩
    have fe:Hid (la=(asks ⟨sc,sd,sa,sb,se⟩).length):=co
    clear co
    gi_wp2_with (refine ⟨trivial,?_⟩;gi_at_call 51;refine (CallsIn.inRound l (callsIn_wide.2 Z)).mono ?_;rintro e w' ⟨rfl,af⟩;obtain rfl:=af.symm)
    gi_region_with (first
     | (refine ⟨trivial,?_⟩;gi_at_call 11;refine (CallsIn.inRound l (callsIn_wide.2 (br _))).mono ?_;rintro e wA ⟨fk,cap2,rfl,hA⟩
        have be:=HX.out _ wA rfl hA.out.1
        have ft:wA.cell? ⟨q+2,0,none⟩=some (sK (q+1) I.length):=aA (be.2.2.1.heap J.out.b2 (by have:=y.out.2.2.1;omega)) 0 rfl
        have cc:=pU (b:=q+1) (n:=I.length) true be.1 (by rw[aO5];exact O.out.2.2.2.1) hA.out.2 (fun h=>by have:=be.2.2.2.2.2;have:=J.out.size;omega) O.out.2.2.2.2.2.2.2.1 (by unfold asks;split<;>(try split)<;>(try split)<;>simp)
        have ao:Hid _:=be
        clear be br)
     | (refine ⟨trivial,?_⟩;gi_at_call 50;refine (CallsIn.inRound l (callsIn_wide.2 cc)).mono ?_;rintro e wM ⟨rfl,hM⟩;clear cc))
    all_goals
     gi_wp2
     refine ⟨ao.out.2.2.2.1.trans ((sB hM.out.2.1 fun b hb=>by { subst hb;exact ⟨_,_,_,ao.out.1⟩ }).from _),fun b hb=>?_,?_⟩
     ·have ei:b<wA.heap.size:=aH3 (HD.out b hb) ao.out.2.2.1.size
      rw[hM.out.2.1.block b ei (cp.out b hb).1]
      exact ao.out.2.2.2.2.1 b hb
     ·show zQ w5 (q+1) c.bw (kJ (a0,wd) (pre++[x])) _
      rw[bc.out,O.out.2.2.2.2.2.1]
      have:lH (aq,ws) i ⟨sc,sd,sa,sb,se⟩=(cM (aq.set j false) (asks ⟨sc,sd,sa,sb,se⟩) true,ws.set i true):=by unfold lH;rw[if_pos HJ.out.2.1.symm,if_neg (by rw[<-HJ.out.2.2];simp),HJ.out.1]
      rw[this]
      exact ⟨hM.out.1,hM.out.2.1.heap ao.out.2.1 e3,ao.out.2.2.1.trans hM.out.2.1 fun b _ hb=>.inl hb⟩
 case done=>
  rintro D xs W hD rfl hI hK
  obtain ⟨aq,bi⟩:∃aq,aq=(kJ (a0,wd) (eU cs cs.length)).1:=⟨_,rfl⟩
  obtain ⟨ws,ae⟩:∃ws,ws=(kJ (a0,wd) (eU cs cs.length)).2:=⟨_,rfl⟩
  have hlen:=sX (a0,wd) (eU cs cs.length)
  rw[<-bi,<-ae] at hlen
  have O:Hid (bL W (q+1) aq/\bL W c.bw ws/\bM (fun b=>b=q+1\/b=c.bw) w5 W/\aq.length=I.length/\ws.length=cs.length/\aq=(kJ (a0,wd) (eU cs cs.length)).1/\ws=(kJ (a0,wd) (eU cs cs.length)).2/\w5.heap.size≤D/\W.heap[D]?=some (.deferred (some []))/\bL W c.bm I):=by
   refine ⟨by rw[bi];exact hI.ask,by rw[ae];exact hI.wt,hI.fr,by rw[hlen.1];exact J.out.al,by rw[hlen.2];exact y.out.1.wl,bi,ae,hD,hK,?_⟩
   exact hI.fr.heap y.out.1.m (by have:=y.out.1.ne.2.2;have:=y.out.2.2.2;omega)
  clear bi ae hlen hI hD hK
  have HP:Hid (P=I.length):=HH.out.2.2.2.2.2.2.1
  obtain ⟨S,hS⟩:∃S,S=W.heap.size:=⟨_,rfl⟩
  have HS:Hid (S=W.heap.size):=hS
  have HC:Hid (W.cell? ⟨q,0,none⟩=some (.pointer (some ⟨pb,0,none⟩))/\W.cell? ⟨pb,2,none⟩=some (sK c.bm P)/\W.cell? ⟨pb,3,none⟩=some c.vK/\W.cell? ⟨q+2,0,none⟩=some (sK (q+1) P)/\W.cell? ⟨q+3,0,none⟩=some (.func (.func 51) #[] #[.pointer (some ⟨q+2,0,none⟩)])):=by
   have kp:=O.out.2.2.1.heap y.out.1.hk (by have:=y.out.1.ne;have:=y.out.2.1;omega)
   refine ⟨aA (O.out.2.2.1.heap J.out.b0 (by have:=y.out.2.2.1;omega)) 0 rfl,by rw[HP.out];exact aA kp 2 rfl,aA kp 3 rfl,by rw[HP.out];exact aA (O.out.2.2.1.heap J.out.b2 (by have:=y.out.2.2.1;omega)) 0 rfl,aA (O.out.2.2.1.heap J.out.b3 (by have:=y.out.2.2.1;omega)) 0 rfl⟩
  have dx:=HC.out.1
  have dn:=HC.out.2.1
  have fn:=ce.out.2.2
  clear ai ap hS
  gi_wp2_with fail
  gi_loopw [9,60] (fun v i wr=>∃k:Nat,k≤P/\i=.int .i64 k/\Hid (Nx.iH 3 S wr v (dX aq I k)/\Below S W wr/\(dX aq I k=[]->v=.slice none 0 0))) (fun _ i _=>P-(intOf i).toNat)
  case atStart=>exact ⟨0,aJ5 _,rfl,Nx.iH.nil _ _ _,Below.refl _ _,fun _=>rfl⟩
  case round=>
   obtain ⟨k,hk,rfl,HR⟩:=hrel
   have hr0:wr.cell? ⟨q,0,none⟩=some (.pointer (some ⟨pb,0,none⟩)):=aN (HS.out▸HR.out.2.1) dx
   have ec:wr.cell? ⟨pb,2,none⟩=some (sK c.bm P):=aN (HS.out▸HR.out.2.1) dn
   clear dx dn
   by_cases ck:k<P
   ·have hm:=aD (HS.out▸HR.out.2.1) O.out.2.2.2.2.2.2.2.2.2
    have ha:=aD (HS.out▸HR.out.2.1) O.out.1
    have dq:k<I.length:=by rw[<-HP.out];exact ck
    have cm:=bL.cell hm dq
    have ef:=ixB c.bm P (k:Int) (by omega) (by omega)
    rw[aP2] at ef
    have fi:=aN (HS.out▸HR.out.2.1) HC.out.2.2.2.2
    have Z:=wO (w:=wr) (qb:=q+2) (p:=(k:Int)) (aN (HS.out▸HR.out.2.1) HC.out.2.2.2.1) ha (by rw[O.out.2.2.2.1,HP.out]) ⟨by omega,by omega⟩
    rw[aP2] at Z
    obtain ⟨mv,cu⟩:∃mv,mv=I.getD k false:=⟨_,rfl⟩
    obtain ⟨av,cf⟩:∃av,av=aq.getD k false:=⟨_,rfl⟩
    have HV:Hid (mv=I.getD k false/\av=aq.getD k false):=⟨cu,cf⟩
    rw[<-cu] at cm
    rw[<-cf] at Z
    clear cu cf hm ha dq hk
    have aa:¬(mv=true/\av=true)->Hid (Nx.iH 3 S wr u9 (dX aq I (k+1))/\Below S W wr/\(dX aq I (k+1)=[]->u9=.slice none 0 0)):=fun h=>by
     rw[dX,if_neg (by rw[<-HV.out.1,<-HV.out.2];exact h)]
     exact HR.out
    cases mv with
    | false=>
     have HN:=aa (by simp)
     clear aa Z
     gi_wp2_with fail
     refine ⟨fun _ h=>(by cases h),?_⟩
     gi_wp2_with fail
     go_roundw
     case rel=>exact ⟨k+1,by omega,by go_num,HN.out⟩
     case measure=>simp[intOf];omega
    | true=>
     cases av with
     | false=>
      have HN:=aa (by simp)
      clear aa
      gi_wp2_with (refine ⟨trivial,?_⟩;gi_at_call 51;refine (callsIn_wide.2 Z).mono ?_;rintro e w' ⟨rfl,af⟩;obtain rfl:=af.symm)
      go_roundw
      case rel=>exact ⟨k+1,by omega,by go_num,HN.out⟩
      case measure=>simp[intOf];omega
     | true=>
      clear aa
      have cq:=qO aq I k
      obtain ⟨g,cap,w6,cy,de,cj⟩:=aN3 S (wr.alloc (.cells #[.int .i64 (k:Int)] 3)) u9 (dX aq I k) (k:Int) wr.heap.size (HR.out.1.alloc _) (aA (aX _ _) 0 rfl) (by rw[aX3];have:=HR.out.2.1.size;have:=HS.out;omega) (by omega)
      gi_wp2_with (first
       | (gi_at_builtin;refine rF rfl _ _ _ rfl _ _ _ rfl rfl cy ?_)
       | (refine ⟨trivial,?_⟩;gi_at_call 51;refine (callsIn_wide.2 Z).mono ?_;rintro e w' ⟨rfl,af⟩;obtain rfl:=af.symm;clear Z))
      go_roundw
      case rel=>
       refine ⟨k+1,by omega,by go_num,?_⟩
       rw[dX,if_pos ⟨HV.out.1.symm,HV.out.2.symm⟩]
       refine ⟨de,?_,fun e=>by simp at e⟩
       have hS:=HS.out
       have hsz:=HR.out.2.1.size
       have ed:Below S W (wr.alloc (.cells #[.int .i64 (k:Int)] 3)):=HR.out.2.1.alloc (by omega) _
       exact ed.grown cj (by rw[aX3];omega) (fun b e=>by { obtain ⟨_,_,_,hq⟩:=HR.out.1.form;exact (hq b e).1 })
      case measure=>simp[intOf];omega
   ·obtain rfl:k=P:=by omega
    have ct:=y.out
    have hm:=aD (HS.out▸HR.out.2.1) O.out.2.2.2.2.2.2.2.2.2
    have dp:S≤wr.heap.size:=by have:=HR.out.2.1.size;have:=HS.out;omega
    have df:q+5≤S:=by have:=J.out.size;have:=O.out.2.2.1.size;have:=HS.out;omega
    have bf:=pU (b:=c.bm) (n:=k) false hm HP.out.symm HR.out.1.ints (fun h=>by have:=ct.2.2.2;omega) (fun p hp=>by obtain ⟨j,h1,rfl,_⟩:=(nD _ _ _ _).1 hp;exact ⟨by omega,by omega⟩) (by have:=qO aq I k;omega)
    have ax:Hid (S≤wr.heap.size/\q+5≤S):=⟨dp,df⟩
    clear hm ct dp df
    gi_wp2_with (first
     | (refine ⟨trivial,?_⟩;gi_at_call 50;refine (callsIn_wide.2 bf).mono ?_;rintro e wM ⟨rfl,hM⟩;clear bf
        have da:wM.cell? ⟨q,0,none⟩=some (.pointer (some ⟨pb,0,none⟩)):=hM.out.2.1.cell hr0 (by show ¬q=c.bm;have:=y.out.2.2.2;omega)
        have ep:wM.cell? ⟨pb,3,none⟩=some c.vK:=hM.out.2.1.cell (aN (HS.out▸HR.out.2.1) HC.out.2.2.1) (by show ¬pb=c.bm;exact y.out.1.ne.2.1)
        clear hr0 ec))
    have bj:∀b,b≠q+1->b≠c.bw->b≠c.bm->b<w5.heap.size->wM.heap[b]?=w5.heap[b]?:=fun b n1 n2 n3 hb=>by
     have h1:=O.out.2.2.1.size
     have h2:=HR.out.2.1.size
     have h3:=HS.out
     rw[hM.out.2.1.block b (by omega) n3,HR.out.2.1.block b (by omega),O.out.2.2.1.block b hb (by omega)]
    have hsz:S≤wM.heap.size:=by rw[hM.out.2.2];exact ax.out.1
    have ca:wM.heap[pb]?=w5.heap[pb]?:=bj pb (by have:=y.out.2.1;omega) y.out.1.ne.1 y.out.1.ne.2.1 (by have:=y.out.2.1;omega)
    have ay:∀g,c.vK.ownBlock=some g->g<q/\wM.heap[g]?=w.heap[g]?:=fun g hg=>by
     have hl:g<w.heap.size:=by { obtain ⟨_,_,_,hq⟩:=Nx.iH.form (e:=3) HH.out.1.k;exact (hq g hg).2 }
     have ds:=y.out.1.kn g hg
     have eg:=HH.out.2.2.2.2.2.1
     exact ⟨by omega,by rw[bj g (by omega) ds.2.1 ds.2.2.1 (by omega)];exact J.out.bel.block g hl⟩
    have bq:Nx.iH 3 0 wM.drew c.vK keeps:=Nx.iH.keep (e:=3) HH.out.1.k fun g hg=>(ay g hg).2
    have aj:bH (fun b=>S≤b/\b<wr.heap.size) wM.drew u9 (dX aq I k):=(HR.out.1.ints).carry fun b hb hl=>⟨hb,hM.out.2.1.block b hl (by have:=y.out.2.2.2;have:=ax.out.2;omega)⟩
    obtain ⟨v6,w6,cy,ah,ar,ac⟩:=aV8 wM.drew c.vK u9 keeps (dX aq I k) bq aj HR.out.2.2 (by have:=ce.out.2.1;have:=qO aq I k;omega)
    obtain ⟨ag,Q,dl,_⟩:=id ah.form
    obtain ⟨ln,dz⟩:∃ln,ln=(keeps++dX aq I k).length:=⟨_,rfl⟩
    rw[<-dz] at dl
    subst dl
    clear dz
    have bu:w6.heap[pb]?=w5.heap[pb]?:=by rw[ar.block pb (by show pb<wM.heap.size;have:=y.out.2.1;have:=ax.out.2;omega) (fun e=>(y.out.1.kn pb e.symm).1 rfl)];exact ca
    have ev:w6.cell? ⟨q,0,none⟩=some (.pointer (some ⟨pb,0,none⟩)):=(aX1 (ar.block q (by show q<wM.heap.size;have:=ax.out.2;omega) (fun e=>by have:=(ay q e.symm).1;omega))).trans da
    have bb:=y.out.1.hk
    rw[<-bu] at bb
    have fa:=aA bb 3 (u:=c.vK) rfl
    have fm:=aG bb 3
    have bz:Hid ((w6.setCell ⟨pb,3,none⟩ (.slice ag ln Q)).heap[D]?=some (.deferred (some []))/\Ux A w ((w6.setCell ⟨pb,3,none⟩ (.slice ag ln Q)).putObj D (.deferred none)) pb cs I keeps aq ws c u9 { c with vK:=.slice ag ln Q }):=by
     have fc:=O.out.2.2.2.2.2.2.2.1
     have dw:=O.out.2.2.2.2.2.2.2.2.1
     have ey:=aB dw
     have eg:=HH.out.2.2.2.2.2.1
     have em:=HS.out
     have fo:=J.out.size
     have fh:=ax.out.1
     have ff:=hM.out.2.2
     have fs:=y.out.2.1
     have fl:=y.out.2.2.1
     have fj:=y.out.2.2.2
     have fg:wM.drew.heap.size=wM.heap.size:=rfl
     have dj:∀b,q≤b->c.vK.ownBlock≠some b:=fun b hb e=>by have:=(ay b e).1;omega
     -- a block of w6 that is neither pb nor D
     have g7:∀b,b≠pb->(w6.setCell ⟨pb,3,none⟩ (.slice ag ln Q)).heap[b]?=w6.heap[b]?:=fun b hb=>Below.heap_setCell _ _ _ _ hb
     have g8:∀b,b≠pb->b≠D->((w6.setCell ⟨pb,3,none⟩ (.slice ag ln Q)).putObj D (.deferred none)).heap[b]?=w6.heap[b]?:=fun b hb hd=>by rw[World.putObj_heap_other (by omega)];exact g7 b hb
     have g6:∀b,b<wM.heap.size->c.vK.ownBlock≠some b->w6.heap[b]?=wM.heap[b]?:=fun b hb hv=>ar.block b hb (fun e=>hv e.symm)
     have eu:((w6.setCell ⟨pb,3,none⟩ (.slice ag ln Q)).putObj D (.deferred none)).heap.size=w6.heap.size:=by simp[World.putObj,World.setCell]
     have eq:wM.heap.size≤w6.heap.size:=ar.size
     have hold:∀b,b<q->b≠pb->b≠c.bw->b≠c.bm->c.vK.ownBlock≠some b->((w6.setCell ⟨pb,3,none⟩ (.slice ag ln Q)).putObj D (.deferred none)).heap[b]?=w.heap[b]?:=fun b hb n1 n2 n3 n4=>by
      rw[g8 b n1 (by omega),g6 b (by omega) n4,bj b (by omega) n2 n3 (by omega)]
      exact J.out.bel.block b (by omega)
     refine ⟨by rw[g7 D (by omega),g6 D (by omega) (dj D (by omega)),hM.out.2.1.block D (by omega) (by omega),HR.out.2.1.block D (by omega)];exact dw,?_,?_,⟨rfl,rfl,rfl⟩,?_,fun g hg=>(ac g hg).1.imp id fun h=>by omega⟩
     ·rw[<-HP.out]
      refine aj.carry fun b hb hl=>⟨⟨by omega,by omega⟩,?_⟩
      rw[g8 b (by omega) (by omega),g6 b hl (dj b (by omega))]
      rfl
     ·rw[<-HP.out]
      have bp:=y.out.1.ne
      refine ⟨?_,HH.out.1.code.carry fun b ha hl=>⟨ha,hold b (by omega) (fun e=>y.out.1.an.1 (e▸ha)) (fun e=>y.out.1.an.2.1 (e▸ha)) (fun e=>y.out.1.an.2.2 (e▸ha)) (fun e=>(y.out.1.kn b e).2.2.2 ha)⟩,?_,O.out.2.2.2.2.1,?_,?_,bp,?_,y.out.1.an⟩
      ·rw[World.putObj_heap_other (by omega),eX]
       exact cH (l:=[c.vC,sK c.bw cs.length,sK c.bm I.length,c.vK]) bb 3 _
      ·unfold bL
       rw[g8 _ bp.1.symm (by omega),g6 _ (by omega) (fun e=>(y.out.1.kn _ e).2.1 rfl),hM.out.2.1.block _ (by omega) bp.2.2,HR.out.2.1.block _ (by omega)]
       exact O.out.2.1
      ·unfold bL
       rw[g8 _ bp.2.1.symm (by omega),g6 _ (by omega) (fun e=>(y.out.1.kn _ e).2.2.1 rfl)]
       exact hM.out.1
      ·refine Nx.iH.keep (e:=3) ah fun g hg=>?_
       rcases (ac g hg).1 with h1|h1
       ·exact g8 g (y.out.1.kn g h1).1 (fun e=>by have:=(ay g h1).1;omega)
       ·exact g8 g (by omega) (by omega)
      ·intro g hg
       rcases (ac g hg).1 with h1|h1
       ·exact y.out.1.kn g h1
       ·exact ⟨by omega,by show g≠c.bw;omega,by show g≠c.bm;omega,fun ha=>by have:=ce.out.1 g ha;omega⟩
     ·have f1:bM (fun b=>b=pb\/b=c.bw\/b=c.bm\/c.vK.ownBlock=some b) w w5:=bM.of_below J.out.bel
      have f2:=f1.trans O.out.2.2.1 (fun b hb h=>h.elim (fun h=>absurd h (by omega)) fun h=>.inr (.inl h))
      have f3:=f2.trans (bM.of_below (P:=fun _=>False) (em▸HR.out.2.1)) (fun _ _ h=>h.elim)
      have f4:=f3.trans hM.out.2.1 (fun b _ h=>.inr (.inr (.inl h)))
      have f5:=f4.drew.grown ar (fun b e=>.inl (.inr (.inr (.inr e))))
      have f6:=f5.setCell (p:=⟨pb,3,none⟩) (.inl (.inl rfl)) (.slice ag ln Q)
      exact f6.grown (grownBy_putObj' _ D (.deferred none)) (fun b e=>.inr (by cases e;omega))
    clear bj hsz ca ay bq aj ah ar ac bu bb
    refine Jg ?_
    gi_region_with (refine stepIn_app (by rfl) (.tmp 90) (.tmp 91) 23 (by rfl) _ _ _ (by rfl) (by rfl) cy ?_)
    all_goals
     gi_wp2
     refine ⟨by simp,.inl ⟨_,_,rfl,run_takeDeferred bz.out.1,?_⟩⟩
     exact ⟨_,results_tmp rfl _ _ _,_,_,rfl,by
      have h:=bz.out.2
      rw[O.out.2.2.2.2.2.1,O.out.2.2.2.2.2.2.1,ea.out,HP.out] at h
      exact h⟩
 case stop=>
  rintro D c pre W _ _ h _
  exact h.elim
end Yw
end Go.Proofs.YthieaobjdpfcoaaGreatDoor
