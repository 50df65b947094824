import Derived.Test.YthieaobjdpfcoaaGreatDoorVZj
set_option maxRecDepth 100000
set_option maxHeartbeats 8000000
namespace Go.Proofs.YthieaobjdpfcoaaGreatDoor
open Go.Proofs.Tryz (prog)
section
open Go.RowKit Px
namespace Sx
open Nx (Nt Sp aN3 bH get put iH eA cR)
open Ew (bM Up rS)
open Fw (wA X4 Ur)
attribute [-go_sem] Builtin.append_
theorem aM0 {P:Nat->Prop}{w w2 w3:World}{c:Nat}{a0 a1 l n a4:Value}(h:bM P w w2) (r:w.heap.size≤c) (k:w3=((((w2.setCell ⟨c,0,none⟩ a0).setCell ⟨c,1,none⟩ a1).setCell ⟨c,2,none⟩ l).setCell ⟨c,3,none⟩ n).setCell ⟨c,4,none⟩ a4):bM P w w3:=by
 have st:∀(W:World) (j:Nat) (u:Value),bM P w W->bM P w (W.setCell ⟨c,j,none⟩ u):=fun W j u h=>h.setCell (p:=⟨c,j,none⟩) (.inr r) u
 rw[k]
 exact st _ _ _ (st _ _ _ (st _ _ _ (st _ _ _ (st _ _ _ h))))
section
variable {P:Nat->Prop}{B:Nat}{w:World}{sb m Pn:Nat}{nums:List Int}{g:Sg}{c:Sv}
theorem SM.upP {w0:World}{P':Nat->Prop}(h:SM P' B w sb m nums g c) (hP:∀b,P' b->Up P w0 w b) (hB:B≤w0.heap.size) (hP0:∀b,P b->B≤b/\b<w0.heap.size) (hs:w0.heap.size≤w.heap.size):SM (Up P w0 w) B w sb m nums g c:=
 h.carry (fun _ _=>rfl) (fun _ _ _=>rfl) (aO4 _) hP fun b hb=>hb.elim (fun h=>⟨(hP0 b h).1,aO5 (hP0 b h).2 hs⟩) fun h=>⟨aO6 hB h.1,h.2⟩
theorem zQ {s:Sp}(h:SM P B w sb m nums g c) (Q:g.code.length<m) :
    ∃v5 w5 c',(Builtin.append_ #[24,24] 24 #[c.vC,.slice (some ⟨w.heap.size,0,none⟩) 1 1]).run prog (w.alloc (.cells #[.int .i64 s.code,.int .i64 s.dst,.int .i64 s.a,.int .i64 s.b,.int .i64 s.c] 38))=.ok v5 w5/\(∃a n k,v5=.slice a n k)/\w5.heap[sb]?=w.heap[sb]?/\(∀d,d<w.heap.size->¬P d->w5.heap[d]?=w.heap[d]?)/\
     SM (Up P w (w5.setCell ⟨sb,5,none⟩ v5)) B (w5.setCell ⟨sb,5,none⟩ v5) sb m nums { g with code:=g.code++[s] } c'/\bM P w (w5.setCell ⟨sb,5,none⟩ v5):=by
 obtain ⟨i0,Y,y,I,r⟩:=aZ1 Ew.Sj
 have hf:=h.few
 obtain ⟨v5,w5,U,j,l,_,D⟩:=run_append_own_at (P:=prog) (w.alloc (.cells #[.int .i64 s.code,.int .i64 s.dst,.int .i64 s.a,.int .i64 s.b,.int .i64 s.c] 38)) 0 24 24 38 i0 _ 5 40 Tryz.underlying24 Y y I r rfl (by decide) c.vC g.code.length (g.code.flatMap rS) (h.rc.alloc _) ⟨w.heap.size,0,none⟩ 1 1 (rS s) rfl (Ew.eN w (rS s) _) (by intro u hu;simp[rS] at hu;rcases hu with rfl|rfl|rfl|rfl|rfl<;>rfl) (by unfold maxLen;omega) (by omega) (aP6 _)
 obtain ⟨a,k,hv⟩:=aP j
 obtain ⟨X,Z⟩:=h.addS (s:=s) (w0:=w.alloc (.cells #[.int .i64 s.code,.int .i64 s.dst,.int .i64 s.a,.int .i64 s.b,.int .i64 s.c] 38)) (aL _ _) j l (fun b hb=>by
  rcases D with e|e
  ·exact .inl (e.symm.trans hb)
  ·rw[hb] at e;injection e with e;exact .inr e) Q
 refine ⟨v5,w5,_,U,⟨_,_,_,hv⟩,?_,fun d hd O=>?_,X,Z⟩
 ·have J:=(h.up.2 _ h.pb.1).2
  rw[l.block sb (by simp;omega) fun e=>(h.pc sb e.symm).2.1 rfl,Below.heap_alloc _ _ _ J]
 ·rw[l.block d (by simp;omega) fun e=>O (h.pc d e.symm).1,Below.heap_alloc _ _ _ hd]
def zZ (P:Nat->Prop) (B:Nat) (w w':World) (sb m:Nat) (nums:List Int) (g:Sg):Prop:=∃c,SM (Up P w w') B w' sb m nums g c/\bM P w w'
theorem aG8 (h:SM P B w sb m nums g c) (hI:Inv Pn g) (hm:m+2<100000) {I y j D:Int}{k:Nat}(hs:eA (Pn:Int) nums.length ⟨I,k,y,j,D⟩=0) (bm:Pn≤4000) (ck:nums.length≤4000) :
 Calls prog 23 #[.pointer (some ⟨sb,0,none⟩),.agg #[.int .i64 I,.int .i64 (k:Int),.int .i64 y,.int .i64 j,.int .i64 D]] w fun e w'=>e=.returned (.tuple #[])/\Hid (zZ P B w w' sb (m+2) nums (Sx.addS nums g ⟨I,k,y,j,D⟩)):=by
 obtain ⟨U,hU⟩:=gQx (w.alloc (.cells #[.pointer (some ⟨sb,0,none⟩)] 53))
 obtain ⟨W,hW⟩:=gQx (U.alloc (.cells #[.int .i64 I,.int .i64 (k:Int),.int .i64 y,.int .i64 j,.int .i64 D] 38))
 obtain ⟨q,hq⟩:=gQx w.heap.size
 have sU:U.heap.size=q+1:=by rw[hU,hq];simp
 have b1:Below w.heap.size w U:=by rw[hU];exact aL _ _
 have b2:Below U.heap.size U W:=by rw[hW];exact aL _ _
 have bW:=aQ b1 b2
 have k1:W.heap[q]?=some (.cells #[.pointer (some ⟨sb,0,none⟩)] 53 (0,0)):=aD b2 (by rw[hU,hq];exact aX w _)
 have k2:W.heap[q+1]?=some (.cells #[.int .i64 I,.int .i64 (k:Int),.int .i64 y,.int .i64 j,.int .i64 D] 38 (0,0)):=by rw[<-sU,hW];exact aX U _
 obtain ⟨s0,s1,s2,s3,s4⟩:=Ur k2
 have am:=aF k1 0 (u:=.pointer (some ⟨sb,0,none⟩)) rfl
 have aw:=Dj (h.below bW) hI (by omega) hs bm ck
 obtain ⟨t,ht⟩:=gQx (dQ nums g ⟨I,k,y,j,D⟩)
 obtain ⟨J,an⟩:=gQx (eX nums g ⟨I,k,y,j,D⟩)
 have ah:=iN nums g ⟨I,k,y,j,D⟩
 have al:=tZ (nums:=nums) hI hs
 have cb:Inv Pn J:=by rw[an];exact tD hI
 rw[<-an] at ah al aw
 rw[<-ht] at al aw
 have hd:=(Nx.sD hs).1
 unfold cR at hd
 simp only[Bool.and_eq_true,decide_eq_true_eq] at hd
 have HP:Hid ((∀b,P b->B≤b/\b<w.heap.size)/\B≤w.heap.size):=⟨h.up.2,h.up.1⟩
 have HH:Hid (Below w.heap.size w W/\W.heap[q]?=some (.cells #[.pointer (some ⟨sb,0,none⟩)] 53 (0,0))/\W.heap[q+1]?=some (.cells #[.int .i64 I,.int .i64 (k:Int),.int .i64 y,.int .i64 j,.int .i64 D] 38 (0,0))/\q=w.heap.size):=⟨bW,k1,k2,hq⟩
 have HI:Hid (Inv Pn J/\J.there=g.there/\J.copies=g.copies/\J.code=g.code/\(0≤t/\t<J.things)/\k<Pn/\m+2<100000/\eA (Pn:Int) nums.length ⟨I,k,y,j,D⟩=0/\Pn≤4000):=⟨cb,ah.1,ah.2.1,ah.2.2,al,by omega,hm,hs,bm⟩
 have HE:Hid (Sx.addS nums g ⟨I,k,y,j,D⟩=if (k:Int)∈g.copies t then J else { wC J k t with code:=g.code++[kJ g t ⟨I,k,y,j,D⟩] }):=by
  unfold Hid Sx.addS
  rw[<-ht,<-an]
 rw[hU] at hW
 clear hU sU b1 b2 k1 k2 h hI hs bm ck hm ah al cb hd bW ht an
 go_enter Tryz.func23,Tryz.ntmps23
 go_upto_region 1 with fail
 rw[<-hW,<-hq]
 clear hW hq
 go_upto_region 2 with (go_at_call 43;refine aw.mono ?_;rintro e w1 ⟨rfl,hx⟩;clear aw)
 obtain ⟨c1,O,ax⟩:=hx.out
 have ar:∀b,P b->b<q:=fun b hb=>by have:=(HP.out.1 b hb).2;have:=HH.out.2.2.2;omega
 have k1:w1.heap[q]?=some (.cells #[.pointer (some ⟨sb,0,none⟩)] 53 (0,0)):=ax.heap HH.out.2.1 fun e=>by have:=ar q e;omega
 have k2:w1.heap[q+1]?=some (.cells #[.int .i64 I,.int .i64 (k:Int),.int .i64 y,.int .i64 j,.int .i64 D] 38 (0,0)):=ax.heap HH.out.2.2.1 fun e=>by have:=ar (q+1) e;omega
 clear s0 s1 s2 s3 s4 am hx
 obtain ⟨s0,s1,s2,s3,s4⟩:=Ur k2
 have am:=aF k1 0 (u:=.pointer (some ⟨sb,0,none⟩)) rfl
 have bn:jF t:=by have:=HI.out.2.2.2.2.1;have:=O.few;unfold jF;omega
 have bg:=O.lookC bn
 obtain ⟨a0,n0,br,-⟩:=(O.rowC t).form
 obtain ⟨-,d1,-,-,-,-,-⟩:=O.cells
 have r:=U0 (w:=w1) (k:Int) (O.rowC t).ints (by have:=O.lw t;have:=HI.out;omega)
 have HR:=O.rowC t
 rw[HI.out.2.2.1] at br r HR
 rw[br] at bg r HR
 obtain ⟨l0,bc⟩:=gQx ((g.copies t).length)
 rw[<-bc] at bg r HR
 have HL:Hid (l0=(g.copies t).length/\iH 3 0 w1 (.slice a0 l0 n0) (g.copies t)):=⟨bc,HR⟩
 have Q:Hid (SM P B w1 sb (m+1) nums J c1/\bM P W w1/\w1.heap[q]?=some (.cells #[.pointer (some ⟨sb,0,none⟩)] 53 (0,0))/\w1.heap[q+1]?=some (.cells #[.int .i64 I,.int .i64 (k:Int),.int .i64 y,.int .i64 j,.int .i64 D] 38 (0,0))/\jF t):=⟨O,ax,k1,k2,bn⟩
 have HQ:Hid (∀b,P b->b<q):=ar
 clear O ax k1 k2 br bc HR ar bn
 by_cases hin:(k:Int)∈g.copies t
 ·have t1:decide ((k:Int)∈g.copies t)=true:=decide_eq_true hin
  rw[t1] at r
  have HF:Hid (zZ P B w w1 sb (m+2) nums (Sx.addS nums g ⟨I,k,y,j,D⟩)):=by
   have bf:bM P w w1:=(bM.of_below (P:=P) HH.out.1).trans Q.out.2.1 fun _ _ h=>h
   unfold Hid zZ
   rw[HE.out,if_pos hin]
   exact ⟨c1,(Q.out.1.more (by omega) (by have:=HI.out.2.2.2.2.2.2.1;omega)).upP (fun b hb=>.inl hb) HP.out.2 HP.out.1 bf.size,bf⟩
  clear hin t1
  go_wp2_with (go_at_call 44;refine r.mono ?_;rintro e w2 ⟨rfl,ac⟩;obtain rfl:=ac.symm)
  refine aY9 (results_none rfl _ _ _) rfl ⟨rfl,HF⟩
 ·have t1:decide ((k:Int)∈g.copies t)=false:=decide_eq_false hin
  rw[t1] at r
  have cq:Hid (¬(k:Int)∈g.copies t):=hin
  clear hin t1
  by_cases hl:0<l0
  case' neg=>
   obtain rfl:l0=0:=by omega
   have az:g.copies t=[]:=aR5.1 HL.out.1.symm
   have bq:Calls prog 45 #[wA ⟨I,k,y,j,D⟩,.func (.func 46) #[] #[.pointer (some ⟨q,0,none⟩)]] w1 fun e w'=>e=.returned (wA (bL (mA g) ⟨I,k,y,j,D⟩))/\Hid (Below w1.heap.size w1 w'):=by
    have cg:mA J=mA g:=by funext p;unfold mA;rw[HI.out.2.1,HI.out.2.2.1]
    rw[<-cg]
    refine F2 (.inr rfl) fun V hV p hp=>?_
    have hr:0≤p/\p<Pn:=by
     have:=aX8.1 (Nx.sD HI.out.2.2.2.2.2.2.2.1).2 p hp
     unfold cR at this
     simpa only[Bool.and_eq_true,decide_eq_true_eq] using this
    have cx:=HI.out.1.tr p hr.1 hr.2
    have bf:=Q.out.1.few
    refine Om (Q.out.1.below hV) (aN hV am) (by rw[HI.out.1.tl];exact hr) (by unfold jF;omega) (fun e=>?_)
    have:=(HI.out.1.cp (get J.there p) p).2 ⟨hr,rfl⟩
    rw[e] at this
    cases this
   obtain ⟨x0,x1,x2,x3,x4,ao⟩:∃x0 x1 x2 x3 x4,bL (mA g) ⟨I,k,y,j,D⟩=⟨x0,x1,x2,x3,x4⟩:=⟨_,_,_,_,_,rfl⟩
   have hx1:(k:Int)=x1:=congrArg Sp.dst ao
   subst hx1
   have HX:Hid (kJ g t ⟨I,k,y,j,D⟩=⟨x0,k,x2,x3,x4⟩):=by
    unfold Hid kJ
    rw[if_pos az]
    exact ao
   rw[ao] at bq
   clear ao az
   go_upto_region 3 with (go_at_call 44;refine r.mono ?_;rintro e w2 ⟨rfl,ac⟩;obtain rfl:=ac.symm)
   go_upto_region 7 with (go_at_call 45;refine bq.mono ?_;rintro e w2 ⟨rfl,bk⟩;clear bq;have aa:=aD bk.out Q.out.2.2.2.1;obtain ⟨r0,r1,r2,r3,r4⟩:=Ur aa;have bi:=aG aa 0;have bu:=aG aa 1;have bp:=aG aa 2;have bb:=aG aa 3;have be:=aG aa 4)
   obtain ⟨X0,hX⟩:=gQx (((((w2.setCell ⟨q+1,0,none⟩ (.int .i64 x0)).setCell ⟨q+1,1,none⟩ (.int .i64 (k:Int))).setCell ⟨q+1,2,none⟩ (.int .i64 x2)).setCell ⟨q+1,3,none⟩ (.int .i64 x3)).setCell ⟨q+1,4,none⟩ (.int .i64 x4))
   obtain ⟨y0,y1,y2,y3⟩:=X4 aa hX
   have bz:Below w1.heap.size w1 w2:=bk.out
   have ag:bM P w w2:=((bM.of_below (P:=P) HH.out.1).trans Q.out.2.1 fun _ _ h=>h).trans (bM.of_below (P:=P) bz) fun _ _ h=>h
   have aj:bM P w X0:=aM0 ag (by have:=HH.out.2.2.2;omega) hX
   rw[<-hX]
   clear hX
   obtain ⟨X,n⟩:=gQx X0
   have Z:SM P B X sb (m+1) nums J c1:=by
    have hz:=Q.out.1.below bz
    have:SM P B X0 sb (m+1) nums J c1:=hz.carry (fun b hb=>y1 b (by have:=HQ.out b hb;omega)) (fun b hb _=>y1 b (by have:=(hz.up.2 sb hz.pb.1).1;have:=HQ.out sb hz.pb.1;omega)) (by omega) (fun _ h=>h) (fun b hb=>by rw[y3];exact hz.up.2 b hb)
    rw[n]
    exact this
   have kq:X.heap[q]?=some (.cells #[.pointer (some ⟨sb,0,none⟩)] 53 (0,0)):=by
    rw[n]
    show X0.heap[q]?=_
    rw[y1 q (by omega)]
    exact aD bz Q.out.2.2.1
   have ad:X.heap[q+1]?=some (.cells #[.int .i64 x0,.int .i64 (k:Int),.int .i64 x2,.int .i64 x3,.int .i64 x4] 38 (0,0)):=by
    rw[n]
    exact y0
   have ai:bM P w X:=by rw[n];exact aj
   rw[show X0=X from n.symm]
   clear n y0 y1 y2 y3 ag bz aj
   obtain ⟨v0,v2,v3,v4,ci,au⟩:∃v0 v2 v3 v4,Hid (kJ g t ⟨I,k,y,j,D⟩=⟨v0,k,v2,v3,v4⟩)/\X.heap[q+1]?=some (.cells #[.int .i64 v0,.int .i64 (k:Int),.int .i64 v2,.int .i64 v3,.int .i64 v4] 38 (0,0)):=⟨x0,x2,x3,x4,HX,ad⟩
   clear ad HX r0 r1 r2 r3 r4 bi bu bp bb be bk aa
  case' pos=>
   obtain ⟨bC,ct,ak,cc,-⟩:=pU HL.out.2 (fun e=>by have:=HL.out.1;rw[e] at this;simp at this;omega)
   simp only[Value.slice.injEq] at ak
   obtain ⟨rfl,-,rfl⟩:=ak
   have c0:w1.drew.cell? ⟨bC,0,none⟩=some (.int .i64 ((g.copies t).getD 0 0)):=cc 0 (by rw[<-HL.out.1];exact hl)
   have cn:=Nx.Q7 (some ⟨bC,0,none⟩) bC 0 l0 n0 0 hl (fun _=>rfl)
   obtain ⟨x,hx⟩:=gQx ((g.copies t).getD 0 0)
   have HX:Hid (kJ g t ⟨I,k,y,j,D⟩=⟨2,k,x,0,0⟩):=by
    unfold Hid kJ
    rw[if_neg (fun e=>by have:=HL.out.1;rw[e] at this;simp at this;omega),hx]
    cases g.copies t<;>rfl
   rw[<-hx] at c0
   have e1:w1.drew.cell? ⟨q+1,1,none⟩=some (.int .i64 (k:Int)):=s1
   obtain ⟨f0,f1,f2,f3,f4⟩:=Ur (show w1.drew.heap[q+1]?=_ from Q.out.2.2.2.1)
   have bi:=aG Q.out.2.2.2.1 0
   have bu:=aG Q.out.2.2.2.1 1
   have bp:=aG Q.out.2.2.2.1 2
   have bb:=aG Q.out.2.2.2.1 3
   have be:=aG Q.out.2.2.2.1 4
   clear cc hx
   go_upto_region 6 with (go_at_call 44;refine r.mono ?_;rintro e w2 ⟨rfl,ac⟩;obtain rfl:=ac.symm)
   go_region
   go_upto_region 7 with fail
   obtain ⟨X0,hX⟩:=gQx (((((w1.setCell ⟨q+1,0,none⟩ (.int .i64 2)).setCell ⟨q+1,1,none⟩ (.int .i64 (k:Int))).setCell ⟨q+1,2,none⟩ (.int .i64 x)).setCell ⟨q+1,3,none⟩ (.int .i64 0)).setCell ⟨q+1,4,none⟩ (.int .i64 0))
   obtain ⟨y0,y1,y2,y3⟩:=X4 Q.out.2.2.2.1 hX
   have bz:Below w1.heap.size w1 w1:=Below.refl _ _
   have ag:bM P w w1:=((bM.of_below (P:=P) HH.out.1).trans Q.out.2.1 fun _ _ h=>h).trans (bM.of_below (P:=P) bz) fun _ _ h=>h
   have aj:bM P w X0:=aM0 ag (by have:=HH.out.2.2.2;omega) hX
   rw[<-hX]
   clear hX
   obtain ⟨X,n⟩:=gQx X0.drew
   have Z:SM P B X sb (m+1) nums J c1:=by
    have hz:=Q.out.1.below bz
    have:SM P B X0 sb (m+1) nums J c1:=hz.carry (fun b hb=>y1 b (by have:=HQ.out b hb;omega)) (fun b hb _=>y1 b (by have:=(hz.up.2 sb hz.pb.1).1;have:=HQ.out sb hz.pb.1;omega)) (by omega) (fun _ h=>h) (fun b hb=>by rw[y3];exact hz.up.2 b hb)
    rw[n]
    exact this.drew
   have kq:X.heap[q]?=some (.cells #[.pointer (some ⟨sb,0,none⟩)] 53 (0,0)):=by
    rw[n]
    show X0.heap[q]?=_
    rw[y1 q (by omega)]
    exact aD bz Q.out.2.2.1
   have ad:X.heap[q+1]?=some (.cells #[.int .i64 2,.int .i64 (k:Int),.int .i64 x,.int .i64 0,.int .i64 0] 38 (0,0)):=by
    rw[n]
    exact y0
   have ai:bM P w X:=by rw[n];exact aj.drew
   rw[show X0.drew=X from n.symm]
   clear n y0 y1 y2 y3 ag bz aj
   obtain ⟨v0,v2,v3,v4,ci,au⟩:∃v0 v2 v3 v4,Hid (kJ g t ⟨I,k,y,j,D⟩=⟨v0,k,v2,v3,v4⟩)/\X.heap[q+1]?=some (.cells #[.int .i64 v0,.int .i64 (k:Int),.int .i64 v2,.int .i64 v3,.int .i64 v4] 38 (0,0)):=⟨2,x,0,0,HX,ad⟩
   clear ad HX e1 f0 f1 f2 f3 f4 bi bu bp bb be c0 cn
  all_goals
   have ba:=nU Z HI.out.1 (by have:=HI.out.2.2.2.2.2.2.1;omega) HI.out.2.2.2.2.2.1 (by have:=HI.out.2.2.2.2.1;have:=Z.few;omega:0≤t/\t≤((m+1:Nat):Int))
   obtain ⟨-,n1,-,-,-⟩:=Ur au
   have nb:=aF kq 0 (u:=.pointer (some ⟨sb,0,none⟩)) rfl
   have ab:Hid (X.heap[q]?=some (.cells #[.pointer (some ⟨sb,0,none⟩)] 53 (0,0))/\X.heap[q+1]?=some (.cells #[.int .i64 v0,.int .i64 (k:Int),.int .i64 v2,.int .i64 v3,.int .i64 v4] 38 (0,0))/\bM P w X/\J.code.length≤m+1):=⟨kq,au,ai,Z.few.2.2.2.1⟩
   clear Z kq au ai s0 s1 s2 s3 s4 am d1 bg
   go_upto_region 8 with (go_at_call 47;refine ba.mono ?_;rintro e w3 ⟨rfl,ce⟩;clear ba)
   obtain ⟨c3,bv,ae⟩:=ce.out
   have av:¬P q/\¬P (q+1):=⟨fun e=>by have:=HQ.out _ e;omega,fun e=>by have:=HQ.out _ e;omega⟩
   have bo:=ae.heap ab.out.1 av.1
   have cm:=ae.heap ab.out.2.1 av.2
   have Y:=bv.drew
   obtain ⟨v5,w5,c5,ap,⟨a5,n5,k5,co⟩,af,ay,bh,bj⟩:=zQ (s:=⟨v0,k,v2,v3,v4⟩) Y (by show J.code.length<m+1+1;have:=ab.out.2.2.2;omega)
   obtain ⟨aC,nC,ak⟩:=aP Y.rc
   obtain ⟨-,-,-,-,-,z5,zf⟩:=Y.cells
   rw[ak] at ap z5
   subst co
   obtain ⟨lC,cf⟩:=gQx ((wC J k t).code.length)
   rw[<-cf] at ap z5
   have cd:=aB bo
   have ch:¬Up P X w3 q:=fun e=>e.elim av.1 fun h=>by have:=aB ab.out.1;omega
   have b3:w3.drew.cell? ⟨q,0,none⟩=some (.pointer (some ⟨sb,0,none⟩)):=aF bo 0 rfl
   have cw:(w3.alloc (.cells #[.int .i64 v0,.int .i64 (k:Int),.int .i64 v2,.int .i64 v3,.int .i64 v4] 38)).drew.cell? ⟨q,0,none⟩=some (.pointer (some ⟨sb,0,none⟩)):=aN (aL w3 _) b3
   have cy:(w3.alloc (.cells #[.int .i64 v0,.int .i64 (k:Int),.int .i64 v2,.int .i64 v3,.int .i64 v4] 38)).drew.cell? ⟨sb,5,none⟩=some (.slice aC lC nC):=aN (aL w3 _) z5
   have cu:w5.cell? ⟨q,0,none⟩=some (.pointer (some ⟨sb,0,none⟩)):=by rw[aY6 (ay q cd ch)];exact b3
   have cz:w5.cell? ⟨sb,5,none⟩=some (.slice aC lC nC):=by rw[aY6 af];exact z5
   have cv:w5.frozen? ⟨sb,5,none⟩=false:=by
    have:=af.trans Y.hk
    exact aG this 5
   obtain ⟨m0,m1,m2,m3,m4⟩:=Ur (show w3.drew.heap[q+1]?=_ from cm)
   have cr:(Builtin.append_ #[24,24] 24 #[.slice aC lC nC,.slice (some ⟨w3.heap.size,0,none⟩) 1 1]).run prog (w3.alloc (.cells #[.int .i64 v0,.int .i64 (k:Int),.int .i64 v2,.int .i64 v3,.int .i64 v4] 38)).drew=.ok (.slice a5 n5 k5) w5:=ap
   have HF:Hid (zZ P B w (w5.setCell ⟨sb,5,none⟩ (.slice a5 n5 k5)) sb (m+2) nums (Sx.addS nums g ⟨I,k,y,j,D⟩)):=by
    have ca:bM P w w3:=ab.out.2.2.1.trans ae fun _ _ h=>h
    have bw:bM P w (w5.setCell ⟨sb,5,none⟩ (.slice a5 n5 k5)):=ca.drew.trans bj fun b hb h=>h.elim id fun h=>by have:=ab.out.2.2.1.size;omega
    have hsz:=bj.size
    have cj:=ae.size
    have Z:=ab.out.2.2.1.size
    unfold Hid zZ
    rw[HE.out,if_neg cq.out,ci.out]
    have e:(wC J k t).code=g.code:=HI.out.2.2.2.1
    rw[e] at bh
    refine ⟨c5,bh.upP (fun b hb=>?_) HP.out.2 HP.out.1 bw.size,bw⟩
    rcases hb with (hb|hb)|hb
    ·exact .inl hb
    ·exact .inr ⟨aO6 Z hb.1,aO5 hb.2 hsz⟩
    ·exact .inr ⟨aO6 (aO6 Z cj) hb.1,hb.2⟩
   clear ce bv ae bo cm Y af ay bh bj ak zf cf cd ch av n1 nb ap
   go_region
   all_goals
    go_wp2_with fail
    go_end0
    exact ⟨rfl,HF⟩
end
end Sx
end
section
open Go.RowKit Px
namespace Sx
open Nx (Nt Sp aN3 bH get put iH eA cR)
open Ew (bM Up rS)
open Fw (wA Si)
attribute [-go_sem] Builtin.append_
section
variable {P:Nat->Prop}{B:Nat}{w:World}{sb m Pn:Nat}{nums:List Int}{g:Sg}{c:Sv}
theorem SM.moreT (h:SM P B w sb m nums g c) {x:Int}{w0 w5:World}{v5:Value}(r:Below w.heap.size w w0) (j:iH 3 0 w5 v5 (g.there++[x])) (n:w0.grownBy w5 c.vT.ownBlock) (y:∀b,v5.ownBlock=some b->c.vT.ownBlock=some b\/b=w0.heap.size) (X:g.there.length<m) :
    SM (Up P w (w5.setCell ⟨sb,2,none⟩ v5)) B (w5.setCell ⟨sb,2,none⟩ v5) sb m nums { g with there:=g.there++[x] } { c with vT:=v5 }/\bM P w (w5.setCell ⟨sb,2,none⟩ v5):=by
 obtain ⟨gm,m1,m2⟩:=h.md
 obtain ⟨gc,c1,c2⟩:=h.cp
 have s0:=r.size
 have s5:=n.size
 have D:∀b,b<w.heap.size->c.vT.ownBlock≠some b->w5.heap[b]?=w.heap[b]?:=fun b hb Y=>by rw[n.block b (by omega) (fun e=>Y e.symm),r.block b hb]
 have Z:∀b,b<w.heap.size->b≠sb->c.vT.ownBlock≠some b->(w5.setCell ⟨sb,2,none⟩ v5).heap[b]?=w.heap[b]?:=fun b hb h1 h3=>by rw[Below.heap_setCell _ _ _ _ h1,D b hb h3]
 have I:∀b,P b->b≠sb->c.vT.ownBlock≠some b->(w5.setCell ⟨sb,2,none⟩ v5).heap[b]?=w.heap[b]?:=fun b hb=>Z b (h.up.2 b hb).2
 have Q:c.vT.ownBlock≠some sb:=fun e=>(h.pt sb e).2.1 rfl
 have O:c.vT.ownBlock≠some c.bm:=fun e=>(h.pt _ e).2.2.1 rfl
 have J:c.vT.ownBlock≠some c.bc:=fun e=>(h.pt _ e).2.2.2 rfl
 have hsz:(w5.setCell ⟨sb,2,none⟩ v5).heap.size=w5.heap.size:=by simp[World.setCell]
 have f1:=(h.up.2 _ h.pb.1).2
 have f2:=(h.up.2 _ h.pb.2.1).2
 have f3:=(h.up.2 _ h.pb.2.2).2
 have o5:∀b,v5.ownBlock=some b->Up P w (w5.setCell ⟨sb,2,none⟩ v5) b/\b≠sb/\b≠c.bm/\b≠c.bc:=fun b hb=>by
  have X:=(j.lt b hb).2
  rcases y b hb with e|e
  ·have q:=h.pt b e
   exact ⟨.inl q.1,q.2⟩
  ·exact ⟨.inr ⟨by omega,by omega⟩,by omega,by omega,by omega⟩
 have n5:∀b,P b->c.vT.ownBlock≠some b->v5.ownBlock≠some b:=fun b hp Y e=>by
  rcases y b e with e'|e'
  ·exact Y e'
  ·have:=(h.up.2 b hp).2;omega
 have U:w5.heap[sb]?=some (.cells #[.map (some c.bm),.map (some c.bc),c.vT,.int .i64 g.things,c.vN,c.vC] 61 (0,0)):=by rw[D sb f1 Q,h.hk]
 have k:bM P w (w5.setCell ⟨sb,2,none⟩ v5):=(((bM.of_below (P:=P) r).grown n fun b hb=>.inl (h.pt b hb).1)).setCell (p:=⟨sb,2,none⟩) (.inl h.pb.1) _
 have vc:∀b,c.vC.ownBlock=some b->c.vT.ownBlock≠some b:=fun b hb=>(h.pc b hb).2.2.2.2
 refine ⟨⟨cH (l:=[.map (some c.bm),.map (some c.bc),c.vT,.int .i64 g.things,c.vN,c.vC]) U 2 v5,j.keep fun b hb=>Below.heap_setCell _ _ _ _ (o5 b hb).2.1,vB h.rc fun b hb=>I b (h.pc b hb).1 (h.pc b hb).2.1 (vc b hb),⟨gm,m1.keep (I _ h.pb.2.1 h.ne.1.symm O),m2⟩,⟨gc,c1.keep (I _ h.pb.2.2 h.ne.2.1.symm J),c2⟩,fun u s=>(h.rw u s).keep fun b hb=>I b (h.pw u s b hb).1 (h.pw u s b hb).2.1 (h.pw u s b hb).2.2.2.2.1,h.nu.carry fun b hb X=>⟨hb,Z b X (fun e=>?_) (fun e=>?_)⟩,⟨aO6 h.up.1 k.size,fun b hb=>?_⟩,⟨.inl h.pb.1,.inl h.pb.2.1,.inl h.pb.2.2⟩,fun b hb=>o5 b hb,fun b hb=>⟨.inl (h.pc b hb).1,(h.pc b hb).2.1,(h.pc b hb).2.2.1,(h.pc b hb).2.2.2.1,n5 b (h.pc b hb).1 (vc b hb)⟩,fun u s b hb=>?_,h.ps,h.ne,?_,h.lw⟩,k⟩
 ·have:=(h.up.2 _ h.pb.1).1;omega
 ·have:=(h.up.2 _ (h.pt b e).1).1;omega
 ·rcases hb with hb|hb
  ·exact ⟨(h.up.2 b hb).1,aO5 (h.up.2 b hb).2 k.size⟩
  ·exact ⟨aO6 h.up.1 hb.1,hb.2⟩
 ·obtain ⟨q0,q1,q2,q3,q4,q5⟩:=h.pw u s b hb
  exact ⟨.inl q0,q1,q2,q3,n5 b q0 q4,q5⟩
 ·have:=h.few
  exact ⟨this.1,this.2.1,by show (g.there++[x]).length≤m;rw[aO9,aX2];omega,this.2.2.2⟩
theorem O7 {x:Int}(h:SM P B w sb m nums g c) (D:g.there.length<m) :
    ∃v5 w5 c',(Builtin.append_ #[23,23] 23 #[c.vT,.slice (some ⟨w.heap.size,0,none⟩) 1 1]).run prog (w.alloc (.cells #[.int .i64 x] 3))=.ok v5 w5/\(∃a n k,v5=.slice a n k)/\w5.heap[sb]?=w.heap[sb]?/\
     SM (Up P w (w5.setCell ⟨sb,2,none⟩ v5)) B (w5.setCell ⟨sb,2,none⟩ v5) sb m nums { g with there:=g.there++[x] } c'/\bM P w (w5.setCell ⟨sb,2,none⟩ v5):=by
 have U:=h.few
 obtain ⟨y,cap,w5,I,l,j,r,u⟩:=Nx.aG9 (A:=fun _=>True) 23 3 Tryz.underlying23 Tryz.ckInfoInt 0 (w.alloc (.cells #[.int .i64 x] 3)) c.vT (.slice (some ⟨w.heap.size,0,none⟩) 1 1) g.there [x] (h.rt.alloc _) ⟨_,w.heap.size,0,1,rfl,fun _=>⟨rfl,trivial⟩,fun k O=>by
  obtain rfl:k=0:=by simpa using O
  exact aF (aX _ _) 0 rfl⟩ (aP6 _) (.inr (by simp)) (by simp;omega)
 obtain ⟨J,Q⟩:=h.moreT (x:=x) (w0:=w.alloc (.cells #[.int .i64 x] 3)) (aL _ _) l j (fun b hb=>by
  obtain rfl:y=b:=by simpa [Value.ownBlock] using hb
  exact r) D
 refine ⟨_,w5,_,I,⟨_,_,_,rfl⟩,?_,J,Q⟩
 have s:=(h.up.2 _ h.pb.1).2
 rw[j.block sb (by simp;omega) fun e=>(h.pt sb e.symm).2.1 rfl,Below.heap_alloc _ _ _ s]
theorem Ma {t p:Int}(h:SM P B w sb m nums g c) (s:m<100000) (O:jF t) (n:g.copies t=[]) :
    ∃w6 c',(Instr.mapUpdate 59 (.map (some c.bc)) (.int .i64 t) (.slice (some ⟨w.heap.size,0,none⟩) 1 1)).run prog (w.alloc (.cells #[.int .i64 p] 3))=.ok () w6/\
     SM (Up P w w6) B w6 sb (m+1) nums { g with copies:=fun u=>if u=t then [p] else g.copies u } c'/\bM P w w6:=by
 obtain ⟨f,J,I⟩:=h.cp
 have D:cvS g c t=.slice none 0 0:=if_pos n
 obtain ⟨w6,l,j,k⟩:=(J.keep (w':=w.alloc (.cells #[.int .i64 p] 3)) (Below.heap_alloc _ _ _ (h.up.2 _ h.pb.2.2).2)).put Si Tryz.underlying59 (by have:=h.few;unfold maxLen;omega) (Maps.keyOf_int_mk Tryz.underlying3 O.wf) (.slice (some ⟨w.heap.size,0,none⟩) 1 1)
 obtain ⟨r,y⟩:=h.moreC (t:=t) (p:=p) (w0:=w) (v:=.slice (some ⟨w.heap.size,0,none⟩) 1 1) (f:=Gm.put f (.int .i64 t) (.slice (some ⟨w.heap.size,0,none⟩) 1 1)) (Below.refl _ _) (by
  rw[n]
  exact ⟨rfl,.inr ⟨w.heap.size,1,#[.int .i64 p],rfl,aP6 _,aX _ _,aO4 _,by decide,rfl,rfl⟩⟩) (World.grownBy_alloc _ _ _) (fun b hb=>.inr (by simpa [Value.ownBlock] using hb.symm)) k j (fun u=>by
  by_cases e:u=t
  ·subst e
   rw[Gm.pQ _ (by trivial),if_pos rfl]
  ·rw[Gm.kT _ _ (aE1 e),if_neg e];exact I u) (by have:=h.few;split<;>omega) s
 rw[n] at r
 exact ⟨w6,_,l,r,y⟩
theorem Hu (k:Nat):({ ({ ({ sX k with things:=(sX k).things+1 }:Sg) with there:=(sX k).there++[(k:Int)] }:Sg) with copies:=fun u=>if u=(k:Int) then [(k:Int)] else (sX k).copies u }:Sg)=sX (k+1):=by
 unfold sX
 simp only[Sg.mk.injEq,true_and,and_true]
 refine ⟨?_,?_,by omega⟩
 ·funext u
  by_cases e:u=(k:Int)
  ·subst e
   rw[if_pos rfl,if_pos ⟨by omega,by omega⟩]
  ·rw[if_neg e]
   by_cases h:0≤u/\u<(k:Int)
   ·rw[if_pos h,if_pos ⟨h.1,by omega⟩]
   ·rw[if_neg h,if_neg (by omega)]
 ·rw[List.range_succ,List.map_append];rfl
theorem aH9 (w:World):(Instr.makeMap 58 none).run prog w=.ok (.map (some w.heap.size)) (w.alloc (.map #[] 0)):=by kernel_rfl
theorem aH8 (w:World):(Instr.makeMap 59 none).run prog w=.ok (.map (some w.heap.size)) (w.alloc (.map #[] 0)):=by kernel_rfl
def P3 (n:Nat) (b:Nat):Prop:=b=n\/b=n+1\/b=n+1+1
theorem Hj {k:Value}(hB:B≤w.heap.size) (U:bH (· < B) w k nums):SM (P3 w.heap.size) B (((w.alloc (.map #[] 0)).alloc (.map #[] 0)).alloc (.cells #[.map (some w.heap.size),.map (some (w.heap.size+1)),.slice none 0 0,.int .i64 0,k,.slice none 0 0] 61)) (w.heap.size+1+1) 0 nums (sX 0) ⟨w.heap.size,w.heap.size+1,0,0,.slice none 0 0,k,.slice none 0 0,fun _=>.slice none 0 0⟩:=by
 obtain ⟨w1,n⟩:=gQx (w.alloc (.map #[] 0))
 obtain ⟨w2,j⟩:=gQx (w1.alloc (.map #[] 0))
 obtain ⟨V,l⟩:=gQx (w2.alloc (.cells #[.map (some w.heap.size),.map (some (w.heap.size+1)),.slice none 0 0,.int .i64 0,k,.slice none 0 0] 61))
 have r:w1.heap.size=w.heap.size+1:=by rw[n];simp
 have y:w2.heap.size=w.heap.size+1+1:=by rw[j];simp[r]
 have X:V.heap.size=w.heap.size+1+1+1:=by rw[l];simp[y]
 have D:Below w.heap.size w w1:=by rw[n];exact aL _ _
 have s:Below w1.heap.size w1 w2:=by rw[j];exact aL _ _
 have b3:Below w2.heap.size w2 V:=by rw[l];exact aL _ _
 have O:=aQ D (aQ s b3)
 rw[<-n,<-j,<-l]
 have no:∀b,(Value.slice none 0 0).ownBlock≠some b:=fun b e=>by simp[Value.ownBlock] at e
 have Q:Gm.Mp prog 38 V w.heap.size 0 (fun _=>none):=(Gm.Mp.made prog 38 w).keep (by rw[<-n];exact (aQ s b3).block _ (by omega))
 have I:Gm.Mp prog 3 V (w.heap.size+1) 0 (fun _=>none):=by
  have:=(Gm.Mp.made prog 3 w1).keep (w':=V) (by rw[<-j];exact b3.block _ (by omega))
  rw[r] at this
  exact this
 refine ⟨?_,iH.nil _ _ _,aY7 _ _ _ _,⟨_,Q,fun _ _=>rfl⟩,⟨_,I,fun t=>?_⟩,fun t h=>?_,U.carry fun b hb J=>⟨hb,O.block b J⟩,⟨by omega,fun b hb=>?_⟩,⟨.inr (.inr rfl),.inl rfl,.inr (.inl rfl)⟩,fun b hb=>absurd hb (no b),fun b hb=>absurd hb (no b),fun t h=>?_,fun t u h=>?_,⟨by show w.heap.size+1+1≠w.heap.size;omega,by show w.heap.size+1+1≠w.heap.size+1;omega,by show w.heap.size≠w.heap.size+1;omega⟩,⟨aO4 _,aO4 _,aO4 _,aO4 _,Int.le_refl _,Int.le_refl _,by omega⟩,fun t=>?_⟩
 ·rw[<-y,l];exact aX _ _
 all_goals have z:∀t,(sX 0).copies t=[]:=fun t=>if_neg (by omega)
 ·rw[if_pos (z t)]
 ·exact absurd (z t) h
 ·rcases hb with rfl|rfl|rfl<;>omega
 ·exact absurd (z t) h
 ·exact absurd (z t) h
 ·rw[z t];exact aO4 _
end
end Sx
end
section
open Go.RowKit Px
namespace Sx
open Nx (Nt Sp aN3 bH get put iH eA cR)
open Ew (bM Up rS)
open Fw (wA Si)
attribute [-go_sem] Builtin.append_
theorem zZ.start {P:Nat->Prop}{B:Nat}{w:World}{sb m:Nat}{nums:List Int}{g:Sg}{c:Sv}(h:SM P B w sb m nums g c):zZ P B w w sb m nums g:=⟨c,h.upP (fun _ hb=>.inl hb) h.up.1 h.up.2 (aO4 _),bM.refl _ _⟩
theorem zZ.up {P:Nat->Prop}{B:Nat}{w0 w w':World}{sb m:Nat}{nums:List Int}{g:Sg}{l:Sv}(j:bM P w0 w) (r:∀b,P b->B≤b/\b<w0.heap.size) (hB:B≤w0.heap.size) (h:SM (Up (Up P w0 w) w w') B w' sb m nums g l) (k:bM (Up P w0 w) w w'):zZ P B w0 w' sb m nums g:=by
 have n:=k.size
 refine ⟨l,h.upP (fun b hb=>?_) hB r (aO6 j.size n),j.up k⟩
 rcases hb with (hb|hb)|hb
 ·exact .inl hb
 ·exact .inr ⟨hb.1,aO5 hb.2 n⟩
 ·exact .inr ⟨aO6 j.size hb.1,hb.2⟩
theorem Nn {w:World}{B Pn:Nat}{nums:List Int}{d1 d2 d3 d4 d5 d6:Option Addr}{k1 c1 k2 c2 k3 c3 k4 c4 k5 c5 k6 c6:Nat}(hB:B≤w.heap.size) (hN:bH (· < B) w (.slice d5 k5 c5) nums) (al:Pn≤4000) :
 Calls prog 22 #[.agg #[.int .i64 (Pn:Int),.slice d1 k1 c1,.slice d2 k2 c2,.slice d3 k3 c3,.slice d4 k4 c4,.slice d5 k5 c5,.slice d6 k6 c6]] w fun e w'=>∃sb P c,e=.returned (.pointer (some ⟨sb,0,none⟩))/\Hid (SM P B w' sb (2*Pn) nums (sX Pn) c/\Below w.heap.size w w'/\∀b,P b->w.heap.size≤b):=by
 obtain ⟨W,hW⟩:=gQx (w.alloc (.cells #[.int .i64 (Pn:Int),.slice d1 k1 c1,.slice d2 k2 c2,.slice d3 k3 c3,.slice d4 k4 c4,.slice d5 k5 c5,.slice d6 k6 c6] 26))
 obtain ⟨q,hq⟩:=gQx w.heap.size
 have bW:Below w.heap.size w W:=by rw[hW];exact aL _ _
 have sW:W.heap.size=q+1:=by rw[hW,hq];simp
 have kW:W.heap[q]?=some (.cells #[.int .i64 (Pn:Int),.slice d1 k1 c1,.slice d2 k2 c2,.slice d3 k3 c3,.slice d4 k4 c4,.slice d5 k5 c5,.slice d6 k6 c6] 26 (0,0)):=by rw[hW,hq];exact aX _ _
 have y:=Hj (w:=W) (B:=B) (nums:=nums) (aO6 hB bW.size) (hN.carry fun b hb hl=>⟨hb,bW.block b hl⟩)
 obtain ⟨V,hV⟩:=gQx (((W.alloc (.map #[] 0)).alloc (.map #[] 0)).alloc (.cells #[.map (some W.heap.size),.map (some (W.heap.size+1)),.slice none 0 0,.int .i64 0,.slice d5 k5 c5,.slice none 0 0] 61))
 have bV:Below W.heap.size W V:=by rw[hV];exact aQ (aL _ _) (aQ (aL _ _) (aL _ _))
 rw[<-hV] at y
 rw[sW] at y hV
 have s:Hid (SM (P3 (q+1)) B V (q+1+1+1) 0 nums (sX 0) ⟨q+1,q+1+1,0,0,.slice none 0 0,.slice d5 k5 c5,.slice none 0 0,fun _=>.slice none 0 0⟩/\Below w.heap.size w V/\V.heap[q]?=some (.cells #[.int .i64 (Pn:Int),.slice d1 k1 c1,.slice d2 k2 c2,.slice d3 k3 c3,.slice d4 k4 c4,.slice d5 k5 c5,.slice d6 k6 c6] 26 (0,0))/\w.heap.size=q):=⟨y,aQ bW bV,aD bV kW,hq.symm⟩
 obtain ⟨-,-,-,-,-,x5,-⟩:=Nx.lJ kW
 obtain ⟨v0,-,-,-,-,-,-⟩:=Nx.lJ s.out.2.2.1
 have ac:(W.alloc (.map #[] 0)).cell? ⟨q,5,none⟩=some (.slice d5 k5 c5):=aN (aL _ _) x5
 have ak:((W.alloc (.map #[] 0)).alloc (.map #[] 0)).cell? ⟨q,5,none⟩=some (.slice d5 k5 c5):=aN (aL _ _) ac
 have y1:=aH9
 have y2:=aH8
 clear y bW bV kW hN hB
 go_enter Tryz.func22,Tryz.ntmps22
 go_upto_region 1 with fail
 rw[<-hW,<-hq]
 clear hW hq
 go_upto_region 2 with fail
 rw[<-hV]
 clear hV x5 ac ak y1 y2 sW
 obtain ⟨sb,J⟩:=gQx (q+1+1+1)
 rw[<-J] at s
 rw[<-J]
 have HP:Hid ((∀b,P3 (q+1) b->B≤b/\b<V.heap.size)/\B≤V.heap.size/\Pn≤4000/\∀b,P3 (q+1) b->q≤b):=⟨s.out.1.up.2,s.out.1.up.1,al,fun b hb=>by rcases hb with rfl|rfl|rfl<;>omega⟩
 clear J
 go_wp2_with fail
 go_loopw [14] (fun i wr=>∃k:Nat,k≤Pn/\i=.int .i64 k/\Hid (zZ (P3 (q+1)) B V wr sb (2*k) nums (sX k))) (fun i _=>Pn-(intOf i).toNat)
 case atStart=>exact ⟨0,aP6 _,rfl,zZ.start s.out.1⟩
 case round=>
  obtain ⟨k,hk,rfl,HI⟩:=hrel
  clear v0
  by_cases hlt:k<Pn
  ·obtain ⟨c1,u,D⟩:=HI.out
   have ae:Calls prog 42 #[.pointer (some ⟨sb,0,none⟩)] wr fun e w'=>e=.returned (.int .i64 (k:Int))/\Hid (SM (Up (P3 (q+1)) V wr) B w' sb (2*k+1) nums { sX k with things:=(sX k).things+1 } c1/\bM (Up (P3 (q+1)) V wr) wr w'):=tI u (by omega)
   have O:Hid (bM (P3 (q+1)) V wr):=D
   clear u D
   go_upto_region 6 with (go_at_call 42;refine ae.mono ?_;rintro e w1 ⟨rfl,h1⟩;clear ae)
   obtain ⟨cA,r,af⟩:zZ (P3 (q+1)) B V w1 sb (2*k+1) nums { sX k with things:=(sX k).things+1 }:=⟨c1,h1.out.1.upP (Up.size h1.out.2.size) HP.out.2.1 HP.out.1 (O.out.up h1.out.2).size,O.out.up h1.out.2⟩
   have ai:(sX k).there.length=k:=by simp[sX]
   obtain ⟨v5,w5,c5,ag,⟨a5,n5,ah,aj⟩,j,U,X⟩:=O7 (x:=(k:Int)) r (by show (sX k).there.length<2*k+1;omega)
   subst aj
   obtain ⟨aT,lT,nT,ab⟩:∃a l n,cA.vT=.slice a l n:=by
    obtain ⟨a,n,h⟩:=aP r.rt
    exact ⟨_,_,_,h⟩
   obtain ⟨-,-,z2,-,-,-,-⟩:=r.cells
   rw[ab] at ag z2
   have z5:w5.cell? ⟨sb,2,none⟩=some (.slice aT lT nT):=by rw[aY6 j];exact z2
   have an:w5.frozen? ⟨sb,2,none⟩=false:=aG (j.trans r.hk) 2
   obtain ⟨w6,I⟩:=gQx (w5.setCell ⟨sb,2,none⟩ (.slice a5 n5 ah))
   rw[<-I] at U X
   obtain ⟨cB,Y,aa⟩:=zZ.up af HP.out.1 HP.out.2.1 U X
   obtain ⟨w7,c7,am,Q,Z⟩:=Ma (t:=(k:Int)) (p:=(k:Int)) Y (by have:=HP.out;omega) (by have:=HP.out.2.2.1;unfold jF;omega) (if_neg (by omega))
   obtain ⟨-,z6,-,-,-,-,-⟩:=Y.cells
   have HG:Hid (zZ (P3 (q+1)) B V w7 sb (2*(k+1)) nums (sX (k+1))):=by
    rw[show (2*k+1+1)=2*(k+1) by omega] at Q
    have:=zZ.up aa HP.out.1 HP.out.2.1 Q Z
    rw[<-Hu]
    exact this
   clear r af h1 U X Y aa Q Z ab j ai HI O
   go_upto_region 7 with fail
   rw[<-I]
   clear I
   go_wp2_with fail
   go_roundw
   case rel=>exact ⟨k+1,by omega,by go_num,HG.out⟩
   case measure=>simp[intOf];omega
  ·obtain rfl:k=Pn:=by omega
   go_wp2_with fail
   go_ret
   obtain ⟨c1,u,D⟩:=HI.out
   have ad:∀b,Up (P3 (q+1)) V wr b->w.heap.size≤b:=fun b hb=>by
    rw[s.out.2.2.2]
    rcases hb with hb|hb
    ·exact HP.out.2.2.2 b hb
    ·have:=s.out.2.1.size;have:=s.out.2.2.2;omega
   refine ⟨sb,_,c1,rfl,u,s.out.2.1.trans (D.below (B:=w.heap.size) s.out.2.1.size fun b hb=>ad b (.inl hb)),ad⟩
end Sx
end
section
open Go.RowKit Go.Sort Px
namespace Sx
open Nx (Nt Sp eJ kK bH jA aN3 eA)
open Ew (bM Up rS Bx ZN)
open Fw (Ur)
theorem Ic (h:Array Value) (W:World) (c:Nat) (j:Array Value) (v:Value) (hsz:j.size=7) (k:h[2]?.getD undef=.pointer (some ⟨c,0,none⟩)) (n:h[3]?.getD undef=v) (l:W.heap[c]?=some (.cells j 26 (0,0))) :
    (results Tryz.f9 h).run prog W=.ok (.tuple #[.agg j,v]) W:=by
 simp[results,Tryz.results9,k,n,asAddr,Ew.xG hsz l]
def PO2 (n:Nt) (w:World) (e:Ending) (w':World):Prop:=∃(f1 f2 f3 f4 f5 f6:Option Addr) (k1 c1 k2 c2 k3 c3 k4 c4 k5 c5 k6 c6:Nat),e=.returned (.tuple #[.agg #[.int .i64 n.places,.slice f1 k1 c1,.slice f2 k2 c2,.slice f3 k3 c3,.slice f4 k4 c4,.slice f5 k5 c5,.slice f6 k6 c6],.nilIface])/\Hid (Below w.heap.size w w'/\eJ w'.heap.size w' n (.slice f1 k1 c1) (.slice f2 k2 c2) (.slice f3 k3 c3) (.slice f4 k4 c4) (.slice f5 k5 c5) (.slice f6 k6 c6)/\k6≤c6)
section
variable {w:World}
theorem aC8 {n:Nt}{d1 d2 d3 d4 d5 d6:Option Addr}{k1 c1 k2 c2 k3 c3 k4 c4 k5 c5 k6 c6 B:Nat}(hB:B≤w.heap.size) (hN:eJ B w n (.slice d1 k1 c1) (.slice d2 k2 c2) (.slice d3 k3 c3) (.slice d4 k4 c4) (.slice d5 k5 c5) (.slice d6 k6 c6)) (hr:kK n) :
 Calls prog 9 #[.agg #[.int .i64 n.places,.slice d1 k1 c1,.slice d2 k2 c2,.slice d3 k3 c3,.slice d4 k4 c4,.slice d5 k5 c5,.slice d6 k6 c6]] w (PO2 (eU n) w):=by
 have HX:=Bx.start w n (.slice d1 k1 c1) (.slice d2 k2 c2) (.slice d3 k3 c3) (.slice d4 k4 c4) (.slice d5 k5 c5) (.slice d6 k6 c6)
 obtain ⟨pn,ad⟩:=gQx n.places
 obtain ⟨W,hW⟩:=gQx ((w.alloc (.cells #[.int .i64 n.places,.slice d1 k1 c1,.slice d2 k2 c2,.slice d3 k3 c3,.slice d4 k4 c4,.slice d5 k5 c5,.slice d6 k6 c6] 26)).alloc (.cells ZN 26))
 obtain ⟨q,hq⟩:=gQx w.heap.size
 rw[<-hW,<-hq] at HX
 have HB:Hid (Bx q w W n (.slice d1 k1 c1) (.slice d2 k2 c2) (.slice d3 k3 c3) (.slice d4 k4 c4) (.slice d5 k5 c5) (.slice d6 k6 c6)):=HX
 have I:Hid (eJ B w n (.slice d1 k1 c1) (.slice d2 k2 c2) (.slice d3 k3 c3) (.slice d4 k4 c4) (.slice d5 k5 c5) (.slice d6 k6 c6)/\kK n/\B≤w.heap.size/\pn=n.places):=⟨hN,hr,hB,ad⟩
 have ai:=Ew.Nh (HX.old hB hN) (aO6 hB HX.bel.size) hr
 obtain ⟨a0,a1,a2,a3,a4,a5,a6⟩:=Nx.lJ HX.b1
 rw[<-ad] at hW a0 ai ⊢
 obtain ⟨Pn,av⟩:=gQx n.places.toNat
 have bj:pn=(Pn:Int):=by have:=hr.p;omega
 subst bj
 have D:Hid (Pn=n.places.toNat/\((Pn:Nat):Int)=n.places/\Pn≤4000):=⟨av,ad,by have:=hr.p;omega⟩
 clear HX hN hr ad hB av
 go_enter Tryz.func9,Tryz.ntmps9
 go_upto_region 1 with fail
 rw[show (w.alloc (.cells #[.int .i64 (Pn:Int),.slice d1 k1 c1,.slice d2 k2 c2,.slice d3 k3 c3,.slice d4 k4 c4,.slice d5 k5 c5,.slice d6 k6 c6] 26)).alloc (.cells #[.int .i64 0,.slice none 0 0,.slice none 0 0,.slice none 0 0,.slice none 0 0,.slice none 0 0,.slice none 0 0] 26)=W from hW.symm,<-hq]
 clear hW hq
 go_upto_region 4 with (go_at_call 21;refine ai.mono ?_;rintro e w1 ⟨rfl,h1⟩;clear ai)
 have b1:Bx q w w1 n (.slice d1 k1 c1) (.slice d2 k2 c2) (.slice d3 k3 c3) (.slice d4 k4 c4) (.slice d5 k5 c5) (.slice d6 k6 c6):=HB.out.next (h1.out.mono HB.out.size)
 have ae:=Nn (w:=w1) (B:=B) (Pn:=Pn) (nums:=n.nums) (d1:=d1) (d2:=d2) (d3:=d3) (d4:=d4) (d5:=d5) (d6:=d6) (k1:=k1) (k2:=k2) (k3:=k3) (k4:=k4) (k5:=k5) (k6:=k6) (c1:=c1) (c2:=c2) (c3:=c3) (c4:=c4) (c5:=c5) (c6:=c6) (aO6 I.out.2.2.1 b1.bel.size) (I.out.1.m.carry fun b hb _=>⟨hb,b1.bel.block b (aO5 hb I.out.2.2.1)⟩) D.out.2.2
 clear a0 a1 a2 a3 a4 a5 a6
 obtain ⟨a0,a1,a2,a3,a4,a5,a6⟩:=Nx.lJ b1.b1
 rw[<-D.out.2.1] at a0
 have al:Hid (Bx q w w1 n (.slice d1 k1 c1) (.slice d2 k2 c2) (.slice d3 k3 c3) (.slice d4 k4 c4) (.slice d5 k5 c5) (.slice d6 k6 c6)):=b1
 clear b1 h1 HB
 go_upto_region 5 with (go_at_call 22;refine ae.mono ?_;rintro e V ⟨sb,Z,cs,rfl,hV⟩;clear ae)
 have am:=al.out.size
 have U:Hid (SM Z B V sb (2*Pn) n.nums (sX Pn) cs/\Bx q w V n (.slice d1 k1 c1) (.slice d2 k2 c2) (.slice d3 k3 c3) (.slice d4 k4 c4) (.slice d5 k5 c5) (.slice d6 k6 c6)/\(∀b,Z b->q+2≤b)):=
  ⟨hV.out.1,al.out.next (hV.out.2.1.mono am),fun b hb=>aO6 am (hV.out.2.2 b hb)⟩
 clear a0 a1 a2 a3 a4 a5 a6 hV am al
 obtain ⟨a0,a1,a2,a3,a4,a5,a6⟩:=Nx.lJ U.out.2.1.b1
 obtain ⟨_,bC,oC,_,bf,az,ao⟩:=I.out.1.c
 injection bf with hC3 hC4 hC5
 subst hC3 hC5
 have HC:Hid (k6=n.code.length/\(0<n.code.length->d6=some ⟨bC,oC,none⟩/\bC<B)/\_):=⟨hC4,az,ao⟩
 clear hC4 az ao
 go_wp2_with fail
 go_loopw [19] (fun i wr=>∃k:Nat,k≤k6/\i=.int .i64 k/\Hid (zZ Z B V wr sb (2*Pn+2*k) n.nums (sL Pn n.nums n.code k))) (fun i _=>k6-(intOf i).toNat)
 case atStart=>exact ⟨0,aP6 _,rfl,zZ.start U.out.1⟩
 case round=>
  obtain ⟨k,hk,rfl,HR⟩:=hrel
  obtain ⟨cW,u,ab⟩:=HR.out
  have HW:Hid (Bx q w wr n (.slice d1 k1 c1) (.slice d2 k2 c2) (.slice d3 k3 c3) (.slice d4 k4 c4) (.slice d5 k5 c5) (.slice d6 k6 c6)/\(∀b,Up Z V wr b->q+2≤b)):=⟨U.out.2.1.next (ab.below U.out.2.1.size U.out.2.2),fun b hb=>hb.elim (U.out.2.2 b) fun h=>aO6 U.out.2.1.size h.1⟩
  clear a0 a1 a2 a3 a4 a5 a6
  have ba:=I.out.2.1.c
  have aw:=HC.out.1
  have bp:k6≤4000:=by omega
  clear ba aw
  by_cases hlt:k<k6
  ·have br:=Nx.Sf d6 bC oC k6 c6 k hlt (fun h=>(HC.out.2.1 (by have:=HC.out.1;omega)).1)
   have ak:k<n.code.length:=by have:=HC.out.1;omega
   obtain ⟨sc,sd,sa,O,se,hs⟩:∃sc sd sa O se,n.code.getD k Nx.eD=⟨sc,sd,sa,O,se⟩:=⟨_,_,_,_,_,rfl⟩
   have aa:=I.out.2.1.s k ak
   rw[hs,<-D.out.2.1] at aa
   have aj:=(Nx.sD aa).1
   unfold Nx.cR at aj
   simp only[Bool.and_eq_true,decide_eq_true_eq] at aj
   obtain ⟨kd,rfl⟩:∃kd:Nat,sd=kd:=⟨sd.toNat,by omega⟩
   have ax:=(HC.out.2.1 (by omega)).2
   obtain ⟨x0,x1,x2,x3,x4⟩:=HC.out.2.2 k ak
   have au:wr.heap[bC]?=w.heap[bC]?:=HW.out.1.bel.block bC (aO5 ax I.out.2.2.1)
   rw[<-Nx.aY au,hs] at x0 x1 x2 x3 x4
   obtain ⟨Y,hY⟩:=gQx (wr.alloc (.cells #[.int .i64 sc,.int .i64 (kd:Int),.int .i64 sa,.int .i64 O,.int .i64 se] 38))
   have bY:Below wr.heap.size wr Y:=by rw[hY];exact aL _ _
   have kY:Y.heap[wr.heap.size]?=some (.cells #[.int .i64 sc,.int .i64 (kd:Int),.int .i64 sa,.int .i64 O,.int .i64 se] 38 (0,0)):=by rw[hY];exact aX wr _
   obtain ⟨y0,y1,y2,y3,y4⟩:=Ur kY
   have ah:bM Z V Y:=ab.trans (bM.of_below (P:=Z) bY) fun _ _ h=>h
   have an:SM (Up Z V Y) B Y sb (2*Pn+2*k) n.nums (sL Pn n.nums n.code k) cW:=(u.below bY).upP (Up.size bY.size) U.out.1.up.1 U.out.1.up.2 ah.size
   have af:=(oO (P:=Pn) (nums:=n.nums) (cs:=n.code) (fun j hj=>by rw[D.out.2.1];exact I.out.2.1.s j hj) k (by omega)).1
   have ag:=aG8 an af (by have:=D.out.2.2;omega) aa D.out.2.2 I.out.2.1.m
   have HS:Hid (Sx.addS n.nums (sL Pn n.nums n.code k) ⟨sc,kd,sa,O,se⟩=sL Pn n.nums n.code (k+1)):=by rw[<-hs];rfl
   rw[HS.out] at ag
   have bk:Hid (bM Z V Y):=ah
   obtain ⟨b,hb⟩:=gQx wr.heap.size
   rw[<-hb] at y0 y1 y2 y3 y4
   clear hs ak ax au bY kY aa aj u ab ah an af
   go_upto_region 8 with fail
   rw[<-hY,<-hb]
   clear hY hb
   go_wp2_with (go_at_call 23;refine ag.mono ?_;rintro e w2 ⟨rfl,h2⟩)
   go_roundw
   case rel=>
    obtain ⟨bv,bb,bh⟩:=h2.out
    refine ⟨k+1,by omega,by go_num,?_⟩
    exact zZ.up bk.out U.out.1.up.2 U.out.1.up.1 bb bh
   case measure=>simp[intOf];omega
  ·obtain rfl:k=k6:=by omega
   obtain ⟨M,hM⟩:=gQx (sL Pn n.nums n.code k)
   rw[<-hM] at u
   have HM:Hid (M=sL Pn n.nums n.code n.code.length):=by unfold Hid;rw[hM,HC.out.1]
   obtain ⟨ac,y,ec⟩:=aP u.rc
   obtain ⟨-,-,-,-,-,u3,-⟩:=u.cells
   rw[ec] at u3
   have HF:Hid (Nx.jA (Up Z V wr) wr (.slice ac M.code.length y) M.code):=by
    have r2:=Ew.s9 (A:=Up Z V wr) u.rc fun g hg=>(u.pc g hg).1
    rw[ec] at r2
    exact r2
   have ay:¬sb=q+1:=by have:=HW.out.2 sb u.pb.1;omega
   have bq:¬q+1=sb:=fun e=>ay e.symm
   obtain ⟨z0,z1,z2,z3,z4,z5,-⟩:=Nx.lJ HW.out.1.b1
   rw[<-D.out.2.1] at z0
   obtain ⟨lc,ar⟩:=gQx M.code.length
   have bi:Hid (lc≤y):=by
    unfold Hid
    have hr:=u.rc
    rw[ec] at hr
    obtain ⟨_,h|⟨g,cp,bu,he,_,_,h5,_⟩⟩:=hr
    ·have:=h.2;omega
    ·simp only[Value.slice.injEq] at he
     omega
   rw[<-ar] at u3 HF
   have HS:Hid (∀r,Below wr.heap.size wr r->r.cell? ⟨q,0,none⟩=some (.int .i64 (Pn:Int))/\r.cell? ⟨q,1,none⟩=some (.slice d1 k1 c1)/\r.cell? ⟨q,2,none⟩=some (.slice d2 k2 c2)/\r.cell? ⟨q,3,none⟩=some (.slice d3 k3 c3)/\r.cell? ⟨q,4,none⟩=some (.slice d4 k4 c4)/\r.cell? ⟨q,5,none⟩=some (.slice d5 k5 c5)/\r.cell? ⟨sb,5,none⟩=some (.slice ac lc y)):=fun r hb=>⟨aN hb z0,aN hb z1,aN hb z2,aN hb z3,aN hb z4,aN hb z5,aN hb u3⟩
   have HZ:Hid (∀r,Below wr.heap.size wr r->r.heap[q+1]?=some (.cells ZN 26 (0,0))):=fun r hb=>aD hb HW.out.1.b2
   have HI:Hid (∀r,Below wr.heap.size wr r->bH (· < B) r (.slice d1 k1 c1) n.first/\bH (· < B) r (.slice d2 k2 c2) n.ins/\bH (· < B) r (.slice d3 k3 c3) n.outs/\bH (· < B) r (.slice d4 k4 c4) n.keeps/\bH (· < B) r (.slice d5 k5 c5) n.nums):=fun r hb=>by
    have bw:Below w.heap.size w r:=aQ HW.out.1.bel hb
    have J:Nx.bB (· < B) (· < B) w r:=fun b hb _=>⟨hb,bw.block b (aO5 hb I.out.2.2.1)⟩
    exact ⟨I.out.1.f.carry J,I.out.1.i.carry J,I.out.1.o.carry J,I.out.1.k.carry J,I.out.1.m.carry J⟩
   have HD:Hid (Below wr.heap.size wr wr.drew):=(Below.refl _ wr).drew
   have ap:Hid (∀W v zs,Below wr.heap.size wr W->zs.length≤4000->bH (· < B) W v zs->Calls prog 24 #[v] W fun e r=>∃f c,e=.returned (.slice f zs.length c)/\Hid (Below W.heap.size W r/\Below wr.heap.size wr r/\bH (fun b=>wr.heap.size≤b/\b<r.heap.size) r (.slice f zs.length c) zs)):=fun W v zs hb hl hi=>(Nx.aT7 hi (by omega)).mono fun e r ⟨f,c,he,h⟩=>⟨f,c,he,h.out.1,aQ hb h.out.1,h.out.2.carry fun b Q _=>⟨⟨aO6 hb.size Q.1,Q.2⟩,rfl⟩⟩
   have HQ:Hid (∀W v zs,Below wr.heap.size wr W->zs.length≤4000->bH (· < B) W v zs->Calls prog 25 #[v] W fun e r=>∃f c,e=.returned (.slice f zs.length c)/\Hid (Below W.heap.size W r/\Below wr.heap.size wr r/\bH (fun b=>wr.heap.size≤b/\b<r.heap.size) r (.slice f zs.length c) zs)):=fun W v zs hb hl hi=>(Nx.clI hi (by omega)).mono fun e r ⟨f,c,he,h⟩=>⟨f,c,he,h.out.1,aQ hb h.out.1,h.out.2.carry fun b Q _=>⟨⟨aO6 hb.size Q.1,Q.2⟩,rfl⟩⟩
   have HL:Hid (n.ins.length≤4000/\n.outs.length≤4000/\n.keeps.length≤4000/\n.first.length≤4000/\n.nums.length≤4000):=by have:=I.out.2.1.l;have:=I.out.2.1.f;have:=I.out.2.1.p;have:=I.out.2.1.m;unfold Hid;omega
   have bg:=HS.out _ HD.out
   have T1:Hid True:=trivial
   have T2:Hid True:=trivial
   have T3:Hid True:=trivial
   have T4:Hid True:=trivial
   have T5:Hid True:=trivial
   clear hM u ab ec ar bp hlt
   go_upto_region 10 with fail
   go_region_held3 (fun r=>r.cell? ⟨q,0,none⟩=some (.int .i64 (Pn:Int))/\r.cell? ⟨q,1,none⟩=some (.slice d1 k1 c1)/\r.cell? ⟨q,2,none⟩=some (.slice d2 k2 c2)/\r.cell? ⟨q,3,none⟩=some (.slice d3 k3 c3)/\r.cell? ⟨q,4,none⟩=some (.slice d4 k4 c4)/\r.cell? ⟨q,5,none⟩=some (.slice d5 k5 c5)/\r.cell? ⟨sb,5,none⟩=some (.slice ac lc y)) (first|with_reducible exact be|with_reducible exact bn|with_reducible exact bc|with_reducible exact bm|with_reducible exact bo|with_reducible exact bg|go_keep)
    (first
     | (clear T1;go_at_call 24;refine (ap.out _ _ _ HD.out HL.out.2.2.2.1 (HI.out _ HD.out).1).mono ?_;rintro e w2 ⟨f1,g1,rfl,h2⟩;have bo:=HS.out _ h2.out.2.1)
     | (clear T2;go_at_call 25;refine (HQ.out w2 _ _ h2.out.2.1 HL.out.1 (HI.out _ h2.out.2.1).2.1).mono ?_;rintro e w3 ⟨f2,g2,rfl,h3⟩;have bm:=HS.out _ h3.out.2.1)
     | (clear T3;go_at_call 25;refine (HQ.out w3 _ _ h3.out.2.1 HL.out.2.1 (HI.out _ h3.out.2.1).2.2.1).mono ?_;rintro e w4 ⟨f3,g3,rfl,h4⟩;have bc:=HS.out _ h4.out.2.1)
     | (clear T4;go_at_call 25;refine (HQ.out w4 _ _ h4.out.2.1 HL.out.2.2.1 (HI.out _ h4.out.2.1).2.2.2.1).mono ?_;rintro e w5 ⟨f4,g4,rfl,h5⟩;have bn:=HS.out _ h5.out.2.1)
     | (clear T5;go_at_call 24;refine (ap.out w5 _ _ h5.out.2.1 HL.out.2.2.2.2 (HI.out _ h5.out.2.1).2.2.2.2).mono ?_;rintro e w6 ⟨f5,g5,rfl,h6⟩;have be:=HS.out _ h6.out.2.1;have kz:=HZ.out _ h6.out.2.1;obtain ⟨r0,r1,r2,r3,r4,r5,r6⟩:=Nx.lJ kz;have rf:=fun o=>aG kz o))
   all_goals
    go_wp2_with fail
    obtain ⟨X,hX⟩:=gQx (((((((w6.setCell ⟨q+1,0,none⟩ (.int .i64 (Pn:Int))).setCell ⟨q+1,1,none⟩ (.slice f1 n.first.length g1)).setCell ⟨q+1,2,none⟩ (.slice f2 n.ins.length g2)).setCell ⟨q+1,3,none⟩ (.slice f3 n.outs.length g3)).setCell ⟨q+1,4,none⟩ (.slice f4 n.keeps.length g4)).setCell ⟨q+1,5,none⟩ (.slice f5 n.nums.length g5)).setCell ⟨q+1,6,none⟩ (.slice ac lc y))
    rw[<-hX]
    obtain ⟨y0,y1,y2,y3⟩:=Ew.Zi kz hX
    clear hX
    refine aY9 (Ic _ _ (q+1) _ _ rfl rfl rfl y0) rfl ?_
    have bz:=HW.out.1.hq
    have hsz:=HW.out.1.size
    have hx:∀b,b≠q+1->X.heap[b]?=w6.heap[b]?:=y1
    have J:∀(W:World) (A:Nat->Prop),Below W.heap.size W w6->(∀b,A b->b≠q+1)->Nx.bB A (· < X.heap.size) W X:=fun W A hW hA b hb hl=>⟨by show b<X.heap.size;rw[y3];exact aO5 hl hW.size,by rw[hx b (hA b hb),hW.block b hl]⟩
    have e6:Below w6.heap.size w6 w6:=Below.refl _ _
    have e5:=h6.out.1
    have e4:=aQ h5.out.1 e5
    have e3:=aQ h4.out.1 e4
    have e2:=aQ h3.out.1 e3
    refine ⟨f1,f2,f3,f4,f5,ac,_,g1,_,g2,_,g3,_,g4,_,g5,lc,y,by rw[D.out.2.1];rfl,y2 _ _ (aQ HW.out.1.bel h6.out.2.1) (by omega),⟨h2.out.2.2.carry (J _ _ e2 fun b hb=>by omega),h3.out.2.2.carry (J _ _ e3 fun b hb=>by omega),h4.out.2.2.carry (J _ _ e4 fun b hb=>by omega),h5.out.2.2.carry (J _ _ e5 fun b hb=>by omega),h6.out.2.2.carry (J _ _ e6 fun b hb=>by omega),?_⟩,bi.out⟩
    show Nx.jA _ X _ (sL n.places.toNat n.nums n.code n.code.length).code
    rw[<-D.out.1,<-HM.out]
    exact HF.out.carry (J _ _ h6.out.2.1 fun b hb=>by have:=HW.out.2 b hb;omega)
end
end Sx
end
end Go.Proofs.YthieaobjdpfcoaaGreatDoor
