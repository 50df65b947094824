import Derived.Test.YthieaobjdpfcoaaGreatDoorUFh
import Derived.Test.YthieaobjdpfcoaaGreatDoorUNo
import Derived.Deep.Slices
set_option maxRecDepth 100000
set_option maxHeartbeats 16000000
namespace Go.Proofs.YthieaobjdpfcoaaGreatDoor
section
open Go.RowKit Go.Sort Px
namespace Yw
open Nx (Nt Sp eJ kK bH jA pB asks told)
open Ew (Hb Ze ZN bM)
open Fw (mV mkN)
theorem uA {w:World}{b k:Nat}{f:Int->Int}(h:mV w b k f) (I:k≤40000) {d:Int}(hd:jF d) (v:Int) :
    ∃w',(Instr.mapUpdate 42 (.map (some b)) (.int .i64 d) (.int .i64 v)).run Tryz.prog w=.ok () w'/\mV w' b (k+1) (fun p=>if p=d then v else f p)/\w.grownBy w' (some b):=by
 obtain ⟨n,g,l,J,D⟩:=h
 obtain ⟨w',j,y,r,s,O,u,c⟩:=Fw.aB2 l (by omega) D hd v
 exact ⟨w',r,⟨j,y,s,by omega,u⟩,c⟩
section
variable {w:World}
theorem A0 {s:ByteArray}{n:Nt}{e1 e2 e3 e4 e5 e6:Option Addr}{l1 o1 l2 o2 l3 o3 l4 o4 l5 o5 l6 o6:Nat}{rows:List (List Int)}{ai:Option Addr}{bR O ax:Nat}(hK:Kx.rP w) (hN:eJ w.heap.size w n (.slice e1 l1 o1) (.slice e2 l2 o2) (.slice e3 l3 o3) (.slice e4 l4 o4) (.slice e5 l5 o5) (.slice e6 l6 o6)) (dk:∀x∈n.first,jF x) (ds:∀x∈n.nums,jF x) (bj:0<rows.length->ai=some ⟨bR,O,none⟩/\bR<w.heap.size) (cq:∀k,k<rows.length->∃u,w.cell? ⟨bR,O+k,none⟩=some u/\bH (· < w.heap.size) w u (rows.getD k [])) :
    Calls Tryz.prog 4 #[.string s,.agg #[.int .i64 n.places,.slice e1 l1 o1,.slice e2 l2 o2,.slice e3 l3 o3,.slice e4 l4 o4,.slice e5 l5 o5,.slice e6 l6 o6],.slice ai rows.length ax] w fun e w'=>e=.returned (.bool true)/\Hid (Below w.heap.size w w'):=by
 obtain ⟨pl,cu⟩:∃pl,pl=n.places:=⟨_,rfl⟩
 have em:Hid (pl=n.places):=cu
 rw[<-cu]
 obtain ⟨W,hW⟩:∃W,W=w.alloc (.cells #[.int .i64 pl,.slice e1 l1 o1,.slice e2 l2 o2,.slice e3 l3 o3,.slice e4 l4 o4,.slice e5 l5 o5,.slice e6 l6 o6] 26):=⟨_,rfl⟩
 obtain ⟨q,hq⟩:∃q,q=w.heap.size:=⟨_,rfl⟩
 have bW:Below w.heap.size w W:=by rw[hW];exact aC _ _
 have kW:W.heap[q]?=some (.cells #[.int .i64 pl,.slice e1 l1 o1,.slice e2 l2 o2,.slice e3 l3 o3,.slice e4 l4 o4,.slice e5 l5 o5,.slice e6 l6 o6] 26 (0,0)):=by rw[hW,hq];exact aX w _
 have bz:∀w1,Below w.heap.size w w1->(0<rows.length->ai=some ⟨bR,O,none⟩/\bR<w1.heap.size)/\∀k,k<rows.length->∃u,w1.cell? ⟨bR,O+k,none⟩=some u/\bH (· < w1.heap.size) w1 u (rows.getD k []):=fun w1 hb=>⟨fun hp=>⟨(bj hp).1,aH3 (bj hp).2 hb.size⟩,fun k hk=>by
  obtain ⟨u,h1,h2⟩:=cq k hk
  exact ⟨u,aN hb h1,h2.carry fun b hl _=>⟨aH3 hl hb.size,hb.block b hl⟩⟩⟩
 have av:=Nx.Tn (w:=W) ax (bz W bW).1 (bz W bW).2
 have HB:Hid (Below w.heap.size w W/\W.heap[q]?=some (.cells #[.int .i64 pl,.slice e1 l1 o1,.slice e2 l2 o2,.slice e3 l3 o3,.slice e4 l4 o4,.slice e5 l5 o5,.slice e6 l6 o6] 26 (0,0))/\q=w.heap.size):=⟨bW,kW,hq⟩
 have HN:Hid (eJ w.heap.size w n (.slice e1 l1 o1) (.slice e2 l2 o2) (.slice e3 l3 o3) (.slice e4 l4 o4) (.slice e5 l5 o5) (.slice e6 l6 o6)/\(∀x∈n.first,jF x)/\(∀x∈n.nums,jF x)/\Kx.rP w):=⟨hN,dk,ds,hK⟩
 have df:Hid ((0<rows.length->ai=some ⟨bR,O,none⟩/\bR<w.heap.size)/\∀k,k<rows.length->∃u,w.cell? ⟨bR,O+k,none⟩=some u/\bH (· < w.heap.size) w u (rows.getD k [])):=⟨bj,cq⟩
 obtain ⟨ln,cj⟩:∃l,l=rows.length:=⟨_,rfl⟩
 have ei:Hid (ln=rows.length):=cj
 rw[<-cj] at av ⊢
 clear hK hN dk ds bj cq bz cu bW kW cj
 go_enter Tryz.func4,Tryz.ntmps4
 go_upto_region 1 with fail
 rw[<-hW,<-hq]
 clear hW hq
 go_upto_if 19 with (go_at_call 6;refine av.mono ?_;rintro e w0 ⟨bf,rfl,ek,hR⟩;obtain rfl:=ek.symm;clear av)
 cases bf with
 | false=>
  go_wp2_with fail
  go_ret
  exact ⟨rfl,HB.out.1⟩
 | true=>
  have HR:Hid (pB W ai bR O rows):=hR.out rfl
  clear hR
  have di:=Ee W
  go_upto_region 5 with (go_at_call 13;refine di.mono ?_;rintro e w1 ⟨rfl,h1⟩;clear di)
  have HC:Hid (Below w.heap.size w w1/\Below W.heap.size W w1):=⟨aQ HB.out.1 h1.out,h1.out⟩
  have dn:=aD h1.out HB.out.2.1
  have dq:=HN.out.1.below HC.out.1 (aF4 _)
  have ac:=Ew.Ue (s:=s) HC.out.1.size (HN.out.2.2.2.up HC.out.1) dq HN.out.2.1 HN.out.2.2.1
  rw[<-em.out] at ac
  obtain ⟨r0,r1,r2,r3,r4,r5,r6⟩:=Nx.lC dn
  clear dq dn h1
  go_upto_if 29 with (go_at_call 8;refine ac.mono ?_;rintro e w4 ⟨N,g1,g2,g3,g4,g5,g6,m1,d1,m2,d2,m3,d3,m4,d4,m5,d5,m6,d6,b,rfl,h4⟩;have aw:=aD h4.out.1 (aD HC.out.2 HB.out.2.1);obtain ⟨z0,z1,z2,z3,z4,z5,z6⟩:=Nx.lC aw;have zf:=fun o=>aG aw o)
  obtain ⟨pn,cg⟩:∃pn,pn=N.places:=⟨_,rfl⟩
  have dp:Hid (pn=N.places):=cg
  rw[<-cg]
  obtain ⟨X,hX⟩:∃X,X=((((((w4.setCell ⟨q,0,none⟩ (.int .i64 pn)).setCell ⟨q,1,none⟩ (.slice g1 m1 d1)).setCell ⟨q,2,none⟩ (.slice g2 m2 d2)).setCell ⟨q,3,none⟩ (.slice g3 m3 d3)).setCell ⟨q,4,none⟩ (.slice g4 m4 d4)).setCell ⟨q,5,none⟩ (.slice g5 m5 d5)).setCell ⟨q,6,none⟩ (.slice g6 m6 d6):=⟨_,rfl⟩
  rw[<-hX]
  have ea:q<w1.heap.size:=aB (aD HC.out.2 HB.out.2.1)
  have aj:=Ew.Ud (N:=N) (w:=w) (B:=w.heap.size) (by have:=HB.out.2.2;omega) ea aw hX (aQ HC.out.1 h4.out.1) (by have:=HB.out.2.2;omega)
  have HX:Hid (Below w.heap.size w X/\X.heap[q]?=some (.cells #[.int .i64 pn,.slice g1 m1 d1,.slice g2 m2 d2,.slice g3 m3 d3,.slice g4 m4 d4,.slice g5 m5 d5,.slice g6 m6 d6] 26 (0,0))/\pB X ai bR O rows):=⟨aj.1,aj.2.1,(show pB w ai bR O rows from ⟨HR.out.few,df.out.1,df.out.2⟩).below aj.1⟩
  cases b with
  | false=>
   clear hX aj aw z0 z1 z2 z3 z4 z5 z6 zf r0 r1 r2 r3 r4 r5 r6 ac
   go_wp2_with fail
   go_ret
   exact ⟨rfl,HX.out.1⟩
  | true=>
   obtain ⟨az,U,cz,dc⟩:=aj.2.2 (h4.out.2 rfl)
   obtain ⟨P,be⟩:∃P:Nat,N.places=P:=⟨N.places.toNat,by have:=U.p;omega⟩
   have bv:m6=N.code.length:=(Ew.pJ az.c).1
   have cp:m4=N.keeps.length:=(Ew.tL az.k).1
   have HM:Hid (eJ X.heap.size X N (.slice g1 m1 d1) (.slice g2 m2 d2) (.slice g3 m3 d3) (.slice g4 m4 d4) (.slice g5 m5 d5) (.slice g6 m6 d6)/\kK N/\m6=N.code.length/\m4=N.keeps.length):=⟨az,U,bv,cp⟩
   have ak:Calls Tryz.prog 14 #[.agg #[.int .i64 pn,.slice g1 m1 d1,.slice g2 m2 d2,.slice g3 m3 d3,.slice g4 m4 d4,.slice g5 m5 d5,.slice g6 m6 d6]] X fun e w'=>∃(J:Nat) (C:Nt) (f1 f2 f3 f4 f5 f6:Option Addr) (k1 c1 k2 c2 lo c3 Q c4 k5 c5 lf c6:Nat),e=.returned (.tuple #[.agg #[.int .i64 pn,.slice f1 k1 c1,.slice f2 k2 c2,.slice f3 lo c3,.slice f4 Q c4,.slice f5 k5 c5,.slice f6 lf c6],.nilIface])/\Hid ((aL N.code (kT N P) J).places=[]/\C=Ku N (aL N.code (kT N P) J)/\Below X.heap.size X w'/\eJ w'.heap.size w' C (.slice f1 k1 c1) (.slice f2 k2 c2) (.slice f3 lo c3) (.slice f4 Q c4) (.slice f5 k5 c5) (.slice f6 lf c6))/\lf≤m6/\Q≤m4:=by
    rw[dp.out]
    refine (E3 (n:=N) (P:=P) (aF4 _) az U be).mono fun e w' h=>?_
    obtain ⟨s,⟨J,hJ⟩,hz,f1,f2,f3,f4,f5,f6,k1,c1,k2,c2,lo,c3,Q,c4,k5,c5,lf,c6,he,hb,hM⟩:=h
    rw[hJ] at hz hM
    have h6:=(Ew.pJ hM.c).1
    have h4:=(Ew.tL hM.k).1
    refine ⟨J,_,f1,f2,f3,f4,f5,f6,k1,c1,k2,c2,lo,c3,Q,c4,k5,c5,lf,c6,he,⟨hz,rfl,hb,hM⟩,?_,?_⟩
    ·rw[h6,bv];exact vB _ _ _
    ·rw[h4,cp];exact F7 U be
   obtain ⟨x0,x1,x2,x3,x4,x5,x6⟩:=Nx.lC aj.2.1
   have cm:Hid (N.places=P):=be
   clear hX aj aw z0 z1 z2 z3 z4 z5 z6 zf r0 r1 r2 r3 r4 r5 r6 ac az U cz dc h4 cg bv cp be
   go_upto_region 9 with (go_at_call 14;refine ak.mono ?_;rintro e w5 ⟨J,C,f1,f2,f3,f4,f5,f6,k1,c1,k2,c2,lo,c3,Q,c4,k5,c5,lf,c6,rfl,h5,dd,au⟩;clear ak)
   obtain ⟨Y,hY⟩:∃Y,Y=w5.alloc (.cells #[.int .i64 pn,.slice f1 k1 c1,.slice f2 k2 c2,.slice f3 lo c3,.slice f4 Q c4,.slice f5 k5 c5,.slice f6 lf c6] 26):=⟨_,rfl⟩
   obtain ⟨q8,bc⟩:∃q8,q8=w5.heap.size:=⟨_,rfl⟩
   have bY:Below w5.heap.size w5 Y:=by rw[hY];exact aC _ _
   have kY:Y.heap[q8]?=some (.cells #[.int .i64 pn,.slice f1 k1 c1,.slice f2 k2 c2,.slice f3 lo c3,.slice f4 Q c4,.slice f5 k5 c5,.slice f6 lf c6] 26 (0,0)):=by rw[hY,bc];exact aX _ _
   rw[<-hY,<-bc]
   have ao:Below X.heap.size X Y:=aQ h5.out.2.2.1 bY
   have ae:Hid ((aL N.code (kT N P) J).places=[]/\C=Ku N (aL N.code (kT N P) J)/\lf≤m6/\Q≤m4):=⟨h5.out.1,h5.out.2.1,dd,au⟩
   have HY:Hid (Below w.heap.size w Y/\Y.heap[q8]?=some (.cells #[.int .i64 pn,.slice f1 k1 c1,.slice f2 k2 c2,.slice f3 lo c3,.slice f4 Q c4,.slice f5 k5 c5,.slice f6 lf c6] 26 (0,0))/\eJ Y.heap.size Y C (.slice f1 k1 c1) (.slice f2 k2 c2) (.slice f3 lo c3) (.slice f4 Q c4) (.slice f5 k5 c5) (.slice f6 lf c6)):=⟨aQ HX.out.1 ao,kY,h5.out.2.2.2.below bY bY.size⟩
   have kX:=aD ao HX.out.2.1
   have I:Hid (kK C):=by rw[ae.out.2.1];exact Eh HM.out.2.1 cm.out
   have dl:C.places=N.places:=by rw[ae.out.2.1];rfl
   have ag:=Nx.Dx (w:=Y) (n:=N) (m:=C) (rows:=rows) ax HM.out.2.1 I.out (HM.out.1.below ao ao.size) HY.out.2.2 (HX.out.2.2.below ao) (by rw[ae.out.2.1];exact Ef HM.out.2.1 cm.out ae.out.1 rows _) (by rw[ae.out.2.1];rfl) (by rw[ae.out.2.1];rfl)
   rw[dl,<-dp.out,<-ei.out] at ag
   obtain ⟨x0,x1,x2,x3,x4,x5,x6⟩:=Nx.lC kX
   obtain ⟨y0,y1,y2,y3,y4,y5,y6⟩:=Nx.lC kY
   have eg:Hid (Y.heap[q]?=some (.cells #[.int .i64 pn,.slice g1 m1 d1,.slice g2 m2 d2,.slice g3 m3 d3,.slice g4 m4 d4,.slice g5 m5 d5,.slice g6 m6 d6] 26 (0,0))):=kX
   have ec:¬((m6:Int)<(lf:Int)):=by omega
   have eb:¬((m4:Int)<(Q:Int)):=by omega
   have dz:decide (m6<lf)=false:=by simp;omega
   have ef:decide (m4<Q)=false:=by simp;omega
   clear hY bc bY kY ao kX h5 dl dd au
   go_upto_region 11 with (go_at_call 10;refine ag.mono ?_;rintro e w6 ⟨rfl,h6⟩;obtain ⟨-,-,-,-,t4,-,t6⟩:=Nx.lC (aD h6.out eg.out);obtain ⟨-,-,-,-,u4,-,u6⟩:=Nx.lC (aD h6.out HY.out.2.1))
   have H6:Hid (Below w.heap.size w w6/\Below Y.heap.size Y w6/\w6.heap[q8]?=some (.cells #[.int .i64 pn,.slice f1 k1 c1,.slice f2 k2 c2,.slice f3 lo c3,.slice f4 Q c4,.slice f5 k5 c5,.slice f6 lf c6] 26 (0,0))):=⟨aQ HY.out.1 h6.out,h6.out,aD h6.out HY.out.2.1⟩
   clear x0 x1 x2 x3 x4 x5 x6 y0 y1 y2 y3 y4 y5 y6 h6 ag ec eb dz ef t4 t6 u4 u6
   have mk:=mkN
   obtain ⟨V,hV⟩:∃V,V=w6.alloc (.map #[] 0):=⟨_,rfl⟩
   obtain ⟨D,al⟩:∃D,D=w6.heap.size:=⟨_,rfl⟩
   have bV:Below w6.heap.size w6 V:=by rw[hV];exact aC _ _
   have bc:=aB H6.out.2.2
   have HV:Hid (mV V D 0 (fun _=>0)/\Below w.heap.size w V/\Below Y.heap.size Y V/\V.heap[q8]?=some (.cells #[.int .i64 pn,.slice f1 k1 c1,.slice f2 k2 c2,.slice f3 lo c3,.slice f4 Q c4,.slice f5 k5 c5,.slice f6 lf c6] 26 (0,0))/\q8≠D/\Y.heap.size≤D/\D<V.heap.size/\w.heap.size≤D):=by
    refine ⟨⟨0,fun _=>none,?_,aF4 _,fun _=>rfl⟩,aQ H6.out.1 bV,aQ H6.out.2.1 bV,aD bV H6.out.2.2,by omega,by rw[al];exact H6.out.2.1.size,by rw[al,hV];simp,by rw[al];exact H6.out.1.size⟩
    rw[al,hV];exact Gm.Mp.made _ _ _
   obtain ⟨ck,bC,oC,cw,cc⟩:=Ew.pJ HY.out.2.2.c
   obtain ⟨ca,bO,oO,dh,ch⟩:=Ew.tL HY.out.2.2.o
   obtain ⟨cd,bK,oK,dt,co⟩:=Ew.tL HY.out.2.2.k
   have am:Hid (lf=C.code.length/\(0<C.code.length->f6=some ⟨bC,oC,none⟩)/\∀j,j<C.code.length->V.cell? ⟨bC,oC+j*5,none⟩=some (.int .i64 (C.code.getD j Nx.eD).code)/\V.cell? ⟨bC,oC+j*5+1,none⟩=some (.int .i64 (C.code.getD j Nx.eD).dst)/\V.cell? ⟨bC,oC+j*5+2,none⟩=some (.int .i64 (C.code.getD j Nx.eD).a)/\V.cell? ⟨bC,oC+j*5+3,none⟩=some (.int .i64 (C.code.getD j Nx.eD).b)/\V.cell? ⟨bC,oC+j*5+4,none⟩=some (.int .i64 (C.code.getD j Nx.eD).c)):=⟨ck,cw,fun j hj=>by
    obtain ⟨p0,p1,p2,p3,p4⟩:=cc j hj
    have b:=HV.out.2.2.1
    exact ⟨aN b p0,aN b p1,aN b p2,aN b p3,aN b p4⟩⟩
   have bm:Hid (lo=C.outs.length/\(0<C.outs.length->f3=some ⟨bO,oO,none⟩)/\∀j,j<C.outs.length->V.cell? ⟨bO,oO+j,none⟩=some (.int .i64 (C.outs.getD j 0))/\bO<D):=⟨ca,dh,fun j hj=>⟨aN HV.out.2.2.1 (ch j hj),aH3 (cC (ch j hj)) HV.out.2.2.2.2.2.1⟩⟩
   have bh:Hid (Q=C.keeps.length/\(0<C.keeps.length->f4=some ⟨bK,oK,none⟩)/\∀j,j<C.keeps.length->V.cell? ⟨bK,oK+j,none⟩=some (.int .i64 (C.keeps.getD j 0))/\bK<D):=⟨cd,dt,fun j hj=>⟨aN HV.out.2.2.1 (co j hj),aH3 (cC (co j hj)) HV.out.2.2.2.2.2.1⟩⟩
   have eh:Hid (∀j,j<C.code.length->bC<D):=fun j hj=>aH3 (cC (cc j hj).1) HV.out.2.2.2.2.2.1
   have bo:lf≤4000/\lo≤4000/\Q≤4000:=⟨by rw[ck];exact I.out.c,by rw[ca];have:=I.out.l;omega,by rw[cd];have:=I.out.l;omega⟩
   have bq:Hid (lf≤4000/\lo≤4000/\Q≤4000):=bo
   obtain ⟨eo,ay,ep⟩:=bo
   have cn:∀(l:List Int),(∀p∈l,Nx.cR C.places p=true)->∀j,j<l.length->jF (l.getD j 0):=fun l h j hj=>by
    rw[iO,aE5 hj]
    exact Fw.Ft I.out.p.2 (h _ (aW7 hj))
   have bn:Hid ((∀j,j<C.outs.length->jF (C.outs.getD j 0))/\(∀j,j<C.keeps.length->jF (C.keeps.getD j 0))):=⟨cn _ I.out.o,cn _ I.out.k⟩
   clear ck cw cc ca dh ch cd dt co bc bV cn
   go_upto_region 12 with fail
   rw[<-hV,<-al]
   clear hV al mk
   go_wp2_with fail
   go_loopw [11] (fun i wr=>∃k:Nat,k≤lo/\i=.int .i64 k/\Hid (mV wr D k (Y3 (fun _=>0) C.outs k)/\bM (fun b=>b=D) V wr)) (fun i _=>lo-(intOf i).toNat)
   case atStart=>exact ⟨0,aJ5 _,rfl,HV.out.1,bM.refl _ _⟩
   case round=>
    obtain ⟨k,hk,rfl,HK⟩:=hrel
    have kq:=HK.out.2.heap HV.out.2.2.2.1 HV.out.2.2.2.2.1
    obtain ⟨-,-,-,v3,-,-,-⟩:=Nx.lC kq
    by_cases hlt:k<lo
    ·have ah:k<C.outs.length:=by rw[<-bm.out.1];exact hlt
     have da:=Nx.Q7 f3 bO oO lo c3 k hlt (fun _=>bm.out.2.1 (by omega))
     obtain ⟨hc,ci⟩:=bm.out.2.2 k ah
     have bw:=HK.out.2.cell hc (by show ¬bO=D;omega)
     obtain ⟨y,hy⟩:∃y,y=C.outs.getD k 0:=⟨_,rfl⟩
     rw[<-hy] at bw
     obtain ⟨wA,cb,af,ab⟩:=uA HK.out.1 (by omega) (d:=y) (by rw[hy];exact bn.out.1 k ah) 1
     have HA:Hid (mV wA D (k+1) (Y3 (fun _=>0) C.outs (k+1))/\bM (fun b=>b=D) V wA):=⟨by rw[Y3,<-hy];exact af,HK.out.2.grown ab fun b hb=>.inl (by injection hb with hb;exact hb.symm)⟩
     clear ah hc ci hy af ab kq
     go_wp2_with fail
     go_roundw
     case rel=>exact ⟨k+1,by omega,by go_num,HA.out⟩
     case measure=>simp[intOf];omega
    ·obtain rfl:k=lo:=by omega
     obtain ⟨F1,cv⟩:∃F1,F1=Y3 (fun _=>0) C.outs k:=⟨_,rfl⟩
     have ct:Hid (mV wr D k F1/\bM (fun b=>b=D) V wr/\F1=Y3 (fun _=>0) C.outs k):=⟨by rw[cv];exact HK.out.1,HK.out.2,cv⟩
     clear kq hk hlt cv HK
     go_wp2_with fail
     go_loopw [12] (fun i w2=>∃t:Nat,t≤Q/\i=.int .i64 t/\Hid (mV w2 D (k+t) (Y3 F1 C.keeps t)/\bM (fun b=>b=D) V w2)) (fun i _=>Q-(intOf i).toNat)
     case atStart=>exact ⟨0,aJ5 _,rfl,ct.out.1,ct.out.2.1⟩
     case round=>
      obtain ⟨t,ht,rfl,HT⟩:=hrel
      have kq:=HT.out.2.heap HV.out.2.2.2.1 HV.out.2.2.2.2.1
      clear v3
      obtain ⟨-,-,-,-,v4,-,v6⟩:=Nx.lC kq
      by_cases hlt:t<Q
      ·have ah:t<C.keeps.length:=by rw[<-bh.out.1];exact hlt
       have da:=Nx.Q7 f4 bK oK Q c4 t hlt (fun _=>bh.out.2.1 (by omega))
       obtain ⟨hc,ci⟩:=bh.out.2.2 t ah
       have bw:=HT.out.2.cell hc (by show ¬bK=D;omega)
       obtain ⟨y,hy⟩:∃y,y=C.keeps.getD t 0:=⟨_,rfl⟩
       rw[<-hy] at bw
       obtain ⟨wA,cb,af,ab⟩:=uA HT.out.1 (by omega) (d:=y) (by rw[hy];exact bn.out.2 t ah) 1
       have HA:Hid (mV wA D (k+(t+1)) (Y3 F1 C.keeps (t+1))/\bM (fun b=>b=D) V wA):=⟨by rw[Y3,<-hy];exact af,HT.out.2.grown ab fun b hb=>.inl (by injection hb with hb;exact hb.symm)⟩
       clear ah hc ci hy af ab kq
       go_wp2_with fail
       go_roundw
       case rel=>exact ⟨t+1,by omega,by go_num,HA.out⟩
       case measure=>simp[intOf];omega
      ·obtain rfl:t=Q:=by omega
       obtain ⟨F2,cf⟩:∃F2,F2=Y3 F1 C.keeps t:=⟨_,rfl⟩
       have bu:∀p,p∈N.outs\/p∈(aL N.code (kT N P) J).keeps->F2 p≠0:=fun p hp=>by
        rw[cf,bh.out.1,O7,ct.out.2.2,bm.out.1,O7,ae.out.2.1]
        rcases hp with hp|hp
        ·split
         ·decide
         ·rw[if_pos (show p∈(Ku N (aL N.code (kT N P) J)).outs from hp)];decide
        ·rw[if_pos (show p∈(Ku N (aL N.code (kT N P) J)).keeps from tD.2 hp)];decide
       have dx:Hid (∀j,j<C.code.length->Ob C.code F2 j (C.code.getD (C.code.length-1-j) Nx.eD).dst≠0):=fun j hj=>by
        have h:=(Aq HM.out.2.1 cm.out ae.out.1 bu N.code.length 0 (by omega)).2
        rw[ae.out.2.1] at hj ⊢
        exact h j hj
       have ed:Hid (mV wr D (k+t) F2/\bM (fun b=>b=D) V wr):=⟨by rw[cf];exact HT.out.1,HT.out.2⟩
       have eu:IntKind.i64.wrap ((lf:Int)-1)=(lf:Int)-1:=by rw[IntKind.wrap_i64];omega
       clear kq ht hlt cf bu HT
       go_wp2_with fail
       clear v4 v6
       go_loopw [13] (fun i wr=>∃(j:Nat) (z:Int),j≤lf/\Hid (z=(lf:Int)-1-j)/\i=.int .i64 z/\Hid (mV wr D (k+t+4*j) (Ob C.code F2 j)/\bM (fun b=>b=D) V wr)) (fun i _=>(intOf i+1).toNat)
       case atStart=>exact ⟨0,(lf:Int)-1,aJ5 _,by unfold Hid;omega,rfl,ed.out⟩
       case round=>
        obtain ⟨j,z,hj,HZ,rfl,aa⟩:=hrel
        have kq:=aa.out.2.heap HV.out.2.2.2.1 HV.out.2.2.2.2.1
        obtain ⟨-,-,-,-,-,-,v6⟩:=Nx.lC kq
        clear kq
        by_cases hlt:j<lf
        ·obtain ⟨m,hm⟩:∃m,m=lf-1-j:=⟨_,rfl⟩
         obtain rfl:z=(m:Int):=by have:=HZ.out;omega
         have dm:m<lf:=by omega
         have ay:m<C.code.length:=by rw[<-am.out.1];exact dm
         have da:=Nx.Sf f6 bC oC lf c6 m dm (fun _=>am.out.2.1 (by omega))
         obtain ⟨x,hx⟩:∃x,x=C.code.getD m Nx.eD:=⟨_,rfl⟩
         have ap:¬bC=D:=by have:=eh.out m ay;omega
         obtain ⟨p0,p1,p2,p3,p4⟩:=am.out.2.2 m ay
         have p0:=aa.out.2.cell p0 ap
         have p1:=aa.out.2.cell p1 ap
         have p2:=aa.out.2.cell p2 ap
         have p3:=aa.out.2.cell p3 ap
         have p4:=aa.out.2.cell p4 ap
         rw[<-hx] at p0 p1 p2 p3 p4
         have hst:=I.out.s m ay
         rw[<-hx] at hst
         have ba:=dx.out j (by rw[<-am.out.1];exact hlt)
         rw[<-am.out.1,<-hm,<-hx] at ba
         have bk:Hid ((∀p∈asks x,jF p)/\jF x.dst/\Ob C.code F2 (j+1)=upN (Ob C.code F2 j) x):=⟨Fw.aG7 I.out.p.2 hst,Fw.Ft I.out.p.2 (Nx.sD hst).1,by rw[Ob,<-am.out.1,<-hm,<-hx]⟩
         obtain ⟨l,hl⟩:∃l,l=asks x:=⟨_,rfl⟩
         obtain ⟨la,bi⟩:∃la,la=l.length:=⟨_,rfl⟩
         have bb:la≤3:=by rw[bi,hl];unfold asks;split<;>(try split)<;>(try split)<;>simp
         have ar:Hid (l=asks x/\la=l.length/\la≤3):=⟨hl,bi,bb⟩
         obtain ⟨F,hF⟩:∃F,F=Ob C.code F2 j:=⟨_,rfl⟩
         rw[<-hF] at ba
         have dy:Hid (F=Ob C.code F2 j):=hF
         obtain ⟨Z,hZ⟩:∃Z,Z=wr.alloc (.cells #[.int .i64 x.code,.int .i64 x.dst,.int .i64 x.a,.int .i64 x.b,.int .i64 x.c] 38):=⟨_,rfl⟩
         obtain ⟨zb,hz⟩:∃z,z=wr.heap.size:=⟨_,rfl⟩
         have bZ:Below wr.heap.size wr Z:=by rw[hZ];exact aC _ _
         have kZ:Z.heap[zb]?=some (.cells #[.int .i64 x.code,.int .i64 x.dst,.int .i64 x.a,.int .i64 x.b,.int .i64 x.c] 38 (0,0)):=by rw[hZ,hz];exact aX _ _
         have dj:D<wr.heap.size:=aH3 HV.out.2.2.2.2.2.2.1 aa.out.2.size
         have cr:mV Z D (k+t+4*j) F:=by rw[hF];exact aa.out.1.keep (bZ.block D dj)
         have au:=cr.look bk.out.2.1
         obtain ⟨fy,de⟩:∃fy,fy=F x.dst:=⟨_,rfl⟩
         rw[<-de] at au ba
         have ej:(fy==0)=false:=by simp[ba]
         obtain ⟨wA,cb,af,ab⟩:=uA cr (by have:=bq.out;omega) bk.out.2.1 0
         have db:zb≠D:=by omega
         have kA:wA.heap[zb]?=some (.cells #[.int .i64 x.code,.int .i64 x.dst,.int .i64 x.a,.int .i64 x.b,.int .i64 x.c] 38 (0,0)):=by rw[ab.block zb (aB kZ) (fun e=>db (by injection e))];exact kZ
         have fA:bM (fun b=>b=D) V wA:=(aa.out.2.trans (bM.of_below (P:=fun _=>False) bZ) fun _ _ h=>h.elim).grown ab fun b hb=>.inl (by injection hb with hb;exact hb.symm)
         have br:Calls Tryz.prog 11 #[.agg #[.int .i64 x.code,.int .i64 x.dst,.int .i64 x.a,.int .i64 x.b,.int .i64 x.c]] wA fun e w'=>∃ad b an cap,e=.returned (.slice ad la cap)/\Hid (Below wA.heap.size wA w'/\(0<la->ad=some ⟨b,an,none⟩/\D<b)/\(∀j,j<la->w'.cell? ⟨b,an+j,none⟩=some (.int .i64 (l.getD j 0)))/\mV w' D (k+t+4*j+1) (fun p=>if p=x.dst then 0 else F p)/\bM (fun b=>b=D) V w'):=
          (Nx.nI x.code x.dst x.a x.b x.c wA).mono fun e w' ⟨v,he,⟨ad,b,an,cap,hv,h1,h2⟩,hb⟩=>by
           subst hv
           have cx:D<wA.heap.size:=aH3 HV.out.2.2.2.2.2.2.1 fA.size
           have e9:la=(asks x).length:=by rw[bi,hl]
           refine ⟨ad,b,an,cap,by rw[he,e9],hb,fun h=>⟨(h1 (by rw[<-e9];exact h)).1,?_⟩,fun i hi=>by rw[hl];exact h2 i (by rw[<-e9];exact hi),af.keep (hb.block D cx),fA.trans (bM.of_below (P:=fun _=>False) hb) fun _ _ h=>h.elim⟩
           have:=(h1 (by rw[<-e9];exact h)).2
           omega
         obtain ⟨a0,a1,a2,a3,a4⟩:=Fw.Ur kZ
         obtain ⟨b0,b1,b2,b3,b4⟩:=Fw.Ur kA
         clear hm ay hx ap hst ba hl bi hF dj cr de af ab kA kZ bZ fA db bb
         go_upto_region 24 with fail
         rw[<-hZ,<-hz]
         clear hZ hz p0 p1 p2 p3 p4
         go_upto_region 28 with (go_at_call 11;refine br.mono ?_;rintro e w8 ⟨ad,b,an,cap,rfl,h8⟩;clear br)
         clear a0 a1 a2 a3 a4 b0 b1 b2 b3 b4 au ej cb v6
         have bb:=ar.out.2.2
         have eq:=bq.out
         go_wp2_with fail
         go_loopw [16] (fun i w9=>∃r:Nat,r≤la/\i=.int .i64 r/\Hid (mV w9 D (k+t+4*j+1+r) (Y3 (fun p=>if p=x.dst then 0 else F p) l r)/\bM (fun b=>b=D) V w9/\bM (fun b=>b=D) w8 w9)) (fun i _=>la-(intOf i).toNat)
         case atStart=>exact ⟨0,aJ5 _,rfl,h8.out.2.2.2.1,h8.out.2.2.2.2,bM.refl _ _⟩
         case round=>
          obtain ⟨r,hr,rfl,HQ⟩:=hrel
          by_cases hrl:r<la
          ·have en:=Nx.Q7 ad b an la cap r hrl (fun h=>(h8.out.2.1 h).1)
           obtain ⟨y,hy⟩:∃y,y=l.getD r 0:=⟨_,rfl⟩
           have cy:=HQ.out.2.2.cell (h8.out.2.2.1 r hrl) (by show ¬b=D;have:=(h8.out.2.1 (by omega)).2;omega)
           rw[<-hy] at cy
           have bp:y∈asks x:=by
            rw[hy,<-ar.out.1,iO,aE5 (by rw[<-ar.out.2.1];exact hrl)]
            exact aW7 _
           obtain ⟨wB,er,dr,ce⟩:=uA HQ.out.1 (by omega) (bk.out.1 y bp) 1
           have dw:Hid (mV wB D (k+t+4*j+1+(r+1)) (Y3 (fun p=>if p=x.dst then 0 else F p) l (r+1))/\bM (fun b=>b=D) V wB/\bM (fun b=>b=D) w8 wB):=⟨by rw[Y3,<-hy];exact dr,HQ.out.2.1.grown ce fun b hb=>.inl (by injection hb with hb;exact hb.symm),HQ.out.2.2.grown ce fun b hb=>.inl (by injection hb with hb;exact hb.symm)⟩
           clear hy bp dr ce
           go_wp2_with fail
           go_roundw
           case rel=>exact ⟨r+1,by omega,by go_num,dw.out⟩
           case measure=>simp[intOf];omega
          ·obtain rfl:r=la:=by omega
           have ev:IntKind.i64.wrap ((m:Int)-1)=(m:Int)-1:=by rw[IntKind.wrap_i64];omega
           have du:Hid (mV wr D (k+t+4*(j+1)) (Ob C.code F2 (j+1))/\bM (fun b=>b=D) V wr):=by
            refine ⟨?_,HQ.out.2.1⟩
            rw[bk.out.2.2,upN,<-dy.out,<-ar.out.1,<-ar.out.2.1]
            obtain ⟨nn,gg,q1,q2,q3⟩:=HQ.out.1
            exact ⟨nn,gg,q1,by omega,q3⟩
           go_wp2_with fail
           go_roundw
           case rel=>exact ⟨j+1,(m:Int)-1,by omega,by have:=HZ.out;unfold Hid at *;omega,rfl,du.out⟩
           case measure=>simp[intOf]
        ·obtain rfl:j=lf:=by omega
         obtain rfl:z=-1:=by have:=HZ.out;omega
         go_wp2_with fail
         go_ret
         have ee:=aa.out.2
         exact ⟨rfl,HV.out.2.1.trans (ee.below HV.out.2.1.size fun b hb=>by rw[hb];exact HV.out.2.2.2.2.2.2.2)⟩
end
end Yw
end
section
open Go.RowKit
namespace Nx
section
variable {H:Type}{enc:TypeId×Value->H}{W:World}{sp:Nat->Bool}{held:Bool}
theorem V0 (m:Nat) (p:Nat->List Int->Prop) (h:∀i,i<m->∃z,p i z):∃l:List (List Int),l.length=m/\∀i,i<m->p i (l.getD i []):=by
 induction m with
 | zero=>exact ⟨[],rfl,fun i c=>by omega⟩
 | succ m ih=>
  obtain ⟨l,j,n⟩:=ih (fun i c=>h i (by omega))
  obtain ⟨z,k⟩:=h m (by omega)
  refine ⟨l++[z],by simp[j],fun i c=>?_⟩
  by_cases e:i<m
  ·have:(l++[z]).getD i []=l.getD i []:=by simp[List.getD_eq_getElem?_getD,List.getElem?_append_left (show i<l.length by omega)]
   rw[this];exact n i e
  ·obtain rfl:i=m:=by omega
   have:(l++[z]).getD i []=z:=by subst j;simp[List.getD_eq_getElem?_getD]
   rw[this];exact k
theorem K0 {fuel:Nat}{v:Value}{x:DataW H×List MemPlace}(Q:Tryz.prog.cellsOf 22=1) (J:Tryz.prog.cellsOf 2=1)
    (h:DataW.trod enc Tryz.prog W 0 sp held fuel 27 [v]=some x):∃(rows:List (List Int)) (ad:Option Addr) (b c cap:Nat),v=.slice ad rows.length cap/\(0<rows.length->ad=some ⟨b,c,none⟩/\b<W.heap.size)/\
     (∀k,k<rows.length->∃u,W.cell? ⟨b,c+k,none⟩=some u/\bH (· < W.heap.size) W u (rows.getD k [])):=by
 rcases Deep.open_slice1 Tryz.underlying27 Q h with ⟨r,_⟩|⟨a,len,cap,m,n,V,D,Pl,r,_,Z,e,I,_,hx⟩
 ·obtain rfl:v=.slice none 0 0:=by simpa using r
  exact ⟨[],none,0,0,0,rfl,fun h=>by simp at h,fun k O=>by simp at O⟩
 ·obtain rfl:v=.slice (some a) len cap:=by simpa using r
  have X:len≤m:=by rw[I];split<;>omega
  obtain ⟨rows,y,U⟩:=V0 len (fun i z=>bH (· < W.heap.size) W (V i) z) (fun i hi=>by
   obtain ⟨zs,Y,_⟩:=iT Tryz.underlying22 Tryz.underlying2 J (hx i (by omega)).2
   exact ⟨zs,Y⟩)
  by_cases h0:len=0
  ·exact ⟨rows,some a,0,0,cap,by rw[y],fun h=>by omega,fun k O=>by omega⟩
  ·obtain ⟨b,c,s⟩:=a
   have j:=(hx 0 (by omega)).1
   have l:s=none:=by simpa [Addr.add] using World.cell?_spot j
   subst l
   refine ⟨rows,some ⟨b,c,none⟩,b,c,cap,by rw[y],fun _=>⟨rfl,?_⟩,fun k O=>⟨V k,?_,U k (by omega)⟩⟩
   ·rw[qC] at j;exact cC j
   ·have:=(hx k (by omega)).1
    rw[qC] at this
    exact this
end
end Nx
end
end Go.Proofs.YthieaobjdpfcoaaGreatDoor
