import Derived.Test.YthieaobjdpfcoaaGreatDoorUFh
import Derived.Test.YthieaobjdpfcoaaGreatDoorUNo
import Derived.Deep.Slices
set_option maxRecDepth 100000
set_option maxHeartbeats 16000000
namespace Go.Proofs.YthieaobjdpfcoaaGreatDoor
section
open Go.RowKit Go.Sort Px
namespace Yw
open Nx (Nt Sp eJ kK bH jA pB asks told)
open Ew (Hb Ze ZN bM)
open Fw (mV mkN)
theorem uA {w:World}{b k:Nat}{f:Int->Int}(h:mV w b k f) (J:k≤40000) {d:Int}(hd:jF d) (v:Int) :
    ∃w',(Instr.mapUpdate 42 (.map (some b)) (.int .i64 d) (.int .i64 v)).run Tryz.prog w=.ok () w'/\mV w' b (k+1) (fun p=>if p=d then v else f p)/\w.grownBy w' (some b):=by
 obtain ⟨n,g,r,I,D⟩:=h
 obtain ⟨w',j,u,s,y,O,l,c⟩:=Fw.aB2 r (by omega) D hd v
 exact ⟨w',s,⟨j,u,y,by omega,l⟩,c⟩
section
variable {w:World}
theorem A0 {s:ByteArray}{n:Nt}{e1 e2 e3 e4 e5 e6:Option Addr}{l1 o1 l2 o2 l3 o3 l4 o4 l5 o5 l6 o6:Nat}{rows:List (List Int)}{ai:Option Addr}{bR O ar:Nat}(hK:Kx.rP w) (hN:eJ w.heap.size w n (.slice e1 l1 o1) (.slice e2 l2 o2) (.slice e3 l3 o3) (.slice e4 l4 o4) (.slice e5 l5 o5) (.slice e6 l6 o6)) (dk:∀x∈n.first,jF x) (dd:∀x∈n.nums,jF x) (bj:0<rows.length->ai=some ⟨bR,O,none⟩/\bR<w.heap.size) (cr:∀k,k<rows.length->∃u,w.cell? ⟨bR,O+k,none⟩=some u/\bH (· < w.heap.size) w u (rows.getD k [])) :
    Calls Tryz.prog 4 #[.string s,.agg #[.int .i64 n.places,.slice e1 l1 o1,.slice e2 l2 o2,.slice e3 l3 o3,.slice e4 l4 o4,.slice e5 l5 o5,.slice e6 l6 o6],.slice ai rows.length ar] w fun e w'=>e=.returned (.bool true)/\Hid (Below w.heap.size w w'):=by
 obtain ⟨pl,cv⟩:∃pl,pl=n.places:=⟨_,rfl⟩
 have eh:Hid (pl=n.places):=cv
 rw[<-cv]
 obtain ⟨W,hW⟩:∃W,W=w.alloc (.cells #[.int .i64 pl,.slice e1 l1 o1,.slice e2 l2 o2,.slice e3 l3 o3,.slice e4 l4 o4,.slice e5 l5 o5,.slice e6 l6 o6] 26):=⟨_,rfl⟩
 obtain ⟨q,hq⟩:∃q,q=w.heap.size:=⟨_,rfl⟩
 have bW:Below w.heap.size w W:=by rw[hW];exact aC _ _
 have kW:W.heap[q]?=some (.cells #[.int .i64 pl,.slice e1 l1 o1,.slice e2 l2 o2,.slice e3 l3 o3,.slice e4 l4 o4,.slice e5 l5 o5,.slice e6 l6 o6] 26 (0,0)):=by rw[hW,hq];exact aX w _
 have cp:∀w1,Below w.heap.size w w1->(0<rows.length->ai=some ⟨bR,O,none⟩/\bR<w1.heap.size)/\∀k,k<rows.length->∃u,w1.cell? ⟨bR,O+k,none⟩=some u/\bH (· < w1.heap.size) w1 u (rows.getD k []):=fun w1 hb=>⟨fun hp=>⟨(bj hp).1,aH3 (bj hp).2 hb.size⟩,fun k hk=>by
  obtain ⟨u,h1,h2⟩:=cr k hk
  exact ⟨u,aN hb h1,h2.carry fun b hl _=>⟨aH3 hl hb.size,hb.block b hl⟩⟩⟩
 have bc:=Nx.Tn (w:=W) ar (cp W bW).1 (cp W bW).2
 have HB:Hid (Below w.heap.size w W/\W.heap[q]?=some (.cells #[.int .i64 pl,.slice e1 l1 o1,.slice e2 l2 o2,.slice e3 l3 o3,.slice e4 l4 o4,.slice e5 l5 o5,.slice e6 l6 o6] 26 (0,0))/\q=w.heap.size):=⟨bW,kW,hq⟩
 have HN:Hid (eJ w.heap.size w n (.slice e1 l1 o1) (.slice e2 l2 o2) (.slice e3 l3 o3) (.slice e4 l4 o4) (.slice e5 l5 o5) (.slice e6 l6 o6)/\(∀x∈n.first,jF x)/\(∀x∈n.nums,jF x)/\Kx.rP w):=⟨hN,dk,dd,hK⟩
 have ds:Hid ((0<rows.length->ai=some ⟨bR,O,none⟩/\bR<w.heap.size)/\∀k,k<rows.length->∃u,w.cell? ⟨bR,O+k,none⟩=some u/\bH (· < w.heap.size) w u (rows.getD k [])):=⟨bj,cr⟩
 obtain ⟨ln,ct⟩:∃l,l=rows.length:=⟨_,rfl⟩
 have ea:Hid (ln=rows.length):=ct
 rw[<-ct] at bc ⊢
 clear hK hN dk dd bj cr cp cv bW kW ct
 go_enter Tryz.func4,Tryz.ntmps4
 go_upto_region 1 with fail
 rw[<-hW,<-hq]
 clear hW hq
 go_upto_if 19 with (go_at_call 6;refine bc.mono ?_;rintro e w0 ⟨bf,rfl,ee,hR⟩;obtain rfl:=ee.symm;clear bc)
 cases bf with
 | false=>
  go_wp2_with fail
  go_ret
  exact ⟨rfl,HB.out.1⟩
 | true=>
  have HR:Hid (pB W ai bR O rows):=hR.out rfl
  clear hR
  have dl:=Ee W
  go_upto_region 5 with (go_at_call 13;refine dl.mono ?_;rintro e w1 ⟨rfl,h1⟩;clear dl)
  have HC:Hid (Below w.heap.size w w1/\Below W.heap.size W w1):=⟨aQ HB.out.1 h1.out,h1.out⟩
  have da:=aD h1.out HB.out.2.1
  have df:=HN.out.1.below HC.out.1 (aF4 _)
  have ab:=Ew.Ue (s:=s) HC.out.1.size (HN.out.2.2.2.up HC.out.1) df HN.out.2.1 HN.out.2.2.1
  rw[<-eh.out] at ab
  obtain ⟨r0,r1,r2,r3,r4,r5,r6⟩:=Nx.lC da
  clear df da h1
  go_upto_if 29 with (go_at_call 8;refine ab.mono ?_;rintro e w4 ⟨N,g1,g2,g3,g4,g5,g6,m1,d1,m2,d2,m3,d3,m4,d4,m5,d5,m6,d6,b,rfl,h4⟩;have ay:=aD h4.out.1 (aD HC.out.2 HB.out.2.1);obtain ⟨z0,z1,z2,z3,z4,z5,z6⟩:=Nx.lC ay;have zf:=fun o=>aG ay o)
  obtain ⟨pn,bv⟩:∃pn,pn=N.places:=⟨_,rfl⟩
  have dp:Hid (pn=N.places):=bv
  rw[<-bv]
  obtain ⟨X,hX⟩:∃X,X=((((((w4.setCell ⟨q,0,none⟩ (.int .i64 pn)).setCell ⟨q,1,none⟩ (.slice g1 m1 d1)).setCell ⟨q,2,none⟩ (.slice g2 m2 d2)).setCell ⟨q,3,none⟩ (.slice g3 m3 d3)).setCell ⟨q,4,none⟩ (.slice g4 m4 d4)).setCell ⟨q,5,none⟩ (.slice g5 m5 d5)).setCell ⟨q,6,none⟩ (.slice g6 m6 d6):=⟨_,rfl⟩
  rw[<-hX]
  have dx:q<w1.heap.size:=aB (aD HC.out.2 HB.out.2.1)
  have aj:=Ew.Ud (N:=N) (w:=w) (B:=w.heap.size) (by have:=HB.out.2.2;omega) dx ay hX (aQ HC.out.1 h4.out.1) (by have:=HB.out.2.2;omega)
  have HX:Hid (Below w.heap.size w X/\X.heap[q]?=some (.cells #[.int .i64 pn,.slice g1 m1 d1,.slice g2 m2 d2,.slice g3 m3 d3,.slice g4 m4 d4,.slice g5 m5 d5,.slice g6 m6 d6] 26 (0,0))/\pB X ai bR O rows):=⟨aj.1,aj.2.1,(show pB w ai bR O rows from ⟨HR.out.few,ds.out.1,ds.out.2⟩).below aj.1⟩
  cases b with
  | false=>
   clear hX aj ay z0 z1 z2 z3 z4 z5 z6 zf r0 r1 r2 r3 r4 r5 r6 ab
   go_wp2_with fail
   go_ret
   exact ⟨rfl,HX.out.1⟩
  | true=>
   obtain ⟨au,Q,dn,db⟩:=aj.2.2 (h4.out.2 rfl)
   obtain ⟨P,bm⟩:∃P:Nat,N.places=P:=⟨N.places.toNat,by have:=Q.p;omega⟩
   have cn:m6=N.code.length:=(Ew.pJ au.c).1
   have co:m4=N.keeps.length:=(Ew.tL au.k).1
   have HM:Hid (eJ X.heap.size X N (.slice g1 m1 d1) (.slice g2 m2 d2) (.slice g3 m3 d3) (.slice g4 m4 d4) (.slice g5 m5 d5) (.slice g6 m6 d6)/\kK N/\m6=N.code.length/\m4=N.keeps.length):=⟨au,Q,cn,co⟩
   have ak:Calls Tryz.prog 14 #[.agg #[.int .i64 pn,.slice g1 m1 d1,.slice g2 m2 d2,.slice g3 m3 d3,.slice g4 m4 d4,.slice g5 m5 d5,.slice g6 m6 d6]] X fun e w'=>∃(J:Nat) (C:Nt) (f1 f2 f3 f4 f5 f6:Option Addr) (k1 c1 k2 c2 lo c3 U c4 k5 c5 lf c6:Nat),e=.returned (.tuple #[.agg #[.int .i64 pn,.slice f1 k1 c1,.slice f2 k2 c2,.slice f3 lo c3,.slice f4 U c4,.slice f5 k5 c5,.slice f6 lf c6],.nilIface])/\Hid ((aL N.code (kT N P) J).places=[]/\C=Ku N (aL N.code (kT N P) J)/\Below X.heap.size X w'/\eJ w'.heap.size w' C (.slice f1 k1 c1) (.slice f2 k2 c2) (.slice f3 lo c3) (.slice f4 U c4) (.slice f5 k5 c5) (.slice f6 lf c6))/\lf≤m6/\U≤m4:=by
    rw[dp.out]
    refine (E3 (n:=N) (P:=P) (aF4 _) au Q bm).mono fun e w' h=>?_
    obtain ⟨s,⟨J,hJ⟩,hz,f1,f2,f3,f4,f5,f6,k1,c1,k2,c2,lo,c3,U,c4,k5,c5,lf,c6,he,hb,hM⟩:=h
    rw[hJ] at hz hM
    have h6:=(Ew.pJ hM.c).1
    have h4:=(Ew.tL hM.k).1
    refine ⟨J,_,f1,f2,f3,f4,f5,f6,k1,c1,k2,c2,lo,c3,U,c4,k5,c5,lf,c6,he,⟨hz,rfl,hb,hM⟩,?_,?_⟩
    ·rw[h6,cn];exact vB _ _ _
    ·rw[h4,co];exact F7 Q bm
   obtain ⟨x0,x1,x2,x3,x4,x5,x6⟩:=Nx.lC aj.2.1
   have ch:Hid (N.places=P):=bm
   clear hX aj ay z0 z1 z2 z3 z4 z5 z6 zf r0 r1 r2 r3 r4 r5 r6 ab au Q dn db h4 bv cn co bm
   go_upto_region 9 with (go_at_call 14;refine ak.mono ?_;rintro e w5 ⟨J,C,f1,f2,f3,f4,f5,f6,k1,c1,k2,c2,lo,c3,U,c4,k5,c5,lf,c6,rfl,h5,cz,ax⟩;clear ak)
   obtain ⟨Y,hY⟩:∃Y,Y=w5.alloc (.cells #[.int .i64 pn,.slice f1 k1 c1,.slice f2 k2 c2,.slice f3 lo c3,.slice f4 U c4,.slice f5 k5 c5,.slice f6 lf c6] 26):=⟨_,rfl⟩
   obtain ⟨q8,av⟩:∃q8,q8=w5.heap.size:=⟨_,rfl⟩
   have bY:Below w5.heap.size w5 Y:=by rw[hY];exact aC _ _
   have kY:Y.heap[q8]?=some (.cells #[.int .i64 pn,.slice f1 k1 c1,.slice f2 k2 c2,.slice f3 lo c3,.slice f4 U c4,.slice f5 k5 c5,.slice f6 lf c6] 26 (0,0)):=by rw[hY,av];exact aX _ _
   rw[<-hY,<-av]
   have ap:Below X.heap.size X Y:=aQ h5.out.2.2.1 bY
   have ae:Hid ((aL N.code (kT N P) J).places=[]/\C=Ku N (aL N.code (kT N P) J)/\lf≤m6/\U≤m4):=⟨h5.out.1,h5.out.2.1,cz,ax⟩
   have HY:Hid (Below w.heap.size w Y/\Y.heap[q8]?=some (.cells #[.int .i64 pn,.slice f1 k1 c1,.slice f2 k2 c2,.slice f3 lo c3,.slice f4 U c4,.slice f5 k5 c5,.slice f6 lf c6] 26 (0,0))/\eJ Y.heap.size Y C (.slice f1 k1 c1) (.slice f2 k2 c2) (.slice f3 lo c3) (.slice f4 U c4) (.slice f5 k5 c5) (.slice f6 lf c6)):=⟨aQ HX.out.1 ap,kY,h5.out.2.2.2.below bY bY.size⟩
   have kX:=aD ap HX.out.2.1
   have I:Hid (kK C):=by rw[ae.out.2.1];exact Eh HM.out.2.1 ch.out
   have cw:C.places=N.places:=by rw[ae.out.2.1];rfl
   have ag:=Nx.Dx (w:=Y) (n:=N) (m:=C) (rows:=rows) ar HM.out.2.1 I.out (HM.out.1.below ap ap.size) HY.out.2.2 (HX.out.2.2.below ap) (by rw[ae.out.2.1];exact Ef HM.out.2.1 ch.out ae.out.1 rows _) (by rw[ae.out.2.1];rfl) (by rw[ae.out.2.1];rfl)
   rw[cw,<-dp.out,<-ea.out] at ag
   obtain ⟨x0,x1,x2,x3,x4,x5,x6⟩:=Nx.lC kX
   obtain ⟨y0,y1,y2,y3,y4,y5,y6⟩:=Nx.lC kY
   have ek:Hid (Y.heap[q]?=some (.cells #[.int .i64 pn,.slice g1 m1 d1,.slice g2 m2 d2,.slice g3 m3 d3,.slice g4 m4 d4,.slice g5 m5 d5,.slice g6 m6 d6] 26 (0,0))):=kX
   have ec:¬((m6:Int)<(lf:Int)):=by omega
   have eb:¬((m4:Int)<(U:Int)):=by omega
   have dw:decide (m6<lf)=false:=by simp;omega
   have dz:decide (m4<U)=false:=by simp;omega
   clear hY av bY kY ap kX h5 cw cz ax
   go_upto_region 11 with (go_at_call 10;refine ag.mono ?_;rintro e w6 ⟨rfl,h6⟩;obtain ⟨-,-,-,-,t4,-,t6⟩:=Nx.lC (aD h6.out ek.out);obtain ⟨-,-,-,-,u4,-,u6⟩:=Nx.lC (aD h6.out HY.out.2.1))
   have H6:Hid (Below w.heap.size w w6/\Below Y.heap.size Y w6/\w6.heap[q8]?=some (.cells #[.int .i64 pn,.slice f1 k1 c1,.slice f2 k2 c2,.slice f3 lo c3,.slice f4 U c4,.slice f5 k5 c5,.slice f6 lf c6] 26 (0,0))):=⟨aQ HY.out.1 h6.out,h6.out,aD h6.out HY.out.2.1⟩
   clear x0 x1 x2 x3 x4 x5 x6 y0 y1 y2 y3 y4 y5 y6 h6 ag ec eb dw dz t4 t6 u4 u6
   have mk:=mkN
   obtain ⟨V,hV⟩:∃V,V=w6.alloc (.map #[] 0):=⟨_,rfl⟩
   obtain ⟨D,am⟩:∃D,D=w6.heap.size:=⟨_,rfl⟩
   have bV:Below w6.heap.size w6 V:=by rw[hV];exact aC _ _
   have av:=aB H6.out.2.2
   have HV:Hid (mV V D 0 (fun _=>0)/\Below w.heap.size w V/\Below Y.heap.size Y V/\V.heap[q8]?=some (.cells #[.int .i64 pn,.slice f1 k1 c1,.slice f2 k2 c2,.slice f3 lo c3,.slice f4 U c4,.slice f5 k5 c5,.slice f6 lf c6] 26 (0,0))/\q8≠D/\Y.heap.size≤D/\D<V.heap.size/\w.heap.size≤D):=by
    refine ⟨⟨0,fun _=>none,?_,aF4 _,fun _=>rfl⟩,aQ H6.out.1 bV,aQ H6.out.2.1 bV,aD bV H6.out.2.2,by omega,by rw[am];exact H6.out.2.1.size,by rw[am,hV];simp,by rw[am];exact H6.out.1.size⟩
    rw[am,hV];exact Gm.Mp.made _ _ _
   obtain ⟨bz,bC,oC,dm,cq⟩:=Ew.pJ HY.out.2.2.c
   obtain ⟨bw,bO,oO,di,ck⟩:=Ew.tL HY.out.2.2.o
   obtain ⟨ca,bK,oK,dc,cb⟩:=Ew.tL HY.out.2.2.k
   have ao:Hid (lf=C.code.length/\(0<C.code.length->f6=some ⟨bC,oC,none⟩)/\∀j,j<C.code.length->V.cell? ⟨bC,oC+j*5,none⟩=some (.int .i64 (C.code.getD j Nx.eD).code)/\V.cell? ⟨bC,oC+j*5+1,none⟩=some (.int .i64 (C.code.getD j Nx.eD).dst)/\V.cell? ⟨bC,oC+j*5+2,none⟩=some (.int .i64 (C.code.getD j Nx.eD).a)/\V.cell? ⟨bC,oC+j*5+3,none⟩=some (.int .i64 (C.code.getD j Nx.eD).b)/\V.cell? ⟨bC,oC+j*5+4,none⟩=some (.int .i64 (C.code.getD j Nx.eD).c)):=⟨bz,dm,fun j hj=>by
    obtain ⟨p0,p1,p2,p3,p4⟩:=cq j hj
    have b:=HV.out.2.2.1
    exact ⟨aN b p0,aN b p1,aN b p2,aN b p3,aN b p4⟩⟩
   have bk:Hid (lo=C.outs.length/\(0<C.outs.length->f3=some ⟨bO,oO,none⟩)/\∀j,j<C.outs.length->V.cell? ⟨bO,oO+j,none⟩=some (.int .i64 (C.outs.getD j 0))/\bO<D):=⟨bw,di,fun j hj=>⟨aN HV.out.2.2.1 (ck j hj),aH3 (cC (ck j hj)) HV.out.2.2.2.2.2.1⟩⟩
   have be:Hid (U=C.keeps.length/\(0<C.keeps.length->f4=some ⟨bK,oK,none⟩)/\∀j,j<C.keeps.length->V.cell? ⟨bK,oK+j,none⟩=some (.int .i64 (C.keeps.getD j 0))/\bK<D):=⟨ca,dc,fun j hj=>⟨aN HV.out.2.2.1 (cb j hj),aH3 (cC (cb j hj)) HV.out.2.2.2.2.2.1⟩⟩
   have ej:Hid (∀j,j<C.code.length->bC<D):=fun j hj=>aH3 (cC (cq j hj).1) HV.out.2.2.2.2.2.1
   have br:lf≤4000/\lo≤4000/\U≤4000:=⟨by rw[bz];exact I.out.c,by rw[bw];have:=I.out.l;omega,by rw[ca];have:=I.out.l;omega⟩
   have bp:Hid (lf≤4000/\lo≤4000/\U≤4000):=br
   obtain ⟨er,bb,eu⟩:=br
   have ci:∀(l:List Int),(∀p∈l,Nx.cR C.places p=true)->∀j,j<l.length->jF (l.getD j 0):=fun l h j hj=>by
    rw[iO,aE5 hj]
    exact Fw.Ft I.out.p.2 (h _ (aW7 hj))
   have bq:Hid ((∀j,j<C.outs.length->jF (C.outs.getD j 0))/\(∀j,j<C.keeps.length->jF (C.keeps.getD j 0))):=⟨ci _ I.out.o,ci _ I.out.k⟩
   clear bz dm cq bw di ck ca dc cb av bV ci
   go_upto_region 12 with fail
   rw[<-hV,<-am]
   clear hV am mk
   go_wp2_with fail
   go_loopw [11] (fun i wr=>∃k:Nat,k≤lo/\i=.int .i64 k/\Hid (mV wr D k (Y3 (fun _=>0) C.outs k)/\bM (fun b=>b=D) V wr)) (fun i _=>lo-(intOf i).toNat)
   case atStart=>exact ⟨0,aJ5 _,rfl,HV.out.1,bM.refl _ _⟩
   case round=>
    obtain ⟨k,hk,rfl,HK⟩:=hrel
    have kq:=HK.out.2.heap HV.out.2.2.2.1 HV.out.2.2.2.2.1
    obtain ⟨-,-,-,v3,-,-,-⟩:=Nx.lC kq
    by_cases hlt:k<lo
    ·have ah:k<C.outs.length:=by rw[<-bk.out.1];exact hlt
     have cx:=Nx.Q7 f3 bO oO lo c3 k hlt (fun _=>bk.out.2.1 (by omega))
     obtain ⟨hc,ce⟩:=bk.out.2.2 k ah
     have cg:=HK.out.2.cell hc (by show ¬bO=D;omega)
     obtain ⟨y,hy⟩:∃y,y=C.outs.getD k 0:=⟨_,rfl⟩
     rw[<-hy] at cg
     obtain ⟨wA,cm,af,ac⟩:=uA HK.out.1 (by omega) (d:=y) (by rw[hy];exact bq.out.1 k ah) 1
     have HA:Hid (mV wA D (k+1) (Y3 (fun _=>0) C.outs (k+1))/\bM (fun b=>b=D) V wA):=⟨by rw[Y3,<-hy];exact af,HK.out.2.grown ac fun b hb=>.inl (by injection hb with hb;exact hb.symm)⟩
     clear ah hc ce hy af ac kq
     go_wp2_with fail
     go_roundw
     case rel=>exact ⟨k+1,by omega,by go_num,HA.out⟩
     case measure=>simp[intOf];omega
    ·obtain rfl:k=lo:=by omega
     obtain ⟨F1,cd⟩:∃F1,F1=Y3 (fun _=>0) C.outs k:=⟨_,rfl⟩
     have cf:Hid (mV wr D k F1/\bM (fun b=>b=D) V wr/\F1=Y3 (fun _=>0) C.outs k):=⟨by rw[cd];exact HK.out.1,HK.out.2,cd⟩
     clear kq hk hlt cd HK
     go_wp2_with fail
     go_loopw [12] (fun i w2=>∃t:Nat,t≤U/\i=.int .i64 t/\Hid (mV w2 D (k+t) (Y3 F1 C.keeps t)/\bM (fun b=>b=D) V w2)) (fun i _=>U-(intOf i).toNat)
     case atStart=>exact ⟨0,aJ5 _,rfl,cf.out.1,cf.out.2.1⟩
     case round=>
      obtain ⟨t,ht,rfl,HT⟩:=hrel
      have kq:=HT.out.2.heap HV.out.2.2.2.1 HV.out.2.2.2.2.1
      clear v3
      obtain ⟨-,-,-,-,v4,-,v6⟩:=Nx.lC kq
      by_cases hlt:t<U
      ·have ah:t<C.keeps.length:=by rw[<-be.out.1];exact hlt
       have cx:=Nx.Q7 f4 bK oK U c4 t hlt (fun _=>be.out.2.1 (by omega))
       obtain ⟨hc,ce⟩:=be.out.2.2 t ah
       have cg:=HT.out.2.cell hc (by show ¬bK=D;omega)
       obtain ⟨y,hy⟩:∃y,y=C.keeps.getD t 0:=⟨_,rfl⟩
       rw[<-hy] at cg
       obtain ⟨wA,cm,af,ac⟩:=uA HT.out.1 (by omega) (d:=y) (by rw[hy];exact bq.out.2 t ah) 1
       have HA:Hid (mV wA D (k+(t+1)) (Y3 F1 C.keeps (t+1))/\bM (fun b=>b=D) V wA):=⟨by rw[Y3,<-hy];exact af,HT.out.2.grown ac fun b hb=>.inl (by injection hb with hb;exact hb.symm)⟩
       clear ah hc ce hy af ac kq
       go_wp2_with fail
       go_roundw
       case rel=>exact ⟨t+1,by omega,by go_num,HA.out⟩
       case measure=>simp[intOf];omega
      ·obtain rfl:t=U:=by omega
       obtain ⟨F2,cu⟩:∃F2,F2=Y3 F1 C.keeps t:=⟨_,rfl⟩
       have bo:∀p,p∈N.outs\/p∈(aL N.code (kT N P) J).keeps->F2 p≠0:=fun p hp=>by
        rw[cu,be.out.1,O7,cf.out.2.2,bk.out.1,O7,ae.out.2.1]
        rcases hp with hp|hp
        ·split
         ·decide
         ·rw[if_pos (show p∈(Ku N (aL N.code (kT N P) J)).outs from hp)];decide
        ·rw[if_pos (show p∈(Ku N (aL N.code (kT N P) J)).keeps from tD.2 hp)];decide
       have ei:Hid (∀j,j<C.code.length->Ob C.code F2 j (C.code.getD (C.code.length-1-j) Nx.eD).dst≠0):=fun j hj=>by
        have h:=(Aq HM.out.2.1 ch.out ae.out.1 bo N.code.length 0 (by omega)).2
        rw[ae.out.2.1] at hj ⊢
        exact h j hj
       have dy:Hid (mV wr D (k+t) F2/\bM (fun b=>b=D) V wr):=⟨by rw[cu];exact HT.out.1,HT.out.2⟩
       have ev:IntKind.i64.wrap ((lf:Int)-1)=(lf:Int)-1:=by rw[IntKind.wrap_i64];omega
       clear kq ht hlt cu bo HT
       go_wp2_with fail
       clear v4 v6
       go_loopw [13] (fun i wr=>∃(j:Nat) (z:Int),j≤lf/\Hid (z=(lf:Int)-1-j)/\i=.int .i64 z/\Hid (mV wr D (k+t+4*j) (Ob C.code F2 j)/\bM (fun b=>b=D) V wr)) (fun i _=>(intOf i+1).toNat)
       case atStart=>exact ⟨0,(lf:Int)-1,aJ5 _,by unfold Hid;omega,rfl,dy.out⟩
       case round=>
        obtain ⟨j,z,hj,HZ,rfl,aa⟩:=hrel
        have kq:=aa.out.2.heap HV.out.2.2.2.1 HV.out.2.2.2.2.1
        obtain ⟨-,-,-,-,-,-,v6⟩:=Nx.lC kq
        clear kq
        by_cases hlt:j<lf
        ·obtain ⟨m,hm⟩:∃m,m=lf-1-j:=⟨_,rfl⟩
         obtain rfl:z=(m:Int):=by have:=HZ.out;omega
         have dj:m<lf:=by omega
         have bb:m<C.code.length:=by rw[<-ao.out.1];exact dj
         have cx:=Nx.Sf f6 bC oC lf c6 m dj (fun _=>ao.out.2.1 (by omega))
         obtain ⟨x,hx⟩:∃x,x=C.code.getD m Nx.eD:=⟨_,rfl⟩
         have an:¬bC=D:=by have:=ej.out m bb;omega
         obtain ⟨p0,p1,p2,p3,p4⟩:=ao.out.2.2 m bb
         have p0:=aa.out.2.cell p0 an
         have p1:=aa.out.2.cell p1 an
         have p2:=aa.out.2.cell p2 an
         have p3:=aa.out.2.cell p3 an
         have p4:=aa.out.2.cell p4 an
         rw[<-hx] at p0 p1 p2 p3 p4
         have hst:=I.out.s m bb
         rw[<-hx] at hst
         have ba:=ei.out j (by rw[<-ao.out.1];exact hlt)
         rw[<-ao.out.1,<-hm,<-hx] at ba
         have bh:Hid ((∀p∈asks x,jF p)/\jF x.dst/\Ob C.code F2 (j+1)=upN (Ob C.code F2 j) x):=⟨Fw.aG7 I.out.p.2 hst,Fw.Ft I.out.p.2 (Nx.sD hst).1,by rw[Ob,<-ao.out.1,<-hm,<-hx]⟩
         obtain ⟨l,hl⟩:∃l,l=asks x:=⟨_,rfl⟩
         obtain ⟨la,bi⟩:∃la,la=l.length:=⟨_,rfl⟩
         have aw:la≤3:=by rw[bi,hl];unfold asks;split<;>(try split)<;>(try split)<;>simp
         have az:Hid (l=asks x/\la=l.length/\la≤3):=⟨hl,bi,aw⟩
         obtain ⟨F,hF⟩:∃F,F=Ob C.code F2 j:=⟨_,rfl⟩
         rw[<-hF] at ba
         have du:Hid (F=Ob C.code F2 j):=hF
         obtain ⟨Z,hZ⟩:∃Z,Z=wr.alloc (.cells #[.int .i64 x.code,.int .i64 x.dst,.int .i64 x.a,.int .i64 x.b,.int .i64 x.c] 38):=⟨_,rfl⟩
         obtain ⟨zb,hz⟩:∃z,z=wr.heap.size:=⟨_,rfl⟩
         have bZ:Below wr.heap.size wr Z:=by rw[hZ];exact aC _ _
         have kZ:Z.heap[zb]?=some (.cells #[.int .i64 x.code,.int .i64 x.dst,.int .i64 x.a,.int .i64 x.b,.int .i64 x.c] 38 (0,0)):=by rw[hZ,hz];exact aX _ _
         have dr:D<wr.heap.size:=aH3 HV.out.2.2.2.2.2.2.1 aa.out.2.size
         have cj:mV Z D (k+t+4*j) F:=by rw[hF];exact aa.out.1.keep (bZ.block D dr)
         have ax:=cj.look bh.out.2.1
         obtain ⟨fy,dt⟩:∃fy,fy=F x.dst:=⟨_,rfl⟩
         rw[<-dt] at ax ba
         have ed:(fy==0)=false:=by simp[ba]
         obtain ⟨wA,cm,af,ac⟩:=uA cj (by have:=bp.out;omega) bh.out.2.1 0
         have dq:zb≠D:=by omega
         have kA:wA.heap[zb]?=some (.cells #[.int .i64 x.code,.int .i64 x.dst,.int .i64 x.a,.int .i64 x.b,.int .i64 x.c] 38 (0,0)):=by rw[ac.block zb (aB kZ) (fun e=>dq (by injection e))];exact kZ
         have fA:bM (fun b=>b=D) V wA:=(aa.out.2.trans (bM.of_below (P:=fun _=>False) bZ) fun _ _ h=>h.elim).grown ac fun b hb=>.inl (by injection hb with hb;exact hb.symm)
         have bn:Calls Tryz.prog 11 #[.agg #[.int .i64 x.code,.int .i64 x.dst,.int .i64 x.a,.int .i64 x.b,.int .i64 x.c]] wA fun e w'=>∃ad b al cap,e=.returned (.slice ad la cap)/\Hid (Below wA.heap.size wA w'/\(0<la->ad=some ⟨b,al,none⟩/\D<b)/\(∀j,j<la->w'.cell? ⟨b,al+j,none⟩=some (.int .i64 (l.getD j 0)))/\mV w' D (k+t+4*j+1) (fun p=>if p=x.dst then 0 else F p)/\bM (fun b=>b=D) V w'):=
          (Nx.nI x.code x.dst x.a x.b x.c wA).mono fun e w' ⟨v,he,⟨ad,b,al,cap,hv,h1,h2⟩,hb⟩=>by
           subst hv
           have dh:D<wA.heap.size:=aH3 HV.out.2.2.2.2.2.2.1 fA.size
           have e9:la=(asks x).length:=by rw[bi,hl]
           refine ⟨ad,b,al,cap,by rw[he,e9],hb,fun h=>⟨(h1 (by rw[<-e9];exact h)).1,?_⟩,fun i hi=>by rw[hl];exact h2 i (by rw[<-e9];exact hi),af.keep (hb.block D dh),fA.trans (bM.of_below (P:=fun _=>False) hb) fun _ _ h=>h.elim⟩
           have:=(h1 (by rw[<-e9];exact h)).2
           omega
         obtain ⟨a0,a1,a2,a3,a4⟩:=Fw.Ur kZ
         obtain ⟨b0,b1,b2,b3,b4⟩:=Fw.Ur kA
         clear hm bb hx an hst ba hl bi hF dr cj dt af ac kA kZ bZ fA dq aw
         go_upto_region 24 with fail
         rw[<-hZ,<-hz]
         clear hZ hz p0 p1 p2 p3 p4
         go_upto_region 28 with (go_at_call 11;refine bn.mono ?_;rintro e w8 ⟨ad,b,al,cap,rfl,h8⟩;clear bn)
         clear a0 a1 a2 a3 a4 b0 b1 b2 b3 b4 ax ed cm v6
         have aw:=az.out.2.2
         have eq:=bp.out
         go_wp2_with fail
         go_loopw [16] (fun i w9=>∃r:Nat,r≤la/\i=.int .i64 r/\Hid (mV w9 D (k+t+4*j+1+r) (Y3 (fun p=>if p=x.dst then 0 else F p) l r)/\bM (fun b=>b=D) V w9/\bM (fun b=>b=D) w8 w9)) (fun i _=>la-(intOf i).toNat)
         case atStart=>exact ⟨0,aJ5 _,rfl,h8.out.2.2.2.1,h8.out.2.2.2.2,bM.refl _ _⟩
         case round=>
          obtain ⟨r,hr,rfl,HQ⟩:=hrel
          by_cases hrl:r<la
          ·have en:=Nx.Q7 ad b al la cap r hrl (fun h=>(h8.out.2.1 h).1)
           obtain ⟨y,hy⟩:∃y,y=l.getD r 0:=⟨_,rfl⟩
           have cy:=HQ.out.2.2.cell (h8.out.2.2.1 r hrl) (by show ¬b=D;have:=(h8.out.2.1 (by omega)).2;omega)
           rw[<-hy] at cy
           have bu:y∈asks x:=by
            rw[hy,<-az.out.1,iO,aE5 (by rw[<-az.out.2.1];exact hrl)]
            exact aW7 _
           obtain ⟨wB,eo,de,cc⟩:=uA HQ.out.1 (by omega) (bh.out.1 y bu) 1
           have eg:Hid (mV wB D (k+t+4*j+1+(r+1)) (Y3 (fun p=>if p=x.dst then 0 else F p) l (r+1))/\bM (fun b=>b=D) V wB/\bM (fun b=>b=D) w8 wB):=⟨by rw[Y3,<-hy];exact de,HQ.out.2.1.grown cc fun b hb=>.inl (by injection hb with hb;exact hb.symm),HQ.out.2.2.grown cc fun b hb=>.inl (by injection hb with hb;exact hb.symm)⟩
           clear hy bu de cc
           go_wp2_with fail
           go_roundw
           case rel=>exact ⟨r+1,by omega,by go_num,eg.out⟩
           case measure=>simp[intOf];omega
          ·obtain rfl:r=la:=by omega
           have ep:IntKind.i64.wrap ((m:Int)-1)=(m:Int)-1:=by rw[IntKind.wrap_i64];omega
           have ef:Hid (mV wr D (k+t+4*(j+1)) (Ob C.code F2 (j+1))/\bM (fun b=>b=D) V wr):=by
            refine ⟨?_,HQ.out.2.1⟩
            rw[bh.out.2.2,upN,<-du.out,<-az.out.1,<-az.out.2.1]
            obtain ⟨nn,gg,q1,q2,q3⟩:=HQ.out.1
            exact ⟨nn,gg,q1,by omega,q3⟩
           go_wp2_with fail
           go_roundw
           case rel=>exact ⟨j+1,(m:Int)-1,by omega,by have:=HZ.out;unfold Hid at *;omega,rfl,ef.out⟩
           case measure=>simp[intOf]
        ·obtain rfl:j=lf:=by omega
         obtain rfl:z=-1:=by have:=HZ.out;omega
         go_wp2_with fail
         go_ret
         have em:=aa.out.2
         exact ⟨rfl,HV.out.2.1.trans (em.below HV.out.2.1.size fun b hb=>by rw[hb];exact HV.out.2.2.2.2.2.2.2)⟩
end
end Yw
end
section
open Go.RowKit
namespace Nx
section
variable {H:Type}{enc:TypeId×Value->H}{W:World}{sp:Nat->Bool}{held:Bool}
theorem V0 (m:Nat) (p:Nat->List Int->Prop) (h:∀i,i<m->∃z,p i z):∃l:List (List Int),l.length=m/\∀i,i<m->p i (l.getD i []):=by
 induction m with
 | zero=>exact ⟨[],rfl,fun i j=>by omega⟩
 | succ m ih=>
  obtain ⟨l,c,k⟩:=ih (fun i j=>h i (by omega))
  obtain ⟨z,n⟩:=h m (by omega)
  refine ⟨l++[z],by simp[c],fun i j=>?_⟩
  by_cases e:i<m
  ·have:(l++[z]).getD i []=l.getD i []:=by simp[List.getD_eq_getElem?_getD,List.getElem?_append_left (show i<l.length by omega)]
   rw[this];exact k i e
  ·obtain rfl:i=m:=by omega
   have:(l++[z]).getD i []=z:=by subst c;simp[List.getD_eq_getElem?_getD]
   rw[this];exact n
theorem K0 {fuel:Nat}{v:Value}{x:DataW H×List MemPlace}(J:Tryz.prog.cellsOf 22=1) (Q:Tryz.prog.cellsOf 2=1)
    (h:DataW.trod enc Tryz.prog W 0 sp held fuel 27 [v]=some x):∃(rows:List (List Int)) (ad:Option Addr) (b c cap:Nat),v=.slice ad rows.length cap/\(0<rows.length->ad=some ⟨b,c,none⟩/\b<W.heap.size)/\
     (∀k,k<rows.length->∃u,W.cell? ⟨b,c+k,none⟩=some u/\bH (· < W.heap.size) W u (rows.getD k [])):=by
 rcases Deep.open_slice1 Tryz.underlying27 J h with ⟨l,_⟩|⟨a,len,cap,m,n,V,D,Pl,l,_,hl,e,O,_,hx⟩
 ·obtain rfl:v=.slice none 0 0:=by simpa using l
  exact ⟨[],none,0,0,0,rfl,fun h=>by simp at h,fun k I=>by simp at I⟩
 ·obtain rfl:v=.slice (some a) len cap:=by simpa using l
  have X:len≤m:=by rw[O];split<;>omega
  obtain ⟨rows,y,Y⟩:=V0 len (fun i z=>bH (· < W.heap.size) W (V i) z) (fun i Z=>by
   obtain ⟨zs,U,_⟩:=iT Tryz.underlying22 Tryz.underlying2 Q (hx i (by omega)).2
   exact ⟨zs,U⟩)
  by_cases h0:len=0
  ·exact ⟨rows,some a,0,0,cap,by rw[y],fun h=>by omega,fun k I=>by omega⟩
  ·obtain ⟨b,c,s⟩:=a
   have r:=(hx 0 (by omega)).1
   have j:s=none:=by simpa [Addr.add] using World.cell?_spot r
   subst j
   refine ⟨rows,some ⟨b,c,none⟩,b,c,cap,by rw[y],fun _=>⟨rfl,?_⟩,fun k I=>⟨V k,?_,Y k (by omega)⟩⟩
   ·rw[qC] at r;exact cC r
   ·have:=(hx k (by omega)).1
    rw[qC] at this
    exact this
end
end Nx
end
end Go.Proofs.YthieaobjdpfcoaaGreatDoor
