import Derived.Test.YtcdbhoknhnimcaaGreatDoorTFg
import Derived.Test.YtcdbhoknhnimcaaGreatDoorTNo
import Derived.Deep.Slices
set_option maxRecDepth 100000
set_option maxHeartbeats 16000000
namespace Go.Proofs.YtcdbhoknhnimcaaGreatDoor
section
open Go.RowKit Go.Sort Px
namespace Fw
open Nx (Nt Sp eQ lX bL lH cV pL V9 asks told)
open Ew (Wu aA9 ZN bH)
def Ji (f:Int->Int) (l:List Int):Nat->Int
 | 0=>0
 | k+1=>Ji f l k+f (l.getD k 0)
theorem Cz {f:Int->Int}(h:∀p,f p=0\/f p=1) (l:List Int):∀k,0≤Ji f l k/\Ji f l k≤k
 | 0=>⟨Int.le_refl _,Int.le_refl _⟩
 | k+1=>by
  obtain ⟨h1,h2⟩:=Cz h l k
  rw[Ji]
  rcases h (l.getD k 0) with e|e<;>rw[e]<;>exact ⟨by omega,by omega⟩
theorem Oz {f:Int->Int}(h:∀p,f p=0\/f p=1) (l:List Int) {j:Nat}(hj:f (l.getD j 0)=0):∀k,j<k->Ji f l k<k
 | 0,hk=>absurd hk (by omega)
 | k+1,hk=>by
  rw[Ji]
  by_cases e:j=k
  ·subst e
   have:=(Cz h l j).2
   rw[hj];omega
  ·have:=Oz h l hj k (by omega)
   rcases h (l.getD k 0) with e|e<;>rw[e]<;>omega
theorem Ck (cs:List Sp):∀k p,V9 cs k p=0\/V9 cs k p=1
 | 0,_=>.inl rfl
 | k+1,p=>by
  rw[V9]
  split
  ·split
   ·exact .inr rfl
   ·exact .inl rfl
  ·exact Ck cs k p
theorem zV {N:Nt}(h:lX N):lX (cV N):=Nx.D8 (by
 have hw:Nx.cN N=0:=by
  have:=Nx.D7 h
  unfold Nx.fM at this
  by_cases e:Nx.cN N=0
  ·exact e
  ·rw[if_neg e] at this;injection this
 unfold Nx.fM
 rw[if_pos (Nx.Dt hw),Nx.oM _ _ _ (Nx.Kc h.s)])
theorem Jz {N:Nt}(h:lX N) (rows:List (List Int)) (k:Nat):told (cV N) (cV N).first rows k=told N N.first rows k:=
 (Nx.O8 (n:=N) (m:=cV N) (fun V V'=>V'=V/\(V.length:Int)=N.places) ⟨rfl,h.f⟩ (fun V V' ins hR=>by
  obtain ⟨rfl,hl⟩:=hR
  obtain ⟨h1,h2⟩:=Nx.Du h.s hl ins
  exact ⟨h1,h2,by rw[Nx.B5];exact hl⟩) rows k).1
theorem Dv {N:Nt}{k:Nat}(hk:k<N.code.length):asks ((cV N).code.getD k Nx.iC)=[]\/Ji (V9 (cV N).code k) (asks ((cV N).code.getD k Nx.iC)) (asks ((cV N).code.getD k Nx.iC)).length<((asks ((cV N).code.getD k Nx.iC)).length:Int):=by
 rcases Nx.Kb (old:=N.nums) (cs:=N.code) (code:=(cV N).code) k (fun i hi=>Nx.Dx _ _ _ i (by omega)) with h|⟨p,hp,hz⟩
 ·exact .inl h
 ·obtain ⟨j,hj,rfl⟩:=List.getElem_of_mem hp
  exact .inr (Oz (Ck _ k) _ (j:=j) (by rw[List.getD_eq_getElem?_getD,List.getElem?_eq_getElem hj];exact hz) _ hj)
def yI (w:World) (b k:Nat) (f:Int->Int):Prop:=∃n g,Gm.Mp Tryz.prog 3 w b n g/\n≤2*k/\∀p:Int,(g (.int .i64 p)).getD (.int .i64 0)=.int .i64 (f p)
theorem yI.keep {w w':World}{b k:Nat}{f:Int->Int}(h:yI w b k f) (hb:w'.heap[b]?=w.heap[b]?):yI w' b k f:=by
 obtain ⟨n,g,h1,h2,h3⟩:=h
 exact ⟨n,g,h1.keep hb,h2,h3⟩
theorem Xv (w:World):(zeroValue 3).run Tryz.prog w=.ok (.int .i64 0) w:=by kernel_rfl
theorem yI.look {w:World}{b k:Nat}{f:Int->Int}(h:yI w b k f) {p:Int}(hp:eF p):(Instr.lookup 37 (.map (some b)) (.int .i64 p) false).run Tryz.prog w=.ok (.int .i64 (f p)) w:=by
 obtain ⟨n,g,h1,h2,h3⟩:=h
 rw[h1.look tU Tryz.underlying37 (Xv w) (Maps.keyOf_int_mk Tryz.underlying3 hp.wf),h3 p]
theorem Nk {w:World}{b n:Nat}{g:Lit->Option Value}{f:Int->Int}(h:Gm.Mp Tryz.prog 3 w b n g) (hn:n≤100000) (hf:∀p:Int,(g (.int .i64 p)).getD (.int .i64 0)=.int .i64 (f p)) {d:Int}(hd:eF d) (v:Int) :
    ∃w' n' g',(Instr.mapUpdate 37 (.map (some b)) (.int .i64 d) (.int .i64 v)).run Tryz.prog w=.ok () w'/\Gm.Mp Tryz.prog 3 w' b n' g'/\n'≤n+1/\(∀p:Int,(g' (.int .i64 p)).getD (.int .i64 0)=.int .i64 (if p=d then v else f p))/\w.grownBy w' (some b):=by
 obtain ⟨w',hr,hm,hg⟩:=h.put tU Tryz.underlying37 (by unfold maxLen;omega) (Maps.keyOf_int_mk Tryz.underlying3 hd.wf) (.int .i64 v)
 refine ⟨w',_,_,hr,hm,by split<;>omega,fun p=>?_,hg⟩
 by_cases e:p=d
 ·subst e
  rw[Gm.lQ _ (by trivial),if_pos rfl];rfl
 ·rw[Gm.kB _ _ (Db e),if_neg e];exact hf p
theorem mkN (w:World):(Instr.makeMap 37 none).run Tryz.prog w=.ok (.map (some w.heap.size)) (w.alloc (.map #[] 0)):=by kernel_rfl
section
variable {w:World}
theorem G6 {s:ByteArray}{n:Nt}{e1 e2 e3 e4 e5 e6:Option Addr}{l1 o1 l2 o2 l3 o3 l4 o4 l5 o5 l6 o6:Nat}{rows:List (List Int)}{adr:Option Addr}{bR offR capR:Nat}(hK:Kx.qX w) (hN:eQ w.heap.size w n (.slice e1 l1 o1) (.slice e2 l2 o2) (.slice e3 l3 o3) (.slice e4 l4 o4) (.slice e5 l5 o5) (.slice e6 l6 o6)) (hnf:∀x∈n.first,eF x) (hnn:∀x∈n.nums,eF x) (hra:0<rows.length->adr=some ⟨bR,offR,none⟩/\bR<w.heap.size) (hrc:∀k,k<rows.length->∃u,w.cell? ⟨bR,offR+k,none⟩=some u/\bL (· < w.heap.size) w u (rows.getD k [])) :
    Calls Tryz.prog 3 #[.string s,.agg #[.int .i64 n.places,.slice e1 l1 o1,.slice e2 l2 o2,.slice e3 l3 o3,.slice e4 l4 o4,.slice e5 l5 o5,.slice e6 l6 o6],.slice adr rows.length capR] w fun e w'=>e=.returned (.bool true)/\Hid (Below w.heap.size w w'):=by
 obtain ⟨pl,hpl⟩:∃pl,pl=n.places:=⟨_,rfl⟩
 have HPL:Hid (pl=n.places):=hpl
 rw[<-hpl]
 obtain ⟨W,hW⟩:∃W,W=w.alloc (.cells #[.int .i64 pl,.slice e1 l1 o1,.slice e2 l2 o2,.slice e3 l3 o3,.slice e4 l4 o4,.slice e5 l5 o5,.slice e6 l6 o6] 26):=⟨_,rfl⟩
 obtain ⟨q,hq⟩:∃q,q=w.heap.size:=⟨_,rfl⟩
 have bW:Below w.heap.size w W:=by rw[hW];exact aC _ _
 have kW:W.heap[q]?=some (.cells #[.int .i64 pl,.slice e1 l1 o1,.slice e2 l2 o2,.slice e3 l3 o3,.slice e4 l4 o4,.slice e5 l5 o5,.slice e6 l6 o6] 26 (0,0)):=by rw[hW,hq];exact bE w _
 have hrw:∀w1,Below w.heap.size w w1->(0<rows.length->adr=some ⟨bR,offR,none⟩/\bR<w1.heap.size)/\∀k,k<rows.length->∃u,w1.cell? ⟨bR,offR+k,none⟩=some u/\bL (· < w1.heap.size) w1 u (rows.getD k []):=fun w1 hb=>⟨fun hp=>⟨(hra hp).1,Nat.lt_of_lt_of_le (hra hp).2 hb.size⟩,fun k hk=>by
  obtain ⟨u,h1,h2⟩:=hrc k hk
  exact ⟨u,aM hb h1,h2.carry fun b hl _=>⟨Nat.lt_of_lt_of_le hl hb.size,hb.block b hl⟩⟩⟩
 have hfew:=Nx.Qp (w:=W) capR (hrw W bW).1 (hrw W bW).2
 have HB:Hid (Below w.heap.size w W/\W.heap[q]?=some (.cells #[.int .i64 pl,.slice e1 l1 o1,.slice e2 l2 o2,.slice e3 l3 o3,.slice e4 l4 o4,.slice e5 l5 o5,.slice e6 l6 o6] 26 (0,0))/\q=w.heap.size):=⟨bW,kW,hq⟩
 have HN:Hid (eQ w.heap.size w n (.slice e1 l1 o1) (.slice e2 l2 o2) (.slice e3 l3 o3) (.slice e4 l4 o4) (.slice e5 l5 o5) (.slice e6 l6 o6)/\(∀x∈n.first,eF x)/\(∀x∈n.nums,eF x)/\Kx.qX w):=⟨hN,hnf,hnn,hK⟩
 have HRC:Hid ((0<rows.length->adr=some ⟨bR,offR,none⟩/\bR<w.heap.size)/\∀k,k<rows.length->∃u,w.cell? ⟨bR,offR+k,none⟩=some u/\bL (· < w.heap.size) w u (rows.getD k [])):=⟨hra,hrc⟩
 obtain ⟨ln,hln⟩:∃l,l=rows.length:=⟨_,rfl⟩
 have HLN:Hid (ln=rows.length):=hln
 rw[<-hln] at hfew ⊢
 clear hK hN hnf hnn hra hrc hrw hpl bW kW hln
 go_enter Tryz.func3,Tryz.ntmps3
 go_upto_region 1 with fail
 rw[<-hW,<-hq]
 clear hW hq
 go_upto_if 18 with (go_at_call 8;refine hfew.mono ?_;rintro e w0 ⟨bf,rfl,hw0,hR⟩;obtain rfl:=hw0.symm;clear hfew)
 cases bf with
 | false=>
  go_wp2_with fail
  go_ret
  exact ⟨rfl,HB.out.1⟩
 | true=>
  have HR:Hid (pL W adr bR offR rows):=hR.out rfl
  clear hR
  have hfd:=Ds W
  go_upto_region 5 with (go_at_call 9;refine hfd.mono ?_;rintro e w1 ⟨rfl,h1⟩;clear hfd)
  have HC:Hid (Below w.heap.size w w1/\Below W.heap.size W w1):=⟨aN HB.out.1 h1.out,h1.out⟩
  have hk1:=aH h1.out HB.out.2.1
  have hNV:=HN.out.1.below HC.out.1 (Nat.le_refl _)
  have hcode:=Ew.Rn (s:=s) HC.out.1.size (HN.out.2.2.2.up HC.out.1) hNV HN.out.2.1 HN.out.2.2.1
  rw[<-HPL.out] at hcode
  obtain ⟨r0,r1,r2,r3,r4,r5,r6⟩:=Nx.lU hk1
  clear hNV hk1 h1
  go_upto_if 28 with (go_at_call 10;refine hcode.mono ?_;rintro e w4 ⟨N,g1,g2,g3,g4,g5,g6,m1,d1,m2,d2,m3,d3,m4,d4,m5,d5,m6,d6,b,rfl,h4⟩;have hk4:=aH h4.out.1 (aH HC.out.2 HB.out.2.1);obtain ⟨z0,z1,z2,z3,z4,z5,z6⟩:=Nx.lU hk4;have zf:=fun o=>aE hk4 o)
  obtain ⟨pn,hpn⟩:∃pn,pn=N.places:=⟨_,rfl⟩
  have HPN:Hid (pn=N.places):=hpn
  rw[<-hpn]
  obtain ⟨X,hX⟩:∃X,X=((((((w4.setCell ⟨q,0,none⟩ (.int .i64 pn)).setCell ⟨q,1,none⟩ (.slice g1 m1 d1)).setCell ⟨q,2,none⟩ (.slice g2 m2 d2)).setCell ⟨q,3,none⟩ (.slice g3 m3 d3)).setCell ⟨q,4,none⟩ (.slice g4 m4 d4)).setCell ⟨q,5,none⟩ (.slice g5 m5 d5)).setCell ⟨q,6,none⟩ (.slice g6 m6 d6):=⟨_,rfl⟩
  rw[<-hX]
  have hq1:q<w1.heap.size:=aB (aH HC.out.2 HB.out.2.1)
  have hbx:=Ew.Rm (N:=N) (w:=w) (B:=w.heap.size) (by have:=HB.out.2.2;omega) hq1 hk4 hX (aN HC.out.1 h4.out.1) (by have:=HB.out.2.2;omega)
  have HX:Hid (Below w.heap.size w X/\X.heap[q]?=some (.cells #[.int .i64 pn,.slice g1 m1 d1,.slice g2 m2 d2,.slice g3 m3 d3,.slice g4 m4 d4,.slice g5 m5 d5,.slice g6 m6 d6] 26 (0,0))/\pL X adr bR offR rows):=⟨hbx.1,hbx.2.1,(show pL w adr bR offR rows from ⟨HR.out.few,HRC.out.1,HRC.out.2⟩).below hbx.1⟩
  cases b with
  | false=>
   clear hX hbx hk4 z0 z1 z2 z3 z4 z5 z6 zf r0 r1 r2 r3 r4 r5 r6 hcode
   go_wp2_with fail
   go_ret
   exact ⟨rfl,HX.out.1⟩
  | true=>
   obtain ⟨hNX,hroom,hf64,hn64⟩:=hbx.2.2 (h4.out.2 rfl)
   obtain ⟨lc,hlc⟩:∃l,l=N.code.length:=⟨_,rfl⟩
   obtain ⟨lm,hlm⟩:∃l,l=(cV N).nums.length:=⟨_,rfl⟩
   have hm6:m6=lc:=by rw[hlc];exact (Ew.rU hNX.c).1
   subst hm6
   have HM:Hid (eQ X.heap.size X N (.slice g1 m1 d1) (.slice g2 m2 d2) (.slice g3 m3 d3) (.slice g4 m4 d4) (.slice g5 m5 d5) (.slice g6 m6 d6)/\lX N/\m6=N.code.length/\lm=(cV N).nums.length):=⟨hNX,hroom,hlc,hlm⟩
   have hfold:Calls Tryz.prog 11 #[.agg #[.int .i64 pn,.slice g1 m1 d1,.slice g2 m2 d2,.slice g3 m3 d3,.slice g4 m4 d4,.slice g5 m5 d5,.slice g6 m6 d6]] X fun e w'=>∃(f1 f2 f3 f4 f5 f6:Option Addr) (k1 c1 k2 c2 k3 c3 k4 c4 c5 c6:Nat),e=.returned (.tuple #[.agg #[.int .i64 pn,.slice f1 k1 c1,.slice f2 k2 c2,.slice f3 k3 c3,.slice f4 k4 c4,.slice f5 lm c5,.slice f6 m6 c6],.nilIface])/\Hid (Below X.heap.size X w'/\eQ w'.heap.size w' (cV N) (.slice f1 k1 c1) (.slice f2 k2 c2) (.slice f3 k3 c3) (.slice f4 k4 c4) (.slice f5 lm c5) (.slice f6 m6 c6)):=by
    rw[HPN.out]
    refine (Z1 (n:=N) (Nat.le_refl _) hNX hroom hn64).mono fun e w' h=>?_
    obtain ⟨f1,f2,f3,f4,f5,f6,k1,c1,k2,c2,k3,c3,k4,c4,k5,c5,k6,c6,he,hb,hM⟩:=h
    have hk5:k5=lm:=by rw[hlm];exact (Ew.Fy hM.m).1
    have hk6:k6=m6:=by rw[hlc,<-Nx.nM N.nums N.code N.code.length];exact (Ew.rU hM.c).1
    subst hk5 hk6
    exact ⟨f1,f2,f3,f4,f5,f6,k1,c1,k2,c2,k3,c3,k4,c4,c5,c6,he,hb,hM⟩
   obtain ⟨x0,x1,x2,x3,x4,x5,x6⟩:=Nx.lU hbx.2.1
   clear hX hbx hk4 z0 z1 z2 z3 z4 z5 z6 zf r0 r1 r2 r3 r4 r5 r6 hcode hNX hroom hf64 hn64 hlc hlm h4 hpn
   go_upto_region 9 with (go_at_call 11;refine hfold.mono ?_;rintro e w5 ⟨f1,f2,f3,f4,f5,f6,k1,c1,k2,c2,k3,c3,k4,c4,c5,c6,rfl,h5⟩;clear hfold)
   obtain ⟨Y,hY⟩:∃Y,Y=w5.alloc (.cells #[.int .i64 pn,.slice f1 k1 c1,.slice f2 k2 c2,.slice f3 k3 c3,.slice f4 k4 c4,.slice f5 lm c5,.slice f6 m6 c6] 26):=⟨_,rfl⟩
   obtain ⟨q8,hq8⟩:∃q8,q8=w5.heap.size:=⟨_,rfl⟩
   have bY:Below w5.heap.size w5 Y:=by rw[hY];exact aC _ _
   have kY:Y.heap[q8]?=some (.cells #[.int .i64 pn,.slice f1 k1 c1,.slice f2 k2 c2,.slice f3 k3 c3,.slice f4 k4 c4,.slice f5 lm c5,.slice f6 m6 c6] 26 (0,0)):=by rw[hY,hq8];exact bE _ _
   rw[<-hY,<-hq8]
   have bXY:Below X.heap.size X Y:=aN h5.out.1 bY
   have HY:Hid (Below w.heap.size w Y/\Y.heap[q8]?=some (.cells #[.int .i64 pn,.slice f1 k1 c1,.slice f2 k2 c2,.slice f3 k3 c3,.slice f4 k4 c4,.slice f5 lm c5,.slice f6 m6 c6] 26 (0,0))/\eQ Y.heap.size Y (cV N) (.slice f1 k1 c1) (.slice f2 k2 c2) (.slice f3 k3 c3) (.slice f4 k4 c4) (.slice f5 lm c5) (.slice f6 m6 c6)):=⟨aN HX.out.1 bXY,kY,h5.out.2.below bY bY.size⟩
   have kX:=aH bXY HX.out.2.1
   have hsame:=Nx.Bu (w:=Y) (n:=N) (m:=cV N) (rows:=rows) capR HM.out.2.1 (zV HM.out.2.1) (HM.out.1.below bXY bXY.size) HY.out.2.2 (HX.out.2.2.below bXY) (Jz HM.out.2.1 rows _) rfl rfl
   rw[show (cV N).places=pn from HPN.out.symm,<-HPN.out,<-HLN.out] at hsame
   obtain ⟨x0,x1,x2,x3,x4,x5,x6⟩:=Nx.lU kX
   obtain ⟨y0,y1,y2,y3,y4,y5,y6⟩:=Nx.lU kY
   have HKX:Hid (Y.heap[q]?=some (.cells #[.int .i64 pn,.slice g1 m1 d1,.slice g2 m2 d2,.slice g3 m3 d3,.slice g4 m4 d4,.slice g5 m5 d5,.slice g6 m6 d6] 26 (0,0))):=kX
   clear hY hq8 bY kY bXY kX h5
   go_upto_if 51 with (go_at_call 12;refine hsame.mono ?_;rintro e w6 ⟨rfl,h6⟩;obtain ⟨-,-,-,-,-,-,t6⟩:=Nx.lU (aH h6.out HKX.out);obtain ⟨-,-,-,-,-,u5,u6⟩:=Nx.lU (aH h6.out HY.out.2.1))
   have H6:Hid (Below w.heap.size w w6/\Below Y.heap.size Y w6/\w6.heap[q8]?=some (.cells #[.int .i64 pn,.slice f1 k1 c1,.slice f2 k2 c2,.slice f3 k3 c3,.slice f4 k4 c4,.slice f5 lm c5,.slice f6 m6 c6] 26 (0,0))):=⟨aN HY.out.1 h6.out,h6.out,aH h6.out HY.out.2.1⟩
   clear x0 x1 x2 x3 x4 x5 x6 y0 y1 y2 y3 y4 y5 y6 h6 hsame
   go_upto_if 55 with fail
   by_cases hbig:4000≤lm
   ·go_wp2_with fail
    go_ret
    exact ⟨rfl,H6.out.1⟩
   ·have mk:=mkN
    obtain ⟨V,hV⟩:∃V,V=w6.alloc (.map #[] 0):=⟨_,rfl⟩
    obtain ⟨mb,hmb⟩:∃mb,mb=w6.heap.size:=⟨_,rfl⟩
    have bV:Below w6.heap.size w6 V:=by rw[hV];exact aC _ _
    have hq8:=aB H6.out.2.2
    have HV:Hid (yI V mb 0 (V9 (cV N).code 0)/\Below w.heap.size w V/\Below Y.heap.size Y V/\V.heap[q8]?=some (.cells #[.int .i64 pn,.slice f1 k1 c1,.slice f2 k2 c2,.slice f3 k3 c3,.slice f4 k4 c4,.slice f5 lm c5,.slice f6 m6 c6] 26 (0,0))/\q8≠mb/\Y.heap.size≤mb/\mb<V.heap.size/\w.heap.size≤mb):=by
     refine ⟨⟨0,fun _=>none,?_,Nat.le_refl _,fun _=>rfl⟩,aN H6.out.1 bV,aN H6.out.2.1 bV,aH bV H6.out.2.2,by omega,by rw[hmb];exact H6.out.2.1.size,by rw[hmb,hV];simp,by rw[hmb];exact H6.out.1.size⟩
     rw[hmb,hV];exact Gm.Mp.made _ _ _
    obtain ⟨hcl,bC,oC,hC1,hC2⟩:=Ew.rU HY.out.2.2.c
    have HC2:Hid (m6=(cV N).code.length/\(0<(cV N).code.length->f6=some ⟨bC,oC,none⟩)/\∀j,j<(cV N).code.length->V.cell? ⟨bC,oC+j*5,none⟩=some (.int .i64 ((cV N).code.getD j Nx.iC).code)/\V.cell? ⟨bC,oC+j*5+1,none⟩=some (.int .i64 ((cV N).code.getD j Nx.iC).dst)/\V.cell? ⟨bC,oC+j*5+2,none⟩=some (.int .i64 ((cV N).code.getD j Nx.iC).a)/\V.cell? ⟨bC,oC+j*5+3,none⟩=some (.int .i64 ((cV N).code.getD j Nx.iC).b)/\V.cell? ⟨bC,oC+j*5+4,none⟩=some (.int .i64 ((cV N).code.getD j Nx.iC).c)):=⟨hcl,hC1,fun j hj=>by
     obtain ⟨p0,p1,p2,p3,p4⟩:=hC2 j hj
     have b:=HV.out.2.2.1
     exact ⟨aM b p0,aM b p1,aM b p2,aM b p3,aM b p4⟩⟩
    have HBC:Hid (∀j,j<(cV N).code.length->bC<mb):=fun j hj=>Nat.lt_of_lt_of_le (cM (hC2 j hj).1) HV.out.2.2.2.2.2.1
    have HRM:Hid (lX (cV N)):=zV HM.out.2.1
    have hm4:m6≤4000:=by rw[hcl];exact HRM.out.c
    clear hcl hC1 hC2 hq8 bV u5 t6 u6
    go_upto_region 14 with fail
    rw[<-hV,<-hmb]
    clear hV hmb mk
    go_upto_region 15 with fail
    go_loopw [11] (fun i wr=>∃k:Nat,k≤m6/\i=.int .i64 k/\Hid (yI wr mb k (V9 (cV N).code k)/\bH (fun b=>b=mb) V wr)) (fun i _=>m6-(intOf i).toNat)
    case atStart=>exact ⟨0,Nat.zero_le _,rfl,HV.out.1,bH.refl _ _⟩
    case round=>
     obtain ⟨k,hk,rfl,HK⟩:=hrel
     have kq:=HK.out.2.heap HV.out.2.2.2.1 HV.out.2.2.2.2.1
     obtain ⟨-,-,-,-,-,-,v6⟩:=Nx.lU kq
     clear kq
     by_cases hlt:k<m6
     ·have hl2:k<(cV N).code.length:=by rw[<-HC2.out.1];exact hlt
      have hix:=Nx.Vh f6 bC oC m6 c6 k hlt (fun _=>HC2.out.2.1 (by omega))
      obtain ⟨x,hx⟩:∃x,x=(cV N).code.getD k Nx.iC:=⟨_,rfl⟩
      have hne:¬bC=mb:=by have:=HBC.out k hl2;omega
      obtain ⟨p0,p1,p2,p3,p4⟩:=HC2.out.2.2 k hl2
      have p0:=HK.out.2.cell p0 hne
      have p1:=HK.out.2.cell p1 hne
      have p2:=HK.out.2.cell p2 hne
      have p3:=HK.out.2.cell p3 hne
      have p4:=HK.out.2.cell p4 hne
      rw[<-hx] at p0 p1 p2 p3 p4
      have hst:=HRM.out.s k hl2
      rw[<-hx] at hst
      have hkn:=Dv (N:=N) (k:=k) (by rw[<-HM.out.2.2.1];exact hlt)
      rw[<-hx] at hkn
      have HXX:Hid (x=(cV N).code.getD k Nx.iC/\(∀p∈asks x,eF p)/\eF x.dst):=⟨hx,J4 HRM.out.p.2 hst,Dh HRM.out.p.2 (Nx.tY hst).1⟩
      obtain ⟨l,hl⟩:∃l,l=asks x:=⟨_,rfl⟩
      have HLL:Hid (l=asks x):=hl
      rw[<-hl] at hkn
      obtain ⟨la,hla⟩:∃la,la=l.length:=⟨_,rfl⟩
      rw[<-hla] at hkn
      have HLA:Hid (la=l.length):=hla
      obtain ⟨f,hf⟩:∃f,f=V9 (cV N).code k:=⟨_,rfl⟩
      rw[<-hf] at hkn
      have HFF:Hid (f=V9 (cV N).code k):=hf
      have HKN:Hid (l=[]\/Ji f l la<la):=hkn
      obtain ⟨Z,hZ⟩:∃Z,Z=wr.alloc (.cells #[.int .i64 x.code,.int .i64 x.dst,.int .i64 x.a,.int .i64 x.b,.int .i64 x.c] 39):=⟨_,rfl⟩
      obtain ⟨z,hz⟩:∃z,z=wr.heap.size:=⟨_,rfl⟩
      have bZ:Below wr.heap.size wr Z:=by rw[hZ];exact aC _ _
      have kZ:Z.heap[z]?=some (.cells #[.int .i64 x.code,.int .i64 x.dst,.int .i64 x.a,.int .i64 x.b,.int .i64 x.c] 39 (0,0)):=by rw[hZ,hz];exact bE _ _
      have hask:Calls Tryz.prog 13 #[.agg #[.int .i64 x.code,.int .i64 x.dst,.int .i64 x.a,.int .i64 x.b,.int .i64 x.c]] Z fun e w'=>∃ad b off cap,e=.returned (.slice ad la cap)/\Hid (Below Z.heap.size Z w'/\(0<la->ad=some ⟨b,off,none⟩)/\∀j,j<la->w'.cell? ⟨b,off+j,none⟩=some (.int .i64 (l.getD j 0))):=
       (Nx.mS x.code x.dst x.a x.b x.c Z).mono fun e w' ⟨v,he,⟨ad,b,off,cap,hv,h1,h2⟩,hb⟩=>by
        subst hv
        have e9:la=(asks x).length:=by rw[HLA.out,HLL.out]
        rw[e9,HLL.out]
        exact ⟨ad,b,off,cap,he,hb,fun h=>(h1 h).1,h2⟩
      have HZ:Hid (Below wr.heap.size wr Z/\Z.heap[z]?=some (.cells #[.int .i64 x.code,.int .i64 x.dst,.int .i64 x.a,.int .i64 x.b,.int .i64 x.c] 39 (0,0))/\z=wr.heap.size):=⟨bZ,kZ,hz⟩
      obtain ⟨a0,a1,a2,a3,a4⟩:=iT kZ
      clear hl2 hne hx hst hkn hl hla hf bZ kZ
      go_upto_region 18 with fail
      rw[<-hZ,<-hz]
      clear hZ hz p0 p1 p2 p3 p4
      go_upto_region 19 with (go_at_call 13;refine hask.mono ?_;rintro e w8 ⟨ad,b,off,cap,rfl,h8⟩;clear hask)
      have k8:=aH h8.out.1 HZ.out.2.1
      obtain ⟨-,-,-,-,-⟩:=iT k8
      have H8:Hid (yI w8 mb k f/\w8.heap[z]?=some (.cells #[.int .i64 x.code,.int .i64 x.dst,.int .i64 x.a,.int .i64 x.b,.int .i64 x.c] 39 (0,0))/\bH (fun b=>b=mb) V w8/\mb<w8.heap.size/\z≠mb):=by
       have hb8:=aN HZ.out.1 h8.out.1
       have hs:=HK.out.2.size
       have hmv:=HV.out.2.2.2.2.2.2.1
       refine ⟨by rw[HFF.out];exact HK.out.1.keep (hb8.block mb (by omega)),k8,HK.out.2.trans (bH.of_below (P:=fun _=>False) hb8) fun _ _ h=>h.elim,by have:=hb8.size;omega,by have:=HZ.out.2.2;omega⟩
      clear a0 a1 a2 a3 a4 k8 v6
      go_upto_region 21 with fail
      go_loopw [14,15] (fun s i w9=>∃j:Nat,j≤la/\i=.int .i64 j/\s=.int .i64 (Ji f l j)/\w9=w8) (fun _ i _=>la-(intOf i).toNat)
      case atStart=>exact ⟨0,Nat.zero_le _,rfl,rfl,rfl⟩
      case round=>
       obtain ⟨j,hj,rfl,rfl,rfl⟩:=hrel
       by_cases hjl:j<la
       ·have hix2:=Nx.Jr ad b off la cap j hjl h8.out.2.1
        obtain ⟨y,hy⟩:∃y,y=l.getD j 0:=⟨_,rfl⟩
        have cy:=h8.out.2.2 j hjl
        rw[<-hy] at cy
        have hmem:y∈asks x:=by
         rw[hy,<-HLL.out,List.getD_eq_getElem?_getD,List.getElem?_eq_getElem (by rw[<-HLA.out];exact hjl)]
         exact List.getElem_mem _
        have hlk:=H8.out.1.look (HXX.out.2.1 y hmem)
        obtain ⟨K,hK⟩:∃K,K=Ji f l j:=⟨_,rfl⟩
        obtain ⟨fy,hfy⟩:∃fy,fy=f y:=⟨_,rfl⟩
        rw[<-hfy] at hlk
        have h01:∀p,f p=0\/f p=1:=by rw[HFF.out];exact Ck _ _
        have hkl:=Cz h01 l j
        have hfl:=h01 y
        rw[<-hK] at hkl
        rw[<-hfy] at hfl
        have hla3:la≤100000:=by rw[HLA.out,HLL.out];unfold asks;split<;>(try split)<;>(try split)<;>simp
        have hwr:IntKind.i64.wrap (K+fy)=K+fy:=by rw[IntKind.wrap_i64];omega
        have HKE:Hid (Ji f l (j+1)=K+fy):=by unfold Hid;rw[Ji,<-hK,<-hy,<-hfy]
        rw[<-hK]
        clear hy hmem hK hfy h01 hkl hfl
        go_wp2_with fail
        go_roundw
        case rel=>exact ⟨j+1,by omega,by go_num,by rw[HKE.out],by first|trivial|rfl⟩
        case measure=>simp[intOf];omega
       ·obtain rfl:j=la:=by omega
        obtain ⟨nn,gg,hm,hn2,hg⟩:=H8.out.1
        obtain ⟨wA,nA,gA,hrunA,hmA,hnA,hgA,hgrA⟩:=Nk hm (by omega) hg HXX.out.2.2 0
        have kA:wA.heap[z]?=some (.cells #[.int .i64 x.code,.int .i64 x.dst,.int .i64 x.a,.int .i64 x.b,.int .i64 x.c] 39 (0,0)):=by rw[hgrA.block z (aB H8.out.2.1) (fun e=>H8.out.2.2.2.2 (by injection e))];exact H8.out.2.1
        have HA:Hid (bH (fun b=>b=mb) V wA):=H8.out.2.2.1.grown hgrA fun b hb=>.inl (by injection hb with hb;exact hb.symm)
        obtain ⟨a0,a1,a2,a3,a4⟩:=iT H8.out.2.1
        obtain ⟨b0,b1,b2,b3,b4⟩:=iT kA
        obtain ⟨K,hK⟩:∃K,K=Ji f l j:=⟨_,rfl⟩
        have hkn:=HKN.out
        rw[<-hK] at hkn ⊢
        have HNM:Hid (∀(w':World) (n':Nat) (g':Lit->Option Value),Gm.Mp Tryz.prog 3 w' mb n' g'->n'≤nA+1->(∀p:Int,(g' (.int .i64 p)).getD (.int .i64 0)=.int .i64 (if p=x.dst then (if x.code=1 then 1 else 0) else f p))->yI w' mb (k+1) (V9 (cV N).code (k+1))):=fun w' n' g' h1 h2 h3=>⟨n',g',h1,by omega,fun p=>by rw[h3 p,V9,<-HXX.out.1,<-HFF.out]⟩
        obtain ⟨xd,hxd⟩:∃d,d=x.dst:=⟨_,rfl⟩
        obtain ⟨xc,hxc⟩:∃c,c=x.code:=⟨_,rfl⟩
        rw[<-hxd] at a1 b1 hrunA hgA HNM
        rw[<-hxc] at a0 b0 HNM
        have HD64:Hid (eF xd):=by unfold Hid;rw[hxd];exact HXX.out.2.2
        by_cases c1:xc=1
        ·obtain ⟨wB,nB,gB,hrunB,hmB,hnB,hgB,hgrB⟩:=Nk hmA (by omega) hgA HD64.out 1
         have HFIN:Hid (yI wB mb (k+1) (V9 (cV N).code (k+1))/\bH (fun b=>b=mb) V wB):=⟨HNM.out wB nB gB hmB hnB fun p=>by rw[hgB p];by_cases e:p=xd<;>simp[e,c1],HA.out.grown hgrB fun b hb=>.inl (by injection hb with hb;exact hb.symm)⟩
         clear hm hg hmA hgA hgrA kA hK HNM hxd hxc hmB hgB hgrB hnB hnA hn2
         by_cases h0:j=0
         ·subst h0
          clear hkn
          go_wp2_with fail
          go_roundw
          case rel=>exact ⟨k+1,by omega,by go_num,HFIN.out⟩
          case measure=>simp[intOf];omega
         ·have hjp:0<j:=by omega
          have hKj:(K==(j:Int))=false:=by
           rcases hkn with h|h
           ·have:=HLA.out;rw[h] at this;simp at this;omega
           ·simp;omega
          clear hkn h0
          go_wp2_with fail
          go_roundw
          case rel=>exact ⟨k+1,by omega,by go_num,HFIN.out⟩
          case measure=>simp[intOf];omega
        ·have HFIN:Hid (yI wA mb (k+1) (V9 (cV N).code (k+1))/\bH (fun b=>b=mb) V wA):=⟨HNM.out wA nA gA hmA (by omega) fun p=>by rw[hgA p];by_cases e:p=xd<;>simp[e,c1],HA.out⟩
         have hc1:(xc==1)=false:=by simp[c1]
         clear hm hg hmA hgA hgrA kA hK HNM hxd hxc hnA hn2
         by_cases h0:j=0
         ·subst h0
          clear hkn
          go_wp2_with fail
          go_roundw
          case rel=>exact ⟨k+1,by omega,by go_num,HFIN.out⟩
          case measure=>simp[intOf];omega
         ·have hjp:0<j:=by omega
          have hKj:(K==(j:Int))=false:=by
           rcases hkn with h|h
           ·have:=HLA.out;rw[h] at this;simp at this;omega
           ·simp;omega
          clear hkn h0
          go_wp2_with fail
          go_roundw
          case rel=>exact ⟨k+1,by omega,by go_num,HFIN.out⟩
          case measure=>simp[intOf];omega
     ·go_wp2_with fail
      go_ret
      have hfr:=HK.out.2
      exact ⟨rfl,HV.out.2.1.trans (hfr.below HV.out.2.1.size fun b hb=>by rw[hb];exact HV.out.2.2.2.2.2.2.2)⟩
end
end Fw
end
section
open Go.RowKit
namespace Nx
section
variable {H:Type}{enc:TypeId×Value->H}{W:World}{sp:Nat->Bool}{held:Bool}
theorem I4 (m:Nat) (p:Nat->List Int->Prop) (h:∀i,i<m->∃z,p i z):∃l:List (List Int),l.length=m/\∀i,i<m->p i (l.getD i []):=by
 induction m with
 | zero=>exact ⟨[],rfl,fun i hi=>by omega⟩
 | succ m ih=>
  obtain ⟨l,hl,hp⟩:=ih (fun i hi=>h i (by omega))
  obtain ⟨z,hz⟩:=h m (by omega)
  refine ⟨l++[z],by simp[hl],fun i hi=>?_⟩
  by_cases e:i<m
  ·have:(l++[z]).getD i []=l.getD i []:=by simp[List.getD_eq_getElem?_getD,List.getElem?_append_left (show i<l.length by omega)]
   rw[this];exact hp i e
  ·obtain rfl:i=m:=by omega
   have:(l++[z]).getD i []=z:=by subst hl;simp[List.getD_eq_getElem?_getD]
   rw[this];exact hz
theorem D6 {fuel:Nat}{v:Value}{x:DataW H×List MemPlace}(hc1:Tryz.prog.cellsOf 22=1) (hc2:Tryz.prog.cellsOf 2=1)
    (h:DataW.trod enc Tryz.prog W 0 sp held fuel 27 [v]=some x):∃(rows:List (List Int)) (ad:Option Addr) (b off cap:Nat),v=.slice ad rows.length cap/\(0<rows.length->ad=some ⟨b,off,none⟩/\b<W.heap.size)/\
     (∀k,k<rows.length->∃u,W.cell? ⟨b,off+k,none⟩=some u/\bL (· < W.heap.size) W u (rows.getD k [])):=by
 rcases Deep.open_slice1 Tryz.underlying27 hc1 h with ⟨hcs,_⟩|⟨a,len,cap,m,n,V,D,Pl,hcs,_,hl,hm,hmm,_,hx⟩
 ·obtain rfl:v=.slice none 0 0:=by simpa using hcs
  exact ⟨[],none,0,0,0,rfl,fun h=>by simp at h,fun k hk=>by simp at hk⟩
 ·obtain rfl:v=.slice (some a) len cap:=by simpa using hcs
  have hlm:len≤m:=by rw[hmm];split<;>omega
  obtain ⟨rows,hrl,hr⟩:=I4 len (fun i z=>bL (· < W.heap.size) W (V i) z) (fun i hi=>by
   obtain ⟨zs,h1,_⟩:=iL Tryz.underlying22 Tryz.underlying2 hc2 (hx i (by omega)).2
   exact ⟨zs,h1⟩)
  by_cases h0:len=0
  ·exact ⟨rows,some a,0,0,cap,by rw[hrl],fun h=>by omega,fun k hk=>by omega⟩
  ·obtain ⟨b,off,spot⟩:=a
   have hc0:=(hx 0 (by omega)).1
   have hspot:spot=none:=by simpa [Addr.add] using World.cell?_spot hc0
   subst hspot
   refine ⟨rows,some ⟨b,off,none⟩,b,off,cap,by rw[hrl],fun _=>⟨rfl,?_⟩,fun k hk=>⟨V k,?_,hr k (by omega)⟩⟩
   ·rw[pI] at hc0;exact cM hc0
   ·have:=(hx k (by omega)).1
    rw[pI] at this
    exact this
end
end Nx
end
end Go.Proofs.YtcdbhoknhnimcaaGreatDoor
