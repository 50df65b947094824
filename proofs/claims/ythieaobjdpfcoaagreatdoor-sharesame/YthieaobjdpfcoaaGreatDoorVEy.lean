import Derived.Test.YthieaobjdpfcoaaGreatDoorVEy1
import Derived.Deep.CutRange
set_option maxRecDepth 100000
set_option maxHeartbeats 16000000
namespace Go.Proofs.YthieaobjdpfcoaaGreatDoor
open Go.RowKit Px
namespace Ew
open Px.Em (Kd Vr eQ eR jP Rg cX)
open Nx (Nt Sp)
section
variable {A P Pj Rj:Nat->Prop}{w wr w':World}{ns:List bE}{kb gd od q7 d E:Nat}{k kj:Kd}{ins:List (Rg d)}{ys:List eQ}{id lv:Bool}{ai aw:Option Addr}{ci cw:Nat}
theorem Q3 (ih:zT A kb ns d) {q3:Nat}{vl:Value}{L:List (cF (St d))}{s:cF (St d)}(hL:aM A w (d+1) L vl) (bj:w.cell? ⟨q3,0,none⟩=some vl/\¬P q3) {i:Nat}{ve vd fh:Value}{p ay ar:Option Addr}{gy bc af:Nat}(ff:od=i*9) (ee:A gd) (hm:Ns A w gd i s ve vd fh p ay ar gy bc af) (dz:gP A w (aM A w d) s.regions (.slice ar s.regions.length af)) (fe:0<s.ways.length->A gy)
    (bf:oJ ns s/\(∀r∈s.regions,rO ns d r/\vW d r/\rN d r)/\(∀y∈s.ways,(∃t,jT (bD L) y.to=some t)/\y.to.length≤maxLen/\y.times≤1000000)/\s.ways.length≤1000000/\s.regions.length≤1000000/\s.during.length≤1000000/\s.leave.length≤1000000) (h:eK E ns P w kb k) (hR:Ro A P w) (hE:E+jG (iG d) s<1000000) :
    Calls Tryz.prog 161 #[.pointer (some ⟨kb,0,none⟩),.pointer (some ⟨gd,od,none⟩),.func (.func 159) #[] #[.pointer (some ⟨q3,0,none⟩)]] w fun e w'=>∃aw nw cw ai ni ci id lv,e=.returned (.agg #[.pointer (some ⟨gd,od,none⟩),.slice aw nw cw,.slice ai ni ci,.bool id,.bool lv])/\
     Hid (∃(st:eR (St d) (Rg d)) (k':Kd) (P' R:Nat->Prop),Em.jD (Em.aJ d) (bD L) s k=some (st,k')/\st.idle=id/\st.leaves=lv/\eK (E+jG (iG d) s) ns P' w' kb k'/\(∀x,P' x->Up P w w' x)/\(∀x,P' x->¬R x)/\(∀x,R x->w.heap.size≤x/\x<w'.heap.size)/\bM P w w'/\k.net.places≤k'.net.places/\Vo (fun x=>A x\/R x) w' st gd od (.slice aw nw cw) (.slice ai ni ci)/\B9 ns L.length (eS ns d) st):=by
 obtain ⟨Z,hZ⟩:∃Z,Z=Em.jD (Em.aJ d) (bD L) s k:=⟨_,rfl⟩
 have HZ:Hid (Z=Em.jD (Em.aJ d) (bD L) s k):=hZ
 obtain ⟨c0,c1,c2,c3,c4,c5,c6,c7,c8,he,ea,dt,hp,df⟩:=hm
 rw[<-ff] at c0 c1 c2 c3 c4 c5 c6 c7 c8
 obtain ⟨a3,g3,p3,rfl,m3,_⟩:=cJ.opn he
 obtain ⟨a4,g4,p4,rfl,m4,_⟩:=cJ.opn ea
 obtain ⟨a5,g5,p5,rfl,m5,_⟩:=cJ.opn dt
 obtain ⟨ft,bg,fi,er,ep,cx,an⟩:=dz.len
 have fn:ar=ft:=by injection er
 have fo:af=fi:=by injection er
 subst fn fo
 have cz:0<s.regions.length->A bg:=fun hp=>by
  obtain ⟨xs,hr,_⟩:=dz
  exact hr.2 bg (by rw[(cx hp).1];rfl)
 obtain ⟨dl,ca⟩:∃dl,dl=s.during.length:=⟨_,rfl⟩
 obtain ⟨ll,bp⟩:∃ll,ll=s.leave.length:=⟨_,rfl⟩
 obtain ⟨N,hN⟩:∃N,N=s.ways.length:=⟨_,rfl⟩
 obtain ⟨M,hM⟩:∃M,M=s.regions.length:=⟨_,rfl⟩
 rw[<-ca] at c4 m4
 rw[<-bp] at c5 m5
 rw[<-hN] at c7
 rw[<-hM] at c8 ep cx
 obtain ⟨ab,bw⟩:∃ab,ab=decide (dl+N=0):=⟨_,rfl⟩
 obtain ⟨Y,cc⟩:∃Y,Y=decide (0<ll):=⟨_,rfl⟩
 have fx:N≤1000000:=by rw[hN];exact bf.2.2.2.1
 have fy:M≤1000000:=by rw[hM];exact bf.2.2.2.2.1
 have gb:dl≤1000000:=by rw[ca];exact bf.2.2.2.2.2.1
 have fw:ll≤1000000:=by rw[bp];exact bf.2.2.2.2.2.2
 have ek:True:=trivial
 clear ek
 have ef:(IntKind.i64.wrap ((dl:Int)+(N:Int))==0)=ab:=by rw[bw,IntKind.wrap_i64,Bool.eq_iff_iff];simp;omega
 have ew:decide (0<ll)=Y:=cc.symm
 obtain ⟨i0,fm,fs,fu,fk⟩:=aY8 Xz
 obtain ⟨j0,ec,fc,eu,ez⟩:=aY8 Xx
 obtain ⟨O,bv⟩:∃O,O=w.alloc (.cells #[.pointer none,.slice none 0 0,.slice none 0 0,.bool false,.bool false] 236):=⟨_,rfl⟩
 obtain ⟨q6,ct⟩:∃q6,q6=w.heap.size:=⟨_,rfl⟩
 have bh:Below w.heap.size w O:=by rw[bv];exact aL _ _
 have ak:O.heap[q6]?=some (.cells #[.pointer none,.slice none 0 0,.slice none 0 0,.bool false,.bool false] 236 (0,0)):=by rw[bv,ct];exact aX w _
 have d4:=aN bh c4
 have d5:=aN bh c5
 have d7:=aN bh c7
 have d8:=aN bh c8
 have ey:Hid ((IntKind.i64.wrap ((dl:Int)+(N:Int))==0)=ab/\decide (0<ll)=Y):=⟨ef,ew⟩
 clear ef ew
 have HE:Hid (dl=s.during.length/\ll=s.leave.length/\N=s.ways.length/\M=s.regions.length/\ab=decide (dl+N=0)/\Y=decide (0<ll)):=⟨ca,bp,hN,hM,bw,cc⟩
 have HD:Hid (A gd/\w.cell? ⟨gd,od+2,none⟩=some (.bool s.last)/\(w.cell? ⟨gd,od+3,none⟩=some (.slice a3 s.enter.length p3)/\cJ A w s.enter (.slice a3 s.enter.length p3))/\(w.cell? ⟨gd,od+4,none⟩=some (.slice a4 dl p4)/\cJ A w s.during (.slice a4 dl p4))/\(w.cell? ⟨gd,od+5,none⟩=some (.slice a5 ll p5)/\cJ A w s.leave (.slice a5 ll p5))/\(w.cell? ⟨gd,od+6,none⟩=some (.pointer p)/\jR A w s.rests (.pointer p))/\w.cell? ⟨gd,od+7,none⟩=some (.slice ay N bc)/\w.cell? ⟨gd,od+8,none⟩=some (.slice ar M af)):=⟨ee,c2,⟨c3,he⟩,⟨c4,by rw[ca];exact ea⟩,⟨c5,by rw[bp];exact dt⟩,⟨c6,hp⟩,c7,c8⟩
 have dj:Hid ((0<M->ar=some ⟨bg,0,none⟩/\A bg)/\∀(i:Nat) (r:List (St d)),s.regions[i]?=some r->∃u,w.cell? ⟨bg,i,none⟩=some u/\aM A w d r u):=⟨fun hp=>⟨(cx hp).1,cz (by omega)⟩,an⟩
 have ce:Hid ((0<N->ay=some ⟨gy,0,none⟩/\A gy)/\∀m y,s.ways[m]?=some y->∃p q,jE A w gy (m*7) y p q):=⟨fun hp=>⟨(df.2.1 (by omega)).1,fe (by omega)⟩,df.2.2⟩
 have HH:Hid (aM A w (d+1) L vl/\(w.cell? ⟨q3,0,none⟩=some vl/\¬P q3)/\eK E ns P w kb k/\Ro A P w/\E+jG (iG d) s<1000000/\zT A kb ns d):=⟨hL,bj,h,hR,hE,ih⟩
 have H0:Hid (oJ ns s/\(∀r∈s.regions,rO ns d r/\vW d r/\rN d r)/\(∀y∈s.ways,(∃t,jT (bD L) y.to=some t)/\y.to.length≤maxLen/\y.times≤1000000)/\s.ways.length≤1000000/\s.regions.length≤1000000/\s.during.length≤1000000/\s.leave.length≤1000000):=bf
 clear ca bp hN hM bw cc ff hZ ee c0 c1 c2 c3 c4 c5 c6 c7 c8 he ea dt hp df an cx dz er cz hL bj h hR hE ih bf fe m3 m4 m5 ep
 go_enter Tryz.func161,Tryz.ntmps161
 go_upto_region 1 with fail
 rw[<-bv,<-ct]
 have U:Hid (Below w.heap.size w O/\q6=w.heap.size/\O.heap.size=w.heap.size+1):=⟨bh,ct,by rw[bv];simp⟩
 clear bv ct bh
 go_region_held3 (fun W=>W.cell? ⟨gd,od+4,none⟩=some (.slice a4 dl p4)/\W.cell? ⟨gd,od+7,none⟩=some (.slice ay N bc)/\W.cell? ⟨gd,od+5,none⟩=some (.slice a5 ll p5)) (first|exact ⟨d4,d7,d5⟩|go_keep) (fail)
 rw[ey.out.1,ey.out.2]
 generalize IntKind.i64.wrap ((dl:Int)+(N:Int))=zz
 obtain ⟨W7,cu⟩:∃W7,W7=(O.alloc (.cells #[.pointer (some ⟨gd,od,none⟩),.slice none 0 0,.slice none 0 0,.bool ab,.bool Y] 236)).drew:=⟨_,rfl⟩
 obtain ⟨q7,cr⟩:∃q7,q7=O.heap.size:=⟨_,rfl⟩
 have cy:Below O.heap.size O W7:=by rw[cu];exact (aL _ _).drew
 have au:W7.heap[q7]?=some (.cells #[.pointer (some ⟨gd,od,none⟩),.slice none 0 0,.slice none 0 0,.bool ab,.bool Y] 236 (0,0)):=by rw[cu,cr];exact aX O _
 have cb:∀x,P x->x<O.heap.size:=fun x hx=>by have:=HH.out.2.2.1.2.2 x hx;have:=U.out.2.2;omega
 have dh:∀x,A x->x<O.heap.size:=fun x hx=>by have:=(HH.out.2.2.2.1 x hx).1;have:=U.out.2.2;omega
 have fq:Hid (LS A ns P kb O k gd od q7 d E P (fun _=>False) W7 k [] [] ab Y none 0 none 0):=
  ⟨(HH.out.2.2.1.below U.out.1).below cy,fun x hx=>.inl hx,fun _ _ h=>h,fun _ h=>h.elim,bM.of_below cy,Int.le_refl _,au,⟨by rw[cr];exact aN4 _,fun hp=>absurd (cb q7 hp) (by omega),id⟩,⟨[],aY5 _ _ _ _,rfl⟩,fun x hx=>by simp[Value.ownBlock] at hx,⟨[],aY5 _ _ _ _,rfl⟩,fun x hx=>by simp[Value.ownBlock] at hx⟩
 have D:Hid ((∀x,A x->x<O.heap.size)/\Ro A P O/\bB A A w O/\(∀x,P x->x<O.heap.size)/\¬P q6/\q6<O.heap.size/\O.heap[q6]?=some (.cells #[.pointer none,.slice none 0 0,.slice none 0 0,.bool false,.bool false] 236 (0,0))):=⟨dh,fun x hx=>⟨dh x hx,(HH.out.2.2.2.1 x hx).2⟩,fun x hx hl=>⟨hx,U.out.1.block x hl⟩,cb,fun hp=>by have:=HH.out.2.2.1.2.2 q6 hp;have:=U.out.2.1;omega,by have:=U.out.2;omega,ak⟩
 have e8:W7.cell? ⟨gd,od+8,none⟩=some (.slice ar M af):=aN cy d8
 rw[<-cu,<-cr]
 clear cu cr cy au cb dh d4 d5 d7 d8 ak
 go_upto_region 3 with fail
 clear e8
 go_loopg [38] M (fun f i wr=>∃(j:Nat) (kj:Kd) (ins:List (Rg d)) (id lv:Bool) (ai:Option Addr) (ci:Nat),f=M-j/\j≤M/\i=.int .i64 (j:Int)/\Hid (ins.length=j/\Z=(Em.pW (Em.aJ d) (s.regions.drop j) >>= fun t=>Zm (bD L) s (ins++t)) kj/\id=(ab&&ins.all (Em.aJ d).idle)/\lv=(Y||ins.any (Em.aJ d).leaves)/\(∀r∈ins,eS ns d r)/\∃Pj Rj,LS A ns P kb O k gd od q7 d (E+((s.regions.take j).map (iG d)).sum) Pj Rj wr kj ins [] id lv ai ci none 0))
 case atStart=>exact ⟨0,k,[],ab,Y,none,0,by omega,by omega,rfl,rfl,by rw[HZ.out,Aw];rfl,by simp,by simp,fun _ h=>by simp at h,P,_,by simpa using fq.out⟩
 case round=>
  obtain ⟨j,kj,ins,id,lv,ai,ci,rfl,hj,rfl,hr⟩:=hrel
  obtain ⟨ao,aj,ah,cq,cp,Pj,Rj,hS⟩:=hr.out
  by_cases hlt:j<M
  ·obtain ⟨r,an⟩:∃r:List (St d),s.regions[j]?=some r:=⟨_,aN3 (by rw[<-HE.out.2.2.2.1];exact hlt)⟩
   obtain ⟨u,c0,hu⟩:=dj.out.2 j r an
   have al:bB A A O wr:=D.out.2.1.keep hS.fr
   have kp:bB A A w wr:=D.out.2.2.1.trans al U.out.1.size
   have c0:=cL kp (dj.out.1 (by omega)).2 c0
   have hu:=hu.carry kp
   have dd:=K8 ar bg M af j hlt (fun hp=>(dj.out.1 hp).1)
   have cv:=H0.out.2.1 r (aO7 an)
   have ei:Ro A Pj wr:=fun x hx=>⟨aO2 (D.out.1 x hx) hS.fr.size,fun hp=>(hS.up x hp).elim (D.out.2.1 x hx).2 fun h=>absurd h.1 (by have:=D.out.1 x hx;omega)⟩
   have ag:(E+((s.regions.take j).map (iG d)).sum)+iG d r<1000000:=by
    have h1:=HH.out.2.2.2.2.1
    have h2:=mK (iG d) an
    unfold jG at h1
    omega
   have dc:=HH.out.2.2.2.2.2 hu cv.2.1 cv.1 cv.2.2 hS.cm ei ag
   have HJ:Hid (LS A ns P kb O k gd od q7 d (E+((s.regions.take j).map (iG d)).sum) Pj Rj wr kj ins [] id lv ai ci none 0/\s.regions[j]?=some r/\ins.length=j/\Z=((Em.aJ d).lay r >>= fun x=>Em.pW (Em.aJ d) (s.regions.drop (j+1)) >>= fun t=>Zm (bD L) s ((ins++[x])++t)) kj/\id=(ab&&ins.all (Em.aJ d).idle)/\lv=(Y||ins.any (Em.aJ d).leaves)/\∀r∈ins,eS ns d r):=⟨hS,an,ao,by rw[aj,dT an,Fg],ah,cq,cp⟩
   clear hr ao aj ah cq cp hS an hu al kp cv ei ag
   go_upto_region 6 with (go_at_call 116;refine dc.mono ?_;rintro e w1 ⟨g1,rfl,h1⟩)
   obtain ⟨r1,k1,P1,R1,hz,L1⟩:=h1.out
   obtain ⟨hg,f4,f5⟩:=fH.flags d L1.rg
   obtain ⟨cj,bi⟩:∃cj,cj=(Em.aJ d).idle r1:=⟨_,rfl⟩
   obtain ⟨bm,bz⟩:∃bm,bm=(Em.aJ d).leaves r1:=⟨_,rfl⟩
   rw[<-bi] at f4
   rw[<-bz] at f5
   have S1:LS A ns P kb O k gd od q7 d (E+((s.regions.take (j+1)).map (iG d)).sum) P1 (fun x=>Rj x\/R1 x) w1 k1 ins [] id lv ai ci none 0:=by
    rw[mQ (iG d) HJ.out.2.1,<-Nat.add_assoc]
    exact LS.coder D.out.2.1 HJ.out.1 L1.cm L1.up L1.dr L1.rn L1.fr L1.pl
   have da:fH (fun x=>A x\/Rj x\/R1 x) d w1 r1 g1:=fH.carry d (fun x hx _=>⟨hx.elim .inl fun h=>.inr (.inr h),rfl⟩) r1 g1 L1.rg
   have ev:g1≠q7:=fun e=>by
    rcases hg with hg|hg
    ·have:=D.out.1 g1 hg;have:=S1.ql.1;omega
    ·exact S1.ql.2.2 (.inr (e▸hg))
   have bb:Hid (Z=(Em.pW (Em.aJ d) (s.regions.drop (j+1)) >>= fun t=>Zm (bD L) s ((ins++[r1])++t)) k1/\(id&&cj)=(ab&&(ins++[r1]).all (Em.aJ d).idle)/\(lv||bm)=(Y||(ins++[r1]).any (Em.aJ d).leaves)/\(∀r∈ins++[r1],eS ns d r)/\ins.length=j/\eS ns d r1):=by
    obtain ⟨_,_,g3,g4,g5,g6,g7⟩:=HJ.out
    refine ⟨?_,by rw[g5,bi];simp[Bool.and_assoc],by rw[g6,bz];simp[Bool.or_assoc],fun r hr=>?_,g3,L1.ok⟩
    ·rw[g4];exact I0 hz
    ·rcases aP5.1 hr with h|h
     ·exact g7 r h
     ·rw[aP1.1 h];exact L1.ok
   have S2:∀b,LS A ns P kb O k gd od q7 d (E+((s.regions.take (j+1)).map (iG d)).sum) P1 (fun x=>Rj x\/R1 x) (w1.setCell ⟨q7,3,none⟩ (.bool b)) k1 ins [] b lv ai ci none 0:=fun b=>S1.flag D.out.1 (j:=3) rfl
   have S3:∀b c,LS A ns P kb O k gd od q7 d (E+((s.regions.take (j+1)).map (iG d)).sum) P1 (fun x=>Rj x\/R1 x) ((w1.setCell ⟨q7,3,none⟩ (.bool b)).setCell ⟨q7,4,none⟩ (.bool c)) k1 ins [] b c ai ci none 0:=fun b c=>(S2 b).flag D.out.1 (j:=4) rfl
   have ds:Hid ((∀b c,LS A ns P kb O k gd od q7 d (E+((s.regions.take (j+1)).map (iG d)).sum) P1 (fun x=>Rj x\/R1 x) ((w1.setCell ⟨q7,3,none⟩ (.bool b)).setCell ⟨q7,4,none⟩ (.bool c)) k1 ins [] b c ai ci none 0)/\∀b c,fH (fun x=>A x\/Rj x\/R1 x) d ((w1.setCell ⟨q7,3,none⟩ (.bool b)).setCell ⟨q7,4,none⟩ (.bool c)) r1 g1):=⟨S3,fun b c=>fH.carry d (fun x hx _=>⟨hx,by
    have:x≠q7:=fun e=>by
     rcases hx with hx|hx
     ·have:=D.out.1 x hx;have:=S1.ql.1;omega
     ·exact S1.ql.2.2 (e▸hx)
    rw[Below.heap_setCell _ _ _ _ this,Below.heap_setCell _ _ _ _ this]⟩) r1 g1 da⟩
   have x3:w1.cell? ⟨q7,3,none⟩=some (.bool id):=aF S1.hq 3 rfl
   have y3:=aG S1.hq 3
   have x4:∀b,(w1.setCell ⟨q7,3,none⟩ (.bool b)).cell? ⟨q7,4,none⟩=some (.bool lv):=fun b=>aF (S2 b).hq 4 rfl
   have y4:∀b,(w1.setCell ⟨q7,3,none⟩ (.bool b)).frozen? ⟨q7,4,none⟩=false:=fun b=>aG (S2 b).hq 4
   have fl:∀b,(w1.setCell ⟨q7,3,none⟩ (.bool b)).cell? ⟨g1,5,none⟩=some (.bool bm):=fun b=>by
    rw[aY4 (w:=w1) (a:=⟨g1,5,none⟩) (Below.heap_setCell _ _ _ _ ev)];exact f5
   clear f5 h1 hz L1 hg bi bz S1 da ev S2 S3 HJ dc dd c0
   obtain ⟨m,dy⟩:∃m,m=ins.length:=⟨_,rfl⟩
   have HM:Hid (m=ins.length/\m≤1000000):=⟨dy,by rw[dy,bb.out.2.2.2.2.1];omega⟩
   clear dy
   go_cut [] from 39 to 69 (fun wx=>∃b,wx=w1.setCell ⟨q7,3,none⟩ (.bool b)/\Hid (b=(id&&cj)))
   case first=>
    cases id
    all_goals
     go_wp2_with fail
     go_meet
     case rel=>exact ⟨_,rfl,rfl⟩
   case rest=>
    obtain ⟨b,rfl,hb⟩:=hcut
    go_upto_region 7 with fail
    go_cut [] from 39 to 69 (fun wx=>∃c,wx=(w1.setCell ⟨q7,3,none⟩ (.bool b)).setCell ⟨q7,4,none⟩ (.bool c)/\Hid (c=(lv||bm)))
    case first=>
     cases lv
     all_goals
      go_wp2_with fail
      go_meet
      case rel=>exact ⟨_,rfl,rfl⟩
    case rest=>
     obtain ⟨c,rfl,hc⟩:=hcut
     go_upto_region 8 with fail
     clear x3 y3 x4 y4 f4 fl
     obtain ⟨W3,fb⟩:∃W3,W3=(w1.setCell ⟨q7,3,none⟩ (.bool b)).setCell ⟨q7,4,none⟩ (.bool c):=⟨_,rfl⟩
     have S3:=ds.out.1 b c
     have G3:=ds.out.2 b c
     rw[<-fb] at S3 G3 ⊢
     have cg:Hid (Z=(Em.pW (Em.aJ d) (s.regions.drop (j+1)) >>= fun t=>Zm (bD L) s ((ins++[r1])++t)) k1/\b=(ab&&(ins++[r1]).all (Em.aJ d).idle)/\c=(Y||(ins++[r1]).any (Em.aJ d).leaves)/\(∀r∈ins++[r1],eS ns d r)/\ins.length=j):=⟨bb.out.1,hb.out.trans bb.out.2.1,hc.out.trans bb.out.2.2.1,bb.out.2.2.2.1,bb.out.2.2.2.2.1⟩
     clear fb ds bb
     obtain ⟨xi,ch,ck⟩:=S3.ri
     have fg:=aB S3.hq
     have x2:W3.cell? ⟨q7,2,none⟩=some (.slice ai m ci):=by rw[HM.out.1];exact aF S3.hq 2 rfl
     have bu:W3.ownsRow 0 184 1 (.slice ai m ci) m xi:=by rw[HM.out.1];exact ch
     have ga:=HM.out.2
     have J:Hid (LS A ns P kb O k gd od q7 d (E+((s.regions.take (j+1)).map (iG d)).sum) P1 (fun x=>Rj x\/R1 x) W3 k1 ins [] b c ai ci none 0/\Rows (Nw (fun x=>A x\/Rj x\/R1 x) W3) ins xi/\fH (fun x=>A x\/Rj x\/R1 x) d W3 r1 g1):=⟨S3,ck,G3⟩
     clear S3 ch ck G3
     go_wp2_with (at_builtin;refine wpList_append_own_at _ rfl (.tmp 64) (.tmp 66) 234 rfl 0 184 i0 _ 1 8 Tryz.underlying234 fm fs fu fk rfl (by decide) _ _ _ rfl (bu.alloc _) ⟨W3.heap.size,0,none⟩ 1 1 [.pointer (some ⟨g1,0,none⟩)] rfl rfl (eN _ _ _) (by intro u hu;simp at hu;subst hu;rfl) (by unfold maxLen;omega) (by omega) (by simp) ?_;intro v5 w5 bn Q _ cf;obtain ⟨a5,m5,e5⟩:=aP bn;subst e5;have fj:w5.heap[q7]?=W3.heap[q7]?:=by { rw[Q.block q7 (by simp;omega) (fun e=>(J.out.1.oi q7 (by rw[<-HM.out.1];exact e.symm)).2.2.2 rfl),Below.heap_alloc _ _ _ fg] };have ak:=fj.trans J.out.1.hq;have z2:=aF ak 2 rfl;have f2:=aG ak 2)
     go_roundg (M-(j+1))
     case measure=>omega
     case rel=>
      have ac:=LS.appI J.out.1 D.out.1 (w5:=w5) (a5:=a5) (c5:=m5) (g:=g1) (r:=r1) (xi:=xi) J.out.2.1 J.out.2.2 (by rw[<-HM.out.1];exact bn) (by rw[<-HM.out.1];exact Q) (by rw[<-HM.out.1];exact cf)
      rw[<-HM.out.1] at ac
      exact ⟨j+1,k1,ins++[r1],b,c,a5,m5,by omega,by omega,by go_num,by rw[aO6,cg.out.2.2.2.2];rfl,cg.out.1,cg.out.2.1,cg.out.2.2.1,cg.out.2.2.2.1,P1,_,ac⟩
  ·have ej:j=M:=by omega
   have al:bB A A O wr:=D.out.2.1.keep hS.fr
   have kp:bB A A w wr:=D.out.2.2.1.trans al U.out.1.size
   have e7:=cL kp HD.out.1 HD.out.2.2.2.2.2.2.1
   have HJ:Hid (Z=(Em.jZ (bD L) s.ways >>= fun ws=>pure ⟨s,ws,ins,id,lv⟩) kj/\(∀r∈ins,eS ns d r)/\ins.length≤1000000/\LS A ns P kb O k gd od q7 d (E+(s.regions.map (iG d)).sum) Pj Rj wr kj ins [] id lv ai ci none 0):=by
    refine ⟨?_,cp,by omega,?_⟩
    ·rw[aj,aW8 (by rw[<-HE.out.2.2.2.1];omega)]
     show Zm (bD L) s (ins++[]) kj=_
     rw[List.append_nil,ah,cq,HE.out.2.2.2.2.1,HE.out.2.2.2.2.2,HE.out.1,HE.out.2.1,HE.out.2.2.1]
     rfl
    ·rw[List.take_of_length_le (by rw[<-HE.out.2.2.2.1];omega)] at hS
     exact hS
   clear hr ao aj ah cq cp hS al kp ej
   go_upto_region 11 with fail
   clear e7
   go_loopg [75] N (fun f i wr=>∃(n:Nat) (kw:Kd) (ys:List eQ) (aw:Option Addr) (cw:Nat),f=N-n/\n≤N/\i=.int .i64 (n:Int)/\Hid (ys.length=n/\Z=(Em.jZ (bD L) (s.ways.drop n) >>= fun t=>pure ⟨s,ys++t,ins,id,lv⟩) kw/\(∀y∈ys,xK ns L.length y)/\∃Pj Rj,LS A ns P kb O k gd od q7 d (E+(s.regions.map (iG d)).sum+n) Pj Rj wr kw ins ys id lv ai ci aw cw))
   case atStart=>exact ⟨0,kj,[],none,0,by omega,by omega,rfl,rfl,HJ.out.1,fun _ h=>by simp at h,Pj,Rj,HJ.out.2.2.2⟩
   case round=>
    have HK:Hid ((∀r∈ins,eS ns d r)/\ins.length≤1000000):=⟨HJ.out.2.1,HJ.out.2.2.1⟩
    clear HJ
    obtain ⟨n,kw,ys,aw,cw,rfl,fz,rfl,hr⟩:=hrel
    obtain ⟨ao,aj,ah,Pw,Rw,hS⟩:=hr.out
    have cb:∀x,Pw x->¬A x:=fun x hp hx=>(hS.up x hp).elim (D.out.2.1 x hx).2 fun h=>absurd h.1 (by have:=D.out.1 x hx;omega)
    have al:bB A A O wr:=D.out.2.1.keep hS.fr
    have kp:bB A A w wr:=D.out.2.2.1.trans al U.out.1.size
    by_cases hlw:n<N
    ·obtain ⟨y,hy⟩:∃y:Wy,s.ways[n]?=some y:=⟨_,aN3 (by rw[<-HE.out.2.2.1];exact hlw)⟩
     obtain ⟨yp,yq,bo⟩:=ce.out.2 n y hy
     have bo:=jE.carry kp (ce.out.1 (by omega)).2 bo
     have e7:=cL kp HD.out.1 HD.out.2.2.2.2.2.2.1
     have dd:=wO ay gy N bc n hlw (fun hp=>(ce.out.1 hp).1)
     obtain ⟨I,av⟩:∃I,I=wr.heap.size:=⟨_,rfl⟩
     obtain ⟨W2,co⟩:∃W2,W2=wr.alloc (.cells #[.pointer (some ⟨gy,n*7,none⟩),.int .i64 0,.int .i64 (-1)] 275):=⟨_,rfl⟩
     have cn:Below wr.heap.size wr W2:=by rw[co];exact aL _ _
     have dn:W2.heap[I]?=some (.cells #[.pointer (some ⟨gy,n*7,none⟩),.int .i64 0,.int .i64 (-1)] 275 (0,0)):=by rw[co,av];exact aX wr _
     have dq:bB A A wr W2:=fun x hx hl=>⟨hx,cn.block x hl⟩
     have db:=jE.carry dq (ce.out.1 (by omega)).2 bo
     have eg:aM A W2 (d+1) L vl:=HH.out.1.carry (kp.trans dq (aO4 U.out.1.size hS.fr.size))
     have bj:W2.cell? ⟨q3,0,none⟩=some vl:=aN cn (hS.fr.cell (aN U.out.1 HH.out.2.1.1) HH.out.2.1.2)
     obtain ⟨T,hT⟩:∃T,Value.string T=sv y.to:=⟨_,rfl⟩
     have am:=Tl eg bj (nm:=y.to)
     rw[<-hT] at am
     obtain ⟨aa,de⟩:∃aa,aa=eG (bD L) y.to:=⟨_,rfl⟩
     rw[<-de] at am
     have c5:W2.cell? ⟨gy,n*7+5,none⟩=some (.string T):=by rw[hT];exact db.2.2.2.2.2.1
     have a0:=aF dn 0 rfl
     obtain ⟨xi,ch,ck⟩:=hS.ri
     obtain ⟨xw,ap,ba⟩:=hS.rwy
     have QQ:Hid (O.heap.size≤I/\¬Pw I/\¬Rw I/\I≠q7/\(Value.slice ai ins.length ci).ownBlock≠some I/\(Value.slice aw ys.length cw).ownBlock≠some I):=⟨by rw[av];exact hS.fr.size,fun h=>by have:=hS.cm.2.2 _ h;omega,fun h=>by have:=(hS.rn _ h).2;omega,fun e=>by have:=aB hS.hq;omega,fun e=>by have:=(ch.lt _ e).2;omega,fun e=>by have:=(ap.lt _ e).2;omega⟩
     have HS:Hid (LS A ns P kb O k gd od q7 d (E+(s.regions.map (iG d)).sum+n) Pw Rw wr kw ins ys id lv ai ci aw cw/\Below wr.heap.size wr W2/\W2.heap[I]?=some (.cells #[.pointer (some ⟨gy,n*7,none⟩),.int .i64 0,.int .i64 (-1)] 275 (0,0))/\jE A wr gy (n*7) y yp yq/\I=wr.heap.size):=⟨hS,cn,dn,bo,av⟩
     have HY:Hid (s.ways[n]?=some y/\ys.length=n/\Z=((if 1<y.times then Em.kept 0 else pure (-1)) >>= fun p=>Em.jZ (bD L) (s.ways.drop (n+1)) >>= fun t=>pure ⟨s,(ys++[⟨y,eG (bD L) y.to,p⟩])++t,ins,id,lv⟩) kw/\(∀y∈ys,xK ns L.length y)/\aa=eG (bD L) y.to/\∀p,xK ns L.length ⟨y,eG (bD L) y.to,p⟩):=⟨hy,ao,by rw[aj,dT hy];exact congrFun (Q0 (g:=fun l=>pure ⟨s,l,ins,id,lv⟩)) kw,ah,de,fun p=>by
      have m:=aO7 hy
      obtain ⟨⟨t,ht⟩,_,h2⟩:=H0.out.2.2.1 y m
      have h1:=H0.out.1.wy y m
      have h3:=(tQ ht).1
      rw[mV] at h3
      exact ⟨h1.1,h1.2,by show 0≤eG (bD L) y.to/\eG (bD L) y.to<_;unfold eG;rw[ht];exact ⟨by simp,by simpa using h3⟩,h2⟩⟩
     obtain ⟨tm,cd⟩:∃tm,tm=y.times:=⟨_,rfl⟩
     have HT:Hid (tm=y.times):=cd
     clear cd de hy bo db hr ao aj ah hS cn dn dq al kp eg bj hT ch ck ap ba xi xw
     go_upto_region 14 with fail
     rw[<-co,<-av]
     clear co av e7 dd
     go_upto_region 15 with (go_at_call 159;refine am.mono ?_;rintro e w3 ⟨rfl,h3⟩;have k3:=aD h3.out HS.out.2.2.1;have z1:=aF k3 1 rfl;have f1:=aG k3 1)
     obtain ⟨W4,bk⟩:∃W4,W4=w3.setCell ⟨I,1,none⟩ (.int .i64 aa):=⟨_,rfl⟩
     rw[<-bk]
     have k4:W4.heap[I]?=some (.cells #[.pointer (some ⟨gy,n*7,none⟩),.int .i64 aa,.int .i64 (-1)] 275 (0,0)):=by
      rw[bk]
      exact cH (l:=[Value.pointer (some ⟨gy,n*7,none⟩),.int .i64 0,.int .i64 (-1)]) (aD h3.out HS.out.2.2.1) 1 (.int .i64 aa)
     have S3:=(HS.out.1.below HS.out.2.1).below h3.out
     have S4:LS A ns P kb O k gd od q7 d (E+(s.regions.map (iG d)).sum+n) Pw Rw W4 kw ins ys id lv ai ci aw cw:=by rw[bk];exact S3.loc D.out.1 QQ.out 1 _
     have fa:∀x,A x->x≠I:=fun x hx e=>by have:=D.out.1 x hx;have:=QQ.out.1;omega
     have eo:bB A A wr W4:=fun x hx hl=>⟨hx,by rw[bk,Below.heap_setCell _ _ _ _ (fa x hx),h3.out.block x (aO2 hl HS.out.2.1.size),HS.out.2.1.block x hl]⟩
     have dw:A gy:=(ce.out.1 (by omega)).2
     have bq:=jE.carry eo dw HS.out.2.2.2.1
     have c3:W4.cell? ⟨gy,n*7+3,none⟩=some (.int .i64 (tm:Int)):=by rw[HT.out];exact bq.2.2.2.1
     have b0:=aF k4 0 rfl
     have ag:E+(s.regions.map (iG d)).sum+n<1000000:=by
      have h1:=HH.out.2.2.2.2.1
      unfold jG at h1
      have:=HE.out.2.2.1
      omega
     have ax:=yX S4.cm ag (x:=0) (by unfold jF;omega)
     have J:Hid (LS A ns P kb O k gd od q7 d (E+(s.regions.map (iG d)).sum+n) Pw Rw W4 kw ins ys id lv ai ci aw cw/\W4.heap[I]?=some (.cells #[.pointer (some ⟨gy,n*7,none⟩),.int .i64 aa,.int .i64 (-1)] 275 (0,0))/\jE A W4 gy (n*7) y yp yq/\A gy/\E+(s.regions.map (iG d)).sum+n<1000000):=⟨S4,k4,bq,dw,ag⟩
     clear bk k4 S3 S4 fa eo dw bq HS h3 am c5 a0 ag
     by_cases cd:1<tm
     ·go_upto_region 17 with (go_at_call 115;refine ax.mono ?_;rintro e w5 ⟨rfl,h5⟩;have k5:=h5.out.2.heap J.out.2.1 QQ.out.2.1;have z2:=aF k5 2 rfl;have f2:=aG k5 2)
      obtain ⟨X,hX⟩:∃X,X=w5.setCell ⟨I,2,none⟩ (.int .i64 kw.net.places):=⟨_,rfl⟩
      rw[<-hX]
      have S5:=LS.coder D.out.2.1 J.out.1 h5.out.1 (fun x hx=>hx) (R':=fun _=>False) (fun _ _ h=>h) (fun _ h=>h.elim) h5.out.2 (by show kw.net.places≤kw.net.places+1;omega)
      have q4:I<W4.heap.size:=aB J.out.2.1
      have S6:LS A ns P kb O k gd od q7 d (E+(s.regions.map (iG d)).sum+(n+1)) (Up Pw W4 w5) (fun x=>Rw x\/False) X (bF (aU kw 0) kw.net.places) ins ys id lv ai ci aw cw:=by
       rw[hX,<-Nat.add_assoc]
       exact S5.loc D.out.1 ⟨QQ.out.1,fun h=>h.elim QQ.out.2.1 fun h=>by omega,fun h=>h.elim QQ.out.2.2.1 fun h=>h,QQ.out.2.2.2⟩ 2 _
      have k6:X.heap[I]?=some (.cells #[.pointer (some ⟨gy,n*7,none⟩),.int .i64 aa,.int .i64 kw.net.places] 275 (0,0)):=by
       rw[hX]
       exact cH (l:=[Value.pointer (some ⟨gy,n*7,none⟩),.int .i64 aa,.int .i64 (-1)]) (h5.out.2.heap J.out.2.1 QQ.out.2.1) 2 (.int .i64 kw.net.places)
      have eq:bB A A W4 X:=fun x hx hl=>⟨hx,by rw[hX,Below.heap_setCell _ _ _ _ (show x≠I from fun e=>by have:=D.out.1 x hx;have:=QQ.out.1;omega)];exact h5.out.2.block x hl fun hp=>cb x hp hx⟩
      have HX:Hid (LS A ns P kb O k gd od q7 d (E+(s.regions.map (iG d)).sum+(n+1)) (Up Pw W4 w5) (fun x=>Rw x\/False) X (bF (aU kw 0) kw.net.places) ins ys id lv ai ci aw cw/\X.heap[I]?=some (.cells #[.pointer (some ⟨gy,n*7,none⟩),.int .i64 aa,.int .i64 kw.net.places] 275 (0,0))/\jE A X gy (n*7) y yp yq/\A gy):=⟨S6,k6,jE.carry eq J.out.2.2.2.1 J.out.2.2.1,J.out.2.2.2.1⟩
      have dp:Hid (Z=(Em.jZ (bD L) (s.ways.drop (n+1)) >>= fun t=>pure ⟨s,(ys++[⟨y,eG (bD L) y.to,kw.net.places⟩])++t,ins,id,lv⟩) (bF (aU kw 0) kw.net.places)):=by
       have h:=HY.out.2.2.1
       rw[if_pos (by rw[<-HT.out];exact cd)] at h
       exact h.trans (I0 (Ii kw 0))
      obtain ⟨lf,fp⟩:∃lf,lf=kw.net.places:=⟨_,rfl⟩
      clear hX S5 S6 k6 eq h5 ax c3 b0 J q4 fp
      obtain ⟨xw,ap,ba⟩:=HX.out.1.rwy
      have dx:=aB HX.out.1.hq
      have x1:X.cell? ⟨q7,1,none⟩=some (.slice aw n cw):=by rw[<-HY.out.2.1];exact aF HX.out.1.hq 1 rfl
      have bu:X.ownsRow 0 275 3 (.slice aw n cw) n xw:=by rw[<-HY.out.2.1];exact ap
      have dk:Hid (Rows (Iy A X) ys xw):=ba
      have b0:=aF HX.out.2.1 0 rfl
      have b1:=aF HX.out.2.1 1 rfl
      have b2:=aF HX.out.2.1 2 rfl
      clear ap ba
      go_wp2_with (at_builtin;refine wpList_append_own_at _ rfl (.tmp 103) (.tmp 105) 233 rfl 0 275 j0 _ 3 24 Tryz.underlying233 ec fc eu ez rfl (by decide) _ _ _ rfl (bu.alloc _) ⟨X.heap.size,0,none⟩ 1 1 [.pointer (some ⟨gy,n*7,none⟩),.int .i64 aa,.int .i64 kw.net.places] rfl rfl (eN _ _ _) (by intro u hu;simp at hu;rcases hu with rfl|rfl|rfl<;>rfl) (by unfold maxLen;omega) (by omega) (by simp) ?_;intro v6 w6 ae Q _ cf;obtain ⟨a6,m6,e6⟩:=aP ae;subst e6;have ak:w6.heap[q7]?=X.heap[q7]?:=by { rw[Q.block q7 (by simp;omega) (fun e=>(HX.out.1.ow q7 (by rw[HY.out.2.1];exact e.symm)).2.2.2.1 rfl),Below.heap_alloc _ _ _ dx] };have au:=ak.trans HX.out.1.hq;have z1:=aF au 1 rfl;have f1:=aG au 1)
      go_roundg (N-(n+1))
      case measure=>omega
      case rel=>
       have ac:=LS.appW HX.out.1 D.out.1 (w5:=w6) (a5:=a6) (c5:=m6) (gy:=gy) (oy:=n*7) (pc:=yp) (qs:=yq) (y:=⟨y,eG (bD L) y.to,kw.net.places⟩) (xw:=xw) dk.out HX.out.2.2.2 HX.out.2.2.1 (by rw[HY.out.2.1];show w6.ownsRow _ _ _ _ _ (xw++[_,.int .i64 (eG (bD L) y.to),_]);rw[<-HY.out.2.2.2.2.1];exact ae) (by rw[HY.out.2.1];exact Q) (by rw[HY.out.2.1];exact cf)
       rw[HY.out.2.1] at ac
       exact ⟨n+1,(bF (aU kw 0) kw.net.places),ys++[⟨y,eG (bD L) y.to,kw.net.places⟩],a6,m6,by omega,by omega,by go_num,by rw[aO6,HY.out.2.1];rfl,dp.out,fun z hz=>(aP5.1 hz).elim (HY.out.2.2.2.1 z) fun h=>by rw[aP1.1 h];exact HY.out.2.2.2.2.2 _,_,_,ac⟩
     ·clear ax
      go_upto_region 17 with fail
      have HX:Hid (LS A ns P kb O k gd od q7 d (E+(s.regions.map (iG d)).sum+(n+1)) Pw Rw W4 kw ins ys id lv ai ci aw cw/\W4.heap[I]?=some (.cells #[.pointer (some ⟨gy,n*7,none⟩),.int .i64 aa,.int .i64 (-1)] 275 (0,0))/\jE A W4 gy (n*7) y yp yq/\A gy):=⟨J.out.1.moreE (by omega) (by have:=J.out.2.2.2.2;omega),J.out.2.1,J.out.2.2.1,J.out.2.2.2.1⟩
      have dp:Hid (Z=(Em.jZ (bD L) (s.ways.drop (n+1)) >>= fun t=>pure ⟨s,(ys++[⟨y,eG (bD L) y.to,-1⟩])++t,ins,id,lv⟩) kw):=by
       have h:=HY.out.2.2.1
       rw[if_neg (by rw[<-HT.out];exact cd)] at h
       rw[pure_bind] at h
       exact h
      obtain ⟨X,hX⟩:∃X,X=W4:=⟨_,rfl⟩
      rw[<-hX] at HX ⊢
      clear hX J c3 b0
      obtain ⟨xw,ap,ba⟩:=HX.out.1.rwy
      have dx:=aB HX.out.1.hq
      have x1:X.cell? ⟨q7,1,none⟩=some (.slice aw n cw):=by rw[<-HY.out.2.1];exact aF HX.out.1.hq 1 rfl
      have bu:X.ownsRow 0 275 3 (.slice aw n cw) n xw:=by rw[<-HY.out.2.1];exact ap
      have dk:Hid (Rows (Iy A X) ys xw):=ba
      have b0:=aF HX.out.2.1 0 rfl
      have b1:=aF HX.out.2.1 1 rfl
      have b2:=aF HX.out.2.1 2 rfl
      clear ap ba
      go_wp2_with (at_builtin;refine wpList_append_own_at _ rfl (.tmp 103) (.tmp 105) 233 rfl 0 275 j0 _ 3 24 Tryz.underlying233 ec fc eu ez rfl (by decide) _ _ _ rfl (bu.alloc _) ⟨X.heap.size,0,none⟩ 1 1 [.pointer (some ⟨gy,n*7,none⟩),.int .i64 aa,.int .i64 (-1)] rfl rfl (eN _ _ _) (by intro u hu;simp at hu;rcases hu with rfl|rfl|rfl<;>rfl) (by unfold maxLen;omega) (by omega) (by simp) ?_;intro v6 w6 ae Q _ cf;obtain ⟨a6,m6,e6⟩:=aP ae;subst e6;have ak:w6.heap[q7]?=X.heap[q7]?:=by { rw[Q.block q7 (by simp;omega) (fun e=>(HX.out.1.ow q7 (by rw[HY.out.2.1];exact e.symm)).2.2.2.1 rfl),Below.heap_alloc _ _ _ dx] };have au:=ak.trans HX.out.1.hq;have z1:=aF au 1 rfl;have f1:=aG au 1)
      go_roundg (N-(n+1))
      case measure=>omega
      case rel=>
       have ac:=LS.appW HX.out.1 D.out.1 (w5:=w6) (a5:=a6) (c5:=m6) (gy:=gy) (oy:=n*7) (pc:=yp) (qs:=yq) (y:=⟨y,eG (bD L) y.to,(-1)⟩) (xw:=xw) dk.out HX.out.2.2.2 HX.out.2.2.1 (by rw[HY.out.2.1];show w6.ownsRow _ _ _ _ _ (xw++[_,.int .i64 (eG (bD L) y.to),_]);rw[<-HY.out.2.2.2.2.1];exact ae) (by rw[HY.out.2.1];exact Q) (by rw[HY.out.2.1];exact cf)
       rw[HY.out.2.1] at ac
       exact ⟨n+1,kw,ys++[⟨y,eG (bD L) y.to,(-1)⟩],a6,m6,by omega,by omega,by go_num,by rw[aO6,HY.out.2.1];rfl,dp.out,fun z hz=>(aP5.1 hz).elim (HY.out.2.2.2.1 z) fun h=>by rw[aP1.1 h];exact HY.out.2.2.2.2.2 _,_,_,ac⟩
    ·have eh:Z=some ((⟨s,ys,ins,id,lv⟩:eR (St d) (Rg d)),kw):=by
      rw[aj,aW8 (by rw[<-HE.out.2.2.1];omega)]
      show (pure (⟨s,ys++[],ins,id,lv⟩:eR (St d) (Rg d)):Em.M _) kw=_
      rw[List.append_nil]
      rfl
     have ad:=hS.fr.heap D.out.2.2.2.2.2.2 D.out.2.2.2.2.1
     have HS:Hid (LS A ns P kb O k gd od q7 d (E+(s.regions.map (iG d)).sum+n) Pw Rw wr kw ins ys id lv ai ci aw cw):=hS
     have HF:Hid (Z=some ((⟨s,ys,ins,id,lv⟩:eR (St d) (Rg d)),kw)/\(∀y∈ys,xK ns L.length y)/\ys.length=n/\wr.heap[q6]?=some (.cells #[.pointer none,.slice none 0 0,.slice none 0 0,.bool false,.bool false] 236 (0,0))):=⟨eh,ah,ao,ad⟩
     obtain ⟨nw,dm⟩:∃nw,nw=ys.length:=⟨_,rfl⟩
     obtain ⟨ni,di⟩:∃ni,ni=ins.length:=⟨_,rfl⟩
     have HN:Hid (nw=ys.length/\ni=ins.length):=⟨dm,di⟩
     have az:=hS.hq
     rw[<-dm,<-di] at az
     have g0:=aF az 0 rfl
     have g1:=aF az 1 rfl
     have g2:=aF az 2 rfl
     have g3:=aF az 3 rfl
     have g4:=aF az 4 rfl
     have p0:=aF ad 0 rfl
     have p1:=aF ad 1 rfl
     have p2:=aF ad 2 rfl
     have p3:=aF ad 3 rfl
     have p4:=aF ad 4 rfl
     have f0:=aG ad 0
     have f1:=aG ad 1
     have f2:=aG ad 2
     have f3:=aG ad 3
     have f4:=aG ad 4
     clear eh hr ao aj ah hS dm di az ad al kp
     go_wp2_with fail
     obtain ⟨WF,br⟩:∃WF,WF=((((wr.setCell ⟨q6,0,none⟩ (.pointer (some ⟨gd,od,none⟩))).setCell ⟨q6,1,none⟩ (.slice aw nw cw)).setCell ⟨q6,2,none⟩ (.slice ai ni ci)).setCell ⟨q6,3,none⟩ (.bool id)).setCell ⟨q6,4,none⟩ (.bool lv):=⟨_,rfl⟩
     have kF:WF.heap[q6]?=some (.cells #[.pointer (some ⟨gd,od,none⟩),.slice aw nw cw,.slice ai ni ci,.bool id,.bool lv] 236 (0,0)):=by
      rw[br]
      have h0:=cH (l:=[Value.pointer none,.slice none 0 0,.slice none 0 0,.bool false,.bool false]) HF.out.2.2.2 0 (.pointer (some ⟨gd,od,none⟩))
      have h1:=cH (l:=[Value.pointer (some ⟨gd,od,none⟩),.slice none 0 0,.slice none 0 0,.bool false,.bool false]) h0 1 (.slice aw nw cw)
      have h2:=cH (l:=[Value.pointer (some ⟨gd,od,none⟩),.slice aw nw cw,.slice none 0 0,.bool false,.bool false]) h1 2 (.slice ai ni ci)
      have h3:=cH (l:=[Value.pointer (some ⟨gd,od,none⟩),.slice aw nw cw,.slice ai ni ci,.bool false,.bool false]) h2 3 (.bool id)
      exact cH (l:=[Value.pointer (some ⟨gd,od,none⟩),.slice aw nw cw,.slice ai ni ci,.bool id,.bool false]) h3 4 (.bool lv)
     have em:bM (fun x=>x=q6) wr WF:=by
      rw[br]
      have st:∀(W:World) (j:Nat) (v:Value),bM (fun x=>x=q6) wr W->bM (fun x=>x=q6) wr (W.setCell ⟨q6,j,none⟩ v):=fun W j v h=>h.setCell (p:=⟨q6,j,none⟩) (.inl rfl) v
      exact st _ _ _ (st _ _ _ (st _ _ _ (st _ _ _ (st _ _ _ (bM.refl _ _)))))
     have be:∀(W:World) (a:Addr) (v:Value),(W.setCell a v).heap.size=W.heap.size:=fun W a v=>by simp[World.setCell]
     have eb:WF.heap.size=wr.heap.size:=by rw[br,be,be,be,be,be]
     clear be
     rw[<-br]
     have ed:Hid (bM (fun x=>x=q6) wr WF/\WF.heap.size=wr.heap.size):=⟨em,eb⟩
     refine aY7 (Dy _ _ q6 #[.pointer (some ⟨gd,od,none⟩),.slice aw nw cw,.slice ai ni ci,.bool id,.bool lv] rfl rfl kF) rfl ?_
     clear br kF em eb g0 g1 g2 g3 g4 p0 p1 p2 p3 p4 f0 f1 f2 f3 f4
     obtain ⟨R,t1,t2,t3,t4,t5,t6,t7⟩:=HS.out.done (s:=s) (q6:=q6) (w0:=w) (wf:=WF) HH.out.2.2.2.1 U.out.1 U.out.2.2 U.out.2.1 HH.out.2.2.1.2.2 ⟨HD.out.1,HD.out.2.1,⟨_,HD.out.2.2.1⟩,⟨_,HD.out.2.2.2.1⟩,⟨_,HD.out.2.2.2.2.1⟩,⟨_,HD.out.2.2.2.2.2.1⟩⟩ ed.out.1 ed.out.2
     have eE:E+(s.regions.map (iG d)).sum+n=E+jG (iG d) s:=by
      unfold jG
      have:=HE.out.2.2.1
      omega
     rw[eE] at t1
     refine ⟨aw,nw,cw,ai,ni,ci,id,lv,rfl,?_⟩
     rw[HN.out.1,HN.out.2]
     exact ⟨⟨s,ys,ins,id,lv⟩,kw,Pw,R,HZ.out.symm.trans HF.out.1,rfl,rfl,t1,t2,t3,t4,t5,t6,t7,⟨H0.out.1.en,H0.out.1.du,H0.out.1.le,H0.out.1.re,HF.out.2.1,by show ys.length≤1000000;have:=HF.out.2.2.1;omega,HK.out.2,HK.out.1⟩⟩
end
end Ew
end Go.Proofs.YthieaobjdpfcoaaGreatDoor
