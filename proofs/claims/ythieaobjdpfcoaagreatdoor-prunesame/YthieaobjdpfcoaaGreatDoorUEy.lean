import Derived.Test.YthieaobjdpfcoaaGreatDoorUEy1
import Derived.Deep.CutRange
set_option maxRecDepth 100000
set_option maxHeartbeats 16000000
namespace Go.Proofs.YthieaobjdpfcoaaGreatDoor
open Go.RowKit Px
namespace Ew
open Px.Em (Kd Vr eQ eR jP Rg cX)
open Nx (Nt Sp)
section
variable {A P Pj Rj:Nat->Prop}{w wr w':World}{ns:List bE}{kb gd od q7 d E:Nat}{k kj:Kd}{ins:List (Rg d)}{ys:List eQ}{id lv:Bool}{ai aw:Option Addr}{ci cw:Nat}
theorem Q3 (ih:zT A kb ns d) {q3:Nat}{vl:Value}{L:List (cF (St d))}{s:cF (St d)}(hL:aM A w (d+1) L vl) (cj:w.cell? ⟨q3,0,none⟩=some vl/\¬P q3) {i:Nat}{ve vd fi:Value}{p ay ar:Option Addr}{gy bc ag:Nat}(fb:od=i*9) (ey:A gd) (hm:Ns A w gd i s ve vd fi p ay ar gy bc ag) (ea:gP A w (aM A w d) s.regions (.slice ar s.regions.length ag)) (ef:0<s.ways.length->A gy)
    (bi:StR ns s/\(∀r∈s.regions,rO ns d r/\vW d r/\rN d r)/\(∀y∈s.ways,(∃t,jT (bD L) y.to=some t)/\y.to.length≤maxLen/\y.times≤1000000)/\s.ways.length≤1000000/\s.regions.length≤1000000/\s.during.length≤1000000/\s.leave.length≤1000000) (h:eK E ns P w kb k) (hR:Ro A P w) (hE:E+jG (iG d) s<1000000) :
    Calls Tryz.prog 161 #[.pointer (some ⟨kb,0,none⟩),.pointer (some ⟨gd,od,none⟩),.func (.func 159) #[] #[.pointer (some ⟨q3,0,none⟩)]] w fun e w'=>∃aw nw cw ai ni ci id lv,e=.returned (.agg #[.pointer (some ⟨gd,od,none⟩),.slice aw nw cw,.slice ai ni ci,.bool id,.bool lv])/\
     Hid (∃(st:eR (St d) (Rg d)) (k':Kd) (P' R:Nat->Prop),Em.jD (Em.aJ d) (bD L) s k=some (st,k')/\st.idle=id/\st.leaves=lv/\eK (E+jG (iG d) s) ns P' w' kb k'/\(∀x,P' x->Up P w w' x)/\(∀x,P' x->¬R x)/\(∀x,R x->w.heap.size≤x/\x<w'.heap.size)/\bM P w w'/\k.net.places≤k'.net.places/\Vo (fun x=>A x\/R x) w' st gd od (.slice aw nw cw) (.slice ai ni ci)/\B9 ns L.length (eS ns d) st):=by
 obtain ⟨Z,hZ⟩:∃Z,Z=Em.jD (Em.aJ d) (bD L) s k:=⟨_,rfl⟩
 have HZ:Hid (Z=Em.jD (Em.aJ d) (bD L) s k):=hZ
 obtain ⟨c0,c1,c2,c3,c4,c5,c6,c7,c8,he,dt,dw,hp,dx⟩:=hm
 rw[<-fb] at c0 c1 c2 c3 c4 c5 c6 c7 c8
 obtain ⟨a3,g3,p3,rfl,m3,_⟩:=cJ.opn he
 obtain ⟨a4,g4,p4,rfl,m4,_⟩:=cJ.opn dt
 obtain ⟨a5,g5,p5,rfl,m5,_⟩:=cJ.opn dw
 obtain ⟨fs,bf,fq,er,eh,ck,aj⟩:=ea.len
 have fl:ar=fs:=by injection er
 have fj:ag=fq:=by injection er
 subst fl fj
 have db:0<s.regions.length->A bf:=fun hp=>by
  obtain ⟨xs,hr,_⟩:=ea
  exact hr.2 bf (by rw[(ck hp).1];rfl)
 obtain ⟨dl,ca⟩:∃dl,dl=s.during.length:=⟨_,rfl⟩
 obtain ⟨ll,bu⟩:∃ll,ll=s.leave.length:=⟨_,rfl⟩
 obtain ⟨N,hN⟩:∃N,N=s.ways.length:=⟨_,rfl⟩
 obtain ⟨M,hM⟩:∃M,M=s.regions.length:=⟨_,rfl⟩
 rw[<-ca] at c4 m4
 rw[<-bu] at c5 m5
 rw[<-hN] at c7
 rw[<-hM] at c8 eh ck
 obtain ⟨Y,cg⟩:∃Y,Y=decide (dl+N=0):=⟨_,rfl⟩
 obtain ⟨aa,bp⟩:∃aa,aa=decide (0<ll):=⟨_,rfl⟩
 have fx:N≤1000000:=by rw[hN];exact bi.2.2.2.1
 have fz:M≤1000000:=by rw[hM];exact bi.2.2.2.2.1
 have fw:dl≤1000000:=by rw[ca];exact bi.2.2.2.2.2.1
 have ga:ll≤1000000:=by rw[bu];exact bi.2.2.2.2.2.2
 have ev:True:=trivial
 clear ev
 have ei:(IntKind.i64.wrap ((dl:Int)+(N:Int))==0)=Y:=by rw[cg,IntKind.wrap_i64,Bool.eq_iff_iff];simp;omega
 have eg:decide (0<ll)=aa:=bp.symm
 obtain ⟨i0,ft,fo,fp,fu⟩:=aX6 Xz
 obtain ⟨j0,eq,eo,fe,fc⟩:=aX6 Xx
 obtain ⟨O,bz⟩:∃O,O=w.alloc (.cells #[.pointer none,.slice none 0 0,.slice none 0 0,.bool false,.bool false] 236):=⟨_,rfl⟩
 obtain ⟨q6,cx⟩:∃q6,q6=w.heap.size:=⟨_,rfl⟩
 have be:Below w.heap.size w O:=by rw[bz];exact aC _ _
 have am:O.heap[q6]?=some (.cells #[.pointer none,.slice none 0 0,.slice none 0 0,.bool false,.bool false] 236 (0,0)):=by rw[bz,cx];exact aX w _
 have d4:=aN be c4
 have d5:=aN be c5
 have d7:=aN be c7
 have d8:=aN be c8
 have ed:Hid ((IntKind.i64.wrap ((dl:Int)+(N:Int))==0)=Y/\decide (0<ll)=aa):=⟨ei,eg⟩
 clear ei eg
 have HE:Hid (dl=s.during.length/\ll=s.leave.length/\N=s.ways.length/\M=s.regions.length/\Y=decide (dl+N=0)/\aa=decide (0<ll)):=⟨ca,bu,hN,hM,cg,bp⟩
 have HD:Hid (A gd/\w.cell? ⟨gd,od+2,none⟩=some (.bool s.last)/\(w.cell? ⟨gd,od+3,none⟩=some (.slice a3 s.enter.length p3)/\cJ A w s.enter (.slice a3 s.enter.length p3))/\(w.cell? ⟨gd,od+4,none⟩=some (.slice a4 dl p4)/\cJ A w s.during (.slice a4 dl p4))/\(w.cell? ⟨gd,od+5,none⟩=some (.slice a5 ll p5)/\cJ A w s.leave (.slice a5 ll p5))/\(w.cell? ⟨gd,od+6,none⟩=some (.pointer p)/\jR A w s.rests (.pointer p))/\w.cell? ⟨gd,od+7,none⟩=some (.slice ay N bc)/\w.cell? ⟨gd,od+8,none⟩=some (.slice ar M ag)):=⟨ey,c2,⟨c3,he⟩,⟨c4,by rw[ca];exact dt⟩,⟨c5,by rw[bu];exact dw⟩,⟨c6,hp⟩,c7,c8⟩
 have di:Hid ((0<M->ar=some ⟨bf,0,none⟩/\A bf)/\∀(i:Nat) (r:List (St d)),s.regions[i]?=some r->∃u,w.cell? ⟨bf,i,none⟩=some u/\aM A w d r u):=⟨fun hp=>⟨(ck hp).1,db (by omega)⟩,aj⟩
 have ce:Hid ((0<N->ay=some ⟨gy,0,none⟩/\A gy)/\∀m y,s.ways[m]?=some y->∃p q,jE A w gy (m*7) y p q):=⟨fun hp=>⟨(dx.2.1 (by omega)).1,ef (by omega)⟩,dx.2.2⟩
 have HH:Hid (aM A w (d+1) L vl/\(w.cell? ⟨q3,0,none⟩=some vl/\¬P q3)/\eK E ns P w kb k/\Ro A P w/\E+jG (iG d) s<1000000/\zT A kb ns d):=⟨hL,cj,h,hR,hE,ih⟩
 have H0:Hid (StR ns s/\(∀r∈s.regions,rO ns d r/\vW d r/\rN d r)/\(∀y∈s.ways,(∃t,jT (bD L) y.to=some t)/\y.to.length≤maxLen/\y.times≤1000000)/\s.ways.length≤1000000/\s.regions.length≤1000000/\s.during.length≤1000000/\s.leave.length≤1000000):=bi
 clear ca bu hN hM cg bp fb hZ ey c0 c1 c2 c3 c4 c5 c6 c7 c8 he dt dw hp dx aj ck ea er db hL cj h hR hE ih bi ef m3 m4 m5 eh
 go_enter Tryz.func161,Tryz.ntmps161
 go_upto_region 1 with fail
 rw[<-bz,<-cx]
 have U:Hid (Below w.heap.size w O/\q6=w.heap.size/\O.heap.size=w.heap.size+1):=⟨be,cx,by rw[bz];simp⟩
 clear bz cx be
 go_region_held3 (fun W=>W.cell? ⟨gd,od+4,none⟩=some (.slice a4 dl p4)/\W.cell? ⟨gd,od+7,none⟩=some (.slice ay N bc)/\W.cell? ⟨gd,od+5,none⟩=some (.slice a5 ll p5)) (first|exact ⟨d4,d7,d5⟩|go_keep) (fail)
 rw[ed.out.1,ed.out.2]
 generalize IntKind.i64.wrap ((dl:Int)+(N:Int))=zz
 obtain ⟨W7,co⟩:∃W7,W7=(O.alloc (.cells #[.pointer (some ⟨gd,od,none⟩),.slice none 0 0,.slice none 0 0,.bool Y,.bool aa] 236)).drew:=⟨_,rfl⟩
 obtain ⟨q7,cy⟩:∃q7,q7=O.heap.size:=⟨_,rfl⟩
 have cp:Below O.heap.size O W7:=by rw[co];exact (aC _ _).drew
 have au:W7.heap[q7]?=some (.cells #[.pointer (some ⟨gd,od,none⟩),.slice none 0 0,.slice none 0 0,.bool Y,.bool aa] 236 (0,0)):=by rw[co,cy];exact aX O _
 have br:∀x,P x->x<O.heap.size:=fun x hx=>by have:=HH.out.2.2.1.2.2 x hx;have:=U.out.2.2;omega
 have eb:∀x,A x->x<O.heap.size:=fun x hx=>by have:=(HH.out.2.2.2.1 x hx).1;have:=U.out.2.2;omega
 have fn:Hid (LS A ns P kb O k gd od q7 d E P (fun _=>False) W7 k [] [] Y aa none 0 none 0):=
  ⟨(HH.out.2.2.1.below U.out.1).below cp,fun x hx=>.inl hx,fun _ _ h=>h,fun _ h=>h.elim,bM.of_below cp,Int.le_refl _,au,⟨by rw[cy];exact aF4 _,fun hp=>absurd (br q7 hp) (by omega),id⟩,⟨[],aX2 _ _ _ _,rfl⟩,fun x hx=>by simp[Value.ownBlock] at hx,⟨[],aX2 _ _ _ _,rfl⟩,fun x hx=>by simp[Value.ownBlock] at hx⟩
 have D:Hid ((∀x,A x->x<O.heap.size)/\Ro A P O/\bB A A w O/\(∀x,P x->x<O.heap.size)/\¬P q6/\q6<O.heap.size/\O.heap[q6]?=some (.cells #[.pointer none,.slice none 0 0,.slice none 0 0,.bool false,.bool false] 236 (0,0))):=⟨eb,fun x hx=>⟨eb x hx,(HH.out.2.2.2.1 x hx).2⟩,fun x hx hl=>⟨hx,U.out.1.block x hl⟩,br,fun hp=>by have:=HH.out.2.2.1.2.2 q6 hp;have:=U.out.2.1;omega,by have:=U.out.2;omega,am⟩
 have e8:W7.cell? ⟨gd,od+8,none⟩=some (.slice ar M ag):=aN cp d8
 rw[<-co,<-cy]
 clear co cy cp au br eb d4 d5 d7 d8 am
 go_upto_region 3 with fail
 clear e8
 go_loopg [38] M (fun f i wr=>∃(j:Nat) (kj:Kd) (ins:List (Rg d)) (id lv:Bool) (ai:Option Addr) (ci:Nat),f=M-j/\j≤M/\i=.int .i64 (j:Int)/\Hid (ins.length=j/\Z=(Em.pW (Em.aJ d) (s.regions.drop j) >>= fun t=>Zm (bD L) s (ins++t)) kj/\id=(Y&&ins.all (Em.aJ d).idle)/\lv=(aa||ins.any (Em.aJ d).leaves)/\(∀r∈ins,eS ns d r)/\∃Pj Rj,LS A ns P kb O k gd od q7 d (E+((s.regions.take j).map (iG d)).sum) Pj Rj wr kj ins [] id lv ai ci none 0))
 case atStart=>exact ⟨0,k,[],Y,aa,none,0,by omega,by omega,rfl,rfl,by rw[HZ.out,Aw];rfl,by simp,by simp,fun _ h=>by simp at h,P,_,by simpa using fn.out⟩
 case round=>
  obtain ⟨j,kj,ins,id,lv,ai,ci,rfl,hj,rfl,hr⟩:=hrel
  obtain ⟨ap,ah,al,cz,cr,Pj,Rj,hS⟩:=hr.out
  by_cases hlt:j<M
  ·obtain ⟨r,aj⟩:∃r:List (St d),s.regions[j]?=some r:=⟨_,aE5 (by rw[<-HE.out.2.2.2.1];exact hlt)⟩
   obtain ⟨u,c0,hu⟩:=di.out.2 j r aj
   have an:bB A A O wr:=D.out.2.1.keep hS.fr
   have kp:bB A A w wr:=D.out.2.2.1.trans an U.out.1.size
   have c0:=cL kp (di.out.1 (by omega)).2 c0
   have hu:=hu.carry kp
   have dk:=ixR ar bf M ag j hlt (fun hp=>(di.out.1 hp).1)
   have cu:=H0.out.2.1 r (aH8 aj)
   have ez:Ro A Pj wr:=fun x hx=>⟨aH3 (D.out.1 x hx) hS.fr.size,fun hp=>(hS.up x hp).elim (D.out.2.1 x hx).2 fun h=>absurd h.1 (by have:=D.out.1 x hx;omega)⟩
   have af:(E+((s.regions.take j).map (iG d)).sum)+iG d r<1000000:=by
    have h1:=HH.out.2.2.2.2.1
    have h2:=mK (iG d) aj
    unfold jG at h1
    omega
   have dc:=HH.out.2.2.2.2.2 hu cu.2.1 cu.1 cu.2.2 hS.cm ez af
   have HJ:Hid (LS A ns P kb O k gd od q7 d (E+((s.regions.take j).map (iG d)).sum) Pj Rj wr kj ins [] id lv ai ci none 0/\s.regions[j]?=some r/\ins.length=j/\Z=((Em.aJ d).lay r >>= fun x=>Em.pW (Em.aJ d) (s.regions.drop (j+1)) >>= fun t=>Zm (bD L) s ((ins++[x])++t)) kj/\id=(Y&&ins.all (Em.aJ d).idle)/\lv=(aa||ins.any (Em.aJ d).leaves)/\∀r∈ins,eS ns d r):=⟨hS,aj,ap,by rw[ah,dT aj,Fg],al,cz,cr⟩
   clear hr ap ah al cz cr hS aj hu an kp cu ez af
   go_upto_region 6 with (go_at_call 116;refine dc.mono ?_;rintro e w1 ⟨g1,rfl,h1⟩)
   obtain ⟨r1,k1,P1,R1,hz,L1⟩:=h1.out
   obtain ⟨hg,f4,f5⟩:=fH.flags d L1.rg
   obtain ⟨cv,bk⟩:∃cv,cv=(Em.aJ d).idle r1:=⟨_,rfl⟩
   obtain ⟨ch,cb⟩:∃ch,ch=(Em.aJ d).leaves r1:=⟨_,rfl⟩
   rw[<-bk] at f4
   rw[<-cb] at f5
   have S1:LS A ns P kb O k gd od q7 d (E+((s.regions.take (j+1)).map (iG d)).sum) P1 (fun x=>Rj x\/R1 x) w1 k1 ins [] id lv ai ci none 0:=by
    rw[mQ (iG d) HJ.out.2.1,<-Nat.add_assoc]
    exact LS.coder D.out.2.1 HJ.out.1 L1.cm L1.up L1.dr L1.rn L1.fr L1.pl
   have da:fH (fun x=>A x\/Rj x\/R1 x) d w1 r1 g1:=fH.carry d (fun x hx _=>⟨hx.elim .inl fun h=>.inr (.inr h),rfl⟩) r1 g1 L1.rg
   have fa:g1≠q7:=fun e=>by
    rcases hg with hg|hg
    ·have:=D.out.1 g1 hg;have:=S1.ql.1;omega
    ·exact S1.ql.2.2 (.inr (e▸hg))
   have az:Hid (Z=(Em.pW (Em.aJ d) (s.regions.drop (j+1)) >>= fun t=>Zm (bD L) s ((ins++[r1])++t)) k1/\(id&&cv)=(Y&&(ins++[r1]).all (Em.aJ d).idle)/\(lv||ch)=(aa||(ins++[r1]).any (Em.aJ d).leaves)/\(∀r∈ins++[r1],eS ns d r)/\ins.length=j/\eS ns d r1):=by
    obtain ⟨_,_,g3,g4,g5,g6,g7⟩:=HJ.out
    refine ⟨?_,by rw[g5,bk];simp[Bool.and_assoc],by rw[g6,cb];simp[Bool.or_assoc],fun r hr=>?_,g3,L1.ok⟩
    ·rw[g4];exact I0 hz
    ·rcases aJ6.1 hr with h|h
     ·exact g7 r h
     ·rw[aI1.1 h];exact L1.ok
   have S2:∀b,LS A ns P kb O k gd od q7 d (E+((s.regions.take (j+1)).map (iG d)).sum) P1 (fun x=>Rj x\/R1 x) (w1.setCell ⟨q7,3,none⟩ (.bool b)) k1 ins [] b lv ai ci none 0:=fun b=>S1.flag D.out.1 (j:=3) rfl
   have S3:∀b c,LS A ns P kb O k gd od q7 d (E+((s.regions.take (j+1)).map (iG d)).sum) P1 (fun x=>Rj x\/R1 x) ((w1.setCell ⟨q7,3,none⟩ (.bool b)).setCell ⟨q7,4,none⟩ (.bool c)) k1 ins [] b c ai ci none 0:=fun b c=>(S2 b).flag D.out.1 (j:=4) rfl
   have df:Hid ((∀b c,LS A ns P kb O k gd od q7 d (E+((s.regions.take (j+1)).map (iG d)).sum) P1 (fun x=>Rj x\/R1 x) ((w1.setCell ⟨q7,3,none⟩ (.bool b)).setCell ⟨q7,4,none⟩ (.bool c)) k1 ins [] b c ai ci none 0)/\∀b c,fH (fun x=>A x\/Rj x\/R1 x) d ((w1.setCell ⟨q7,3,none⟩ (.bool b)).setCell ⟨q7,4,none⟩ (.bool c)) r1 g1):=⟨S3,fun b c=>fH.carry d (fun x hx _=>⟨hx,by
    have:x≠q7:=fun e=>by
     rcases hx with hx|hx
     ·have:=D.out.1 x hx;have:=S1.ql.1;omega
     ·exact S1.ql.2.2 (e▸hx)
    rw[Below.heap_setCell _ _ _ _ this,Below.heap_setCell _ _ _ _ this]⟩) r1 g1 da⟩
   have x3:w1.cell? ⟨q7,3,none⟩=some (.bool id):=aA S1.hq 3 rfl
   have y3:=aG S1.hq 3
   have x4:∀b,(w1.setCell ⟨q7,3,none⟩ (.bool b)).cell? ⟨q7,4,none⟩=some (.bool lv):=fun b=>aA (S2 b).hq 4 rfl
   have y4:∀b,(w1.setCell ⟨q7,3,none⟩ (.bool b)).frozen? ⟨q7,4,none⟩=false:=fun b=>aG (S2 b).hq 4
   have fm:∀b,(w1.setCell ⟨q7,3,none⟩ (.bool b)).cell? ⟨g1,5,none⟩=some (.bool ch):=fun b=>by
    rw[aX1 (w:=w1) (a:=⟨g1,5,none⟩) (Below.heap_setCell _ _ _ _ fa)];exact f5
   clear f5 h1 hz L1 hg bk cb S1 da fa S2 S3 HJ dc dk c0
   obtain ⟨m,dn⟩:∃m,m=ins.length:=⟨_,rfl⟩
   have HM:Hid (m=ins.length/\m≤1000000):=⟨dn,by rw[dn,az.out.2.2.2.2.1];omega⟩
   clear dn
   go_cut [] from 39 to 69 (fun wx=>∃b,wx=w1.setCell ⟨q7,3,none⟩ (.bool b)/\Hid (b=(id&&cv)))
   case first=>
    cases id
    all_goals
     go_wp2_with fail
     go_meet
     case rel=>exact ⟨_,rfl,rfl⟩
   case rest=>
    obtain ⟨b,rfl,hb⟩:=hcut
    go_upto_region 7 with fail
    go_cut [] from 39 to 69 (fun wx=>∃c,wx=(w1.setCell ⟨q7,3,none⟩ (.bool b)).setCell ⟨q7,4,none⟩ (.bool c)/\Hid (c=(lv||ch)))
    case first=>
     cases lv
     all_goals
      go_wp2_with fail
      go_meet
      case rel=>exact ⟨_,rfl,rfl⟩
    case rest=>
     obtain ⟨c,rfl,hc⟩:=hcut
     go_upto_region 8 with fail
     clear x3 y3 x4 y4 f4 fm
     obtain ⟨W3,em⟩:∃W3,W3=(w1.setCell ⟨q7,3,none⟩ (.bool b)).setCell ⟨q7,4,none⟩ (.bool c):=⟨_,rfl⟩
     have S3:=df.out.1 b c
     have G3:=df.out.2 b c
     rw[<-em] at S3 G3 ⊢
     have cf:Hid (Z=(Em.pW (Em.aJ d) (s.regions.drop (j+1)) >>= fun t=>Zm (bD L) s ((ins++[r1])++t)) k1/\b=(Y&&(ins++[r1]).all (Em.aJ d).idle)/\c=(aa||(ins++[r1]).any (Em.aJ d).leaves)/\(∀r∈ins++[r1],eS ns d r)/\ins.length=j):=⟨az.out.1,hb.out.trans az.out.2.1,hc.out.trans az.out.2.2.1,az.out.2.2.2.1,az.out.2.2.2.2.1⟩
     clear em df az
     obtain ⟨xi,bn,cn⟩:=S3.ri
     have fh:=aB S3.hq
     have x2:W3.cell? ⟨q7,2,none⟩=some (.slice ai m ci):=by rw[HM.out.1];exact aA S3.hq 2 rfl
     have bj:W3.ownsRow 0 184 1 (.slice ai m ci) m xi:=by rw[HM.out.1];exact bn
     have gb:=HM.out.2
     have J:Hid (LS A ns P kb O k gd od q7 d (E+((s.regions.take (j+1)).map (iG d)).sum) P1 (fun x=>Rj x\/R1 x) W3 k1 ins [] b c ai ci none 0/\Rows (Nw (fun x=>A x\/Rj x\/R1 x) W3) ins xi/\fH (fun x=>A x\/Rj x\/R1 x) d W3 r1 g1):=⟨S3,cn,G3⟩
     clear S3 bn cn G3
     go_wp2_with (at_builtin;refine wpList_append_own_at _ rfl (.tmp 64) (.tmp 66) 234 rfl 0 184 i0 _ 1 8 Tryz.underlying234 ft fo fp fu rfl (by decide) _ _ _ rfl (bj.alloc _) ⟨W3.heap.size,0,none⟩ 1 1 [.pointer (some ⟨g1,0,none⟩)] rfl rfl (eN _ _ _) (by intro u hu;simp at hu;subst hu;rfl) (by unfold maxLen;omega) (by omega) (by simp) ?_;intro v5 w5 bv Q _ bq;obtain ⟨a5,m5,e5⟩:=aP bv;subst e5;have fg:w5.heap[q7]?=W3.heap[q7]?:=by { rw[Q.block q7 (by simp;omega) (fun e=>(J.out.1.oi q7 (by rw[<-HM.out.1];exact e.symm)).2.2.2 rfl),Below.heap_alloc _ _ _ fh] };have am:=fg.trans J.out.1.hq;have z2:=aA am 2 rfl;have f2:=aG am 2)
     go_roundg (M-(j+1))
     case measure=>omega
     case rel=>
      have ac:=LS.appI J.out.1 D.out.1 (w5:=w5) (a5:=a5) (c5:=m5) (g:=g1) (r:=r1) (xi:=xi) J.out.2.1 J.out.2.2 (by rw[<-HM.out.1];exact bv) (by rw[<-HM.out.1];exact Q) (by rw[<-HM.out.1];exact bq)
      rw[<-HM.out.1] at ac
      exact ⟨j+1,k1,ins++[r1],b,c,a5,m5,by omega,by omega,by go_num,by rw[aH7,cf.out.2.2.2.2];rfl,cf.out.1,cf.out.2.1,cf.out.2.2.1,cf.out.2.2.2.1,P1,_,ac⟩
  ·have ej:j=M:=by omega
   have an:bB A A O wr:=D.out.2.1.keep hS.fr
   have kp:bB A A w wr:=D.out.2.2.1.trans an U.out.1.size
   have e7:=cL kp HD.out.1 HD.out.2.2.2.2.2.2.1
   have HJ:Hid (Z=(Em.jZ (bD L) s.ways >>= fun ws=>pure ⟨s,ws,ins,id,lv⟩) kj/\(∀r∈ins,eS ns d r)/\ins.length≤1000000/\LS A ns P kb O k gd od q7 d (E+(s.regions.map (iG d)).sum) Pj Rj wr kj ins [] id lv ai ci none 0):=by
    refine ⟨?_,cr,by omega,?_⟩
    ·rw[ah,aP3 (by rw[<-HE.out.2.2.2.1];omega)]
     show Zm (bD L) s (ins++[]) kj=_
     rw[List.append_nil,al,cz,HE.out.2.2.2.2.1,HE.out.2.2.2.2.2,HE.out.1,HE.out.2.1,HE.out.2.2.1]
     rfl
    ·rw[List.take_of_length_le (by rw[<-HE.out.2.2.2.1];omega)] at hS
     exact hS
   clear hr ap ah al cz cr hS an kp ej
   go_upto_region 11 with fail
   clear e7
   go_loopg [75] N (fun f i wr=>∃(n:Nat) (kw:Kd) (ys:List eQ) (aw:Option Addr) (cw:Nat),f=N-n/\n≤N/\i=.int .i64 (n:Int)/\Hid (ys.length=n/\Z=(Em.jZ (bD L) (s.ways.drop n) >>= fun t=>pure ⟨s,ys++t,ins,id,lv⟩) kw/\(∀y∈ys,xK ns L.length y)/\∃Pj Rj,LS A ns P kb O k gd od q7 d (E+(s.regions.map (iG d)).sum+n) Pj Rj wr kw ins ys id lv ai ci aw cw))
   case atStart=>exact ⟨0,kj,[],none,0,by omega,by omega,rfl,rfl,HJ.out.1,fun _ h=>by simp at h,Pj,Rj,HJ.out.2.2.2⟩
   case round=>
    have HK:Hid ((∀r∈ins,eS ns d r)/\ins.length≤1000000):=⟨HJ.out.2.1,HJ.out.2.2.1⟩
    clear HJ
    obtain ⟨n,kw,ys,aw,cw,rfl,fy,rfl,hr⟩:=hrel
    obtain ⟨ap,ah,al,Pw,Rw,hS⟩:=hr.out
    have br:∀x,Pw x->¬A x:=fun x hp hx=>(hS.up x hp).elim (D.out.2.1 x hx).2 fun h=>absurd h.1 (by have:=D.out.1 x hx;omega)
    have an:bB A A O wr:=D.out.2.1.keep hS.fr
    have kp:bB A A w wr:=D.out.2.2.1.trans an U.out.1.size
    by_cases hlw:n<N
    ·obtain ⟨y,hy⟩:∃y:Wy,s.ways[n]?=some y:=⟨_,aE5 (by rw[<-HE.out.2.2.1];exact hlw)⟩
     obtain ⟨yp,yq,bw⟩:=ce.out.2 n y hy
     have bw:=jE.carry kp (ce.out.1 (by omega)).2 bw
     have e7:=cL kp HD.out.1 HD.out.2.2.2.2.2.2.1
     have dk:=ixW ay gy N bc n hlw (fun hp=>(ce.out.1 hp).1)
     obtain ⟨I,ao⟩:∃I,I=wr.heap.size:=⟨_,rfl⟩
     obtain ⟨W2,ct⟩:∃W2,W2=wr.alloc (.cells #[.pointer (some ⟨gy,n*7,none⟩),.int .i64 0,.int .i64 (-1)] 275):=⟨_,rfl⟩
     have cq:Below wr.heap.size wr W2:=by rw[ct];exact aC _ _
     have dq:W2.heap[I]?=some (.cells #[.pointer (some ⟨gy,n*7,none⟩),.int .i64 0,.int .i64 (-1)] 275 (0,0)):=by rw[ct,ao];exact aX wr _
     have dh:bB A A wr W2:=fun x hx hl=>⟨hx,cq.block x hl⟩
     have dd:=jE.carry dh (ce.out.1 (by omega)).2 bw
     have hst:aM A W2 (d+1) L vl:=HH.out.1.carry (kp.trans dh (aH5 U.out.1.size hS.fr.size))
     have cj:W2.cell? ⟨q3,0,none⟩=some vl:=aN cq (hS.fr.cell (aN U.out.1 HH.out.2.1.1) HH.out.2.1.2)
     obtain ⟨T,hT⟩:∃T,Value.string T=sv y.to:=⟨_,rfl⟩
     have ak:=Tl hst cj (nm:=y.to)
     rw[<-hT] at ak
     obtain ⟨ab,dj⟩:∃ab,ab=eG (bD L) y.to:=⟨_,rfl⟩
     rw[<-dj] at ak
     have c5:W2.cell? ⟨gy,n*7+5,none⟩=some (.string T):=by rw[hT];exact dd.2.2.2.2.2.1
     have a0:=aA dq 0 rfl
     obtain ⟨xi,bn,cn⟩:=hS.ri
     obtain ⟨xw,av,ax⟩:=hS.rwy
     have QQ:Hid (O.heap.size≤I/\¬Pw I/\¬Rw I/\I≠q7/\(Value.slice ai ins.length ci).ownBlock≠some I/\(Value.slice aw ys.length cw).ownBlock≠some I):=⟨by rw[ao];exact hS.fr.size,fun h=>by have:=hS.cm.2.2 _ h;omega,fun h=>by have:=(hS.rn _ h).2;omega,fun e=>by have:=aB hS.hq;omega,fun e=>by have:=(bn.lt _ e).2;omega,fun e=>by have:=(av.lt _ e).2;omega⟩
     have HS:Hid (LS A ns P kb O k gd od q7 d (E+(s.regions.map (iG d)).sum+n) Pw Rw wr kw ins ys id lv ai ci aw cw/\Below wr.heap.size wr W2/\W2.heap[I]?=some (.cells #[.pointer (some ⟨gy,n*7,none⟩),.int .i64 0,.int .i64 (-1)] 275 (0,0))/\jE A wr gy (n*7) y yp yq/\I=wr.heap.size):=⟨hS,cq,dq,bw,ao⟩
     have HY:Hid (s.ways[n]?=some y/\ys.length=n/\Z=((if 1<y.times then Em.kept 0 else pure (-1)) >>= fun p=>Em.jZ (bD L) (s.ways.drop (n+1)) >>= fun t=>pure ⟨s,(ys++[⟨y,eG (bD L) y.to,p⟩])++t,ins,id,lv⟩) kw/\(∀y∈ys,xK ns L.length y)/\ab=eG (bD L) y.to/\∀p,xK ns L.length ⟨y,eG (bD L) y.to,p⟩):=⟨hy,ap,by rw[ah,dT hy];exact congrFun (Q0 (g:=fun l=>pure ⟨s,l,ins,id,lv⟩)) kw,al,dj,fun p=>by
      have m:=aH8 hy
      obtain ⟨⟨t,ht⟩,_,h2⟩:=H0.out.2.2.1 y m
      have h1:=H0.out.1.wy y m
      have h3:=(tQ ht).1
      rw[nS] at h3
      exact ⟨h1.1,h1.2,by show 0≤eG (bD L) y.to/\eG (bD L) y.to<_;unfold eG;rw[ht];exact ⟨by simp,by simpa using h3⟩,h2⟩⟩
     obtain ⟨tm,cd⟩:∃tm,tm=y.times:=⟨_,rfl⟩
     have HT:Hid (tm=y.times):=cd
     clear cd dj hy bw dd hr ap ah al hS cq dq dh an kp hst cj hT bn cn av ax xi xw
     go_upto_region 14 with fail
     rw[<-ct,<-ao]
     clear ct ao e7 dk
     go_upto_region 15 with (go_at_call 159;refine ak.mono ?_;rintro e w3 ⟨rfl,h3⟩;have k3:=aD h3.out HS.out.2.2.1;have z1:=aA k3 1 rfl;have f1:=aG k3 1)
     obtain ⟨W4,bo⟩:∃W4,W4=w3.setCell ⟨I,1,none⟩ (.int .i64 ab):=⟨_,rfl⟩
     rw[<-bo]
     have k4:W4.heap[I]?=some (.cells #[.pointer (some ⟨gy,n*7,none⟩),.int .i64 ab,.int .i64 (-1)] 275 (0,0)):=by
      rw[bo]
      exact cH (l:=[Value.pointer (some ⟨gy,n*7,none⟩),.int .i64 0,.int .i64 (-1)]) (aD h3.out HS.out.2.2.1) 1 (.int .i64 ab)
     have S3:=(HS.out.1.below HS.out.2.1).below h3.out
     have S4:LS A ns P kb O k gd od q7 d (E+(s.regions.map (iG d)).sum+n) Pw Rw W4 kw ins ys id lv ai ci aw cw:=by rw[bo];exact S3.loc D.out.1 QQ.out 1 _
     have eu:∀x,A x->x≠I:=fun x hx e=>by have:=D.out.1 x hx;have:=QQ.out.1;omega
     have ep:bB A A wr W4:=fun x hx hl=>⟨hx,by rw[bo,Below.heap_setCell _ _ _ _ (eu x hx),h3.out.block x (aH3 hl HS.out.2.1.size),HS.out.2.1.block x hl]⟩
     have dm:A gy:=(ce.out.1 (by omega)).2
     have bm:=jE.carry ep dm HS.out.2.2.2.1
     have c3:W4.cell? ⟨gy,n*7+3,none⟩=some (.int .i64 (tm:Int)):=by rw[HT.out];exact bm.2.2.2.1
     have b0:=aA k4 0 rfl
     have af:E+(s.regions.map (iG d)).sum+n<1000000:=by
      have h1:=HH.out.2.2.2.2.1
      unfold jG at h1
      have:=HE.out.2.2.1
      omega
     have ba:=yX S4.cm af (x:=0) (by unfold jF;omega)
     have J:Hid (LS A ns P kb O k gd od q7 d (E+(s.regions.map (iG d)).sum+n) Pw Rw W4 kw ins ys id lv ai ci aw cw/\W4.heap[I]?=some (.cells #[.pointer (some ⟨gy,n*7,none⟩),.int .i64 ab,.int .i64 (-1)] 275 (0,0))/\jE A W4 gy (n*7) y yp yq/\A gy/\E+(s.regions.map (iG d)).sum+n<1000000):=⟨S4,k4,bm,dm,af⟩
     clear bo k4 S3 S4 eu ep dm bm HS h3 ak c5 a0 af
     by_cases cd:1<tm
     ·go_upto_region 17 with (go_at_call 115;refine ba.mono ?_;rintro e w5 ⟨rfl,h5⟩;have k5:=h5.out.2.heap J.out.2.1 QQ.out.2.1;have z2:=aA k5 2 rfl;have f2:=aG k5 2)
      obtain ⟨X,hX⟩:∃X,X=w5.setCell ⟨I,2,none⟩ (.int .i64 kw.net.places):=⟨_,rfl⟩
      rw[<-hX]
      have S5:=LS.coder D.out.2.1 J.out.1 h5.out.1 (fun x hx=>hx) (R':=fun _=>False) (fun _ _ h=>h) (fun _ h=>h.elim) h5.out.2 (by show kw.net.places≤kw.net.places+1;omega)
      have q4:I<W4.heap.size:=aB J.out.2.1
      have S6:LS A ns P kb O k gd od q7 d (E+(s.regions.map (iG d)).sum+(n+1)) (Up Pw W4 w5) (fun x=>Rw x\/False) X (bF (aU kw 0) kw.net.places) ins ys id lv ai ci aw cw:=by
       rw[hX,<-Nat.add_assoc]
       exact S5.loc D.out.1 ⟨QQ.out.1,fun h=>h.elim QQ.out.2.1 fun h=>by omega,fun h=>h.elim QQ.out.2.2.1 fun h=>h,QQ.out.2.2.2⟩ 2 _
      have k6:X.heap[I]?=some (.cells #[.pointer (some ⟨gy,n*7,none⟩),.int .i64 ab,.int .i64 kw.net.places] 275 (0,0)):=by
       rw[hX]
       exact cH (l:=[Value.pointer (some ⟨gy,n*7,none⟩),.int .i64 ab,.int .i64 (-1)]) (h5.out.2.heap J.out.2.1 QQ.out.2.1) 2 (.int .i64 kw.net.places)
      have ek:bB A A W4 X:=fun x hx hl=>⟨hx,by rw[hX,Below.heap_setCell _ _ _ _ (show x≠I from fun e=>by have:=D.out.1 x hx;have:=QQ.out.1;omega)];exact h5.out.2.block x hl fun hp=>br x hp hx⟩
      have HX:Hid (LS A ns P kb O k gd od q7 d (E+(s.regions.map (iG d)).sum+(n+1)) (Up Pw W4 w5) (fun x=>Rw x\/False) X (bF (aU kw 0) kw.net.places) ins ys id lv ai ci aw cw/\X.heap[I]?=some (.cells #[.pointer (some ⟨gy,n*7,none⟩),.int .i64 ab,.int .i64 kw.net.places] 275 (0,0))/\jE A X gy (n*7) y yp yq/\A gy):=⟨S6,k6,jE.carry ek J.out.2.2.2.1 J.out.2.2.1,J.out.2.2.2.1⟩
      have dy:Hid (Z=(Em.jZ (bD L) (s.ways.drop (n+1)) >>= fun t=>pure ⟨s,(ys++[⟨y,eG (bD L) y.to,kw.net.places⟩])++t,ins,id,lv⟩) (bF (aU kw 0) kw.net.places)):=by
       have h:=HY.out.2.2.1
       rw[if_pos (by rw[<-HT.out];exact cd)] at h
       exact h.trans (I0 (Ii kw 0))
      obtain ⟨lf,fk⟩:∃lf,lf=kw.net.places:=⟨_,rfl⟩
      clear hX S5 S6 k6 ek h5 ba c3 b0 J q4 fk
      obtain ⟨xw,av,ax⟩:=HX.out.1.rwy
      have de:=aB HX.out.1.hq
      have x1:X.cell? ⟨q7,1,none⟩=some (.slice aw n cw):=by rw[<-HY.out.2.1];exact aA HX.out.1.hq 1 rfl
      have bj:X.ownsRow 0 275 3 (.slice aw n cw) n xw:=by rw[<-HY.out.2.1];exact av
      have dz:Hid (Rows (Iy A X) ys xw):=ax
      have b0:=aA HX.out.2.1 0 rfl
      have b1:=aA HX.out.2.1 1 rfl
      have b2:=aA HX.out.2.1 2 rfl
      clear av ax
      go_wp2_with (at_builtin;refine wpList_append_own_at _ rfl (.tmp 103) (.tmp 105) 233 rfl 0 275 j0 _ 3 24 Tryz.underlying233 eq eo fe fc rfl (by decide) _ _ _ rfl (bj.alloc _) ⟨X.heap.size,0,none⟩ 1 1 [.pointer (some ⟨gy,n*7,none⟩),.int .i64 ab,.int .i64 kw.net.places] rfl rfl (eN _ _ _) (by intro u hu;simp at hu;rcases hu with rfl|rfl|rfl<;>rfl) (by unfold maxLen;omega) (by omega) (by simp) ?_;intro v6 w6 ae Q _ bq;obtain ⟨a6,m6,e6⟩:=aP ae;subst e6;have am:w6.heap[q7]?=X.heap[q7]?:=by { rw[Q.block q7 (by simp;omega) (fun e=>(HX.out.1.ow q7 (by rw[HY.out.2.1];exact e.symm)).2.2.2.1 rfl),Below.heap_alloc _ _ _ de] };have au:=am.trans HX.out.1.hq;have z1:=aA au 1 rfl;have f1:=aG au 1)
      go_roundg (N-(n+1))
      case measure=>omega
      case rel=>
       have ac:=LS.appW HX.out.1 D.out.1 (w5:=w6) (a5:=a6) (c5:=m6) (gy:=gy) (oy:=n*7) (pc:=yp) (qs:=yq) (y:=⟨y,eG (bD L) y.to,kw.net.places⟩) (xw:=xw) dz.out HX.out.2.2.2 HX.out.2.2.1 (by rw[HY.out.2.1];show w6.ownsRow _ _ _ _ _ (xw++[_,.int .i64 (eG (bD L) y.to),_]);rw[<-HY.out.2.2.2.2.1];exact ae) (by rw[HY.out.2.1];exact Q) (by rw[HY.out.2.1];exact bq)
       rw[HY.out.2.1] at ac
       exact ⟨n+1,(bF (aU kw 0) kw.net.places),ys++[⟨y,eG (bD L) y.to,kw.net.places⟩],a6,m6,by omega,by omega,by go_num,by rw[aH7,HY.out.2.1];rfl,dy.out,fun z hz=>(aJ6.1 hz).elim (HY.out.2.2.2.1 z) fun h=>by rw[aI1.1 h];exact HY.out.2.2.2.2.2 _,_,_,ac⟩
     ·clear ba
      go_upto_region 17 with fail
      have HX:Hid (LS A ns P kb O k gd od q7 d (E+(s.regions.map (iG d)).sum+(n+1)) Pw Rw W4 kw ins ys id lv ai ci aw cw/\W4.heap[I]?=some (.cells #[.pointer (some ⟨gy,n*7,none⟩),.int .i64 ab,.int .i64 (-1)] 275 (0,0))/\jE A W4 gy (n*7) y yp yq/\A gy):=⟨J.out.1.moreE (by omega) (by have:=J.out.2.2.2.2;omega),J.out.2.1,J.out.2.2.1,J.out.2.2.2.1⟩
      have dy:Hid (Z=(Em.jZ (bD L) (s.ways.drop (n+1)) >>= fun t=>pure ⟨s,(ys++[⟨y,eG (bD L) y.to,-1⟩])++t,ins,id,lv⟩) kw):=by
       have h:=HY.out.2.2.1
       rw[if_neg (by rw[<-HT.out];exact cd)] at h
       rw[pure_bind] at h
       exact h
      obtain ⟨X,hX⟩:∃X,X=W4:=⟨_,rfl⟩
      rw[<-hX] at HX ⊢
      clear hX J c3 b0
      obtain ⟨xw,av,ax⟩:=HX.out.1.rwy
      have de:=aB HX.out.1.hq
      have x1:X.cell? ⟨q7,1,none⟩=some (.slice aw n cw):=by rw[<-HY.out.2.1];exact aA HX.out.1.hq 1 rfl
      have bj:X.ownsRow 0 275 3 (.slice aw n cw) n xw:=by rw[<-HY.out.2.1];exact av
      have dz:Hid (Rows (Iy A X) ys xw):=ax
      have b0:=aA HX.out.2.1 0 rfl
      have b1:=aA HX.out.2.1 1 rfl
      have b2:=aA HX.out.2.1 2 rfl
      clear av ax
      go_wp2_with (at_builtin;refine wpList_append_own_at _ rfl (.tmp 103) (.tmp 105) 233 rfl 0 275 j0 _ 3 24 Tryz.underlying233 eq eo fe fc rfl (by decide) _ _ _ rfl (bj.alloc _) ⟨X.heap.size,0,none⟩ 1 1 [.pointer (some ⟨gy,n*7,none⟩),.int .i64 ab,.int .i64 (-1)] rfl rfl (eN _ _ _) (by intro u hu;simp at hu;rcases hu with rfl|rfl|rfl<;>rfl) (by unfold maxLen;omega) (by omega) (by simp) ?_;intro v6 w6 ae Q _ bq;obtain ⟨a6,m6,e6⟩:=aP ae;subst e6;have am:w6.heap[q7]?=X.heap[q7]?:=by { rw[Q.block q7 (by simp;omega) (fun e=>(HX.out.1.ow q7 (by rw[HY.out.2.1];exact e.symm)).2.2.2.1 rfl),Below.heap_alloc _ _ _ de] };have au:=am.trans HX.out.1.hq;have z1:=aA au 1 rfl;have f1:=aG au 1)
      go_roundg (N-(n+1))
      case measure=>omega
      case rel=>
       have ac:=LS.appW HX.out.1 D.out.1 (w5:=w6) (a5:=a6) (c5:=m6) (gy:=gy) (oy:=n*7) (pc:=yp) (qs:=yq) (y:=⟨y,eG (bD L) y.to,(-1)⟩) (xw:=xw) dz.out HX.out.2.2.2 HX.out.2.2.1 (by rw[HY.out.2.1];show w6.ownsRow _ _ _ _ _ (xw++[_,.int .i64 (eG (bD L) y.to),_]);rw[<-HY.out.2.2.2.2.1];exact ae) (by rw[HY.out.2.1];exact Q) (by rw[HY.out.2.1];exact bq)
       rw[HY.out.2.1] at ac
       exact ⟨n+1,kw,ys++[⟨y,eG (bD L) y.to,(-1)⟩],a6,m6,by omega,by omega,by go_num,by rw[aH7,HY.out.2.1];rfl,dy.out,fun z hz=>(aJ6.1 hz).elim (HY.out.2.2.2.1 z) fun h=>by rw[aI1.1 h];exact HY.out.2.2.2.2.2 _,_,_,ac⟩
    ·have ee:Z=some ((⟨s,ys,ins,id,lv⟩:eR (St d) (Rg d)),kw):=by
      rw[ah,aP3 (by rw[<-HE.out.2.2.1];omega)]
      show (pure (⟨s,ys++[],ins,id,lv⟩:eR (St d) (Rg d)):Em.M _) kw=_
      rw[List.append_nil]
      rfl
     have ad:=hS.fr.heap D.out.2.2.2.2.2.2 D.out.2.2.2.2.1
     have HS:Hid (LS A ns P kb O k gd od q7 d (E+(s.regions.map (iG d)).sum+n) Pw Rw wr kw ins ys id lv ai ci aw cw):=hS
     have HF:Hid (Z=some ((⟨s,ys,ins,id,lv⟩:eR (St d) (Rg d)),kw)/\(∀y∈ys,xK ns L.length y)/\ys.length=n/\wr.heap[q6]?=some (.cells #[.pointer none,.slice none 0 0,.slice none 0 0,.bool false,.bool false] 236 (0,0))):=⟨ee,al,ap,ad⟩
     obtain ⟨nw,ds⟩:∃nw,nw=ys.length:=⟨_,rfl⟩
     obtain ⟨ni,dp⟩:∃ni,ni=ins.length:=⟨_,rfl⟩
     have HN:Hid (nw=ys.length/\ni=ins.length):=⟨ds,dp⟩
     have bb:=hS.hq
     rw[<-ds,<-dp] at bb
     have g0:=aA bb 0 rfl
     have g1:=aA bb 1 rfl
     have g2:=aA bb 2 rfl
     have g3:=aA bb 3 rfl
     have g4:=aA bb 4 rfl
     have p0:=aA ad 0 rfl
     have p1:=aA ad 1 rfl
     have p2:=aA ad 2 rfl
     have p3:=aA ad 3 rfl
     have p4:=aA ad 4 rfl
     have f0:=aG ad 0
     have f1:=aG ad 1
     have f2:=aG ad 2
     have f3:=aG ad 3
     have f4:=aG ad 4
     clear ee hr ap ah al hS ds dp bb ad an kp
     go_wp2_with fail
     obtain ⟨WF,cc⟩:∃WF,WF=((((wr.setCell ⟨q6,0,none⟩ (.pointer (some ⟨gd,od,none⟩))).setCell ⟨q6,1,none⟩ (.slice aw nw cw)).setCell ⟨q6,2,none⟩ (.slice ai ni ci)).setCell ⟨q6,3,none⟩ (.bool id)).setCell ⟨q6,4,none⟩ (.bool lv):=⟨_,rfl⟩
     have kF:WF.heap[q6]?=some (.cells #[.pointer (some ⟨gd,od,none⟩),.slice aw nw cw,.slice ai ni ci,.bool id,.bool lv] 236 (0,0)):=by
      rw[cc]
      have h0:=cH (l:=[Value.pointer none,.slice none 0 0,.slice none 0 0,.bool false,.bool false]) HF.out.2.2.2 0 (.pointer (some ⟨gd,od,none⟩))
      have h1:=cH (l:=[Value.pointer (some ⟨gd,od,none⟩),.slice none 0 0,.slice none 0 0,.bool false,.bool false]) h0 1 (.slice aw nw cw)
      have h2:=cH (l:=[Value.pointer (some ⟨gd,od,none⟩),.slice aw nw cw,.slice none 0 0,.bool false,.bool false]) h1 2 (.slice ai ni ci)
      have h3:=cH (l:=[Value.pointer (some ⟨gd,od,none⟩),.slice aw nw cw,.slice ai ni ci,.bool false,.bool false]) h2 3 (.bool id)
      exact cH (l:=[Value.pointer (some ⟨gd,od,none⟩),.slice aw nw cw,.slice ai ni ci,.bool id,.bool false]) h3 4 (.bool lv)
     have ew:bM (fun x=>x=q6) wr WF:=by
      rw[cc]
      have st:∀(W:World) (j:Nat) (v:Value),bM (fun x=>x=q6) wr W->bM (fun x=>x=q6) wr (W.setCell ⟨q6,j,none⟩ v):=fun W j v h=>h.setCell (p:=⟨q6,j,none⟩) (.inl rfl) v
      exact st _ _ _ (st _ _ _ (st _ _ _ (st _ _ _ (st _ _ _ (bM.refl _ _)))))
     have bh:∀(W:World) (a:Addr) (v:Value),(W.setCell a v).heap.size=W.heap.size:=fun W a v=>by simp[World.setCell]
     have ff:WF.heap.size=wr.heap.size:=by rw[cc,bh,bh,bh,bh,bh]
     clear bh
     rw[<-cc]
     have ec:Hid (bM (fun x=>x=q6) wr WF/\WF.heap.size=wr.heap.size):=⟨ew,ff⟩
     refine aX5 (Dy _ _ q6 #[.pointer (some ⟨gd,od,none⟩),.slice aw nw cw,.slice ai ni ci,.bool id,.bool lv] rfl rfl kF) rfl ?_
     clear cc kF ew ff g0 g1 g2 g3 g4 p0 p1 p2 p3 p4 f0 f1 f2 f3 f4
     obtain ⟨R,t1,t2,t3,t4,t5,t6,t7⟩:=HS.out.done (s:=s) (q6:=q6) (w0:=w) (wf:=WF) HH.out.2.2.2.1 U.out.1 U.out.2.2 U.out.2.1 HH.out.2.2.1.2.2 ⟨HD.out.1,HD.out.2.1,⟨_,HD.out.2.2.1⟩,⟨_,HD.out.2.2.2.1⟩,⟨_,HD.out.2.2.2.2.1⟩,⟨_,HD.out.2.2.2.2.2.1⟩⟩ ec.out.1 ec.out.2
     have eE:E+(s.regions.map (iG d)).sum+n=E+jG (iG d) s:=by
      unfold jG
      have:=HE.out.2.2.1
      omega
     rw[eE] at t1
     refine ⟨aw,nw,cw,ai,ni,ci,id,lv,rfl,?_⟩
     rw[HN.out.1,HN.out.2]
     exact ⟨⟨s,ys,ins,id,lv⟩,kw,Pw,R,HZ.out.symm.trans HF.out.1,rfl,rfl,t1,t2,t3,t4,t5,t6,t7,⟨H0.out.1.en,H0.out.1.du,H0.out.1.le,H0.out.1.re,HF.out.2.1,by show ys.length≤1000000;have:=HF.out.2.2.1;omega,HK.out.2,HK.out.1⟩⟩
end
end Ew
end Go.Proofs.YthieaobjdpfcoaaGreatDoor
