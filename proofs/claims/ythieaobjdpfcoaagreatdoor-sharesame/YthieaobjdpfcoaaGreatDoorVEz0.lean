import Derived.Test.YthieaobjdpfcoaaGreatDoorVEy1
set_option maxRecDepth 100000
set_option maxHeartbeats 16000000
namespace Go.Proofs.YthieaobjdpfcoaaGreatDoor
section
open Go.RowKit Px
namespace Ew
open Px.Em (Kd Vr eQ eR jP Rg cX)
open Nx (Nt Sp)
section
variable {A P Pj Rj:Nat->Prop}{w wr w':World}{ns:List bE}{kb gd od q7 d E:Nat}{k kj:Kd}{ins:List (Rg d)}{ys:List eQ}{id lv:Bool}{ai aw:Option Addr}{ci cw:Nat}
theorem Q3 (ih:zT A kb ns d) {q3:Nat}{vl:Value}{L:List (cF (St d))}{s:cF (St d)}(hL:aM A w (d+1) L vl) (bk:w.cell? ⟨q3,0,none⟩=some vl/\¬P q3) {i:Nat}{ve vd fi:Value}{p ay ar:Option Addr}{gy be ag:Nat}(fg:od=i*9) (ef:A gd) (hm:Ns A w gd i s ve vd fi p ay ar gy be ag) (ea:gP A w (aM A w d) s.regions (.slice ar s.regions.length ag)) (ff:0<s.ways.length->A gy)
    (bg:oJ ns s/\(∀r∈s.regions,rO ns d r/\vW d r/\rN d r)/\(∀y∈s.ways,(∃t,jT (bD L) y.to=some t)/\y.to.length≤maxLen/\y.times≤1000000)/\s.ways.length≤1000000/\s.regions.length≤1000000/\s.during.length≤1000000/\s.leave.length≤1000000) (h:eK E ns P w kb k) (hR:Ro A P w) (hE:E+jG (iG d) s<1000000) :
 Calls Tryz.prog 161 #[.pointer (some ⟨kb,0,none⟩),.pointer (some ⟨gd,od,none⟩),.func (.func 159) #[] #[.pointer (some ⟨q3,0,none⟩)]] w fun e w'=>∃aw nw cw ai ni ci id lv,e=.returned (.agg #[.pointer (some ⟨gd,od,none⟩),.slice aw nw cw,.slice ai ni ci,.bool id,.bool lv])/\
     Hid (∃(st:eR (St d) (Rg d)) (k':Kd) (P' R:Nat->Prop),Em.jD (Em.aJ d) (bD L) s k=some (st,k')/\st.idle=id/\st.leaves=lv/\eK (E+jG (iG d) s) ns P' w' kb k'/\(∀x,P' x->Up P w w' x)/\(∀x,P' x->¬R x)/\(∀x,R x->w.heap.size≤x/\x<w'.heap.size)/\bM P w w'/\k.net.places≤k'.net.places/\Vo (fun x=>A x\/R x) w' st gd od (.slice aw nw cw) (.slice ai ni ci)/\B9 ns L.length (eS ns d) st):=by
 obtain ⟨Z,hZ⟩:=gQx (Em.jD (Em.aJ d) (bD L) s k)
 have HZ:Hid (Z=Em.jD (Em.aJ d) (bD L) s k):=hZ
 obtain ⟨c0,c1,c2,c3,c4,c5,c6,c7,c8,he,eb,dw,hp,dh⟩:=hm
 rw[<-fg] at c0 c1 c2 c3 c4 c5 c6 c7 c8
 obtain ⟨a3,g3,p3,rfl,m3,_⟩:=cJ.opn he
 obtain ⟨a4,g4,p4,rfl,m4,_⟩:=cJ.opn eb
 obtain ⟨a5,g5,p5,rfl,m5,_⟩:=cJ.opn dw
 obtain ⟨fu,bh,fj,er,eq,cy,ao⟩:=ea.len
 have fo:ar=fu:=by injection er
 have fp:ag=fj:=by injection er
 subst fo fp
 have da:0<s.regions.length->A bh:=fun hp=>by
  obtain ⟨xs,hr,_⟩:=ea
  exact hr.2 bh (by rw[(cy hp).1];rfl)
 obtain ⟨dl,cb⟩:=gQx s.during.length
 obtain ⟨ll,bq⟩:=gQx s.leave.length
 obtain ⟨N,hN⟩:=gQx s.ways.length
 obtain ⟨M,hM⟩:=gQx s.regions.length
 rw[<-cb] at c4 m4
 rw[<-bq] at c5 m5
 rw[<-hN] at c7
 rw[<-hM] at c8 eq cy
 obtain ⟨ac,bz⟩:=gQx (decide (dl+N=0))
 obtain ⟨aa,cd⟩:=gQx (decide (0<ll))
 have fy:N≤1000000:=by rw[hN];exact bg.2.2.2.1
 have fz:M≤1000000:=by rw[hM];exact bg.2.2.2.2.1
 have gf:dl≤1000000:=by rw[cb];exact bg.2.2.2.2.2.1
 have fx:ll≤1000000:=by rw[bq];exact bg.2.2.2.2.2.2
 have em:True:=trivial
 clear em
 have eg:(IntKind.i64.wrap ((dl:Int)+(N:Int))==0)=ac:=by rw[bz,IntKind.wrap_i64,Bool.eq_iff_iff];simp;omega
 have ey:decide (0<ll)=aa:=cd.symm
 obtain ⟨i0,fn,ft,fw,fl⟩:=aZ1 Xz
 obtain ⟨j0,ed,fe,ev,fa⟩:=aZ1 Xx
 obtain ⟨Q,bw⟩:=gQx (w.alloc (.cells #[.pointer none,.slice none 0 0,.slice none 0 0,.bool false,.bool false] 236))
 obtain ⟨q6,cu⟩:=gQx w.heap.size
 have bi:Below w.heap.size w Q:=by rw[bw];exact aL _ _
 have al:Q.heap[q6]?=some (.cells #[.pointer none,.slice none 0 0,.slice none 0 0,.bool false,.bool false] 236 (0,0)):=by rw[bw,cu];exact aX w _
 have d4:=aN bi c4
 have d5:=aN bi c5
 have d7:=aN bi c7
 have d8:=aN bi c8
 have ez:Hid ((IntKind.i64.wrap ((dl:Int)+(N:Int))==0)=ac/\decide (0<ll)=aa):=⟨eg,ey⟩
 clear eg ey
 have HE:Hid (dl=s.during.length/\ll=s.leave.length/\N=s.ways.length/\M=s.regions.length/\ac=decide (dl+N=0)/\aa=decide (0<ll)):=⟨cb,bq,hN,hM,bz,cd⟩
 have HD:Hid (A gd/\w.cell? ⟨gd,od+2,none⟩=some (.bool s.last)/\(w.cell? ⟨gd,od+3,none⟩=some (.slice a3 s.enter.length p3)/\cJ A w s.enter (.slice a3 s.enter.length p3))/\(w.cell? ⟨gd,od+4,none⟩=some (.slice a4 dl p4)/\cJ A w s.during (.slice a4 dl p4))/\(w.cell? ⟨gd,od+5,none⟩=some (.slice a5 ll p5)/\cJ A w s.leave (.slice a5 ll p5))/\(w.cell? ⟨gd,od+6,none⟩=some (.pointer p)/\jR A w s.rests (.pointer p))/\w.cell? ⟨gd,od+7,none⟩=some (.slice ay N be)/\w.cell? ⟨gd,od+8,none⟩=some (.slice ar M ag)):=⟨ef,c2,⟨c3,he⟩,⟨c4,by rw[cb];exact eb⟩,⟨c5,by rw[bq];exact dw⟩,⟨c6,hp⟩,c7,c8⟩
 have dk:Hid ((0<M->ar=some ⟨bh,0,none⟩/\A bh)/\∀(i:Nat) (r:List (St d)),s.regions[i]?=some r->∃u,w.cell? ⟨bh,i,none⟩=some u/\aM A w d r u):=⟨fun hp=>⟨(cy hp).1,da (by omega)⟩,ao⟩
 have cf:Hid ((0<N->ay=some ⟨gy,0,none⟩/\A gy)/\∀m y,s.ways[m]?=some y->∃p q,jE A w gy (m*7) y p q):=⟨fun hp=>⟨(dh.2.1 (by omega)).1,ff (by omega)⟩,dh.2.2⟩
 have HH:Hid (aM A w (d+1) L vl/\(w.cell? ⟨q3,0,none⟩=some vl/\¬P q3)/\eK E ns P w kb k/\Ro A P w/\E+jG (iG d) s<1000000/\zT A kb ns d):=⟨hL,bk,h,hR,hE,ih⟩
 have H0:Hid (oJ ns s/\(∀r∈s.regions,rO ns d r/\vW d r/\rN d r)/\(∀y∈s.ways,(∃t,jT (bD L) y.to=some t)/\y.to.length≤maxLen/\y.times≤1000000)/\s.ways.length≤1000000/\s.regions.length≤1000000/\s.during.length≤1000000/\s.leave.length≤1000000):=bg
 clear cb bq hN hM bz cd fg hZ ef c0 c1 c2 c3 c4 c5 c6 c7 c8 he eb dw hp dh ao cy ea er da hL bk h hR hE ih bg ff m3 m4 m5 eq
 go_enter Tryz.func161,Tryz.ntmps161
 go_upto_region 1 with fail
 rw[<-bw,<-cu]
 have Y:Hid (Below w.heap.size w Q/\q6=w.heap.size/\Q.heap.size=w.heap.size+1):=⟨bi,cu,by rw[bw];simp⟩
 clear bw cu bi
 go_region_held3 (fun W=>W.cell? ⟨gd,od+4,none⟩=some (.slice a4 dl p4)/\W.cell? ⟨gd,od+7,none⟩=some (.slice ay N be)/\W.cell? ⟨gd,od+5,none⟩=some (.slice a5 ll p5)) (first|exact ⟨d4,d7,d5⟩|go_keep) (fail)
 rw[ez.out.1,ez.out.2]
 generalize IntKind.i64.wrap ((dl:Int)+(N:Int))=zz
 obtain ⟨W7,cv⟩:=gQx ((Q.alloc (.cells #[.pointer (some ⟨gd,od,none⟩),.slice none 0 0,.slice none 0 0,.bool ac,.bool aa] 236)).drew)
 obtain ⟨q7,ct⟩:=gQx Q.heap.size
 have cz:Below Q.heap.size Q W7:=by rw[cv];exact (aL _ _).drew
 have av:W7.heap[q7]?=some (.cells #[.pointer (some ⟨gd,od,none⟩),.slice none 0 0,.slice none 0 0,.bool ac,.bool aa] 236 (0,0)):=by rw[cv,ct];exact aX Q _
 have cc:∀x,P x->x<Q.heap.size:=fun x hx=>by have:=HH.out.2.2.1.2.2 x hx;have:=Y.out.2.2;omega
 have di:∀x,A x->x<Q.heap.size:=fun x hx=>by have:=(HH.out.2.2.2.1 x hx).1;have:=Y.out.2.2;omega
 have fs:Hid (LS A ns P kb Q k gd od q7 d E P (fun _=>False) W7 k [] [] ac aa none 0 none 0):=
  ⟨(HH.out.2.2.1.below Y.out.1).below cz,fun x hx=>.inl hx,fun _ _ h=>h,fun _ h=>h.elim,bM.of_below cz,Int.le_refl _,av,⟨by rw[ct];exact aO4 _,fun hp=>absurd (cc q7 hp) (by omega),id⟩,⟨[],aY7 _ _ _ _,rfl⟩,fun x hx=>by simp[Value.ownBlock] at hx,⟨[],aY7 _ _ _ _,rfl⟩,fun x hx=>by simp[Value.ownBlock] at hx⟩
 have I:Hid ((∀x,A x->x<Q.heap.size)/\Ro A P Q/\bB A A w Q/\(∀x,P x->x<Q.heap.size)/\¬P q6/\q6<Q.heap.size/\Q.heap[q6]?=some (.cells #[.pointer none,.slice none 0 0,.slice none 0 0,.bool false,.bool false] 236 (0,0))):=⟨di,fun x hx=>⟨di x hx,(HH.out.2.2.2.1 x hx).2⟩,fun x hx hl=>⟨hx,Y.out.1.block x hl⟩,cc,fun hp=>by have:=HH.out.2.2.1.2.2 q6 hp;have:=Y.out.2.1;omega,by have:=Y.out.2;omega,al⟩
 have e8:W7.cell? ⟨gd,od+8,none⟩=some (.slice ar M ag):=aN cz d8
 rw[<-cv,<-ct]
 clear cv ct cz av cc di d4 d5 d7 d8 al
 go_upto_region 3 with fail
 clear e8
 go_loopg [38] M (fun f i wr=>∃(j:Nat) (kj:Kd) (ins:List (Rg d)) (id lv:Bool) (ai:Option Addr) (ci:Nat),f=M-j/\j≤M/\i=.int .i64 (j:Int)/\Hid (ins.length=j/\Z=(Em.pW (Em.aJ d) (s.regions.drop j) >>= fun t=>Zm (bD L) s (ins++t)) kj/\id=(ac&&ins.all (Em.aJ d).idle)/\lv=(aa||ins.any (Em.aJ d).leaves)/\(∀r∈ins,eS ns d r)/\∃Pj Rj,LS A ns P kb Q k gd od q7 d (E+((s.regions.take j).map (iG d)).sum) Pj Rj wr kj ins [] id lv ai ci none 0))
 case atStart=>exact ⟨0,k,[],ac,aa,none,0,by omega,by omega,rfl,rfl,by rw[HZ.out,Aw];rfl,by simp,by simp,fun _ h=>by simp at h,P,_,by simpa using fs.out⟩
 case round=>
  obtain ⟨j,kj,ins,id,lv,ai,ci,rfl,hj,rfl,hr⟩:=hrel
  obtain ⟨ap,ak,aj,cr,cq,Pj,Rj,hS⟩:=hr.out
  by_cases hlt:j<M
  ·obtain ⟨r,ao⟩:∃r:List (St d),s.regions[j]?=some r:=⟨_,aN4 (by rw[<-HE.out.2.2.2.1];exact hlt)⟩
   obtain ⟨u,c0,hu⟩:=dk.out.2 j r ao
   have am:bB A A Q wr:=I.out.2.1.keep hS.fr
   have kp:bB A A w wr:=I.out.2.2.1.trans am Y.out.1.size
   have c0:=cL kp (dk.out.1 (by omega)).2 c0
   have hu:=hu.carry kp
   have de:=K8 ar bh M ag j hlt (fun hp=>(dk.out.1 hp).1)
   have cx:=H0.out.2.1 r (aP1 ao)
   have ek:Ro A Pj wr:=fun x hx=>⟨aO5 (I.out.1 x hx) hS.fr.size,fun hp=>(hS.up x hp).elim (I.out.2.1 x hx).2 fun h=>absurd h.1 (by have:=I.out.1 x hx;omega)⟩
   have ah:(E+((s.regions.take j).map (iG d)).sum)+iG d r<1000000:=by
    have h1:=HH.out.2.2.2.2.1
    have h2:=mK (iG d) ao
    unfold jG at h1
    omega
   have dd:=HH.out.2.2.2.2.2 hu cx.2.1 cx.1 cx.2.2 hS.cm ek ah
   have HJ:Hid (LS A ns P kb Q k gd od q7 d (E+((s.regions.take j).map (iG d)).sum) Pj Rj wr kj ins [] id lv ai ci none 0/\s.regions[j]?=some r/\ins.length=j/\Z=((Em.aJ d).lay r >>= fun x=>Em.pW (Em.aJ d) (s.regions.drop (j+1)) >>= fun t=>Zm (bD L) s ((ins++[x])++t)) kj/\id=(ac&&ins.all (Em.aJ d).idle)/\lv=(aa||ins.any (Em.aJ d).leaves)/\∀r∈ins,eS ns d r):=⟨hS,ao,ap,by rw[ak,dT ao,Fg],aj,cr,cq⟩
   clear hr ap ak aj cr cq hS ao hu am kp cx ek ah
   go_upto_region 6 with (go_at_call 116;refine dd.mono ?_;rintro e w1 ⟨g1,rfl,h1⟩)
   obtain ⟨r1,k1,P1,R1,hz,L1⟩:=h1.out
   obtain ⟨hg,f4,f5⟩:=fH.flags d L1.rg
   obtain ⟨ck,bj⟩:=gQx ((Em.aJ d).idle r1)
   obtain ⟨bn,ca⟩:=gQx ((Em.aJ d).leaves r1)
   rw[<-bj] at f4
   rw[<-ca] at f5
   have S1:LS A ns P kb Q k gd od q7 d (E+((s.regions.take (j+1)).map (iG d)).sum) P1 (fun x=>Rj x\/R1 x) w1 k1 ins [] id lv ai ci none 0:=by
    rw[mQ (iG d) HJ.out.2.1,<-Nat.add_assoc]
    exact LS.coder I.out.2.1 HJ.out.1 L1.cm L1.up L1.dr L1.rn L1.fr L1.pl
   have db:fH (fun x=>A x\/Rj x\/R1 x) d w1 r1 g1:=fH.carry d (fun x hx _=>⟨hx.elim .inl fun h=>.inr (.inr h),rfl⟩) r1 g1 L1.rg
   have ew:g1≠q7:=fun e=>by
    rcases hg with hg|hg
    ·have:=I.out.1 g1 hg;have:=S1.ql.1;omega
    ·exact S1.ql.2.2 (.inr (e▸hg))
   have bc:Hid (Z=(Em.pW (Em.aJ d) (s.regions.drop (j+1)) >>= fun t=>Zm (bD L) s ((ins++[r1])++t)) k1/\(id&&ck)=(ac&&(ins++[r1]).all (Em.aJ d).idle)/\(lv||bn)=(aa||(ins++[r1]).any (Em.aJ d).leaves)/\(∀r∈ins++[r1],eS ns d r)/\ins.length=j/\eS ns d r1):=by
    obtain ⟨_,_,g3,g4,g5,g6,g7⟩:=HJ.out
    refine ⟨?_,by rw[g5,bj];simp[Bool.and_assoc],by rw[g6,ca];simp[Bool.or_assoc],fun r hr=>?_,g3,L1.ok⟩
    ·rw[g4];exact I0 hz
    ·rcases aR2.1 hr with h|h
     ·exact g7 r h
     ·rw[aP5.1 h];exact L1.ok
   have S2:∀b,LS A ns P kb Q k gd od q7 d (E+((s.regions.take (j+1)).map (iG d)).sum) P1 (fun x=>Rj x\/R1 x) (w1.setCell ⟨q7,3,none⟩ (.bool b)) k1 ins [] b lv ai ci none 0:=fun b=>S1.flag I.out.1 (j:=3) rfl
   have S3:∀b c,LS A ns P kb Q k gd od q7 d (E+((s.regions.take (j+1)).map (iG d)).sum) P1 (fun x=>Rj x\/R1 x) ((w1.setCell ⟨q7,3,none⟩ (.bool b)).setCell ⟨q7,4,none⟩ (.bool c)) k1 ins [] b c ai ci none 0:=fun b c=>(S2 b).flag I.out.1 (j:=4) rfl
   have dt:Hid ((∀b c,LS A ns P kb Q k gd od q7 d (E+((s.regions.take (j+1)).map (iG d)).sum) P1 (fun x=>Rj x\/R1 x) ((w1.setCell ⟨q7,3,none⟩ (.bool b)).setCell ⟨q7,4,none⟩ (.bool c)) k1 ins [] b c ai ci none 0)/\∀b c,fH (fun x=>A x\/Rj x\/R1 x) d ((w1.setCell ⟨q7,3,none⟩ (.bool b)).setCell ⟨q7,4,none⟩ (.bool c)) r1 g1):=⟨S3,fun b c=>fH.carry d (fun x hx _=>⟨hx,by
    have:x≠q7:=fun e=>by
     rcases hx with hx|hx
     ·have:=I.out.1 x hx;have:=S1.ql.1;omega
     ·exact S1.ql.2.2 (e▸hx)
    rw[Below.heap_setCell _ _ _ _ this,Below.heap_setCell _ _ _ _ this]⟩) r1 g1 db⟩
   have x3:w1.cell? ⟨q7,3,none⟩=some (.bool id):=aF S1.hq 3 rfl
   have y3:=aG S1.hq 3
   have x4:∀b,(w1.setCell ⟨q7,3,none⟩ (.bool b)).cell? ⟨q7,4,none⟩=some (.bool lv):=fun b=>aF (S2 b).hq 4 rfl
   have y4:∀b,(w1.setCell ⟨q7,3,none⟩ (.bool b)).frozen? ⟨q7,4,none⟩=false:=fun b=>aG (S2 b).hq 4
   have fm:∀b,(w1.setCell ⟨q7,3,none⟩ (.bool b)).cell? ⟨g1,5,none⟩=some (.bool bn):=fun b=>by
    rw[aY6 (w:=w1) (a:=⟨g1,5,none⟩) (Below.heap_setCell _ _ _ _ ew)];exact f5
   clear f5 h1 hz L1 hg bj ca S1 db ew S2 S3 HJ dd de c0
   obtain ⟨m,dz⟩:=gQx ins.length
   have HM:Hid (m=ins.length/\m≤1000000):=⟨dz,by rw[dz,bc.out.2.2.2.2.1];omega⟩
   clear dz
   go_cut [] from 39 to 69 (fun wx=>∃b,wx=w1.setCell ⟨q7,3,none⟩ (.bool b)/\Hid (b=(id&&ck)))
   case first=>
    cases id
    all_goals
     go_wp2_with fail
     go_meet
     case rel=>exact ⟨_,rfl,rfl⟩
   case rest=>
    obtain ⟨b,rfl,hb⟩:=hcut
    go_upto_region 7 with fail
    go_cut [] from 39 to 69 (fun wx=>∃c,wx=(w1.setCell ⟨q7,3,none⟩ (.bool b)).setCell ⟨q7,4,none⟩ (.bool c)/\Hid (c=(lv||bn)))
    case first=>
     cases lv
     all_goals
      go_wp2_with fail
      go_meet
      case rel=>exact ⟨_,rfl,rfl⟩
    case rest=>
     obtain ⟨c,rfl,hc⟩:=hcut
     go_upto_region 8 with fail
     clear x3 y3 x4 y4 f4 fm
     obtain ⟨W3,fc⟩:=gQx ((w1.setCell ⟨q7,3,none⟩ (.bool b)).setCell ⟨q7,4,none⟩ (.bool c))
     have S3:=dt.out.1 b c
     have G3:=dt.out.2 b c
     rw[<-fc] at S3 G3 ⊢
     have ch:Hid (Z=(Em.pW (Em.aJ d) (s.regions.drop (j+1)) >>= fun t=>Zm (bD L) s ((ins++[r1])++t)) k1/\b=(ac&&(ins++[r1]).all (Em.aJ d).idle)/\c=(aa||(ins++[r1]).any (Em.aJ d).leaves)/\(∀r∈ins++[r1],eS ns d r)/\ins.length=j):=⟨bc.out.1,hb.out.trans bc.out.2.1,hc.out.trans bc.out.2.2.1,bc.out.2.2.2.1,bc.out.2.2.2.2.1⟩
     clear fc dt bc
     obtain ⟨xi,cj,cn⟩:=S3.ri
     have fh:=aB S3.hq
     have x2:W3.cell? ⟨q7,2,none⟩=some (.slice ai m ci):=by rw[HM.out.1];exact aF S3.hq 2 rfl
     have bv:W3.ownsRow 0 184 1 (.slice ai m ci) m xi:=by rw[HM.out.1];exact cj
     have gb:=HM.out.2
     have O:Hid (LS A ns P kb Q k gd od q7 d (E+((s.regions.take (j+1)).map (iG d)).sum) P1 (fun x=>Rj x\/R1 x) W3 k1 ins [] b c ai ci none 0/\Rows (Nw (fun x=>A x\/Rj x\/R1 x) W3) ins xi/\fH (fun x=>A x\/Rj x\/R1 x) d W3 r1 g1):=⟨S3,cn,G3⟩
     clear S3 cj cn G3
     go_wp2_with (at_builtin;refine wpList_append_own_at _ rfl (.tmp 64) (.tmp 66) 234 rfl 0 184 i0 _ 1 8 Tryz.underlying234 fn ft fw fl rfl (by decide) _ _ _ rfl (bv.alloc _) ⟨W3.heap.size,0,none⟩ 1 1 [.pointer (some ⟨g1,0,none⟩)] rfl rfl (eN _ _ _) (by intro u hu;simp at hu;subst hu;rfl) (by unfold maxLen;omega) (by omega) (by simp) ?_;intro v5 w5 bo U _ cg;obtain ⟨a5,m5,e5⟩:=aP bo;subst e5;have fk:w5.heap[q7]?=W3.heap[q7]?:=by { rw[U.block q7 (by simp;omega) (fun e=>(O.out.1.oi q7 (by rw[<-HM.out.1];exact e.symm)).2.2.2 rfl),Below.heap_alloc _ _ _ fh] };have al:=fk.trans O.out.1.hq;have z2:=aF al 2 rfl;have f2:=aG al 2)
     go_roundg (M-(j+1))
     case measure=>omega
     case rel=>
      have ad:=LS.appI O.out.1 I.out.1 (w5:=w5) (a5:=a5) (c5:=m5) (g:=g1) (r:=r1) (xi:=xi) O.out.2.1 O.out.2.2 (by rw[<-HM.out.1];exact bo) (by rw[<-HM.out.1];exact U) (by rw[<-HM.out.1];exact cg)
      rw[<-HM.out.1] at ad
      exact ⟨j+1,k1,ins++[r1],b,c,a5,m5,by omega,by omega,by go_num,by rw[aO9,ch.out.2.2.2.2];rfl,ch.out.1,ch.out.2.1,ch.out.2.2.1,ch.out.2.2.2.1,P1,_,ad⟩
  ·have ej:j=M:=by omega
   have am:bB A A Q wr:=I.out.2.1.keep hS.fr
   have kp:bB A A w wr:=I.out.2.2.1.trans am Y.out.1.size
   have e7:=cL kp HD.out.1 HD.out.2.2.2.2.2.2.1
   have HJ:Hid (Z=(Em.jZ (bD L) s.ways >>= fun ws=>pure ⟨s,ws,ins,id,lv⟩) kj/\(∀r∈ins,eS ns d r)/\ins.length≤1000000/\LS A ns P kb Q k gd od q7 d (E+(s.regions.map (iG d)).sum) Pj Rj wr kj ins [] id lv ai ci none 0):=by
    refine ⟨?_,cq,by omega,?_⟩
    ·rw[ak,aX1 (by rw[<-HE.out.2.2.2.1];omega)]
     show Zm (bD L) s (ins++[]) kj=_
     rw[List.append_nil,aj,cr,HE.out.2.2.2.2.1,HE.out.2.2.2.2.2,HE.out.1,HE.out.2.1,HE.out.2.2.1]
     rfl
    ·rw[List.take_of_length_le (by rw[<-HE.out.2.2.2.1];omega)] at hS
     exact hS
   clear hr ap ak aj cr cq hS am kp ej
   go_upto_region 11 with fail
   clear e7
   go_loopg [75] N (fun f i wr=>∃(D:Nat) (kw:Kd) (ys:List eQ) (aw:Option Addr) (cw:Nat),f=N-D/\D≤N/\i=.int .i64 (D:Int)/\Hid (ys.length=D/\Z=(Em.jZ (bD L) (s.ways.drop D) >>= fun t=>pure ⟨s,ys++t,ins,id,lv⟩) kw/\(∀y∈ys,xK ns L.length y)/\∃Pj Rj,LS A ns P kb Q k gd od q7 d (E+(s.regions.map (iG d)).sum+D) Pj Rj wr kw ins ys id lv ai ci aw cw))
   case atStart=>exact ⟨0,kj,[],none,0,by omega,by omega,rfl,rfl,HJ.out.1,fun _ h=>by simp at h,Pj,Rj,HJ.out.2.2.2⟩
   case round=>
    have HK:Hid ((∀r∈ins,eS ns d r)/\ins.length≤1000000):=⟨HJ.out.2.1,HJ.out.2.2.1⟩
    clear HJ
    obtain ⟨D,kw,ys,aw,cw,rfl,ga,rfl,hr⟩:=hrel
    obtain ⟨ap,ak,aj,Pw,Rw,hS⟩:=hr.out
    have cc:∀x,Pw x->¬A x:=fun x hp hx=>(hS.up x hp).elim (I.out.2.1 x hx).2 fun h=>absurd h.1 (by have:=I.out.1 x hx;omega)
    have am:bB A A Q wr:=I.out.2.1.keep hS.fr
    have kp:bB A A w wr:=I.out.2.2.1.trans am Y.out.1.size
    by_cases hlw:D<N
    ·obtain ⟨y,hy⟩:∃y:Wy,s.ways[D]?=some y:=⟨_,aN4 (by rw[<-HE.out.2.2.1];exact hlw)⟩
     obtain ⟨yp,yq,bp⟩:=cf.out.2 D y hy
     have bp:=jE.carry kp (cf.out.1 (by omega)).2 bp
     have e7:=cL kp HD.out.1 HD.out.2.2.2.2.2.2.1
     have de:=wO ay gy N be D hlw (fun hp=>(cf.out.1 hp).1)
     obtain ⟨J,ax⟩:=gQx wr.heap.size
     obtain ⟨W2,cp⟩:=gQx (wr.alloc (.cells #[.pointer (some ⟨gy,D*7,none⟩),.int .i64 0,.int .i64 (-1)] 275))
     have co:Below wr.heap.size wr W2:=by rw[cp];exact aL _ _
     have dp:W2.heap[J]?=some (.cells #[.pointer (some ⟨gy,D*7,none⟩),.int .i64 0,.int .i64 (-1)] 275 (0,0)):=by rw[cp,ax];exact aX wr _
     have ds:bB A A wr W2:=fun x hx hl=>⟨hx,co.block x hl⟩
     have dc:=jE.carry ds (cf.out.1 (by omega)).2 bp
     have eh:aM A W2 (d+1) L vl:=HH.out.1.carry (kp.trans ds (aO6 Y.out.1.size hS.fr.size))
     have bk:W2.cell? ⟨q3,0,none⟩=some vl:=aN co (hS.fr.cell (aN Y.out.1 HH.out.2.1.1) HH.out.2.1.2)
     obtain ⟨T,hT⟩:∃T,Value.string T=sv y.to:=⟨_,rfl⟩
     have an:=Tl eh bk (nm:=y.to)
     rw[<-hT] at an
     obtain ⟨ab,df⟩:=gQx (eG (bD L) y.to)
     rw[<-df] at an
     have c5:W2.cell? ⟨gy,D*7+5,none⟩=some (.string T):=by rw[hT];exact dc.2.2.2.2.2.1
     have a0:=aF dp 0 rfl
     obtain ⟨xi,cj,cn⟩:=hS.ri
     obtain ⟨xw,au,bb⟩:=hS.rwy
     have QQ:Hid (Q.heap.size≤J/\¬Pw J/\¬Rw J/\J≠q7/\(Value.slice ai ins.length ci).ownBlock≠some J/\(Value.slice aw ys.length cw).ownBlock≠some J):=⟨by rw[ax];exact hS.fr.size,fun h=>by have:=hS.cm.2.2 _ h;omega,fun h=>by have:=(hS.rn _ h).2;omega,fun e=>by have:=aB hS.hq;omega,fun e=>by have:=(cj.lt _ e).2;omega,fun e=>by have:=(au.lt _ e).2;omega⟩
     have HS:Hid (LS A ns P kb Q k gd od q7 d (E+(s.regions.map (iG d)).sum+D) Pw Rw wr kw ins ys id lv ai ci aw cw/\Below wr.heap.size wr W2/\W2.heap[J]?=some (.cells #[.pointer (some ⟨gy,D*7,none⟩),.int .i64 0,.int .i64 (-1)] 275 (0,0))/\jE A wr gy (D*7) y yp yq/\J=wr.heap.size):=⟨hS,co,dp,bp,ax⟩
     have HY:Hid (s.ways[D]?=some y/\ys.length=D/\Z=((if 1<y.times then Em.kept 0 else pure (-1)) >>= fun p=>Em.jZ (bD L) (s.ways.drop (D+1)) >>= fun t=>pure ⟨s,(ys++[⟨y,eG (bD L) y.to,p⟩])++t,ins,id,lv⟩) kw/\(∀y∈ys,xK ns L.length y)/\ab=eG (bD L) y.to/\∀p,xK ns L.length ⟨y,eG (bD L) y.to,p⟩):=⟨hy,ap,by rw[ak,dT hy];exact congrFun (Q0 (g:=fun l=>pure ⟨s,l,ins,id,lv⟩)) kw,aj,df,fun p=>by
      have m:=aP1 hy
      obtain ⟨⟨t,ht⟩,_,h2⟩:=H0.out.2.2.1 y m
      have h1:=H0.out.1.wy y m
      have h3:=(tQ ht).1
      rw[mV] at h3
      exact ⟨h1.1,h1.2,by show 0≤eG (bD L) y.to/\eG (bD L) y.to<_;unfold eG;rw[ht];exact ⟨by simp,by simpa using h3⟩,h2⟩⟩
     obtain ⟨tm,ce⟩:=gQx y.times
     have HT:Hid (tm=y.times):=ce
     clear ce df hy bp dc hr ap ak aj hS co dp ds am kp eh bk hT cj cn au bb xi xw
     go_upto_region 14 with fail
     rw[<-cp,<-ax]
     clear cp ax e7 de
     go_upto_region 15 with (go_at_call 159;refine an.mono ?_;rintro e w3 ⟨rfl,h3⟩;have k3:=aD h3.out HS.out.2.2.1;have z1:=aF k3 1 rfl;have f1:=aG k3 1)
     obtain ⟨W4,bm⟩:=gQx (w3.setCell ⟨J,1,none⟩ (.int .i64 ab))
     rw[<-bm]
     have k4:W4.heap[J]?=some (.cells #[.pointer (some ⟨gy,D*7,none⟩),.int .i64 ab,.int .i64 (-1)] 275 (0,0)):=by
      rw[bm]
      exact cH (l:=[Value.pointer (some ⟨gy,D*7,none⟩),.int .i64 0,.int .i64 (-1)]) (aD h3.out HS.out.2.2.1) 1 (.int .i64 ab)
     have S3:=(HS.out.1.below HS.out.2.1).below h3.out
     have S4:LS A ns P kb Q k gd od q7 d (E+(s.regions.map (iG d)).sum+D) Pw Rw W4 kw ins ys id lv ai ci aw cw:=by rw[bm];exact S3.loc I.out.1 QQ.out 1 _
     have fb:∀x,A x->x≠J:=fun x hx e=>by have:=I.out.1 x hx;have:=QQ.out.1;omega
     have ep:bB A A wr W4:=fun x hx hl=>⟨hx,by rw[bm,Below.heap_setCell _ _ _ _ (fb x hx),h3.out.block x (aO5 hl HS.out.2.1.size),HS.out.2.1.block x hl]⟩
     have dx:A gy:=(cf.out.1 (by omega)).2
     have br:=jE.carry ep dx HS.out.2.2.2.1
     have c3:W4.cell? ⟨gy,D*7+3,none⟩=some (.int .i64 (tm:Int)):=by rw[HT.out];exact br.2.2.2.1
     have b0:=aF k4 0 rfl
     have ah:E+(s.regions.map (iG d)).sum+D<1000000:=by
      have h1:=HH.out.2.2.2.2.1
      unfold jG at h1
      have:=HE.out.2.2.1
      omega
     have az:=yX S4.cm ah (x:=0) (by unfold jF;omega)
     have O:Hid (LS A ns P kb Q k gd od q7 d (E+(s.regions.map (iG d)).sum+D) Pw Rw W4 kw ins ys id lv ai ci aw cw/\W4.heap[J]?=some (.cells #[.pointer (some ⟨gy,D*7,none⟩),.int .i64 ab,.int .i64 (-1)] 275 (0,0))/\jE A W4 gy (D*7) y yp yq/\A gy/\E+(s.regions.map (iG d)).sum+D<1000000):=⟨S4,k4,br,dx,ah⟩
     clear bm k4 S3 S4 fb ep dx br HS h3 an c5 a0 ah
     by_cases ce:1<tm
     ·go_upto_region 17 with (go_at_call 115;refine az.mono ?_;rintro e w5 ⟨rfl,h5⟩;have k5:=h5.out.2.heap O.out.2.1 QQ.out.2.1;have z2:=aF k5 2 rfl;have f2:=aG k5 2)
      obtain ⟨X,hX⟩:=gQx (w5.setCell ⟨J,2,none⟩ (.int .i64 kw.net.places))
      rw[<-hX]
      have S5:=LS.coder I.out.2.1 O.out.1 h5.out.1 (fun x hx=>hx) (R':=fun _=>False) (fun _ _ h=>h) (fun _ h=>h.elim) h5.out.2 (by show kw.net.places≤kw.net.places+1;omega)
      have q4:J<W4.heap.size:=aB O.out.2.1
      have S6:LS A ns P kb Q k gd od q7 d (E+(s.regions.map (iG d)).sum+(D+1)) (Up Pw W4 w5) (fun x=>Rw x\/False) X (bF (aU kw 0) kw.net.places) ins ys id lv ai ci aw cw:=by
       rw[hX,<-Nat.add_assoc]
       exact S5.loc I.out.1 ⟨QQ.out.1,fun h=>h.elim QQ.out.2.1 fun h=>by omega,fun h=>h.elim QQ.out.2.2.1 fun h=>h,QQ.out.2.2.2⟩ 2 _
      have k6:X.heap[J]?=some (.cells #[.pointer (some ⟨gy,D*7,none⟩),.int .i64 ab,.int .i64 kw.net.places] 275 (0,0)):=by
       rw[hX]
       exact cH (l:=[Value.pointer (some ⟨gy,D*7,none⟩),.int .i64 ab,.int .i64 (-1)]) (h5.out.2.heap O.out.2.1 QQ.out.2.1) 2 (.int .i64 kw.net.places)
      have eu:bB A A W4 X:=fun x hx hl=>⟨hx,by rw[hX,Below.heap_setCell _ _ _ _ (show x≠J from fun e=>by have:=I.out.1 x hx;have:=QQ.out.1;omega)];exact h5.out.2.block x hl fun hp=>cc x hp hx⟩
      have HX:Hid (LS A ns P kb Q k gd od q7 d (E+(s.regions.map (iG d)).sum+(D+1)) (Up Pw W4 w5) (fun x=>Rw x\/False) X (bF (aU kw 0) kw.net.places) ins ys id lv ai ci aw cw/\X.heap[J]?=some (.cells #[.pointer (some ⟨gy,D*7,none⟩),.int .i64 ab,.int .i64 kw.net.places] 275 (0,0))/\jE A X gy (D*7) y yp yq/\A gy):=⟨S6,k6,jE.carry eu O.out.2.2.2.1 O.out.2.2.1,O.out.2.2.2.1⟩
      have dq:Hid (Z=(Em.jZ (bD L) (s.ways.drop (D+1)) >>= fun t=>pure ⟨s,(ys++[⟨y,eG (bD L) y.to,kw.net.places⟩])++t,ins,id,lv⟩) (bF (aU kw 0) kw.net.places)):=by
       have h:=HY.out.2.2.1
       rw[if_pos (by rw[<-HT.out];exact ce)] at h
       exact h.trans (I0 (Ii kw 0))
      obtain ⟨lf,fq⟩:=gQx kw.net.places
      clear hX S5 S6 k6 eu h5 az c3 b0 O q4 fq
      obtain ⟨xw,au,bb⟩:=HX.out.1.rwy
      have dy:=aB HX.out.1.hq
      have x1:X.cell? ⟨q7,1,none⟩=some (.slice aw D cw):=by rw[<-HY.out.2.1];exact aF HX.out.1.hq 1 rfl
      have bv:X.ownsRow 0 275 3 (.slice aw D cw) D xw:=by rw[<-HY.out.2.1];exact au
      have dm:Hid (Rows (Iy A X) ys xw):=bb
      have b0:=aF HX.out.2.1 0 rfl
      have b1:=aF HX.out.2.1 1 rfl
      have b2:=aF HX.out.2.1 2 rfl
      clear au bb
      go_wp2_with (at_builtin;refine wpList_append_own_at _ rfl (.tmp 103) (.tmp 105) 233 rfl 0 275 j0 _ 3 24 Tryz.underlying233 ed fe ev fa rfl (by decide) _ _ _ rfl (bv.alloc _) ⟨X.heap.size,0,none⟩ 1 1 [.pointer (some ⟨gy,D*7,none⟩),.int .i64 ab,.int .i64 kw.net.places] rfl rfl (eN _ _ _) (by intro u hu;simp at hu;rcases hu with rfl|rfl|rfl<;>rfl) (by unfold maxLen;omega) (by omega) (by simp) ?_;intro v6 w6 af U _ cg;obtain ⟨a6,m6,e6⟩:=aP af;subst e6;have al:w6.heap[q7]?=X.heap[q7]?:=by { rw[U.block q7 (by simp;omega) (fun e=>(HX.out.1.ow q7 (by rw[HY.out.2.1];exact e.symm)).2.2.2.1 rfl),Below.heap_alloc _ _ _ dy] };have av:=al.trans HX.out.1.hq;have z1:=aF av 1 rfl;have f1:=aG av 1)
      go_roundg (N-(D+1))
      case measure=>omega
      case rel=>
       have ad:=LS.appW HX.out.1 I.out.1 (w5:=w6) (a5:=a6) (c5:=m6) (gy:=gy) (oy:=D*7) (pc:=yp) (qs:=yq) (y:=⟨y,eG (bD L) y.to,kw.net.places⟩) (xw:=xw) dm.out HX.out.2.2.2 HX.out.2.2.1 (by rw[HY.out.2.1];show w6.ownsRow _ _ _ _ _ (xw++[_,.int .i64 (eG (bD L) y.to),_]);rw[<-HY.out.2.2.2.2.1];exact af) (by rw[HY.out.2.1];exact U) (by rw[HY.out.2.1];exact cg)
       rw[HY.out.2.1] at ad
       exact ⟨D+1,(bF (aU kw 0) kw.net.places),ys++[⟨y,eG (bD L) y.to,kw.net.places⟩],a6,m6,by omega,by omega,by go_num,by rw[aO9,HY.out.2.1];rfl,dq.out,fun z hz=>(aR2.1 hz).elim (HY.out.2.2.2.1 z) fun h=>by rw[aP5.1 h];exact HY.out.2.2.2.2.2 _,_,_,ad⟩
     ·clear az
      go_upto_region 17 with fail
      have HX:Hid (LS A ns P kb Q k gd od q7 d (E+(s.regions.map (iG d)).sum+(D+1)) Pw Rw W4 kw ins ys id lv ai ci aw cw/\W4.heap[J]?=some (.cells #[.pointer (some ⟨gy,D*7,none⟩),.int .i64 ab,.int .i64 (-1)] 275 (0,0))/\jE A W4 gy (D*7) y yp yq/\A gy):=⟨O.out.1.moreE (by omega) (by have:=O.out.2.2.2.2;omega),O.out.2.1,O.out.2.2.1,O.out.2.2.2.1⟩
      have dq:Hid (Z=(Em.jZ (bD L) (s.ways.drop (D+1)) >>= fun t=>pure ⟨s,(ys++[⟨y,eG (bD L) y.to,-1⟩])++t,ins,id,lv⟩) kw):=by
       have h:=HY.out.2.2.1
       rw[if_neg (by rw[<-HT.out];exact ce)] at h
       rw[pure_bind] at h
       exact h
      obtain ⟨X,hX⟩:=gQx W4
      rw[<-hX] at HX ⊢
      clear hX O c3 b0
      obtain ⟨xw,au,bb⟩:=HX.out.1.rwy
      have dy:=aB HX.out.1.hq
      have x1:X.cell? ⟨q7,1,none⟩=some (.slice aw D cw):=by rw[<-HY.out.2.1];exact aF HX.out.1.hq 1 rfl
      have bv:X.ownsRow 0 275 3 (.slice aw D cw) D xw:=by rw[<-HY.out.2.1];exact au
      have dm:Hid (Rows (Iy A X) ys xw):=bb
      have b0:=aF HX.out.2.1 0 rfl
      have b1:=aF HX.out.2.1 1 rfl
      have b2:=aF HX.out.2.1 2 rfl
      clear au bb
      go_wp2_with (at_builtin;refine wpList_append_own_at _ rfl (.tmp 103) (.tmp 105) 233 rfl 0 275 j0 _ 3 24 Tryz.underlying233 ed fe ev fa rfl (by decide) _ _ _ rfl (bv.alloc _) ⟨X.heap.size,0,none⟩ 1 1 [.pointer (some ⟨gy,D*7,none⟩),.int .i64 ab,.int .i64 (-1)] rfl rfl (eN _ _ _) (by intro u hu;simp at hu;rcases hu with rfl|rfl|rfl<;>rfl) (by unfold maxLen;omega) (by omega) (by simp) ?_;intro v6 w6 af U _ cg;obtain ⟨a6,m6,e6⟩:=aP af;subst e6;have al:w6.heap[q7]?=X.heap[q7]?:=by { rw[U.block q7 (by simp;omega) (fun e=>(HX.out.1.ow q7 (by rw[HY.out.2.1];exact e.symm)).2.2.2.1 rfl),Below.heap_alloc _ _ _ dy] };have av:=al.trans HX.out.1.hq;have z1:=aF av 1 rfl;have f1:=aG av 1)
      go_roundg (N-(D+1))
      case measure=>omega
      case rel=>
       have ad:=LS.appW HX.out.1 I.out.1 (w5:=w6) (a5:=a6) (c5:=m6) (gy:=gy) (oy:=D*7) (pc:=yp) (qs:=yq) (y:=⟨y,eG (bD L) y.to,(-1)⟩) (xw:=xw) dm.out HX.out.2.2.2 HX.out.2.2.1 (by rw[HY.out.2.1];show w6.ownsRow _ _ _ _ _ (xw++[_,.int .i64 (eG (bD L) y.to),_]);rw[<-HY.out.2.2.2.2.1];exact af) (by rw[HY.out.2.1];exact U) (by rw[HY.out.2.1];exact cg)
       rw[HY.out.2.1] at ad
       exact ⟨D+1,kw,ys++[⟨y,eG (bD L) y.to,(-1)⟩],a6,m6,by omega,by omega,by go_num,by rw[aO9,HY.out.2.1];rfl,dq.out,fun z hz=>(aR2.1 hz).elim (HY.out.2.2.2.1 z) fun h=>by rw[aP5.1 h];exact HY.out.2.2.2.2.2 _,_,_,ad⟩
    ·have ei:Z=some ((⟨s,ys,ins,id,lv⟩:eR (St d) (Rg d)),kw):=by
      rw[ak,aX1 (by rw[<-HE.out.2.2.1];omega)]
      show (pure (⟨s,ys++[],ins,id,lv⟩:eR (St d) (Rg d)):Em.M _) kw=_
      rw[List.append_nil]
      rfl
     have ae:=hS.fr.heap I.out.2.2.2.2.2.2 I.out.2.2.2.2.1
     have HS:Hid (LS A ns P kb Q k gd od q7 d (E+(s.regions.map (iG d)).sum+D) Pw Rw wr kw ins ys id lv ai ci aw cw):=hS
     have HF:Hid (Z=some ((⟨s,ys,ins,id,lv⟩:eR (St d) (Rg d)),kw)/\(∀y∈ys,xK ns L.length y)/\ys.length=D/\wr.heap[q6]?=some (.cells #[.pointer none,.slice none 0 0,.slice none 0 0,.bool false,.bool false] 236 (0,0))):=⟨ei,aj,ap,ae⟩
     obtain ⟨nw,dn⟩:=gQx ys.length
     obtain ⟨ni,dj⟩:=gQx ins.length
     have HN:Hid (nw=ys.length/\ni=ins.length):=⟨dn,dj⟩
     have ba:=hS.hq
     rw[<-dn,<-dj] at ba
     have g0:=aF ba 0 rfl
     have g1:=aF ba 1 rfl
     have g2:=aF ba 2 rfl
     have g3:=aF ba 3 rfl
     have g4:=aF ba 4 rfl
     have p0:=aF ae 0 rfl
     have p1:=aF ae 1 rfl
     have p2:=aF ae 2 rfl
     have p3:=aF ae 3 rfl
     have p4:=aF ae 4 rfl
     have f0:=aG ae 0
     have f1:=aG ae 1
     have f2:=aG ae 2
     have f3:=aG ae 3
     have f4:=aG ae 4
     clear ei hr ap ak aj hS dn dj ba ae am kp
     go_wp2_with fail
     obtain ⟨WF,bu⟩:=gQx (((((wr.setCell ⟨q6,0,none⟩ (.pointer (some ⟨gd,od,none⟩))).setCell ⟨q6,1,none⟩ (.slice aw nw cw)).setCell ⟨q6,2,none⟩ (.slice ai ni ci)).setCell ⟨q6,3,none⟩ (.bool id)).setCell ⟨q6,4,none⟩ (.bool lv))
     have kF:WF.heap[q6]?=some (.cells #[.pointer (some ⟨gd,od,none⟩),.slice aw nw cw,.slice ai ni ci,.bool id,.bool lv] 236 (0,0)):=by
      rw[bu]
      have h0:=cH (l:=[Value.pointer none,.slice none 0 0,.slice none 0 0,.bool false,.bool false]) HF.out.2.2.2 0 (.pointer (some ⟨gd,od,none⟩))
      have h1:=cH (l:=[Value.pointer (some ⟨gd,od,none⟩),.slice none 0 0,.slice none 0 0,.bool false,.bool false]) h0 1 (.slice aw nw cw)
      have h2:=cH (l:=[Value.pointer (some ⟨gd,od,none⟩),.slice aw nw cw,.slice none 0 0,.bool false,.bool false]) h1 2 (.slice ai ni ci)
      have h3:=cH (l:=[Value.pointer (some ⟨gd,od,none⟩),.slice aw nw cw,.slice ai ni ci,.bool false,.bool false]) h2 3 (.bool id)
      exact cH (l:=[Value.pointer (some ⟨gd,od,none⟩),.slice aw nw cw,.slice ai ni ci,.bool id,.bool false]) h3 4 (.bool lv)
     have eo:bM (fun x=>x=q6) wr WF:=by
      rw[bu]
      have st:∀(W:World) (j:Nat) (v:Value),bM (fun x=>x=q6) wr W->bM (fun x=>x=q6) wr (W.setCell ⟨q6,j,none⟩ v):=fun W j v h=>h.setCell (p:=⟨q6,j,none⟩) (.inl rfl) v
      exact st _ _ _ (st _ _ _ (st _ _ _ (st _ _ _ (st _ _ _ (bM.refl _ _)))))
     have bf:∀(W:World) (a:Addr) (v:Value),(W.setCell a v).heap.size=W.heap.size:=fun W a v=>by simp[World.setCell]
     have ec:WF.heap.size=wr.heap.size:=by rw[bu,bf,bf,bf,bf,bf]
     clear bf
     rw[<-bu]
     have ee:Hid (bM (fun x=>x=q6) wr WF/\WF.heap.size=wr.heap.size):=⟨eo,ec⟩
     refine aY9 (Dy _ _ q6 #[.pointer (some ⟨gd,od,none⟩),.slice aw nw cw,.slice ai ni ci,.bool id,.bool lv] rfl rfl kF) rfl ?_
     clear bu kF eo ec g0 g1 g2 g3 g4 p0 p1 p2 p3 p4 f0 f1 f2 f3 f4
     obtain ⟨R,t1,t2,t3,t4,t5,t6,t7⟩:=HS.out.done (s:=s) (q6:=q6) (w0:=w) (wf:=WF) HH.out.2.2.2.1 Y.out.1 Y.out.2.2 Y.out.2.1 HH.out.2.2.1.2.2 ⟨HD.out.1,HD.out.2.1,⟨_,HD.out.2.2.1⟩,⟨_,HD.out.2.2.2.1⟩,⟨_,HD.out.2.2.2.2.1⟩,⟨_,HD.out.2.2.2.2.2.1⟩⟩ ee.out.1 ee.out.2
     have eE:E+(s.regions.map (iG d)).sum+D=E+jG (iG d) s:=by
      unfold jG
      have:=HE.out.2.2.1
      omega
     rw[eE] at t1
     refine ⟨aw,nw,cw,ai,ni,ci,id,lv,rfl,?_⟩
     rw[HN.out.1,HN.out.2]
     exact ⟨⟨s,ys,ins,id,lv⟩,kw,Pw,R,HZ.out.symm.trans HF.out.1,rfl,rfl,t1,t2,t3,t4,t5,t6,t7,⟨H0.out.1.en,H0.out.1.du,H0.out.1.le,H0.out.1.re,HF.out.2.1,by show ys.length≤1000000;have:=HF.out.2.2.1;omega,HK.out.2,HK.out.1⟩⟩
end
section
variable {A A' P Pj Rj:Nat->Prop}{w wr w':World}{ns:List bE}{kb gS g n d E gd od:Nat}{k kj:Kd}{ss:List (eR (St d) (Rg d))}{vo vw vi:Value}{fi th:Int}{id lv:Bool}
theorem Vo.carry (c:bB A A' w w') {s:eR (St d) (Rg d)}(h:Vo A w s gd od vw vi):Vo A' w' s gd od vw vi:=by
 obtain ⟨u,X,⟨v3,d3,e3⟩,⟨v4,d4,e4⟩,⟨v5,d5,e5⟩,⟨p6,d6,e6⟩,⟨ad,e,cap,w1,w2,w3,w4⟩,O,gi,I,i1,i2,Q,Y⟩:=h
 refine ⟨(c gd u (aY5 w _ X)).1,cL c u X,⟨v3,cL c u d3,e3.carry c⟩,⟨v4,cL c u d4,e4.carry c⟩,⟨v5,cL c u d5,e5.carry c⟩,⟨p6,cL c u d6,e6.carry c⟩,⟨ad,e,cap,w1,w2,fun l=>?_,fun j y D=>?_⟩,O,gi,I,i1,i2,fun l=>?_,fun j r Z=>?_⟩
 ·obtain ⟨y,D⟩:∃y,s.ways[0]?=some y:=⟨_,aN4 l⟩
  exact ⟨(w3 l).1,(c e (w3 l).2 (aY5 w _ (w4 0 y D).t)).1⟩
 ·have l:0<s.ways.length:=by have:=(aO7.1 D).1;omega
  exact (w4 j y D).carry c (w3 l).2
 ·obtain ⟨y,D⟩:∃y,s.inside[0]?=some y:=⟨_,aN4 l⟩
  obtain ⟨U,J,_⟩:=Y 0 y D
  exact ⟨(Q l).1,(c gi (Q l).2 (aY5 w _ J)).1⟩
 ·have l:0<s.inside.length:=by have:=(aO7.1 Z).1;omega
  obtain ⟨U,J,h2⟩:=Y j r Z
  exact ⟨U,cL c (Q l).2 J,fH.carry d c r U h2⟩
def Ct (A:Nat->Prop) (w:World) (cs:List Value) (i:Nat) (s:eR (St d) (Rg d)):Prop:=
 ∃gd od vw vi,cs[i*5]?=some (.pointer (some ⟨gd,od,none⟩))/\cs[i*5+1]?=some vw/\cs[i*5+2]?=some vi/\cs[i*5+3]?=some (.bool s.idle)/\cs[i*5+4]?=some (.bool s.leaves)/\Vo A w s gd od vw vi
theorem Ct.carry (c:bB A A' w w') {cs:List Value}{i:Nat}{s:eR (St d) (Rg d)}(h:Ct A w cs i s):Ct A' w' cs i s:=by
 obtain ⟨gd,od,vw,vi,y,r,j,D,l,u⟩:=h
 exact ⟨gd,od,vw,vi,y,r,j,D,l,u.carry c⟩
end
structure LR (A:Nat->Prop) (ns:List bE) (P:Nat->Prop) (kb:Nat) (w:World) (k:Kd) (gS g n d E:Nat) (Pj Rj:Nat->Prop) (wr:World) (kj:Kd) (ss:List (eR (St d) (Rg d))) (cs:List Value) (vo:Value) (fi th:Int) (id lv:Bool):Prop where
 cm:eK E ns Pj wr kb kj
 up:∀x,Pj x->Up P w wr x
 dr:∀x,Pj x->¬Rj x
 rn:∀x,Rj x->w.heap.size≤x/\x<wr.heap.size
 fr:bM P w wr
 pl:k.net.places≤kj.net.places
 hg:wr.heap[g]?=some (.cells #[.slice (some ⟨gS,0,none⟩) n n,vo,.int .i64 fi,.int .i64 th,.bool id,.bool lv] 188 (0,0))
 gl:w.heap.size≤g/\¬Pj g/\¬Rj g/\g≠gS
 hs:wr.heap[gS]?=some (.cells cs.toArray 236 (0,0))/\cs.length=n*5
 sl:w.heap.size≤gS/\¬Pj gS/\¬Rj gS
 st:∀i s,ss[i]?=some s->Ct (fun x=>A x\/Rj x) wr cs i s
section
variable {A P Pj Rj:Nat->Prop}{w wr w':World}{ns:List bE}{kb gS g n d E:Nat}{k kj:Kd}{ss:List (eR (St d) (Rg d))}{cs:List Value}{vo:Value}{fi th:Int}{id lv:Bool}
theorem LR.coder {E':Nat}{r R':Nat->Prop}{J:Kd}(X:Ro A P w) (h:LR A ns P kb w k gS g n d E Pj Rj wr kj ss cs vo fi th id lv) (hc:eK E' ns r w' kb J) (D:∀x,r x->Up Pj wr w' x) (hd:∀x,r x->¬R' x) (y:∀x,R' x->wr.heap.size≤x/\x<w'.heap.size) (l:bM Pj wr w') (j:kj.net.places≤J.net.places) :
    LR A ns P kb w k gS g n d E' r (fun x=>Rj x\/R' x) w' J ss cs vo fi th id lv:=by
 have s0:=h.fr.size
 have Z:=l.size
 have Q:=aB h.hg
 have ls:=aB h.hs.1
 have U:∀x,x<wr.heap.size->¬Pj x->¬r x:=fun x hx I j=>(D x j).elim I fun h=>absurd h.1 (by omega)
 have O:∀x,x<wr.heap.size->¬Rj x->¬(Rj x\/R' x):=fun x hx I h=>h.elim I fun h=>absurd (y x h).1 (by omega)
 have nA:∀x,A x->¬Pj x:=fun x hx j=>(h.up x j).elim (X x hx).2 fun h=>absurd h.1 (by have:=(X x hx).1;omega)
 have u:bB (fun x=>A x\/Rj x) (fun x=>A x\/Rj x\/R' x) wr w':=fun x hx Y=>⟨hx.elim .inl fun h=>.inr (.inl h),l.block x Y (hx.elim (nA x) fun c j=>h.dr x j c)⟩
 refine ⟨hc,fun x hx=>?_,fun x hx c=>?_,fun x hx=>?_,h.fr.trans l fun x hx hq=>(h.up x hq).elim (fun h=>h) fun h=>absurd h.1 (by omega),aY2 h.pl j,l.heap h.hg h.gl.2.1,⟨h.gl.1,U g Q h.gl.2.1,O g Q h.gl.2.2.1,h.gl.2.2.2⟩,⟨l.heap h.hs.1 h.sl.2.1,h.hs.2⟩,⟨h.sl.1,U gS ls h.sl.2.1,O gS ls h.sl.2.2⟩,fun i s e=>(h.st i s e).carry u⟩
 ·rcases D x hx with c|c
  ·exact Up.size Z x (h.up x c)
  ·exact .inr ⟨by omega,c.2⟩
 ·rcases c with c|c
  ·rcases D x hx with j|j
   ·exact h.dr x j c
   ·have:=(h.rn x c).2;omega
  ·exact hd x hx c
 ·rcases hx with hx|hx
  ·exact ⟨(h.rn x hx).1,by have:=(h.rn x hx).2;omega⟩
  ·exact ⟨by have:=(y x hx).1;omega,(y x hx).2⟩
theorem LR.below (h:LR A ns P kb w k gS g n d E Pj Rj wr kj ss cs vo fi th id lv) (hb:Below wr.heap.size wr w'):LR A ns P kb w k gS g n d E Pj Rj w' kj ss cs vo fi th id lv:=
 ⟨h.cm.below hb,fun x hx=>Up.size hb.size x (h.up x hx),h.dr,fun x hx=>⟨(h.rn x hx).1,aO5 (h.rn x hx).2 hb.size⟩,h.fr.trans (bM.of_below (P:=fun _=>False) hb) fun _ _ h=>h.elim,h.pl,aD hb h.hg,h.gl,⟨aD hb h.hs.1,h.hs.2⟩,h.sl,fun i s hs=>(h.st i s hs).carry fun x hx hl=>⟨hx,hb.block x hl⟩⟩
theorem LR.flag (h:LR A ns P kb w k gS g n d E Pj Rj wr kj ss cs vo fi th id lv) (hA:∀x,A x->x<w.heap.size) {j:Nat}{v r:Value}{D c:Int}{y u:Bool}(U:[Value.slice (some ⟨gS,0,none⟩) n n,vo,.int .i64 fi,.int .i64 th,.bool id,.bool lv].set j v=[Value.slice (some ⟨gS,0,none⟩) n n,r,.int .i64 D,.int .i64 c,.bool y,.bool u]) :
    LR A ns P kb w k gS g n d E Pj Rj (wr.setCell ⟨g,j,none⟩ v) kj ss cs r D c y u:=by
 have O:(wr.setCell ⟨g,j,none⟩ v).heap.size=wr.heap.size:=by simp[World.setCell]
 have J:∀x,x≠g->(wr.setCell ⟨g,j,none⟩ v).heap[x]?=wr.heap[x]?:=fun x hx=>Below.heap_setCell _ _ _ _ hx
 have I:∀x,A x->x≠g:=fun x hx e=>by have:=hA x hx;have:=h.gl.1;omega
 have Q:=cH (l:=[Value.slice (some ⟨gS,0,none⟩) n n,vo,.int .i64 fi,.int .i64 th,.bool id,.bool lv]) h.hg j v
 rw[U] at Q
 exact ⟨⟨h.cm.1.imp fun _ Z=>Z.carry fun x hx _=>⟨hx,J x fun e=>h.gl.2.1 (e▸hx)⟩,h.cm.2.1,fun x hx=>by rw[O];exact h.cm.2.2 x hx⟩,fun x hx=>Up.size (by rw[O];exact aO4 _) x (h.up x hx),h.dr,fun x hx=>by rw[O];exact h.rn x hx,h.fr.setCell (.inr h.gl.1) _,h.pl,Q,h.gl,⟨by rw[J gS (fun e=>h.gl.2.2.2 e.symm)];exact h.hs.1,h.hs.2⟩,h.sl,fun i s Y=>(h.st i s Y).carry fun x hx _=>⟨hx,J x (hx.elim (I x) fun X e=>h.gl.2.2.1 (e▸X))⟩⟩
theorem LR.set (h:LR A ns P kb w k gS g n d E Pj Rj wr kj ss cs vo fi th id lv) (hA:∀x,A x->x<w.heap.size) {j:Nat}(Z:ss.length*5≤j) (v:Value) :
    LR A ns P kb w k gS g n d E Pj Rj (wr.setCell ⟨gS,j,none⟩ v) kj ss (cs.set j v) vo fi th id lv:=by
 have r:(wr.setCell ⟨gS,j,none⟩ v).heap.size=wr.heap.size:=by simp[World.setCell]
 have l:∀x,x≠gS->(wr.setCell ⟨gS,j,none⟩ v).heap[x]?=wr.heap[x]?:=fun x hx=>Below.heap_setCell _ _ _ _ hx
 have c:∀x,A x->x≠gS:=fun x hx e=>by have:=hA x hx;have:=h.sl.1;omega
 refine ⟨⟨h.cm.1.imp fun _ X=>X.carry fun x hx _=>⟨hx,l x fun e=>h.sl.2.1 (e▸hx)⟩,h.cm.2.1,fun x hx=>by rw[r];exact h.cm.2.2 x hx⟩,fun x hx=>Up.size (by rw[r];exact aO4 _) x (h.up x hx),h.dr,fun x hx=>by rw[r];exact h.rn x hx,h.fr.setCell (.inr h.sl.1) _,h.pl,by rw[l g h.gl.2.2.2];exact h.hg,h.gl,⟨cH h.hs.1 j v,by rw[aW4];exact h.hs.2⟩,h.sl,fun i s u=>?_⟩
 have Y:=(aO7.1 u).1
 obtain ⟨gd,od,vw,vi,I,Q,y,J,O,U⟩:=(h.st i s u).carry (A':=fun x=>A x\/Rj x) (w':=wr.setCell ⟨gS,j,none⟩ v) fun x hx _=>⟨hx,l x (hx.elim (c x) fun D e=>h.sl.2.2 (e▸D))⟩
 exact ⟨gd,od,vw,vi,by rw[aX6 (by omega)];exact I,by rw[aX6 (by omega)];exact Q,by rw[aX6 (by omega)];exact y,by rw[aX6 (by omega)];exact J,by rw[aX6 (by omega)];exact O,U⟩
theorem LR.more (h:LR A ns P kb w k gS g n d E Pj Rj wr kj ss cs vo fi th id lv) {s:eR (St d) (Rg d)}(l:Ct (fun x=>A x\/Rj x) wr cs ss.length s):LR A ns P kb w k gS g n d E Pj Rj wr kj (ss++[s]) cs vo fi th id lv:=by
 refine { h with st:=fun i t c=>?_ }
 rcases Nat.lt_trichotomy i ss.length with j|rfl|j
 ·rw[aR6 j] at c
  exact h.st i t c
 ·rw[List.getElem?_concat_length] at c
  injection c with c
  exact c▸l
 ·rw[aX5 (by simp;omega)] at c
  exact absurd c (by simp)
theorem LR.put (h:LR A ns P kb w k gS g n d E Pj Rj wr kj ss cs vo fi th id lv) (hA:∀x,A x->x<w.heap.size) {s:eR (St d) (Rg d)}{gd od:Nat}{vw vi:Value}(y:ss.length<n) (r:Vo (fun x=>A x\/Rj x) wr s gd od vw vi) {i:Nat}(u:i=ss.length) :
    ∃cs',LR A ns P kb w k gS g n d E Pj Rj (((((wr.setCell ⟨gS,i*5,none⟩ (.pointer (some ⟨gd,od,none⟩))).setCell ⟨gS,i*5+1,none⟩ vw).setCell ⟨gS,i*5+2,none⟩ vi).setCell ⟨gS,i*5+3,none⟩ (.bool s.idle)).setCell ⟨gS,i*5+4,none⟩ (.bool s.leaves)) kj (ss++[s]) cs' vo fi th id lv:=by
 have l:=((((h.set hA (j:=i*5) (by omega) (.pointer (some ⟨gd,od,none⟩))).set hA (j:=i*5+1) (by omega) vw).set hA (j:=i*5+2) (by omega) vi).set hA (j:=i*5+3) (by omega) (.bool s.idle)).set hA (j:=i*5+4) (by omega) (.bool s.leaves)
 refine ⟨_,l.more ⟨gd,od,vw,vi,?_,?_,?_,?_,?_,r.carry fun x hx _=>⟨hx,?_⟩⟩⟩
 all_goals first
  | (rw[<-u];have D:=h.hs.2;simp[List.getElem?_set];omega)
  | skip
 have c:x≠gS:=fun e=>by
  rcases hx with hx|hx
  ·have:=hA x hx;have:=h.sl.1;omega
  ·exact h.sl.2.2 (e▸hx)
 rw[Below.heap_setCell _ _ _ _ c,Below.heap_setCell _ _ _ _ c,Below.heap_setCell _ _ _ _ c,Below.heap_setCell _ _ _ _ c,Below.heap_setCell _ _ _ _ c]
theorem LR.done {w0:World}{order:List Nat}(h:LR A ns P kb w k gS g n d E Pj Rj wr kj ss cs vo fi th id lv) (hb:Below w0.heap.size w0 w) (hn:ss.length=n) (Z:nL (fun x=>A x\/Rj x) wr vo order) (l:eS ns (d+1) (⟨ss,order,fi,th,id,lv⟩:jP (St d) (Rg d))) (c:0≤th/\th<kj.net.places) :
    Laid A ns P kb w0 k (d+1) E (⟨ss,order,fi,th,id,lv⟩:jP (St d) (Rg d)) g Pj (fun x=>Rj x\/x=g\/x=gS) wr kj:=by
 have s0:=h.fr.size
 have s1:=hb.size
 have lg:=aB h.hg
 have ls:=aB h.hs.1
 have r:bB (fun x=>A x\/Rj x) (fun x=>A x\/Rj x\/x=g\/x=gS) wr wr:=fun x hx _=>⟨hx.elim .inl fun h=>.inr (.inl h),rfl⟩
 refine ⟨h.cm,fun x hx=>(h.up x hx).elim .inl fun h=>.inr ⟨by omega,h.2⟩,fun x hx j=>?_,fun x hx=>?_,(bM.of_below hb).trans h.fr fun _ _ h=>h,h.pl,?_,l,c⟩
 ·rcases j with j|rfl|rfl
  ·exact h.dr x hx j
  ·exact h.gl.2.1 hx
  ·exact h.sl.2.1 hx
 ·rcases hx with hx|rfl|rfl
  ·have:=h.rn x hx;omega
  ·have:=h.gl.1;omega
  ·have:=h.sl.1;omega
 ·refine ⟨gS,some ⟨gS,0,none⟩,n,vo,by show wr.heap[g]?=some (.cells #[.slice (some ⟨gS,0,none⟩) ss.length n,_,_,_,_,_] _ _);rw[hn];exact h.hg,.inr (.inr (.inl rfl)),fun _=>⟨rfl,.inr (.inr (.inr rfl))⟩,Z.carry r,fun i s hi=>?_⟩
  obtain ⟨gd,od,vw,vi,I,Q,D,h3,O,U⟩:=(h.st i s hi).carry r
  obtain ⟨Y,u,e3,e4,y,J,⟨X,gw,cap,rfl,w2,w3,w4⟩,e⟩:=U
  exact ⟨gd,od,aF h.hs.1 _ (by simpa using I),⟨Y,.inr (.inr (.inr rfl))⟩,u,e3,e4,y,J,⟨X,gw,cap,aF h.hs.1 _ (by simpa using Q),w2,w3,w4⟩,⟨vi,aF h.hs.1 _ (by simpa using D),e⟩,aF h.hs.1 _ (by simpa using h3),aF h.hs.1 _ (by simpa using O)⟩
end
end Ew
end
end Go.Proofs.YthieaobjdpfcoaaGreatDoor
