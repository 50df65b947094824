import Derived.Test.YthieaobjdpfcoaaGreatDoorVEz1
import Derived.Deep.CutRange
set_option maxRecDepth 100000
set_option maxHeartbeats 16000000
namespace Go.Proofs.YthieaobjdpfcoaaGreatDoor
section
open Go.RowKit Px
namespace Ew
open Px.Em (Kd Vr eQ eR jP Rg cX)
open Nx (Nt Sp)
section
variable {A P:Nat->Prop}{w:World}{ns:List bE}{kb d E:Nat}{k:Kd}
theorem Xn (ih:zT A kb ns d) {v:Value}{l:List (cF (St d))}(hL:aM A w (d+1) l v) (dh:vW (d+1) l) (bw:rO ns (d+1) l) (dx:rN (d+1) l) (h:eK E ns P w kb k) (hR:Ro A P w) (hE:E+iG (d+1) l<1000000) :
    Calls Tryz.prog 116 #[.pointer (some ⟨kb,0,none⟩),v] w fun e w'=>∃g,e=.returned (.pointer (some ⟨g,0,none⟩))/\Hid (∃(r:jP (St d) (Rg d)) (k':Kd) (P' R:Nat->Prop),Em.lay (Em.aJ d) l k=some (r,k')/\Laid A ns P kb w k (d+1) (E+iG (d+1) l) r g P' R w' k'):=by
 obtain ⟨y1,y2,y3,y4,y5⟩:jC l=1/\Zd (bD l)/\(∀s∈l,∀y∈s.ways,∃t,jT (bD l) y.to=some t)/\l.length≤1000000/\(∀s∈l,s.name.length≤maxLen/\s.ways.length≤1000000/\s.regions.length≤1000000/\(∀y∈s.ways,y.to.length≤maxLen)/\∀r∈s.regions,vW d r):=dh
 obtain ⟨ad,gd,cap,rfl,hg,ej⟩:=Qr hL
 obtain ⟨n,hn⟩:∃n,n=l.length:=⟨_,rfl⟩
 obtain ⟨J,f1,f2,f3⟩:=Tk y1
 obtain ⟨p0,cx⟩:∃p0,p0=k.net.places:=⟨_,rfl⟩
 obtain ⟨oo,dd⟩:∃oo,oo=eO (cQ l):=⟨_,rfl⟩
 rw[<-hn] at y4 hg f3 hL ⊢
 obtain ⟨Z,hZ⟩:∃Z,Z=Em.lay (Em.aJ d) l k:=⟨_,rfl⟩
 have HZ:Hid (Z=(Em.fL (Em.aJ d) (bD l) l >>= Vk l p0) (bF (aU k ((J:Int)+1)) p0)/\Z=Em.lay (Em.aJ d) l k):=⟨by rw[hZ,aD9,f1,cx],hZ⟩
 obtain ⟨I,dr,er⟩:=aD2 n y4
 obtain ⟨D,bc⟩:∃D,D=w.alloc (.cells #[.slice ad n cap] 174):=⟨_,rfl⟩
 obtain ⟨q3,ch⟩:∃q3,q3=w.heap.size:=⟨_,rfl⟩
 have bk:Below w.heap.size w D:=by rw[bc];exact aL _ _
 have da:D.heap.size=w.heap.size+1:=by rw[bc];simp
 have du:D.heap[q3]?=some (.cells #[.slice ad n cap] 174 (0,0)):=by rw[bc,ch];exact aX w _
 have c3:=aF du 0 (u:=.slice ad n cap) rfl
 have di:bB A A w D:=fun x hx hl=>⟨hx,bk.block x hl⟩
 have ce:aM A D (d+1) l (.slice ad n cap):=hL.carry di
 have bh:Ro A P D:=fun x hx=>⟨by have:=(hR x hx).1;omega,(hR x hx).2⟩
 have HQ:Hid (q3<D.heap.size/\¬P q3/\D.cell? ⟨q3,0,none⟩=some (.slice ad n cap)/\Below w.heap.size w D/\D.heap.size=w.heap.size+1):=⟨by omega,fun hp=>by have:=h.2.2 q3 hp;omega,c3,bk,da⟩
 have Q:Hid (aM A D (d+1) l (.slice ad n cap)/\Ro A P D/\eK E ns P D kb k/\E+iG (d+1) l<1000000/\zT A kb ns d/\(∀x,A x->x<D.heap.size)):=⟨ce,bh,h.below bk,hE,ih,fun x hx=>(bh x hx).1⟩
 have HY:Hid ((∀s∈l,∀y∈s.ways,∃t,jT (bD l) y.to=some t)/\(∀s∈l,s.name.length≤maxLen/\s.ways.length≤1000000/\s.regions.length≤1000000/\(∀y∈s.ways,y.to.length≤maxLen)/\∀r∈s.regions,vW d r)/\rO ns (d+1) l/\rN (d+1) l/\n=l.length/\J<n/\Em.Ga l=(J:Int)/\p0=k.net.places/\oo=eO (cQ l)/\vG (fun x:cF (St d)=>x.first) l=(J:Int)):=⟨y3,y5,bw,dx,hn,f3,f1,cx,dd,f2⟩
 have HG:Hid (0<n->ad=some ⟨gd,0,none⟩/\A gd):=hg
 have HC:Hid (I.length=n*5):=dr
 have df:mH D gd l:=by
  obtain ⟨cv,g',de,e',an,ac⟩:=Qr ce
  have e1:cv=ad:=by injection e' with e';exact e'.symm
  have eg:0<l.length->g'=gd:=fun hp=>by
   have h1:=(an hp).1
   rw[e1,(hg (by omega)).1] at h1
   injection h1 with h1
   injection h1 with h1
   exact h1.symm
  intro i s hi
  have hp:0<l.length:=by have:=(aO5.1 hi).1;omega
  have hh:=aI7 (A:=A) (w:=D) (g:=g') (l:=l) (fun hp=>(bh _ (an hp).2).1) (fun i s hi=>by obtain ⟨a1,a2,a3,a4,a5,a6,a7,a8,a9,hM,_⟩:=ac i s hi;exact ⟨a1,a2,a3,a4,a5,a6,a7,a8,a9,hM⟩) (fun s hs=>⟨(y5 s hs).1,(y5 s hs).2.1,(y5 s hs).2.2.2.1⟩) i s hi
  rw[eg hp] at hh
  exact hh
 have en:Hid (mH D gd l):=df
 clear hL bw dx h hR hE ih y1 y2 y3 y5 ej hn f1 f2 cx dd hZ dr du di ce bh df hg
 go_enter Tryz.func116,Tryz.ntmps116
 go_upto_region 1 with fail
 rw[<-bc,<-ch]
 clear bc ch bk da
 go_upto_region 2 with fail
 obtain ⟨W5,ap⟩:∃W5,W5=(D.alloc (.cells I.toArray 236)).alloc (.cells #[.slice (some ⟨D.heap.size,0,none⟩) n n,.slice none 0 0,.int .i64 0,.int .i64 0,.bool true,.bool false] 188):=⟨_,rfl⟩
 obtain ⟨gS,ak⟩:∃gS,gS=D.heap.size:=⟨_,rfl⟩
 obtain ⟨g,cp⟩:∃g,g=(D.alloc (.cells I.toArray 236)).heap.size:=⟨_,rfl⟩
 have bv:g=D.heap.size+1:=by rw[cp];simp
 have dn:Below D.heap.size D (D.alloc (.cells I.toArray 236)):=aL _ _
 have az:Below (D.alloc (.cells I.toArray 236)).heap.size (D.alloc (.cells I.toArray 236)) W5:=by rw[ap];exact aL _ _
 have av:Below D.heap.size D W5:=aQ dn az
 have k4:(D.alloc (.cells I.toArray 236)).heap[gS]?=some (.cells I.toArray 236 (0,0)):=by rw[ak];exact aX D _
 have k5:W5.heap[gS]?=some (.cells I.toArray 236 (0,0)):=aD az k4
 have kg:W5.heap[g]?=some (.cells #[.slice (some ⟨gS,0,none⟩) n n,.slice none 0 0,.int .i64 0,.int .i64 0,.bool true,.bool false] 188 (0,0)):=by rw[ap,cp,ak];exact aX _ _
 have L5:LR A ns P kb D k gS g n d E P (fun _=>False) W5 k [] I (.slice none 0 0) 0 0 true false:=
  ⟨Q.out.2.2.1.below av,fun x hx=>.inl hx,fun _ _ h=>h,fun _ h=>h.elim,bM.of_below av,Int.le_refl _,kg,⟨by omega,fun hp=>by have:=Q.out.2.2.1.2.2 g hp;omega,fun h=>h,by omega⟩,⟨k5,HC.out⟩,⟨by omega,fun hp=>by have:=Q.out.2.2.1.2.2 gS hp;omega,fun h=>h⟩,fun i s hi=>by simp at hi⟩
 rw[<-bv,<-ak]
 rw[<-ak] at ap
 rw[<-ap]
 have c5:W5.cell? ⟨q3,0,none⟩=some (.slice ad n cap):=aN av HQ.out.2.2.1
 have cc:=Ai (cap:=cap) (oo:=oo) HY.out.2.2.2.2.2.2.2.2.1.symm HY.out.2.2.2.2.1 y4 (fun hp=>(HG.out hp).1) (en.out.below av)
 have au:Hid (LR A ns P kb D k gS g n d E P (fun _=>False) W5 k [] I (.slice none 0 0) 0 0 true false):=L5
 clear dn az av k4 k5 kg L5 cp bv ak ap HC c3
 go_upto_region 3 with (go_at_call 155;refine cc.mono ?_;intro e w1 ho;obtain ⟨vo,bo,rfl,bu,⟨a1,X,c1,rfl⟩,db⟩:=Ws ho;have cj:=aD bu.out au.out.hg;have z1:=aF cj 1 (u:=.slice none 0 0) rfl;have em:=aG cj 1;clear ho)
 have L6:LR A ns P kb D k gS g n d E P (fun x=>False\/(W5.heap.size≤x/\x<w1.heap.size)) w1 k [] I (.slice none 0 0) 0 0 true false:=
  LR.coder Q.out.2.1 au.out (au.out.cm.below bu.out) (fun x hx=>.inl hx) (fun x hx h'=>by have:=au.out.cm.2.2 x hx;omega) (fun x hx=>hx) (bM.of_below bu.out) (Int.le_refl _)
 obtain ⟨R1,cy⟩:∃R1:Nat->Prop,R1=fun x=>False\/(W5.heap.size≤x/\x<w1.heap.size):=⟨_,rfl⟩
 rw[<-cy] at L6
 have L7:LR A ns P kb D k gS g n d E P R1 (w1.setCell ⟨g,1,none⟩ (.slice a1 X c1)) k [] I (.slice a1 X c1) 0 0 true false:=L6.flag Q.out.2.2.2.2.2 (j:=1) rfl
 have ba:nL (fun x=>A x\/R1 x) (w1.setCell ⟨g,1,none⟩ (.slice a1 X c1)) (.slice a1 X c1) (oo.getD []):=(db.carry (A':=fun x=>A x\/R1 x) fun x hx _=>⟨.inr (by rw[cy];exact .inr hx),rfl⟩).carry (L6.keepG Q.out.2.2.2.2.2 _ _)
 obtain ⟨W7,dq⟩:∃W7,W7=w1.setCell ⟨g,1,none⟩ (.slice a1 X c1):=⟨_,rfl⟩
 rw[<-dq] at L7 ba ⊢
 have be:Hid (LR A ns P kb D k gS g n d E P R1 W7 k [] I (.slice a1 X c1) 0 0 true false/\nL (fun x=>A x\/R1 x) W7 (.slice a1 X c1) (oo.getD [])):=⟨L7,ba⟩
 have c7:W7.cell? ⟨q3,0,none⟩=some (.slice ad n cap):=L7.fr.cell HQ.out.2.2.1 HQ.out.2.1
 have co:=Xq (Q.out.1.carry (Q.out.2.1.keep L7.fr))
 rw[HY.out.2.2.2.2.2.2.2.2.2] at co
 clear cc bu db cj z1 em L6 L7 ba cy dq au c5
 go_upto_region 4 with (go_at_call 156;refine co.mono ?_;rintro e w2 ⟨rfl,ao⟩;have cu:=aD ao.out be.out.1.hg;have z2:=aF cu 2 (u:=.int .i64 0) rfl;have ef:=aG cu 2)
 have L8:LR A ns P kb D k gS g n d E P R1 (w2.setCell ⟨g,2,none⟩ (.int .i64 (J:Int))) k [] I (.slice a1 X c1) (J:Int) 0 true false:=(be.out.1.below ao.out).flag Q.out.2.2.2.2.2 (j:=2) rfl
 have am:nL (fun x=>A x\/R1 x) (w2.setCell ⟨g,2,none⟩ (.int .i64 (J:Int))) (.slice a1 X c1) (oo.getD []):=(be.out.2.carry (A':=fun x=>A x\/R1 x) fun x hx hl=>⟨hx,ao.out.block x hl⟩).carry ((be.out.1.below ao.out).keepG Q.out.2.2.2.2.2 _ _)
 obtain ⟨W8,dl⟩:∃W8,W8=w2.setCell ⟨g,2,none⟩ (.int .i64 (J:Int)):=⟨_,rfl⟩
 rw[<-dl] at L8 am ⊢
 have ag:Hid (LR A ns P kb D k gS g n d E P R1 W8 k [] I (.slice a1 X c1) (J:Int) 0 true false/\nL (fun x=>A x\/R1 x) W8 (.slice a1 X c1) (oo.getD [])):=⟨L8,am⟩
 have c8:=aF L8.hg 2 (u:=.int .i64 (J:Int)) rfl
 have dm:J≤1000000:=by have:=HY.out.2.2.2.2.2.1;omega
 have dp:E<1000000:=by have:=Q.out.2.2.2.1;omega
 have cb:=nX (w:=W8) J dm
 have ae:=yX (x:=(J:Int)+1) L8.cm dp ⟨by omega,by omega⟩
 rw[<-HY.out.2.2.2.2.2.2.2.1] at ae
 clear co ao cu z2 ef L8 am dl be c7 dm dp
 go_upto_region 5 with (first|(go_at_call 158;refine cb.mono ?_;rintro e w3 ⟨rfl,ee⟩;obtain rfl:=ee.symm;clear cb)|(go_at_call 115;refine ae.mono ?_;rintro e w4 ⟨rfl,h4⟩;have cr:=h4.out.2.heap ag.out.1.hg ag.out.1.gl.2.1;have z4:=aF cr 3 (u:=.int .i64 0) rfl;have ed:=aG cr 3))
 have L9:LR A ns P kb D k gS g n d (E+1) (Up P W8 w4) (fun x=>R1 x\/False) w4 (bF (aU k ((J:Int)+1)) p0) [] I (.slice a1 X c1) (J:Int) 0 true false:=
  LR.coder Q.out.2.1 ag.out.1 h4.out.1 (fun x hx=>hx) (fun _ _ h=>h) (fun _ h=>h.elim) h4.out.2 (by show k.net.places≤k.net.places+1;omega)
 have ax:nL (fun x=>A x\/R1 x\/False) (w4.setCell ⟨g,3,none⟩ (.int .i64 p0)) (.slice a1 X c1) (oo.getD []):=(ag.out.2.carry (ag.out.1.keepC Q.out.2.1 h4.out.2 fun _=>False)).carry (L9.keepG Q.out.2.2.2.2.2 _ _)
 have br:LR A ns P kb D k gS g n d (E+1) (Up P W8 w4) (fun x=>R1 x\/False) (w4.setCell ⟨g,3,none⟩ (.int .i64 p0)) (bF (aU k ((J:Int)+1)) p0) [] I (.slice a1 X c1) (J:Int) p0 true false:=L9.flag Q.out.2.2.2.2.2 (j:=3) rfl
 obtain ⟨W9,dt⟩:∃W9,W9=w4.setCell ⟨g,3,none⟩ (.int .i64 p0):=⟨_,rfl⟩
 rw[<-dt] at br ax ⊢
 have eh:Hid (∃Pj U,LR A ns P kb D k gS g n d (E+1) Pj U W9 (bF (aU k ((J:Int)+1)) p0) [] I (.slice a1 X c1) (J:Int) p0 true false/\nL (fun x=>A x\/U x) W9 (.slice a1 X c1) (oo.getD [])):=⟨_,_,br,ax⟩
 have c9:W9.cell? ⟨q3,0,none⟩=some (.slice ad n cap):=br.fr.cell HQ.out.2.2.1 HQ.out.2.1
 clear ae h4 cr z4 ed L9 br ax dt ag c8
 go_upto_region 7 with fail
 clear c9
 go_loopg [40] n (fun f i wr=>∃(j:Nat) (kj:Kd) (ss:List (eR (St d) (Rg d))) (cs:List Value) (id lv:Bool),f=n-j/\j≤n/\i=.int .i64 (j:Int)/\Hid (ss.length=j/\Z=(Em.fL (Em.aJ d) (bD l) (l.drop j) >>= fun t=>Vk l p0 (ss++t)) kj/\id=ss.all (·.idle)/\lv=ss.any (·.leaves)/\(∀s∈ss,B9 ns l.length (eS ns d) s)/\p0<kj.net.places/\∃Pj U,LR A ns P kb D k gS g n d (E+1+((l.take j).map (jG (iG d))).sum) Pj U wr kj ss cs (.slice a1 X c1) (J:Int) p0 id lv/\nL (fun x=>A x\/U x) wr (.slice a1 X c1) (oo.getD [])))
 case atStart=>
  obtain ⟨Pj,U,L,O⟩:=eh.out
  exact ⟨0,_,[],I,true,false,by omega,by omega,rfl,rfl,HZ.out.1,rfl,rfl,fun _ h=>by simp at h,by show p0<k.net.places+1;have:=HY.out.2.2.2.2.2.2.2.1;omega,Pj,U,by simpa using L,O⟩
 case round=>
  obtain ⟨j,kj,ss,cs,id,lv,rfl,hj,rfl,hr⟩:=hrel
  obtain ⟨af,bq,bj,bp,bn,bi,Pj,U,hS,hO⟩:=hr.out
  by_cases hlt:j<n
  ·obtain ⟨s,hs⟩:∃s:cF (St d),l[j]?=some s:=⟨_,aN3 (by rw[<-HY.out.2.2.2.2.1];exact hlt)⟩
   have al:=aO7 hs
   have kp:bB A A D wr:=Q.out.2.1.keep hS.fr
   have ct:aM A wr (d+1) l (.slice ad n cap):=Q.out.1.carry kp
   have cq:wr.cell? ⟨q3,0,none⟩=some (.slice ad n cap):=hS.fr.cell HQ.out.2.2.1 HQ.out.2.1
   have nq:¬Pj q3:=fun hp=>(hS.up q3 hp).elim HQ.out.2.1 fun h=>absurd h.1 (by have:=HQ.out.1;omega)
   have dk:Ro A Pj wr:=fun x hx=>⟨aO2 (Q.out.2.2.2.2.2 x hx) hS.fr.size,fun hp=>(hS.up x hp).elim (Q.out.2.1 x hx).2 fun h=>absurd h.1 (by have:=Q.out.2.2.2.2.2 x hx;omega)⟩
   obtain ⟨cv,g',de,e',an,ac⟩:=Qr ct
   have e1:cv=ad:=by injection e' with e';exact e'.symm
   have eg:g'=gd:=by
    have h1:=(an (by rw[<-HY.out.2.2.2.2.1];omega)).1
    rw[e1,(HG.out (by omega)).1] at h1
    injection h1 with h1
    injection h1 with h1
    exact h1.symm
   rw[eg] at ac
   obtain ⟨ve,vd,eq,pr,ay,ar,gy,eo,ep,hm,ea,dy⟩:=ac j s hs
   have cz:=Xo ad gd n cap j hlt (fun hp=>(HG.out hp).1)
   obtain ⟨o,ho⟩:∃o,o=j*9:=⟨_,rfl⟩
   have cd:(E+1+((l.take j).map (jG (iG d))).sum)+jG (iG d) s<1000000:=by
    have h1:=Q.out.2.2.2.1
    have h2:=mK (jG (iG d)) hs
    have h3:iG (d+1) l=1+(l.map (jG (iG d))).sum:=rfl
    omega
   have y5:=HY.out.2.1 s al
   have ya:=HY.out.2.2.1 s al
   have yt:=HY.out.2.2.2.1 s al
   have dw:=Q3 Q.out.2.2.2.2.1 (L:=l) (s:=s) ct ⟨cq,nq⟩ (i:=j) (od:=o) ho (HG.out (by omega)).2 hm ea dy ⟨ya.1,fun r hr=>⟨ya.2 r hr,y5.2.2.2.2 r hr,yt.2.2.2 r hr⟩,fun y hy=>⟨HY.out.1 s al y hy,y5.2.2.2.1 y hy,yt.2.2.1 y hy⟩,y5.2.1,y5.2.2.1,yt.1,yt.2.1⟩ hS.cm dk cd
   rw[<-ho] at cz
   have HJ:Hid (LR A ns P kb D k gS g n d (E+1+((l.take j).map (jG (iG d))).sum) Pj U wr kj ss cs (.slice a1 X c1) (J:Int) p0 id lv/\nL (fun x=>A x\/U x) wr (.slice a1 X c1) (oo.getD [])/\l[j]?=some s/\ss.length=j/\Z=(Em.jD (Em.aJ d) (bD l) s >>= fun x=>Em.fL (Em.aJ d) (bD l) (l.drop (j+1)) >>= fun t=>Vk l p0 ((ss++[x])++t)) kj/\id=ss.all (·.idle)/\lv=ss.any (·.leaves)/\(∀s∈ss,B9 ns l.length (eS ns d) s)/\p0<kj.net.places):=⟨hS,hO,hs,af,by rw[bq,dT hs,yV],bj,bp,bn,bi⟩
   clear hr af bq bj bp bn bi hS hO hs al kp ct nq dk e' an ac e1 eg hm ea dy ho cd y5 ya yt
   go_upto_region 10 with (go_at_call 161;refine dw.mono ?_;rintro e w1 ⟨aw,nw,cw,ai,ni,ci,Y,aa,rfl,h1⟩)
   obtain ⟨q8,cf⟩:∃q8,q8=w1.heap.size:=⟨_,rfl⟩
   rw[<-cf]
   obtain ⟨V,hV⟩:∃V,V=w1.alloc (.cells #[.pointer (some ⟨gd,o,none⟩),.slice aw nw cw,.slice ai ni ci,.bool Y,.bool aa] 236):=⟨_,rfl⟩
   have cg:Below w1.heap.size w1 V:=by rw[hV];exact aL _ _
   have bm:V.heap[q8]?=some (.cells #[.pointer (some ⟨gd,o,none⟩),.slice aw nw cw,.slice ai ni ci,.bool Y,.bool aa] 236 (0,0)):=by rw[hV,cf];exact aX w1 _
   rw[<-hV]
   obtain ⟨st,k1,P1,Q1,hz,i1,i2,C1,u1,d1,dc,r1,p1,V1,K1⟩:=h1.out
   have S1:LR A ns P kb D k gS g n d (E+1+((l.take (j+1)).map (jG (iG d))).sum) P1 (fun x=>U x\/Q1 x) w1 k1 ss cs (.slice a1 X c1) (J:Int) p0 id lv:=by
    refine LR.moreE (LR.coder Q.out.2.1 HJ.out.1 C1 u1 d1 dc r1 p1) ?_
    rw[mQ (jG (iG d)) HJ.out.2.2.1];omega
   have O1:nL (fun x=>A x\/U x\/Q1 x) w1 (.slice a1 X c1) (oo.getD []):=HJ.out.2.1.carry (HJ.out.1.keepC Q.out.2.1 r1 Q1)
   have S2:=S1.below cg
   have kV:bB (fun x=>A x\/U x\/Q1 x) (fun x=>A x\/U x\/Q1 x) w1 V:=fun x hx hl=>⟨hx,cg.block x hl⟩
   have O2:=O1.carry kV
   have V2:Vo (fun x=>A x\/U x\/Q1 x) V st gd o (.slice aw nw cw) (.slice ai ni ci):=(V1.carry (A':=fun x=>A x\/U x\/Q1 x) (w':=w1) fun x hx _=>⟨hx.elim .inl fun h=>.inr (.inr h),rfl⟩).carry kV
   have bf:q8≠g/\q8≠gS/\¬(A q8\/U q8\/Q1 q8):=⟨fun e=>by have:=aB S1.hg;omega,fun e=>by have:=aB S1.hs.1;omega,fun h=>by
    rcases h with h|h
    ·have:=Q.out.2.2.2.2.2 q8 h;have:=S1.fr.size;omega
    ·have:=(S1.rn q8 h).2;omega⟩
   have S3:∀b,LR A ns P kb D k gS g n d (E+1+((l.take (j+1)).map (jG (iG d))).sum) P1 (fun x=>U x\/Q1 x) (V.setCell ⟨g,4,none⟩ (.bool b)) k1 ss cs (.slice a1 X c1) (J:Int) p0 b lv:=fun b=>S2.flag Q.out.2.2.2.2.2 (j:=4) rfl
   have S4:∀b c,LR A ns P kb D k gS g n d (E+1+((l.take (j+1)).map (jG (iG d))).sum) P1 (fun x=>U x\/Q1 x) ((V.setCell ⟨g,4,none⟩ (.bool b)).setCell ⟨g,5,none⟩ (.bool c)) k1 ss cs (.slice a1 X c1) (J:Int) p0 b c:=fun b c=>(S3 b).flag Q.out.2.2.2.2.2 (j:=5) rfl
   have kG:∀b c,bB (fun x=>A x\/U x\/Q1 x) (fun x=>A x\/U x\/Q1 x) V ((V.setCell ⟨g,4,none⟩ (.bool b)).setCell ⟨g,5,none⟩ (.bool c)):=fun b c=>(S2.keepG Q.out.2.2.2.2.2 4 (.bool b)).trans ((S3 b).keepG Q.out.2.2.2.2.2 5 (.bool c)) (by simp[World.setCell])
   have kQ:∀b c,((V.setCell ⟨g,4,none⟩ (.bool b)).setCell ⟨g,5,none⟩ (.bool c)).heap[q8]?=some (.cells #[.pointer (some ⟨gd,o,none⟩),.slice aw nw cw,.slice ai ni ci,.bool Y,.bool aa] 236 (0,0)):=fun b c=>by rw[Below.heap_setCell _ _ _ _ bf.1,Below.heap_setCell _ _ _ _ bf.1];exact bm
   have ds:Hid (∀b c,LR A ns P kb D k gS g n d (E+1+((l.take (j+1)).map (jG (iG d))).sum) P1 (fun x=>U x\/Q1 x) ((V.setCell ⟨g,4,none⟩ (.bool b)).setCell ⟨g,5,none⟩ (.bool c)) k1 ss cs (.slice a1 X c1) (J:Int) p0 b c/\nL (fun x=>A x\/U x\/Q1 x) ((V.setCell ⟨g,4,none⟩ (.bool b)).setCell ⟨g,5,none⟩ (.bool c)) (.slice a1 X c1) (oo.getD [])/\Vo (fun x=>A x\/U x\/Q1 x) ((V.setCell ⟨g,4,none⟩ (.bool b)).setCell ⟨g,5,none⟩ (.bool c)) st gd o (.slice aw nw cw) (.slice ai ni ci)/\((V.setCell ⟨g,4,none⟩ (.bool b)).setCell ⟨g,5,none⟩ (.bool c)).heap[q8]?=some (.cells #[.pointer (some ⟨gd,o,none⟩),.slice aw nw cw,.slice ai ni ci,.bool Y,.bool aa] 236 (0,0))):=fun b c=>⟨S4 b c,O2.carry (kG b c),V2.carry (kG b c),kQ b c⟩
   have ah:Hid (ss.length=j/\Z=(Em.fL (Em.aJ d) (bD l) (l.drop (j+1)) >>= fun t=>Vk l p0 ((ss++[st])++t)) k1/\(id&&Y)=(ss++[st]).all (·.idle)/\(lv||aa)=(ss++[st]).any (·.leaves)/\(∀s∈ss++[st],B9 ns l.length (eS ns d) s)/\p0<k1.net.places/\st.idle=Y/\st.leaves=aa):=by
    obtain ⟨_,_,_,g4,g5,g6,g7,g8,g9⟩:=HJ.out
    refine ⟨g4,by rw[g5];exact I0 hz,by rw[g6,<-i1];simp,by rw[g7,<-i2];simp,fun x hx=>?_,by omega,i1,i2⟩
    rcases aP5.1 hx with h|h
    ·exact g8 x h
    ·rw[aP1.1 h];exact K1
   have x4:V.cell? ⟨g,4,none⟩=some (.bool id):=aF S2.hg 4 rfl
   have ec:=aG S2.hg 4
   have x5:∀b,(V.setCell ⟨g,4,none⟩ (.bool b)).cell? ⟨g,5,none⟩=some (.bool lv):=fun b=>aF (S3 b).hg 5 rfl
   have ei:∀b,(V.setCell ⟨g,4,none⟩ (.bool b)).frozen? ⟨g,5,none⟩=false:=fun b=>aG (S3 b).hg 5
   have v3:V.cell? ⟨q8,3,none⟩=some (.bool Y):=aF bm 3 rfl
   have v4:∀b,(V.setCell ⟨g,4,none⟩ (.bool b)).cell? ⟨q8,4,none⟩=some (.bool aa):=fun b=>by
    rw[aY4 (w:=V) (a:=⟨q8,4,none⟩) (Below.heap_setCell _ _ _ _ bf.1)];exact aF bm 4 rfl
   have ew:Hid (q8≠g/\q8≠gS/\¬(A q8\/U q8\/Q1 q8)):=bf
   clear dw h1 hz i1 i2 C1 u1 d1 dc r1 p1 V1 K1 S1 S2 S3 S4 O1 O2 V2 kV kG kQ HJ cz cf hV cg bm cq bf
   go_cut [] from 41 to 78 (fun wx=>∃b,wx=V.setCell ⟨g,4,none⟩ (.bool b)/\Hid (b=(id&&Y)))
   case first=>
    cases id
    all_goals
     go_wp2_with fail
     go_meet
     case rel=>exact ⟨_,rfl,rfl⟩
   case rest=>
    obtain ⟨b,rfl,hb⟩:=hcut
    go_upto_region 11 with fail
    go_cut [] from 41 to 78 (fun wx=>∃c,wx=(V.setCell ⟨g,4,none⟩ (.bool b)).setCell ⟨g,5,none⟩ (.bool c)/\Hid (c=(lv||aa)))
    case first=>
     cases lv
     all_goals
      go_wp2_with fail
      go_meet
      case rel=>exact ⟨_,rfl,rfl⟩
    case rest=>
     obtain ⟨c,rfl,hc⟩:=hcut
     go_upto_region 12 with fail
     obtain ⟨ab,bz⟩:∃ab,ab=(V.setCell ⟨g,4,none⟩ (.bool b)).setCell ⟨g,5,none⟩ (.bool c):=⟨_,rfl⟩
     obtain ⟨T1,T2,T3,T4⟩:=ds.out b c
     rw[<-bz] at T1 T2 T3 T4 ⊢
     have ek:Hid (ss.length=j/\Z=(Em.fL (Em.aJ d) (bD l) (l.drop (j+1)) >>= fun t=>Vk l p0 ((ss++[st])++t)) k1/\b=(ss++[st]).all (·.idle)/\c=(ss++[st]).any (·.leaves)/\(∀s∈ss++[st],B9 ns l.length (eS ns d) s)/\p0<k1.net.places/\st.idle=Y/\st.leaves=aa):=⟨ah.out.1,ah.out.2.1,hb.out.trans ah.out.2.2.1,hc.out.trans ah.out.2.2.2.1,ah.out.2.2.2.2⟩
     have HT:Hid (LR A ns P kb D k gS g n d (E+1+((l.take (j+1)).map (jG (iG d))).sum) P1 (fun x=>U x\/Q1 x) ab k1 ss cs (.slice a1 X c1) (J:Int) p0 b c/\nL (fun x=>A x\/U x\/Q1 x) ab (.slice a1 X c1) (oo.getD [])/\Vo (fun x=>A x\/U x\/Q1 x) ab st gd o (.slice aw nw cw) (.slice ai ni ci)):=⟨T1,T2,T3⟩
     have s0:=aF T1.hg 0 (u:=.slice (some ⟨gS,0,none⟩) n n) rfl
     have u0:=aF T4 0 (u:=.pointer (some ⟨gd,o,none⟩)) rfl
     have u1:=aF T4 1 (u:=.slice aw nw cw) rfl
     have u2:=aF T4 2 (u:=.slice ai ni ci) rfl
     have u3:=aF T4 3 (u:=.bool Y) rfl
     have u4:=aF T4 4 (u:=.bool aa) rfl
     obtain ⟨oS,ck⟩:∃oS,oS=j*5:=⟨_,rfl⟩
     have ev:∀W,(Instr.indexAt 186 (.slice (some ⟨gS,0,none⟩) n n) (.int .i64 (j:Int))).run Tryz.prog W=.ok (.pointer (some ⟨gS,oS,none⟩)) W:=fun W=>by rw[ck];exact Se (some ⟨gS,0,none⟩) gS n n j hlt (fun _=>rfl) W
     have aj:∀jj,jj<5->∃u,ab.cell? ⟨gS,oS+jj,none⟩=some u:=fun jj eu=>by
      have hlen:=T1.hs.2
      exact ⟨_,aF T1.hs.1 (oS+jj) (by rw[List.getElem?_toArray];exact aN3 (by omega))⟩
     obtain ⟨b0,m0⟩:=aj 0 (by omega)
     obtain ⟨b1,m1⟩:=aj 1 (by omega)
     obtain ⟨b2,m2⟩:=aj 2 (by omega)
     obtain ⟨b3,m3⟩:=aj 3 (by omega)
     obtain ⟨b4,m4⟩:=aj 4 (by omega)
     rw[aY2] at m0
     have z0:=aG T1.hs.1 oS
     have z1:=aG T1.hs.1 (oS+1)
     have z2:=aG T1.hs.1 (oS+2)
     have z3:=aG T1.hs.1 (oS+3)
     have z4:=aG T1.hs.1 (oS+4)
     have HO:Hid (oS=j*5):=ck
     clear T1 T2 T3 T4 aj bz ds ah ck x4 ec x5 ei v3 v4
     go_region
     all_goals
      go_wp2_with fail
      go_roundg (n-(j+1))
      case measure=>omega
      case rel=>
       obtain ⟨j1,j2,j3,j4,j5,j6,j7,j8⟩:=ek.out
       obtain ⟨eb,bg⟩:=HT.out.1.put Q.out.2.2.2.2.2 (s:=st) (gd:=gd) (od:=o) (by omega) HT.out.2.2 (i:=j) j1.symm
       rw[j7,j8,<-HO.out] at bg
       have dz:=HT.out.2.1.carry (HT.out.1.keepS Q.out.2.2.2.2.2 fun x hx=>Wi (W:=ab) (gS:=gS) (o:=oS) (a:=.pointer (some ⟨gd,o,none⟩)) (b:=.slice aw nw cw) (c:=.slice ai ni ci) (e:=.bool Y) (f:=.bool aa) x hx)
       generalize ((((ab.setCell ⟨gS,oS,none⟩ (.pointer (some ⟨gd,o,none⟩))).setCell ⟨gS,oS+1,none⟩ (.slice aw nw cw)).setCell ⟨gS,oS+2,none⟩ (.slice ai ni ci)).setCell ⟨gS,oS+3,none⟩ (.bool Y)).setCell ⟨gS,oS+4,none⟩ (.bool aa)=W6 at bg dz ⊢
       exact ⟨j+1,k1,ss++[st],eb,b,c,rfl,by omega,by go_num,by rw[aO6,j1];rfl,j2,j3,j4,j5,j6,P1,_,bg.drew,dz.drew⟩
  ·have cn:j=n:=by omega
   have bb:ss.length=l.length:=by rw[af,cn];exact HY.out.2.2.2.2.1
   have dj:Z=some ((⟨ss,(eO (cQ l)).getD [],(J:Int),p0,id,lv⟩:jP (St d) (Rg d)),kj):=by
    rw[bq,aW8 (by rw[<-bb,af];exact aN4 _)]
    show (Vk l p0 (ss++[])) kj=_
    rw[List.append_nil,bj,bp,<-HY.out.2.2.2.2.2.2.1]
    rfl
   have hE:E+1+((l.take j).map (jG (iG d))).sum=E+iG (d+1) l:=by
    rw[List.take_of_length_le (by rw[<-bb,af];exact aN4 _)]
    show _=E+(1+(l.map (jG (iG d))).sum)
    omega
   have ca:Laid A ns P kb w k (d+1) (E+iG (d+1) l) (⟨ss,(eO (cQ l)).getD [],(J:Int),p0,id,lv⟩:jP (St d) (Rg d)) g Pj (fun x=>U x\/x=g\/x=gS) wr kj:=by
    rw[<-hE]
    refine hS.done HQ.out.2.2.2.1 (by rw[af,cn]) (by rw[<-HY.out.2.2.2.2.2.2.2.2.1];exact hO) ⟨by show ss.length≤1000000;omega,by show 0≤(J:Int)/\(J:Int)<ss.length;have:=HY.out.2.2.2.2.2.1;omega,fun i hi=>?_,?_,fun s hs=>?_⟩ ⟨?_,bi⟩
    ·show i<ss.length
     rw[bb];exact Qp.1 i hi
    ·show ((eO (cQ l)).getD []).length≤1000000
     have:=(Qp (l:=l)).2;omega
    ·show B9 ns ss.length (eS ns d) s
     rw[bb];exact bn s hs
    ·rw[HY.out.2.2.2.2.2.2.2.1,Q.out.2.2.1.2.1.len];omega
   have HF:Hid (Em.lay (Em.aJ d) l k=some ((⟨ss,(eO (cQ l)).getD [],(J:Int),p0,id,lv⟩:jP (St d) (Rg d)),kj)/\Laid A ns P kb w k (d+1) (E+iG (d+1) l) (⟨ss,(eO (cQ l)).getD [],(J:Int),p0,id,lv⟩:jP (St d) (Rg d)) g Pj (fun x=>U x\/x=g\/x=gS) wr kj):=⟨HZ.out.2.symm.trans dj,ca⟩
   clear hr af bq bj bp bn bi hS hO cn bb dj hE ca
   go_wp2_with fail
   go_ret
   exact ⟨g,rfl,_,kj,Pj,_,HF.out⟩
theorem Rv (ih:zT A kb ns d):zT A kb ns (d+1):=fun hL hlay hall htm h hR hE=>Xn ih hL hlay hall htm h hR hE
theorem Ie:∀d,zT A kb ns d
 | 0=>fun _ hlay _ _ _ _ _=>hlay.elim
 | d+1=>Rv (Ie d)
end
section
variable {A P:Nat->Prop}{w:World}{ns:List bE}{kb E:Nat}{k:Kd}
def zeroed (k:Kd) (t:Nat):Kd:={ k with net:={ k.net with first:=k.net.first.set t 0 } }
theorem eK.zeroed (h:eK E ns P w kb k) {t:Nat}(ht:t<k.net.first.length):∃b cap,w.cell? ⟨kb,1,none⟩=some (.slice (some ⟨b,0,none⟩) k.net.first.length cap)/\P b/\(∃u,w.cell? ⟨b,t,none⟩=some u)/\w.frozen? ⟨b,t,none⟩=false/\eK E ns P (w.setCell ⟨b,t,none⟩ (.int .i64 0)) kb (zeroed k t)/\bM P w (w.setCell ⟨b,t,none⟩ (.int .i64 0)):=by
 obtain ⟨⟨c,n⟩,r,O⟩:=h
 have hr:w.ownsRow 0 2 1 (c.v 1) k.net.first.length (k.net.first.map (Value.int .i64)):=n.row 1 (by omega) (by omega)
 obtain ⟨b,cap,J,_,ab⟩:=hr.form (by omega)
 obtain ⟨D,l⟩:=n.pr 1 b (by omega) (by omega) (by rw[J];rfl)
 have s:=hr
 rw[J] at s
 obtain ⟨Y,ac⟩:=s.stored t (.int .i64 0)
 have I:∀x,x≠b->(w.setCell ⟨b,t,none⟩ (.int .i64 0)).heap[x]?=w.heap[x]?:=fun x hx=>Below.heap_setCell _ _ _ _ hx
 have hz:(w.setCell ⟨b,t,none⟩ (.int .i64 0)).heap.size=w.heap.size:=by simp[World.setCell]
 have Q:bM P w (w.setCell ⟨b,t,none⟩ (.int .i64 0)):=(bM.refl _ _).setCell (.inl D) _
 obtain ⟨fv,U,Z⟩:=n.hv
 obtain ⟨fn,X,aa⟩:=n.hn
 refine ⟨b,cap,by rw[<-J];exact n.cell 1 rfl,D,⟨_,by rw[s.cellAt t (by omega)];exact aN3 (by simpa using ht)⟩,s.frozenAt t,⟨⟨c,?_,fun j j1 j6=>?_,⟨fv,U.keep (I _ fun e=>?_),Z⟩,⟨fn,X.keep (I _ fun e=>?_),aa⟩,n.p0,n.pr,n.pv,n.pn,?_,n.nn,n.mvk⟩,?_,fun x hx=>by rw[hz];exact O x hx⟩,Q⟩
 ·rw[I kb fun e=>by have:=n.p0.2;rw[e,l] at this;omega];exact n.hk
 ·by_cases hj:j=1
  ·subst hj
   show World.ownsRow _ 0 2 1 (c.v 1) (k.net.first.set t 0).length ((k.net.first.set t 0).map (Value.int .i64))
   rw[J,aR6,List.map_set]
   exact Y
  ·have e1:rB (Ew.zeroed k t).net j=rB k.net j:=by unfold rB;split<;>first|exact absurd rfl hj|rfl
   have e2:pP (Ew.zeroed k t).net j=pP k.net j:=by unfold pP;split<;>first|exact absurd rfl hj|rfl
   rw[e1,e2]
   refine eY (A:=fun x=>(c.v j).ownBlock=some x) (A':=fun _=>True) (n.row j j1 j6) (fun _ h=>h) fun x hx _=>⟨trivial,I x fun e=>?_⟩
   have:=(n.pr j x j1 j6 hx).2;rw[e,l] at this;omega
 ·have:=n.pv.2;rw[e,l] at this;omega
 ·have:=n.pn.2;rw[e,l] at this;omega
 ·show c.nv≤(k.net.first.set t 0).length
  rw[aR6];exact n.nv
 ·have y:(Ew.zeroed k t).net.first.length=k.net.first.length:=by simp[Ew.zeroed]
  refine ⟨by rw[y];exact r.len,by rw[y];exact r.pot,r.code,by rw[y];exact r.keeps,by rw[y];exact r.ins,by rw[y];exact r.outs,r.nums,r.e,fun x hx=>?_,r.nn,r.vf,r.out⟩
  rcases List.mem_or_eq_of_mem_set hx with h|h
  ·exact r.nf x h
  ·rw[h];exact ⟨by omega,by omega⟩
theorem eK.drew (h:eK E ns P w kb k):eK E ns P w.drew kb k:=h.below (Below.refl _ _).drew
theorem aL1 (b n cap t:Nat) (c:t<n) (w:World):(Instr.indexAt 22 (.slice (some ⟨b,0,none⟩) n cap) (.int .i64 (t:Int))).run Tryz.prog w=.ok (.pointer (some ⟨b,t,none⟩)) w:=by
 rw[aY6 _ _ _ _ _ _ _ (by kernel_rfl),if_pos ⟨by omega,by omega⟩]
 have e:(sizeOf (Tryz.prog.elem 22)).run Tryz.prog w=.ok 1 w:=by kernel_rfl
 rw[e]
 simp[Result.andThen,Addr.add]
 try (intro h;exact h.symm)
theorem Dm {b:Int}{l:List (St 6)}{r:List (List (St 6))}{g:jP (St 5) (Rg 5)}{k1:Kd}{t:Nat}(h:(Em.aJ 6).lay l k=some (g,k1)) (c:g.there=(t:Int)):Em.rI b (l::r) k=((Em.aJ 6).goOn g g.there (Em.eC (List.replicate g.states.length []) g.first b false) >>= fun _=>Em.rI b r) (Ew.zeroed k1 t):=by
 have e:t=g.there.toNat:=by rw[c];rfl
 rw[e]
 exact I0 (m:=(Em.aJ 6).lay l) h
theorem Ox {wr w1 w2 w5:World}{D k1 k2:Kd}{d g:Nat}{r:Rg d}{l I:Nat->Prop}{o:Option (Unit×Kd)}{e:Ending}(O:∀b,P b->b<w.heap.size) (j:bM P w wr) (J:k.net.places≤D.net.places) (c:Laid A ns (Up P w wr) kb wr D d E r g l I w1 k1) (y:bM l w1 w2) (Q:k1.net.places≤k2.net.places) (h:fJ E ns l kb w2 k2 o (fun _=>.tuple #[]) e w5) :
    (e=Vl/\Hid (o=none)/\Hid (bM P w w5))\/∃k5,e=.returned (.tuple #[])/\Hid (o=some ((),k5))/\Hid (At E ns P kb w k w5 k5):=by
 have Y:=j.size
 have U:=c.fr.size
 have X:=y.size
 have f1:=j.up c.fr
 have f2:bM P w w2:=f1.trans y fun b hb n=>(c.up b n).elim (fun h=>h.elim id fun h=>absurd h.1 (by omega)) fun h=>absurd h.1 (by omega)
 have st:∀{w':World},bM l w2 w'->bM P w w':=fun h=>f2.trans h fun b hb n=>(c.up b n).elim (fun h=>h.elim id fun h=>absurd h.1 (by omega)) fun h=>absurd h.1 (by omega)
 rcases h with ⟨rfl,s,u⟩|⟨_,k5,rfl,s,u⟩
 ·exact .inl ⟨rfl,s,st u.out⟩
 ·obtain ⟨c1,c2,c3⟩:=u.out
  have Z:=c2.size
  refine .inr ⟨k5,rfl,s,c1.mono (fun b hb=>?_) (iI O (st c2).size),st c2,by have:=c.pl;omega⟩
  rcases hb with hb|hb
  ·rcases c.up b hb with hb|hb
   ·exact Up.size (by omega) b hb
   ·exact .inr ⟨by omega,by omega⟩
  ·exact .inr ⟨by omega,hb.2⟩
end
end Ew
end
end Go.Proofs.YthieaobjdpfcoaaGreatDoor
