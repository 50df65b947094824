import Derived.Test.YthieaobjdpfcoaaGreatDoorUEz1
import Derived.Deep.CutRange
set_option maxRecDepth 100000
set_option maxHeartbeats 16000000
namespace Go.Proofs.YthieaobjdpfcoaaGreatDoor
section
open Go.RowKit Px
namespace Ew
open Px.Em (Kd Vr eQ eR jP Rg cX)
open Nx (Nt Sp)
section
variable {A P:Nat->Prop}{w:World}{ns:List bE}{kb d E:Nat}{k:Kd}
theorem Xn (ih:zT A kb ns d) {v:Value}{l:List (cF (St d))}(hL:aM A w (d+1) l v) (ea:vW (d+1) l) (cb:rO ns (d+1) l) (dr:rN (d+1) l) (h:eK E ns P w kb k) (hR:Ro A P w) (hE:E+iG (d+1) l<1000000) :
    Calls Tryz.prog 116 #[.pointer (some ⟨kb,0,none⟩),v] w fun e w'=>∃g,e=.returned (.pointer (some ⟨g,0,none⟩))/\Hid (∃(r:jP (St d) (Rg d)) (k':Kd) (P' R:Nat->Prop),Em.lay (Em.aJ d) l k=some (r,k')/\Laid A ns P kb w k (d+1) (E+iG (d+1) l) r g P' R w' k'):=by
 obtain ⟨y1,y2,y3,y4,y5⟩:jC l=1/\Zd (bD l)/\(∀s∈l,∀y∈s.ways,∃t,jT (bD l) y.to=some t)/\l.length≤1000000/\(∀s∈l,s.name.length≤maxLen/\s.ways.length≤1000000/\s.regions.length≤1000000/\(∀y∈s.ways,y.to.length≤maxLen)/\∀r∈s.regions,vW d r):=ea
 obtain ⟨ad,gd,cap,rfl,hg,eh⟩:=Qr hL
 obtain ⟨n,hn⟩:∃n,n=l.length:=⟨_,rfl⟩
 obtain ⟨J,f1,f2,f3⟩:=Tk y1
 obtain ⟨p0,ck⟩:∃p0,p0=k.net.places:=⟨_,rfl⟩
 obtain ⟨oo,dy⟩:∃oo,oo=eO (cQ l):=⟨_,rfl⟩
 rw[<-hn] at y4 hg f3 hL ⊢
 obtain ⟨Z,hZ⟩:∃Z,Z=Em.lay (Em.aJ d) l k:=⟨_,rfl⟩
 have HZ:Hid (Z=(Em.fL (Em.aJ d) (bD l) l >>= Vk l p0) (bF (aU k ((J:Int)+1)) p0)/\Z=Em.lay (Em.aJ d) l k):=⟨by rw[hZ,aD9,f1,ck],hZ⟩
 obtain ⟨I,dw,ew⟩:=aD2 n y4
 obtain ⟨D,au⟩:∃D,D=w.alloc (.cells #[.slice ad n cap] 174):=⟨_,rfl⟩
 obtain ⟨q3,cy⟩:∃q3,q3=w.heap.size:=⟨_,rfl⟩
 have bq:Below w.heap.size w D:=by rw[au];exact aC _ _
 have dd:D.heap.size=w.heap.size+1:=by rw[au];simp
 have dq:D.heap[q3]?=some (.cells #[.slice ad n cap] 174 (0,0)):=by rw[au,cy];exact aX w _
 have c3:=aA dq 0 (u:=.slice ad n cap) rfl
 have dm:bB A A w D:=fun x hx hl=>⟨hx,bq.block x hl⟩
 have co:aM A D (d+1) l (.slice ad n cap):=hL.carry dm
 have bm:Ro A P D:=fun x hx=>⟨by have:=(hR x hx).1;omega,(hR x hx).2⟩
 have HQ:Hid (q3<D.heap.size/\¬P q3/\D.cell? ⟨q3,0,none⟩=some (.slice ad n cap)/\Below w.heap.size w D/\D.heap.size=w.heap.size+1):=⟨by omega,fun hp=>by have:=h.2.2 q3 hp;omega,c3,bq,dd⟩
 have Q:Hid (aM A D (d+1) l (.slice ad n cap)/\Ro A P D/\eK E ns P D kb k/\E+iG (d+1) l<1000000/\zT A kb ns d/\(∀x,A x->x<D.heap.size)):=⟨co,bm,h.below bq,hE,ih,fun x hx=>(bm x hx).1⟩
 have HY:Hid ((∀s∈l,∀y∈s.ways,∃t,jT (bD l) y.to=some t)/\(∀s∈l,s.name.length≤maxLen/\s.ways.length≤1000000/\s.regions.length≤1000000/\(∀y∈s.ways,y.to.length≤maxLen)/\∀r∈s.regions,vW d r)/\rO ns (d+1) l/\rN (d+1) l/\n=l.length/\J<n/\Em.Ga l=(J:Int)/\p0=k.net.places/\oo=eO (cQ l)/\vG (fun x:cF (St d)=>x.first) l=(J:Int)):=⟨y3,y5,cb,dr,hn,f3,f1,ck,dy,f2⟩
 have HG:Hid (0<n->ad=some ⟨gd,0,none⟩/\A gd):=hg
 have HC:Hid (I.length=n*5):=dw
 have hst:mH D gd l:=by
  obtain ⟨cx,g',dp,e',be,ab⟩:=Qr co
  have e1:cx=ad:=by injection e' with e';exact e'.symm
  have eg:0<l.length->g'=gd:=fun hp=>by
   have h1:=(be hp).1
   rw[e1,(hg (by omega)).1] at h1
   injection h1 with h1
   injection h1 with h1
   exact h1.symm
  intro i s hi
  have hp:0<l.length:=by have:=(aH6.1 hi).1;omega
  have hh:=aI7 (A:=A) (w:=D) (g:=g') (l:=l) (fun hp=>(bm _ (be hp).2).1) (fun i s hi=>by obtain ⟨a1,a2,a3,a4,a5,a6,a7,a8,a9,hM,_⟩:=ab i s hi;exact ⟨a1,a2,a3,a4,a5,a6,a7,a8,a9,hM⟩) (fun s hs=>⟨(y5 s hs).1,(y5 s hs).2.1,(y5 s hs).2.2.2.1⟩) i s hi
  rw[eg hp] at hh
  exact hh
 have eb:Hid (mH D gd l):=hst
 clear hL cb dr h hR hE ih y1 y2 y3 y5 eh hn f1 f2 ck dy hZ dw dq dm co bm hst hg
 go_enter Tryz.func116,Tryz.ntmps116
 go_upto_region 1 with fail
 rw[<-au,<-cy]
 clear au cy bq dd
 go_upto_region 2 with fail
 obtain ⟨W5,an⟩:∃W5,W5=(D.alloc (.cells I.toArray 236)).alloc (.cells #[.slice (some ⟨D.heap.size,0,none⟩) n n,.slice none 0 0,.int .i64 0,.int .i64 0,.bool true,.bool false] 188):=⟨_,rfl⟩
 obtain ⟨gS,al⟩:∃gS,gS=D.heap.size:=⟨_,rfl⟩
 obtain ⟨g,cf⟩:∃g,g=(D.alloc (.cells I.toArray 236)).heap.size:=⟨_,rfl⟩
 have ce:g=D.heap.size+1:=by rw[cf];simp
 have dl:Below D.heap.size D (D.alloc (.cells I.toArray 236)):=aC _ _
 have ak:Below (D.alloc (.cells I.toArray 236)).heap.size (D.alloc (.cells I.toArray 236)) W5:=by rw[an];exact aC _ _
 have av:Below D.heap.size D W5:=aQ dl ak
 have k4:(D.alloc (.cells I.toArray 236)).heap[gS]?=some (.cells I.toArray 236 (0,0)):=by rw[al];exact aX D _
 have k5:W5.heap[gS]?=some (.cells I.toArray 236 (0,0)):=aD ak k4
 have kg:W5.heap[g]?=some (.cells #[.slice (some ⟨gS,0,none⟩) n n,.slice none 0 0,.int .i64 0,.int .i64 0,.bool true,.bool false] 188 (0,0)):=by rw[an,cf,al];exact aX _ _
 have L5:LR A ns P kb D k gS g n d E P (fun _=>False) W5 k [] I (.slice none 0 0) 0 0 true false:=
  ⟨Q.out.2.2.1.below av,fun x hx=>.inl hx,fun _ _ h=>h,fun _ h=>h.elim,bM.of_below av,Int.le_refl _,kg,⟨by omega,fun hp=>by have:=Q.out.2.2.1.2.2 g hp;omega,fun h=>h,by omega⟩,⟨k5,HC.out⟩,⟨by omega,fun hp=>by have:=Q.out.2.2.1.2.2 gS hp;omega,fun h=>h⟩,fun i s hi=>by simp at hi⟩
 rw[<-ce,<-al]
 rw[<-al] at an
 rw[<-an]
 have c5:W5.cell? ⟨q3,0,none⟩=some (.slice ad n cap):=aN av HQ.out.2.2.1
 have bw:=Ai (cap:=cap) (oo:=oo) HY.out.2.2.2.2.2.2.2.2.1.symm HY.out.2.2.2.2.1 y4 (fun hp=>(HG.out hp).1) (eb.out.below av)
 have ax:Hid (LR A ns P kb D k gS g n d E P (fun _=>False) W5 k [] I (.slice none 0 0) 0 0 true false):=L5
 clear dl ak av k4 k5 kg L5 cf ce al an HC c3
 go_upto_region 3 with (go_at_call 155;refine bw.mono ?_;intro e w1 ho;obtain ⟨vo,bo,rfl,bj,⟨a1,X,c1,rfl⟩,ds⟩:=Ws ho;have cp:=aD bj.out ax.out.hg;have z1:=aA cp 1 (u:=.slice none 0 0) rfl;have ek:=aG cp 1;clear ho)
 have L6:LR A ns P kb D k gS g n d E P (fun x=>False\/(W5.heap.size≤x/\x<w1.heap.size)) w1 k [] I (.slice none 0 0) 0 0 true false:=
  LR.coder Q.out.2.1 ax.out (ax.out.cm.below bj.out) (fun x hx=>.inl hx) (fun x hx h'=>by have:=ax.out.cm.2.2 x hx;omega) (fun x hx=>hx) (bM.of_below bj.out) (Int.le_refl _)
 obtain ⟨R1,ch⟩:∃R1:Nat->Prop,R1=fun x=>False\/(W5.heap.size≤x/\x<w1.heap.size):=⟨_,rfl⟩
 rw[<-ch] at L6
 have L7:LR A ns P kb D k gS g n d E P R1 (w1.setCell ⟨g,1,none⟩ (.slice a1 X c1)) k [] I (.slice a1 X c1) 0 0 true false:=L6.flag Q.out.2.2.2.2.2 (j:=1) rfl
 have bb:nL (fun x=>A x\/R1 x) (w1.setCell ⟨g,1,none⟩ (.slice a1 X c1)) (.slice a1 X c1) (oo.getD []):=(ds.carry (A':=fun x=>A x\/R1 x) fun x hx _=>⟨.inr (by rw[ch];exact .inr hx),rfl⟩).carry (L6.keepG Q.out.2.2.2.2.2 _ _)
 obtain ⟨W7,dc⟩:∃W7,W7=w1.setCell ⟨g,1,none⟩ (.slice a1 X c1):=⟨_,rfl⟩
 rw[<-dc] at L7 bb ⊢
 have az:Hid (LR A ns P kb D k gS g n d E P R1 W7 k [] I (.slice a1 X c1) 0 0 true false/\nL (fun x=>A x\/R1 x) W7 (.slice a1 X c1) (oo.getD [])):=⟨L7,bb⟩
 have c7:W7.cell? ⟨q3,0,none⟩=some (.slice ad n cap):=L7.fr.cell HQ.out.2.2.1 HQ.out.2.1
 have cr:=Xq (Q.out.1.carry (Q.out.2.1.keep L7.fr))
 rw[HY.out.2.2.2.2.2.2.2.2.2] at cr
 clear bw bj ds cp z1 ek L6 L7 bb ch dc ax c5
 go_upto_region 4 with (go_at_call 156;refine cr.mono ?_;rintro e w2 ⟨rfl,ba⟩;have cn:=aD ba.out az.out.1.hg;have z2:=aA cn 2 (u:=.int .i64 0) rfl;have ed:=aG cn 2)
 have L8:LR A ns P kb D k gS g n d E P R1 (w2.setCell ⟨g,2,none⟩ (.int .i64 (J:Int))) k [] I (.slice a1 X c1) (J:Int) 0 true false:=(az.out.1.below ba.out).flag Q.out.2.2.2.2.2 (j:=2) rfl
 have ao:nL (fun x=>A x\/R1 x) (w2.setCell ⟨g,2,none⟩ (.int .i64 (J:Int))) (.slice a1 X c1) (oo.getD []):=(az.out.2.carry (A':=fun x=>A x\/R1 x) fun x hx hl=>⟨hx,ba.out.block x hl⟩).carry ((az.out.1.below ba.out).keepG Q.out.2.2.2.2.2 _ _)
 obtain ⟨W8,de⟩:∃W8,W8=w2.setCell ⟨g,2,none⟩ (.int .i64 (J:Int)):=⟨_,rfl⟩
 rw[<-de] at L8 ao ⊢
 have aj:Hid (LR A ns P kb D k gS g n d E P R1 W8 k [] I (.slice a1 X c1) (J:Int) 0 true false/\nL (fun x=>A x\/R1 x) W8 (.slice a1 X c1) (oo.getD [])):=⟨L8,ao⟩
 have c8:=aA L8.hg 2 (u:=.int .i64 (J:Int)) rfl
 have dn:J≤1000000:=by have:=HY.out.2.2.2.2.2.1;omega
 have dt:E<1000000:=by have:=Q.out.2.2.2.1;omega
 have cd:=nX (w:=W8) J dn
 have af:=yX (x:=(J:Int)+1) L8.cm dt ⟨by omega,by omega⟩
 rw[<-HY.out.2.2.2.2.2.2.2.1] at af
 clear cr ba cn z2 ed L8 ao de az c7 dn dt
 go_upto_region 5 with (first|(go_at_call 158;refine cd.mono ?_;rintro e w3 ⟨rfl,ee⟩;obtain rfl:=ee.symm;clear cd)|(go_at_call 115;refine af.mono ?_;rintro e w4 ⟨rfl,h4⟩;have cz:=h4.out.2.heap aj.out.1.hg aj.out.1.gl.2.1;have z4:=aA cz 3 (u:=.int .i64 0) rfl;have ej:=aG cz 3))
 have L9:LR A ns P kb D k gS g n d (E+1) (Up P W8 w4) (fun x=>R1 x\/False) w4 (bF (aU k ((J:Int)+1)) p0) [] I (.slice a1 X c1) (J:Int) 0 true false:=
  LR.coder Q.out.2.1 aj.out.1 h4.out.1 (fun x hx=>hx) (fun _ _ h=>h) (fun _ h=>h.elim) h4.out.2 (by show k.net.places≤k.net.places+1;omega)
 have bc:nL (fun x=>A x\/R1 x\/False) (w4.setCell ⟨g,3,none⟩ (.int .i64 p0)) (.slice a1 X c1) (oo.getD []):=(aj.out.2.carry (aj.out.1.keepC Q.out.2.1 h4.out.2 fun _=>False)).carry (L9.keepG Q.out.2.2.2.2.2 _ _)
 have bu:LR A ns P kb D k gS g n d (E+1) (Up P W8 w4) (fun x=>R1 x\/False) (w4.setCell ⟨g,3,none⟩ (.int .i64 p0)) (bF (aU k ((J:Int)+1)) p0) [] I (.slice a1 X c1) (J:Int) p0 true false:=L9.flag Q.out.2.2.2.2.2 (j:=3) rfl
 obtain ⟨W9,dx⟩:∃W9,W9=w4.setCell ⟨g,3,none⟩ (.int .i64 p0):=⟨_,rfl⟩
 rw[<-dx] at bu bc ⊢
 have ef:Hid (∃Pj U,LR A ns P kb D k gS g n d (E+1) Pj U W9 (bF (aU k ((J:Int)+1)) p0) [] I (.slice a1 X c1) (J:Int) p0 true false/\nL (fun x=>A x\/U x) W9 (.slice a1 X c1) (oo.getD [])):=⟨_,_,bu,bc⟩
 have c9:W9.cell? ⟨q3,0,none⟩=some (.slice ad n cap):=bu.fr.cell HQ.out.2.2.1 HQ.out.2.1
 clear af h4 cz z4 ej L9 bu bc dx aj c8
 go_upto_region 7 with fail
 clear c9
 go_loopg [40] n (fun f i wr=>∃(j:Nat) (kj:Kd) (ss:List (eR (St d) (Rg d))) (cs:List Value) (id lv:Bool),f=n-j/\j≤n/\i=.int .i64 (j:Int)/\Hid (ss.length=j/\Z=(Em.fL (Em.aJ d) (bD l) (l.drop j) >>= fun t=>Vk l p0 (ss++t)) kj/\id=ss.all (·.idle)/\lv=ss.any (·.leaves)/\(∀s∈ss,B9 ns l.length (eS ns d) s)/\p0<kj.net.places/\∃Pj U,LR A ns P kb D k gS g n d (E+1+((l.take j).map (jG (iG d))).sum) Pj U wr kj ss cs (.slice a1 X c1) (J:Int) p0 id lv/\nL (fun x=>A x\/U x) wr (.slice a1 X c1) (oo.getD [])))
 case atStart=>
  obtain ⟨Pj,U,L,O⟩:=ef.out
  exact ⟨0,_,[],I,true,false,by omega,by omega,rfl,rfl,HZ.out.1,rfl,rfl,fun _ h=>by simp at h,by show p0<k.net.places+1;have:=HY.out.2.2.2.2.2.2.2.1;omega,Pj,U,by simpa using L,O⟩
 case round=>
  obtain ⟨j,kj,ss,cs,id,lv,rfl,hj,rfl,hr⟩:=hrel
  obtain ⟨ae,bi,bn,bv,bp,br,Pj,U,hS,hO⟩:=hr.out
  by_cases hlt:j<n
  ·obtain ⟨s,hs⟩:∃s:cF (St d),l[j]?=some s:=⟨_,aE5 (by rw[<-HY.out.2.2.2.2.1];exact hlt)⟩
   have ap:=aH8 hs
   have kp:bB A A D wr:=Q.out.2.1.keep hS.fr
   have ct:aM A wr (d+1) l (.slice ad n cap):=Q.out.1.carry kp
   have cq:wr.cell? ⟨q3,0,none⟩=some (.slice ad n cap):=hS.fr.cell HQ.out.2.2.1 HQ.out.2.1
   have nq:¬Pj q3:=fun hp=>(hS.up q3 hp).elim HQ.out.2.1 fun h=>absurd h.1 (by have:=HQ.out.1;omega)
   have du:Ro A Pj wr:=fun x hx=>⟨aH3 (Q.out.2.2.2.2.2 x hx) hS.fr.size,fun hp=>(hS.up x hp).elim (Q.out.2.1 x hx).2 fun h=>absurd h.1 (by have:=Q.out.2.2.2.2.2 x hx;omega)⟩
   obtain ⟨cx,g',dp,e',be,ab⟩:=Qr ct
   have e1:cx=ad:=by injection e' with e';exact e'.symm
   have eg:g'=gd:=by
    have h1:=(be (by rw[<-HY.out.2.2.2.2.1];omega)).1
    rw[e1,(HG.out (by omega)).1] at h1
    injection h1 with h1
    injection h1 with h1
    exact h1.symm
   rw[eg] at ab
   obtain ⟨ve,vd,eq,pr,ay,ar,gy,ep,eo,hm,dz,db⟩:=ab j s hs
   have dh:=Xo ad gd n cap j hlt (fun hp=>(HG.out hp).1)
   obtain ⟨o,ho⟩:∃o,o=j*9:=⟨_,rfl⟩
   have cc:(E+1+((l.take j).map (jG (iG d))).sum)+jG (iG d) s<1000000:=by
    have h1:=Q.out.2.2.2.1
    have h2:=mK (jG (iG d)) hs
    have h3:iG (d+1) l=1+(l.map (jG (iG d))).sum:=rfl
    omega
   have y5:=HY.out.2.1 s ap
   have ya:=HY.out.2.2.1 s ap
   have yt:=HY.out.2.2.2.1 s ap
   have df:=Q3 Q.out.2.2.2.2.1 (L:=l) (s:=s) ct ⟨cq,nq⟩ (i:=j) (od:=o) ho (HG.out (by omega)).2 hm dz db ⟨ya.1,fun r hr=>⟨ya.2 r hr,y5.2.2.2.2 r hr,yt.2.2.2 r hr⟩,fun y hy=>⟨HY.out.1 s ap y hy,y5.2.2.2.1 y hy,yt.2.2.1 y hy⟩,y5.2.1,y5.2.2.1,yt.1,yt.2.1⟩ hS.cm du cc
   rw[<-ho] at dh
   have HJ:Hid (LR A ns P kb D k gS g n d (E+1+((l.take j).map (jG (iG d))).sum) Pj U wr kj ss cs (.slice a1 X c1) (J:Int) p0 id lv/\nL (fun x=>A x\/U x) wr (.slice a1 X c1) (oo.getD [])/\l[j]?=some s/\ss.length=j/\Z=(Em.jD (Em.aJ d) (bD l) s >>= fun x=>Em.fL (Em.aJ d) (bD l) (l.drop (j+1)) >>= fun t=>Vk l p0 ((ss++[x])++t)) kj/\id=ss.all (·.idle)/\lv=ss.any (·.leaves)/\(∀s∈ss,B9 ns l.length (eS ns d) s)/\p0<kj.net.places):=⟨hS,hO,hs,ae,by rw[bi,dT hs,yV],bn,bv,bp,br⟩
   clear hr ae bi bn bv bp br hS hO hs ap kp ct nq du e' be ab e1 eg hm dz db ho cc y5 ya yt
   go_upto_region 10 with (go_at_call 161;refine df.mono ?_;rintro e w1 ⟨aw,nw,cw,ai,ni,ci,aa,Y,rfl,h1⟩)
   obtain ⟨q8,cj⟩:∃q8,q8=w1.heap.size:=⟨_,rfl⟩
   rw[<-cj]
   obtain ⟨V,hV⟩:∃V,V=w1.alloc (.cells #[.pointer (some ⟨gd,o,none⟩),.slice aw nw cw,.slice ai ni ci,.bool aa,.bool Y] 236):=⟨_,rfl⟩
   have cu:Below w1.heap.size w1 V:=by rw[hV];exact aC _ _
   have bk:V.heap[q8]?=some (.cells #[.pointer (some ⟨gd,o,none⟩),.slice aw nw cw,.slice ai ni ci,.bool aa,.bool Y] 236 (0,0)):=by rw[hV,cj];exact aX w1 _
   rw[<-hV]
   obtain ⟨st,k1,P1,Q1,hz,i1,i2,C1,u1,d1,dk,r1,p1,V1,K1⟩:=h1.out
   have S1:LR A ns P kb D k gS g n d (E+1+((l.take (j+1)).map (jG (iG d))).sum) P1 (fun x=>U x\/Q1 x) w1 k1 ss cs (.slice a1 X c1) (J:Int) p0 id lv:=by
    refine LR.moreE (LR.coder Q.out.2.1 HJ.out.1 C1 u1 d1 dk r1 p1) ?_
    rw[mQ (jG (iG d)) HJ.out.2.2.1];omega
   have O1:nL (fun x=>A x\/U x\/Q1 x) w1 (.slice a1 X c1) (oo.getD []):=HJ.out.2.1.carry (HJ.out.1.keepC Q.out.2.1 r1 Q1)
   have S2:=S1.below cu
   have kV:bB (fun x=>A x\/U x\/Q1 x) (fun x=>A x\/U x\/Q1 x) w1 V:=fun x hx hl=>⟨hx,cu.block x hl⟩
   have O2:=O1.carry kV
   have V2:Vo (fun x=>A x\/U x\/Q1 x) V st gd o (.slice aw nw cw) (.slice ai ni ci):=(V1.carry (A':=fun x=>A x\/U x\/Q1 x) (w':=w1) fun x hx _=>⟨hx.elim .inl fun h=>.inr (.inr h),rfl⟩).carry kV
   have bf:q8≠g/\q8≠gS/\¬(A q8\/U q8\/Q1 q8):=⟨fun e=>by have:=aB S1.hg;omega,fun e=>by have:=aB S1.hs.1;omega,fun h=>by
    rcases h with h|h
    ·have:=Q.out.2.2.2.2.2 q8 h;have:=S1.fr.size;omega
    ·have:=(S1.rn q8 h).2;omega⟩
   have S3:∀b,LR A ns P kb D k gS g n d (E+1+((l.take (j+1)).map (jG (iG d))).sum) P1 (fun x=>U x\/Q1 x) (V.setCell ⟨g,4,none⟩ (.bool b)) k1 ss cs (.slice a1 X c1) (J:Int) p0 b lv:=fun b=>S2.flag Q.out.2.2.2.2.2 (j:=4) rfl
   have S4:∀b c,LR A ns P kb D k gS g n d (E+1+((l.take (j+1)).map (jG (iG d))).sum) P1 (fun x=>U x\/Q1 x) ((V.setCell ⟨g,4,none⟩ (.bool b)).setCell ⟨g,5,none⟩ (.bool c)) k1 ss cs (.slice a1 X c1) (J:Int) p0 b c:=fun b c=>(S3 b).flag Q.out.2.2.2.2.2 (j:=5) rfl
   have kG:∀b c,bB (fun x=>A x\/U x\/Q1 x) (fun x=>A x\/U x\/Q1 x) V ((V.setCell ⟨g,4,none⟩ (.bool b)).setCell ⟨g,5,none⟩ (.bool c)):=fun b c=>(S2.keepG Q.out.2.2.2.2.2 4 (.bool b)).trans ((S3 b).keepG Q.out.2.2.2.2.2 5 (.bool c)) (by simp[World.setCell])
   have kQ:∀b c,((V.setCell ⟨g,4,none⟩ (.bool b)).setCell ⟨g,5,none⟩ (.bool c)).heap[q8]?=some (.cells #[.pointer (some ⟨gd,o,none⟩),.slice aw nw cw,.slice ai ni ci,.bool aa,.bool Y] 236 (0,0)):=fun b c=>by rw[Below.heap_setCell _ _ _ _ bf.1,Below.heap_setCell _ _ _ _ bf.1];exact bk
   have dj:Hid (∀b c,LR A ns P kb D k gS g n d (E+1+((l.take (j+1)).map (jG (iG d))).sum) P1 (fun x=>U x\/Q1 x) ((V.setCell ⟨g,4,none⟩ (.bool b)).setCell ⟨g,5,none⟩ (.bool c)) k1 ss cs (.slice a1 X c1) (J:Int) p0 b c/\nL (fun x=>A x\/U x\/Q1 x) ((V.setCell ⟨g,4,none⟩ (.bool b)).setCell ⟨g,5,none⟩ (.bool c)) (.slice a1 X c1) (oo.getD [])/\Vo (fun x=>A x\/U x\/Q1 x) ((V.setCell ⟨g,4,none⟩ (.bool b)).setCell ⟨g,5,none⟩ (.bool c)) st gd o (.slice aw nw cw) (.slice ai ni ci)/\((V.setCell ⟨g,4,none⟩ (.bool b)).setCell ⟨g,5,none⟩ (.bool c)).heap[q8]?=some (.cells #[.pointer (some ⟨gd,o,none⟩),.slice aw nw cw,.slice ai ni ci,.bool aa,.bool Y] 236 (0,0))):=fun b c=>⟨S4 b c,O2.carry (kG b c),V2.carry (kG b c),kQ b c⟩
   have ah:Hid (ss.length=j/\Z=(Em.fL (Em.aJ d) (bD l) (l.drop (j+1)) >>= fun t=>Vk l p0 ((ss++[st])++t)) k1/\(id&&aa)=(ss++[st]).all (·.idle)/\(lv||Y)=(ss++[st]).any (·.leaves)/\(∀s∈ss++[st],B9 ns l.length (eS ns d) s)/\p0<k1.net.places/\st.idle=aa/\st.leaves=Y):=by
    obtain ⟨_,_,_,g4,g5,g6,g7,g8,g9⟩:=HJ.out
    refine ⟨g4,by rw[g5];exact I0 hz,by rw[g6,<-i1];simp,by rw[g7,<-i2];simp,fun x hx=>?_,by omega,i1,i2⟩
    rcases aJ6.1 hx with h|h
    ·exact g8 x h
    ·rw[aI1.1 h];exact K1
   have x4:V.cell? ⟨g,4,none⟩=some (.bool id):=aA S2.hg 4 rfl
   have ec:=aG S2.hg 4
   have x5:∀b,(V.setCell ⟨g,4,none⟩ (.bool b)).cell? ⟨g,5,none⟩=some (.bool lv):=fun b=>aA (S3 b).hg 5 rfl
   have en:∀b,(V.setCell ⟨g,4,none⟩ (.bool b)).frozen? ⟨g,5,none⟩=false:=fun b=>aG (S3 b).hg 5
   have v3:V.cell? ⟨q8,3,none⟩=some (.bool aa):=aA bk 3 rfl
   have v4:∀b,(V.setCell ⟨g,4,none⟩ (.bool b)).cell? ⟨q8,4,none⟩=some (.bool Y):=fun b=>by
    rw[aX1 (w:=V) (a:=⟨q8,4,none⟩) (Below.heap_setCell _ _ _ _ bf.1)];exact aA bk 4 rfl
   have ev:Hid (q8≠g/\q8≠gS/\¬(A q8\/U q8\/Q1 q8)):=bf
   clear df h1 hz i1 i2 C1 u1 d1 dk r1 p1 V1 K1 S1 S2 S3 S4 O1 O2 V2 kV kG kQ HJ dh cj hV cu bk cq bf
   go_cut [] from 41 to 78 (fun wx=>∃b,wx=V.setCell ⟨g,4,none⟩ (.bool b)/\Hid (b=(id&&aa)))
   case first=>
    cases id
    all_goals
     go_wp2_with fail
     go_meet
     case rel=>exact ⟨_,rfl,rfl⟩
   case rest=>
    obtain ⟨b,rfl,hb⟩:=hcut
    go_upto_region 11 with fail
    go_cut [] from 41 to 78 (fun wx=>∃c,wx=(V.setCell ⟨g,4,none⟩ (.bool b)).setCell ⟨g,5,none⟩ (.bool c)/\Hid (c=(lv||Y)))
    case first=>
     cases lv
     all_goals
      go_wp2_with fail
      go_meet
      case rel=>exact ⟨_,rfl,rfl⟩
    case rest=>
     obtain ⟨c,rfl,hc⟩:=hcut
     go_upto_region 12 with fail
     obtain ⟨ac,bz⟩:∃ac,ac=(V.setCell ⟨g,4,none⟩ (.bool b)).setCell ⟨g,5,none⟩ (.bool c):=⟨_,rfl⟩
     obtain ⟨T1,T2,T3,T4⟩:=dj.out b c
     rw[<-bz] at T1 T2 T3 T4 ⊢
     have em:Hid (ss.length=j/\Z=(Em.fL (Em.aJ d) (bD l) (l.drop (j+1)) >>= fun t=>Vk l p0 ((ss++[st])++t)) k1/\b=(ss++[st]).all (·.idle)/\c=(ss++[st]).any (·.leaves)/\(∀s∈ss++[st],B9 ns l.length (eS ns d) s)/\p0<k1.net.places/\st.idle=aa/\st.leaves=Y):=⟨ah.out.1,ah.out.2.1,hb.out.trans ah.out.2.2.1,hc.out.trans ah.out.2.2.2.1,ah.out.2.2.2.2⟩
     have HT:Hid (LR A ns P kb D k gS g n d (E+1+((l.take (j+1)).map (jG (iG d))).sum) P1 (fun x=>U x\/Q1 x) ac k1 ss cs (.slice a1 X c1) (J:Int) p0 b c/\nL (fun x=>A x\/U x\/Q1 x) ac (.slice a1 X c1) (oo.getD [])/\Vo (fun x=>A x\/U x\/Q1 x) ac st gd o (.slice aw nw cw) (.slice ai ni ci)):=⟨T1,T2,T3⟩
     have s0:=aA T1.hg 0 (u:=.slice (some ⟨gS,0,none⟩) n n) rfl
     have u0:=aA T4 0 (u:=.pointer (some ⟨gd,o,none⟩)) rfl
     have u1:=aA T4 1 (u:=.slice aw nw cw) rfl
     have u2:=aA T4 2 (u:=.slice ai ni ci) rfl
     have u3:=aA T4 3 (u:=.bool aa) rfl
     have u4:=aA T4 4 (u:=.bool Y) rfl
     obtain ⟨oS,cv⟩:∃oS,oS=j*5:=⟨_,rfl⟩
     have eu:∀W,(Instr.indexAt 186 (.slice (some ⟨gS,0,none⟩) n n) (.int .i64 (j:Int))).run Tryz.prog W=.ok (.pointer (some ⟨gS,oS,none⟩)) W:=fun W=>by rw[cv];exact Se (some ⟨gS,0,none⟩) gS n n j hlt (fun _=>rfl) W
     have ag:∀jj,jj<5->∃u,ac.cell? ⟨gS,oS+jj,none⟩=some u:=fun jj er=>by
      have hlen:=T1.hs.2
      exact ⟨_,aA T1.hs.1 (oS+jj) (by rw[List.getElem?_toArray];exact aE5 (by omega))⟩
     obtain ⟨b0,m0⟩:=ag 0 (by omega)
     obtain ⟨b1,m1⟩:=ag 1 (by omega)
     obtain ⟨b2,m2⟩:=ag 2 (by omega)
     obtain ⟨b3,m3⟩:=ag 3 (by omega)
     obtain ⟨b4,m4⟩:=ag 4 (by omega)
     rw[aW8] at m0
     have z0:=aG T1.hs.1 oS
     have z1:=aG T1.hs.1 (oS+1)
     have z2:=aG T1.hs.1 (oS+2)
     have z3:=aG T1.hs.1 (oS+3)
     have z4:=aG T1.hs.1 (oS+4)
     have HO:Hid (oS=j*5):=cv
     clear T1 T2 T3 T4 ag bz dj ah cv x4 ec x5 en v3 v4
     go_region
     all_goals
      go_wp2_with fail
      go_roundg (n-(j+1))
      case measure=>omega
      case rel=>
       obtain ⟨j1,j2,j3,j4,j5,j6,j7,j8⟩:=em.out
       obtain ⟨ei,bh⟩:=HT.out.1.put Q.out.2.2.2.2.2 (s:=st) (gd:=gd) (od:=o) (by omega) HT.out.2.2 (i:=j) j1.symm
       rw[j7,j8,<-HO.out] at bh
       have di:=HT.out.2.1.carry (HT.out.1.keepS Q.out.2.2.2.2.2 fun x hx=>Wi (W:=ac) (gS:=gS) (o:=oS) (a:=.pointer (some ⟨gd,o,none⟩)) (b:=.slice aw nw cw) (c:=.slice ai ni ci) (e:=.bool aa) (f:=.bool Y) x hx)
       generalize ((((ac.setCell ⟨gS,oS,none⟩ (.pointer (some ⟨gd,o,none⟩))).setCell ⟨gS,oS+1,none⟩ (.slice aw nw cw)).setCell ⟨gS,oS+2,none⟩ (.slice ai ni ci)).setCell ⟨gS,oS+3,none⟩ (.bool aa)).setCell ⟨gS,oS+4,none⟩ (.bool Y)=W6 at bh di ⊢
       exact ⟨j+1,k1,ss++[st],ei,b,c,rfl,by omega,by go_num,by rw[aH7,j1];rfl,j2,j3,j4,j5,j6,P1,_,bh.drew,di.drew⟩
  ·have cg:j=n:=by omega
   have am:ss.length=l.length:=by rw[ae,cg];exact HY.out.2.2.2.2.1
   have da:Z=some ((⟨ss,(eO (cQ l)).getD [],(J:Int),p0,id,lv⟩:jP (St d) (Rg d)),kj):=by
    rw[bi,aP3 (by rw[<-am,ae];exact aF4 _)]
    show (Vk l p0 (ss++[])) kj=_
    rw[List.append_nil,bn,bv,<-HY.out.2.2.2.2.2.2.1]
    rfl
   have hE:E+1+((l.take j).map (jG (iG d))).sum=E+iG (d+1) l:=by
    rw[List.take_of_length_le (by rw[<-am,ae];exact aF4 _)]
    show _=E+(1+(l.map (jG (iG d))).sum)
    omega
   have ca:Laid A ns P kb w k (d+1) (E+iG (d+1) l) (⟨ss,(eO (cQ l)).getD [],(J:Int),p0,id,lv⟩:jP (St d) (Rg d)) g Pj (fun x=>U x\/x=g\/x=gS) wr kj:=by
    rw[<-hE]
    refine hS.done HQ.out.2.2.2.1 (by rw[ae,cg]) (by rw[<-HY.out.2.2.2.2.2.2.2.2.1];exact hO) ⟨by show ss.length≤1000000;omega,by show 0≤(J:Int)/\(J:Int)<ss.length;have:=HY.out.2.2.2.2.2.1;omega,fun i hi=>?_,?_,fun s hs=>?_⟩ ⟨?_,br⟩
    ·show i<ss.length
     rw[am];exact Qp.1 i hi
    ·show ((eO (cQ l)).getD []).length≤1000000
     have:=(Qp (l:=l)).2;omega
    ·show B9 ns ss.length (eS ns d) s
     rw[am];exact bp s hs
    ·rw[HY.out.2.2.2.2.2.2.2.1,Q.out.2.2.1.2.1.len];omega
   have HF:Hid (Em.lay (Em.aJ d) l k=some ((⟨ss,(eO (cQ l)).getD [],(J:Int),p0,id,lv⟩:jP (St d) (Rg d)),kj)/\Laid A ns P kb w k (d+1) (E+iG (d+1) l) (⟨ss,(eO (cQ l)).getD [],(J:Int),p0,id,lv⟩:jP (St d) (Rg d)) g Pj (fun x=>U x\/x=g\/x=gS) wr kj):=⟨HZ.out.2.symm.trans da,ca⟩
   clear hr ae bi bn bv bp br hS hO cg am da hE ca
   go_wp2_with fail
   go_ret
   exact ⟨g,rfl,_,kj,Pj,_,HF.out⟩
theorem Rv (ih:zT A kb ns d):zT A kb ns (d+1):=fun hL hlay hall htm h hR hE=>Xn ih hL hlay hall htm h hR hE
theorem Ie:∀d,zT A kb ns d
 | 0=>fun _ hlay _ _ _ _ _=>hlay.elim
 | d+1=>Rv (Ie d)
end
end Ew
end
section
open Go.RowKit Px
namespace Ew
open Px.Em (Kd Vr eQ eR jP Rg cX)
open Nx (Nt Sp)
section
variable {A P:Nat->Prop}{w:World}{ns:List bE}{kb E:Nat}{k:Kd}
def zeroed (k:Kd) (t:Nat):Kd:={ k with net:={ k.net with first:=k.net.first.set t 0 } }
theorem eK.zeroed (h:eK E ns P w kb k) {t:Nat}(ht:t<k.net.first.length):∃b cap,w.cell? ⟨kb,1,none⟩=some (.slice (some ⟨b,0,none⟩) k.net.first.length cap)/\P b/\(∃u,w.cell? ⟨b,t,none⟩=some u)/\w.frozen? ⟨b,t,none⟩=false/\eK E ns P (w.setCell ⟨b,t,none⟩ (.int .i64 0)) kb (zeroed k t)/\bM P w (w.setCell ⟨b,t,none⟩ (.int .i64 0)):=by
 obtain ⟨⟨c,n⟩,r,Q⟩:=h
 have hr:w.ownsRow 0 2 1 (c.v 1) k.net.first.length (k.net.first.map (Value.int .i64)):=n.row 1 (by omega) (by omega)
 obtain ⟨b,cap,I,_,ab⟩:=hr.form (by omega)
 obtain ⟨y,l⟩:=n.pr 1 b (by omega) (by omega) (by rw[I];rfl)
 have s:=hr
 rw[I] at s
 obtain ⟨hst,aa⟩:=s.stored t (.int .i64 0)
 have J:∀x,x≠b->(w.setCell ⟨b,t,none⟩ (.int .i64 0)).heap[x]?=w.heap[x]?:=fun x hx=>Below.heap_setCell _ _ _ _ hx
 have hz:(w.setCell ⟨b,t,none⟩ (.int .i64 0)).heap.size=w.heap.size:=by simp[World.setCell]
 have Z:bM P w (w.setCell ⟨b,t,none⟩ (.int .i64 0)):=(bM.refl _ _).setCell (.inl y) _
 obtain ⟨fv,O,X⟩:=n.hv
 obtain ⟨fn,U,Y⟩:=n.hn
 refine ⟨b,cap,by rw[<-I];exact n.cell 1 rfl,y,⟨_,by rw[s.cellAt t (by omega)];exact aE5 (by simpa using ht)⟩,s.frozenAt t,⟨⟨c,?_,fun j j1 j6=>?_,⟨fv,O.keep (J _ fun e=>?_),X⟩,⟨fn,U.keep (J _ fun e=>?_),Y⟩,n.p0,n.pr,n.pv,n.pn,?_,n.nn,n.mvk⟩,?_,fun x hx=>by rw[hz];exact Q x hx⟩,Z⟩
 ·rw[J kb fun e=>by have:=n.p0.2;rw[e,l] at this;omega];exact n.hk
 ·by_cases hj:j=1
  ·subst hj
   show World.ownsRow _ 0 2 1 (c.v 1) (k.net.first.set t 0).length ((k.net.first.set t 0).map (Value.int .i64))
   rw[I,aO5,List.map_set]
   exact hst
  ·have e1:rB (Ew.zeroed k t).net j=rB k.net j:=by unfold rB;split<;>first|exact absurd rfl hj|rfl
   have e2:pP (Ew.zeroed k t).net j=pP k.net j:=by unfold pP;split<;>first|exact absurd rfl hj|rfl
   rw[e1,e2]
   refine eY (A:=fun x=>(c.v j).ownBlock=some x) (A':=fun _=>True) (n.row j j1 j6) (fun _ h=>h) fun x hx _=>⟨trivial,J x fun e=>?_⟩
   have:=(n.pr j x j1 j6 hx).2;rw[e,l] at this;omega
 ·have:=n.pv.2;rw[e,l] at this;omega
 ·have:=n.pn.2;rw[e,l] at this;omega
 ·show c.nv≤(k.net.first.set t 0).length
  rw[aO5];exact n.nv
 ·have D:(Ew.zeroed k t).net.first.length=k.net.first.length:=by simp[Ew.zeroed]
  refine ⟨by rw[D];exact r.len,by rw[D];exact r.pot,r.code,by rw[D];exact r.keeps,by rw[D];exact r.ins,by rw[D];exact r.outs,r.nums,r.e,fun x hx=>?_,r.nn,r.vf,r.out⟩
  rcases List.mem_or_eq_of_mem_set hx with h|h
  ·exact r.nf x h
  ·rw[h];exact ⟨by omega,by omega⟩
theorem eK.drew (h:eK E ns P w kb k):eK E ns P w.drew kb k:=h.below (Below.refl _ _).drew
theorem aL1 (b n cap t:Nat) (c:t<n) (w:World):(Instr.indexAt 22 (.slice (some ⟨b,0,none⟩) n cap) (.int .i64 (t:Int))).run Tryz.prog w=.ok (.pointer (some ⟨b,t,none⟩)) w:=by
 rw[aX4 _ _ _ _ _ _ _ (by kernel_rfl),if_pos ⟨by omega,by omega⟩]
 have e:(sizeOf (Tryz.prog.elem 22)).run Tryz.prog w=.ok 1 w:=by kernel_rfl
 rw[e]
 simp[Result.andThen,Addr.add]
 try (intro h;exact h.symm)
theorem Dm {b:Int}{l:List (St 6)}{r:List (List (St 6))}{g:jP (St 5) (Rg 5)}{c:Kd}{t:Nat}(j:(Em.aJ 6).lay l k=some (g,c)) (h:g.there=(t:Int)):Em.rI b (l::r) k=((Em.aJ 6).goOn g g.there (Em.eC (List.replicate g.states.length []) g.first b false) >>= fun _=>Em.rI b r) (Ew.zeroed c t):=by
 have e:t=g.there.toNat:=by rw[h];rfl
 rw[e]
 exact I0 (m:=(Em.aJ 6).lay l) j
theorem Ox {wr w1 w2 w5:World}{I y J:Kd}{d g:Nat}{r:Rg d}{l O:Nat->Prop}{o:Option (Unit×Kd)}{e:Ending}(X:∀b,P b->b<w.heap.size) (j:bM P w wr) (U:k.net.places≤I.net.places) (c:Laid A ns (Up P w wr) kb wr I d E r g l O w1 y) (D:bM l w1 w2) (Q:y.net.places≤J.net.places) (h:fJ E ns l kb w2 J o (fun _=>.tuple #[]) e w5) :
    (e=Vl/\Hid (o=none)/\Hid (bM P w w5))\/∃k5,e=.returned (.tuple #[])/\Hid (o=some ((),k5))/\Hid (At E ns P kb w k w5 k5):=by
 have Z:=j.size
 have s1:=c.fr.size
 have s2:=D.size
 have f1:=j.up c.fr
 have f2:bM P w w2:=f1.trans D fun b hb u=>(c.up b u).elim (fun h=>h.elim id fun h=>absurd h.1 (by omega)) fun h=>absurd h.1 (by omega)
 have st:∀{w':World},bM l w2 w'->bM P w w':=fun h=>f2.trans h fun b hb u=>(c.up b u).elim (fun h=>h.elim id fun h=>absurd h.1 (by omega)) fun h=>absurd h.1 (by omega)
 rcases h with ⟨rfl,s,n⟩|⟨_,k5,rfl,s,n⟩
 ·exact .inl ⟨rfl,s,st n.out⟩
 ·obtain ⟨c1,c2,c3⟩:=n.out
  have Y:=c2.size
  refine .inr ⟨k5,rfl,s,c1.mono (fun b hb=>?_) (iI X (st c2).size),st c2,by have:=c.pl;omega⟩
  rcases hb with hb|hb
  ·rcases c.up b hb with hb|hb
   ·exact Up.size (by omega) b hb
   ·exact .inr ⟨by omega,by omega⟩
  ·exact .inr ⟨by omega,hb.2⟩
end
end Ew
end
end Go.Proofs.YthieaobjdpfcoaaGreatDoor
