import Derived.Test.YtcdbhoknhnimcaaGreatDoorTEz1
import Derived.Deep.CutRange
set_option maxRecDepth 100000
set_option maxHeartbeats 16000000
namespace Go.Proofs.YtcdbhoknhnimcaaGreatDoor
section
open Go.RowKit Px
namespace Ew
open Px.Em (Kd Vr eL eM jG Rg cR)
open Nx (Nt Sp)
section
variable {A P:Nat->Prop}{w:World}{ns:List bB}{kb d E:Nat}{k:Kd}
theorem Vd (ih:yJ A kb ns d) {v:Value}{l:List (cC (St d))}(hL:aL A w (d+1) l v) (hlay:uM (d+1) l) (hall:qW ns (d+1) l) (htm:qV (d+1) l) (h:eG E ns P w kb k) (hR:Ro A P w) (hE:E+hJ (d+1) l<1000000) :
    Calls Tryz.prog 147 #[.pointer (some ⟨kb,0,none⟩),v] w fun e w'=>∃g,e=.returned (.pointer (some ⟨g,0,none⟩))/\Hid (∃(r:jG (St d) (Rg d)) (k':Kd) (P' R:Nat->Prop),Em.lay (Em.aG d) l k=some (r,k')/\Laid A ns P kb w k (d+1) (E+hJ (d+1) l) r g P' R w' k'):=by
 obtain ⟨y1,y2,y3,y4,y5⟩:iS l=1/\Xa (bA l)/\(∀s∈l,∀y∈s.ways,∃t,jK (bA l) y.to=some t)/\l.length≤1000000/\(∀s∈l,s.name.length≤maxLen/\s.ways.length≤1000000/\s.regions.length≤1000000/\(∀y∈s.ways,y.to.length≤maxLen)/\∀r∈s.regions,uM d r):=hlay
 obtain ⟨ad,gd,cap,rfl,hg,hat⟩:=Nw hL
 obtain ⟨n,hn⟩:∃n,n=l.length:=⟨_,rfl⟩
 obtain ⟨fi,f1,f2,f3⟩:=Qn y1
 obtain ⟨p0,hp0⟩:∃p0,p0=k.net.places:=⟨_,rfl⟩
 obtain ⟨oo,hoo⟩:∃oo,oo=eJ (cL l):=⟨_,rfl⟩
 rw[<-hn] at y4 hg f3 hL ⊢
 obtain ⟨Z,hZ⟩:∃Z,Z=Em.lay (Em.aG d) l k:=⟨_,rfl⟩
 have HZ:Hid (Z=(Em.fE (Em.aG d) (bA l) l >>= Su l p0) (bD (aQ k ((fi:Int)+1)) p0)/\Z=Em.lay (Em.aG d) l k):=⟨by rw[hZ,Zd,f1,hp0],hZ⟩
 obtain ⟨cs0,hcs,hmk⟩:=Yu n y4
 obtain ⟨W3,hW3⟩:∃W3,W3=w.alloc (.cells #[.slice ad n cap] 210):=⟨_,rfl⟩
 obtain ⟨q3,hq3⟩:∃q3,q3=w.heap.size:=⟨_,rfl⟩
 have hb3:Below w.heap.size w W3:=by rw[hW3];exact aC _ _
 have hs3:W3.heap.size=w.heap.size+1:=by rw[hW3];simp
 have hk3:W3.heap[q3]?=some (.cells #[.slice ad n cap] 210 (0,0)):=by rw[hW3,hq3];exact bE w _
 have c3:=aA hk3 0 (u:=.slice ad n cap) rfl
 have kp3:aX A A w W3:=fun x hx hl=>⟨hx,hb3.block x hl⟩
 have hL3:aL A W3 (d+1) l (.slice ad n cap):=hL.carry kp3
 have hR3:Ro A P W3:=fun x hx=>⟨by have:=(hR x hx).1;omega,(hR x hx).2⟩
 have HQ:Hid (q3<W3.heap.size/\¬P q3/\W3.cell? ⟨q3,0,none⟩=some (.slice ad n cap)/\Below w.heap.size w W3/\W3.heap.size=w.heap.size+1):=⟨by omega,fun hp=>by have:=h.2.2 q3 hp;omega,c3,hb3,hs3⟩
 have HH:Hid (aL A W3 (d+1) l (.slice ad n cap)/\Ro A P W3/\eG E ns P W3 kb k/\E+hJ (d+1) l<1000000/\yJ A kb ns d/\(∀x,A x->x<W3.heap.size)):=⟨hL3,hR3,h.below hb3,hE,ih,fun x hx=>(hR3 x hx).1⟩
 have HY:Hid ((∀s∈l,∀y∈s.ways,∃t,jK (bA l) y.to=some t)/\(∀s∈l,s.name.length≤maxLen/\s.ways.length≤1000000/\s.regions.length≤1000000/\(∀y∈s.ways,y.to.length≤maxLen)/\∀r∈s.regions,uM d r)/\qW ns (d+1) l/\qV (d+1) l/\n=l.length/\fi<n/\Em.Dm l=(fi:Int)/\p0=k.net.places/\oo=eJ (cL l)/\tR (fun x:cC (St d)=>x.first) l=(fi:Int)):=⟨y3,y5,hall,htm,hn,f3,f1,hp0,hoo,f2⟩
 have HG:Hid (0<n->ad=some ⟨gd,0,none⟩/\A gd):=hg
 have HC:Hid (cs0.length=n*5):=hcs
 have hst:lV W3 gd l:=by
  obtain ⟨ad',g',cap',e',hg',hat'⟩:=Nw hL3
  have e1:ad'=ad:=by injection e' with e';exact e'.symm
  have eg:0<l.length->g'=gd:=fun hp=>by
   have h1:=(hg' hp).1
   rw[e1,(hg (by omega)).1] at h1
   injection h1 with h1
   injection h1 with h1
   exact h1.symm
  intro i s hi
  have hp:0<l.length:=by have:=(List.getElem?_eq_some_iff.1 hi).1;omega
  have hh:=aC2 (A:=A) (w:=W3) (g:=g') (l:=l) (fun hp=>(hR3 _ (hg' hp).2).1) (fun i s hi=>by obtain ⟨a1,a2,a3,a4,a5,a6,a7,a8,a9,hM,_⟩:=hat' i s hi;exact ⟨a1,a2,a3,a4,a5,a6,a7,a8,a9,hM⟩) (fun s hs=>⟨(y5 s hs).1,(y5 s hs).2.1,(y5 s hs).2.2.2.1⟩) i s hi
  rw[eg hp] at hh
  exact hh
 have HST:Hid (lV W3 gd l):=hst
 clear hL hall htm h hR hE ih y1 y2 y3 y5 hat hn f1 f2 hp0 hoo hZ hcs hk3 kp3 hL3 hR3 hst hg
 go_enter Tryz.func147,Tryz.ntmps147
 go_upto_region 1 with fail
 rw[<-hW3,<-hq3]
 clear hW3 hq3 hb3 hs3
 go_upto_region 2 with fail
 obtain ⟨W5,hW5⟩:∃W5,W5=(W3.alloc (.cells cs0.toArray 269)).alloc (.cells #[.slice (some ⟨W3.heap.size,0,none⟩) n n,.slice none 0 0,.int .i64 0,.int .i64 0,.bool true,.bool false] 223):=⟨_,rfl⟩
 obtain ⟨gS,hgS⟩:∃gS,gS=W3.heap.size:=⟨_,rfl⟩
 obtain ⟨g,hgg⟩:∃g,g=(W3.alloc (.cells cs0.toArray 269)).heap.size:=⟨_,rfl⟩
 have hgg1:g=W3.heap.size+1:=by rw[hgg];simp
 have hb4:Below W3.heap.size W3 (W3.alloc (.cells cs0.toArray 269)):=aC _ _
 have hb45:Below (W3.alloc (.cells cs0.toArray 269)).heap.size (W3.alloc (.cells cs0.toArray 269)) W5:=by rw[hW5];exact aC _ _
 have hb5:Below W3.heap.size W3 W5:=aN hb4 hb45
 have k4:(W3.alloc (.cells cs0.toArray 269)).heap[gS]?=some (.cells cs0.toArray 269 (0,0)):=by rw[hgS];exact bE W3 _
 have k5:W5.heap[gS]?=some (.cells cs0.toArray 269 (0,0)):=aH hb45 k4
 have kg:W5.heap[g]?=some (.cells #[.slice (some ⟨gS,0,none⟩) n n,.slice none 0 0,.int .i64 0,.int .i64 0,.bool true,.bool false] 223 (0,0)):=by rw[hW5,hgg,hgS];exact bE _ _
 have L5:LR A ns P kb W3 k gS g n d E P (fun _=>False) W5 k [] cs0 (.slice none 0 0) 0 0 true false:=
  ⟨HH.out.2.2.1.below hb5,fun x hx=>.inl hx,fun _ _ h=>h,fun _ h=>h.elim,bH.of_below hb5,Int.le_refl _,kg,⟨by omega,fun hp=>by have:=HH.out.2.2.1.2.2 g hp;omega,fun h=>h,by omega⟩,⟨k5,HC.out⟩,⟨by omega,fun hp=>by have:=HH.out.2.2.1.2.2 gS hp;omega,fun h=>h⟩,fun i s hi=>by simp at hi⟩
 rw[<-hgg1,<-hgS]
 rw[<-hgS] at hW5
 rw[<-hW5]
 have c5:W5.cell? ⟨q3,0,none⟩=some (.slice ad n cap):=aM hb5 HQ.out.2.2.1
 have hord:=V6 (cap:=cap) (oo:=oo) HY.out.2.2.2.2.2.2.2.2.1.symm HY.out.2.2.2.2.1 y4 (fun hp=>(HG.out hp).1) (HST.out.below hb5)
 have HL5:Hid (LR A ns P kb W3 k gS g n d E P (fun _=>False) W5 k [] cs0 (.slice none 0 0) 0 0 true false):=L5
 clear hb4 hb45 hb5 k4 k5 kg L5 hgg hgg1 hgS hW5 HC c3
 go_upto_region 3 with (go_at_call 196;refine hord.mono ?_;intro e w1 ho;obtain ⟨vo,bo,rfl,hb1,⟨a1,n1,c1,rfl⟩,hom⟩:=Uj ho;have hg1:=aH hb1.out HL5.out.hg;have z1:=aA hg1 1 (u:=.slice none 0 0) rfl;have fz1:=aE hg1 1;clear ho)
 have L6:LR A ns P kb W3 k gS g n d E P (fun x=>False\/(W5.heap.size≤x/\x<w1.heap.size)) w1 k [] cs0 (.slice none 0 0) 0 0 true false:=
  LR.coder HH.out.2.1 HL5.out (HL5.out.cm.below hb1.out) (fun x hx=>.inl hx) (fun x hx h'=>by have:=HL5.out.cm.2.2 x hx;omega) (fun x hx=>hx) (bH.of_below hb1.out) (Int.le_refl _)
 obtain ⟨R1,hR1⟩:∃R1:Nat->Prop,R1=fun x=>False\/(W5.heap.size≤x/\x<w1.heap.size):=⟨_,rfl⟩
 rw[<-hR1] at L6
 have L7:LR A ns P kb W3 k gS g n d E P R1 (w1.setCell ⟨g,1,none⟩ (.slice a1 n1 c1)) k [] cs0 (.slice a1 n1 c1) 0 0 true false:=L6.flag HH.out.2.2.2.2.2 (j:=1) rfl
 have hom7:mV (fun x=>A x\/R1 x) (w1.setCell ⟨g,1,none⟩ (.slice a1 n1 c1)) (.slice a1 n1 c1) (oo.getD []):=(hom.carry (A':=fun x=>A x\/R1 x) fun x hx _=>⟨.inr (by rw[hR1];exact .inr hx),rfl⟩).carry (L6.keepG HH.out.2.2.2.2.2 _ _)
 obtain ⟨W7,hW7⟩:∃W7,W7=w1.setCell ⟨g,1,none⟩ (.slice a1 n1 c1):=⟨_,rfl⟩
 rw[<-hW7] at L7 hom7 ⊢
 have HL7:Hid (LR A ns P kb W3 k gS g n d E P R1 W7 k [] cs0 (.slice a1 n1 c1) 0 0 true false/\mV (fun x=>A x\/R1 x) W7 (.slice a1 n1 c1) (oo.getD [])):=⟨L7,hom7⟩
 have c7:W7.cell? ⟨q3,0,none⟩=some (.slice ad n cap):=L7.fr.cell HQ.out.2.2.1 HQ.out.2.1
 have hfx:=Vg (HH.out.1.carry (HH.out.2.1.keep L7.fr))
 rw[HY.out.2.2.2.2.2.2.2.2.2] at hfx
 clear hord hb1 hom hg1 z1 fz1 L6 L7 hom7 hR1 hW7 HL5 c5
 go_upto_region 4 with (go_at_call 197;refine hfx.mono ?_;rintro e w2 ⟨rfl,hb2⟩;have hg2:=aH hb2.out HL7.out.1.hg;have z2:=aA hg2 2 (u:=.int .i64 0) rfl;have fz2:=aE hg2 2)
 have L8:LR A ns P kb W3 k gS g n d E P R1 (w2.setCell ⟨g,2,none⟩ (.int .i64 (fi:Int))) k [] cs0 (.slice a1 n1 c1) (fi:Int) 0 true false:=(HL7.out.1.below hb2.out).flag HH.out.2.2.2.2.2 (j:=2) rfl
 have hom8:mV (fun x=>A x\/R1 x) (w2.setCell ⟨g,2,none⟩ (.int .i64 (fi:Int))) (.slice a1 n1 c1) (oo.getD []):=(HL7.out.2.carry (A':=fun x=>A x\/R1 x) fun x hx hl=>⟨hx,hb2.out.block x hl⟩).carry ((HL7.out.1.below hb2.out).keepG HH.out.2.2.2.2.2 _ _)
 obtain ⟨W8,hW8⟩:∃W8,W8=w2.setCell ⟨g,2,none⟩ (.int .i64 (fi:Int)):=⟨_,rfl⟩
 rw[<-hW8] at L8 hom8 ⊢
 have HL8:Hid (LR A ns P kb W3 k gS g n d E P R1 W8 k [] cs0 (.slice a1 n1 c1) (fi:Int) 0 true false/\mV (fun x=>A x\/R1 x) W8 (.slice a1 n1 c1) (oo.getD [])):=⟨L8,hom8⟩
 have c8:=aA L8.hg 2 (u:=.int .i64 (fi:Int)) rfl
 have hfi:fi≤1000000:=by have:=HY.out.2.2.2.2.2.1;omega
 have hE1:E<1000000:=by have:=HH.out.2.2.2.1;omega
 have hnum:=nH (w:=W8) fi hfi
 have hkept:=xO (x:=(fi:Int)+1) L8.cm hE1 ⟨by omega,by omega⟩
 rw[<-HY.out.2.2.2.2.2.2.2.1] at hkept
 clear hfx hb2 hg2 z2 fz2 L8 hom8 hW8 HL7 c7 hfi hE1
 go_upto_region 5 with (first|(go_at_call 199;refine hnum.mono ?_;rintro e w3 ⟨rfl,hw3⟩;obtain rfl:=hw3.symm;clear hnum)|(go_at_call 146;refine hkept.mono ?_;rintro e w4 ⟨rfl,h4⟩;have hg4:=h4.out.2.heap HL8.out.1.hg HL8.out.1.gl.2.1;have z4:=aA hg4 3 (u:=.int .i64 0) rfl;have fz4:=aE hg4 3))
 have L9:LR A ns P kb W3 k gS g n d (E+1) (Up P W8 w4) (fun x=>R1 x\/False) w4 (bD (aQ k ((fi:Int)+1)) p0) [] cs0 (.slice a1 n1 c1) (fi:Int) 0 true false:=
  LR.coder HH.out.2.1 HL8.out.1 h4.out.1 (fun x hx=>hx) (fun _ _ h=>h) (fun _ h=>h.elim) h4.out.2 (by show k.net.places≤k.net.places+1;omega)
 have hom9:mV (fun x=>A x\/R1 x\/False) (w4.setCell ⟨g,3,none⟩ (.int .i64 p0)) (.slice a1 n1 c1) (oo.getD []):=(HL8.out.2.carry (HL8.out.1.keepC HH.out.2.1 h4.out.2 fun _=>False)).carry (L9.keepG HH.out.2.2.2.2.2 _ _)
 have L10:LR A ns P kb W3 k gS g n d (E+1) (Up P W8 w4) (fun x=>R1 x\/False) (w4.setCell ⟨g,3,none⟩ (.int .i64 p0)) (bD (aQ k ((fi:Int)+1)) p0) [] cs0 (.slice a1 n1 c1) (fi:Int) p0 true false:=L9.flag HH.out.2.2.2.2.2 (j:=3) rfl
 obtain ⟨W9,hW9⟩:∃W9,W9=w4.setCell ⟨g,3,none⟩ (.int .i64 p0):=⟨_,rfl⟩
 rw[<-hW9] at L10 hom9 ⊢
 have HL9:Hid (∃Pj Rj,LR A ns P kb W3 k gS g n d (E+1) Pj Rj W9 (bD (aQ k ((fi:Int)+1)) p0) [] cs0 (.slice a1 n1 c1) (fi:Int) p0 true false/\mV (fun x=>A x\/Rj x) W9 (.slice a1 n1 c1) (oo.getD [])):=⟨_,_,L10,hom9⟩
 have c9:W9.cell? ⟨q3,0,none⟩=some (.slice ad n cap):=L10.fr.cell HQ.out.2.2.1 HQ.out.2.1
 clear hkept h4 hg4 z4 fz4 L9 L10 hom9 hW9 HL8 c8
 go_upto_region 7 with fail
 clear c9
 go_loopg [40] n (fun f i wr=>∃(j:Nat) (kj:Kd) (ss:List (eM (St d) (Rg d))) (cs:List Value) (id lv:Bool),f=n-j/\j≤n/\i=.int .i64 (j:Int)/\Hid (ss.length=j/\Z=(Em.fE (Em.aG d) (bA l) (l.drop j) >>= fun t=>Su l p0 (ss++t)) kj/\id=ss.all (·.idle)/\lv=ss.any (·.leaves)/\(∀s∈ss,zA ns l.length (eN ns d) s)/\p0<kj.net.places/\∃Pj Rj,LR A ns P kb W3 k gS g n d (E+1+((l.take j).map (iW (hJ d))).sum) Pj Rj wr kj ss cs (.slice a1 n1 c1) (fi:Int) p0 id lv/\mV (fun x=>A x\/Rj x) wr (.slice a1 n1 c1) (oo.getD [])))
 case atStart=>
  obtain ⟨Pj,Rj,L,O⟩:=HL9.out
  exact ⟨0,_,[],cs0,true,false,by omega,by omega,rfl,rfl,HZ.out.1,rfl,rfl,fun _ h=>by simp at h,by show p0<k.net.places+1;have:=HY.out.2.2.2.2.2.2.2.1;omega,Pj,Rj,by simpa using L,O⟩
 case round=>
  obtain ⟨j,kj,ss,cs,id,lv,rfl,hj,rfl,hr⟩:=hrel
  obtain ⟨hr1,hr2,hr3,hr4,hr5,hr6,Pj,Rj,hS,hO⟩:=hr.out
  by_cases hlt:j<n
  ·obtain ⟨s,hs⟩:∃s:cC (St d),l[j]?=some s:=⟨_,List.getElem?_eq_getElem (by rw[<-HY.out.2.2.2.2.1];exact hlt)⟩
   have hsm:=List.mem_of_getElem? hs
   have kp:aX A A W3 wr:=HH.out.2.1.keep hS.fr
   have hLr:aL A wr (d+1) l (.slice ad n cap):=HH.out.1.carry kp
   have cq:wr.cell? ⟨q3,0,none⟩=some (.slice ad n cap):=hS.fr.cell HQ.out.2.2.1 HQ.out.2.1
   have nq:¬Pj q3:=fun hp=>(hS.up q3 hp).elim HQ.out.2.1 fun h=>absurd h.1 (by have:=HQ.out.1;omega)
   have hRj:Ro A Pj wr:=fun x hx=>⟨Nat.lt_of_lt_of_le (HH.out.2.2.2.2.2 x hx) hS.fr.size,fun hp=>(hS.up x hp).elim (HH.out.2.1 x hx).2 fun h=>absurd h.1 (by have:=HH.out.2.2.2.2.2 x hx;omega)⟩
   obtain ⟨ad',g',cap',e',hg',hat'⟩:=Nw hLr
   have e1:ad'=ad:=by injection e' with e';exact e'.symm
   have eg:g'=gd:=by
    have h1:=(hg' (by rw[<-HY.out.2.2.2.2.1];omega)).1
    rw[e1,(HG.out (by omega)).1] at h1
    injection h1 with h1
    injection h1 with h1
    exact h1.symm
   rw[eg] at hat'
   obtain ⟨ve,vd,vle,pr,ay,ar,gy,capy,capr,hm,hrg,hAy⟩:=hat' j s hs
   have hix:=Ve ad gd n cap j hlt (fun hp=>(HG.out hp).1)
   obtain ⟨o,ho⟩:∃o,o=j*9:=⟨_,rfl⟩
   have hbud:(E+1+((l.take j).map (iW (hJ d))).sum)+iW (hJ d) s<1000000:=by
    have h1:=HH.out.2.2.2.1
    have h2:=lZ (iW (hJ d)) hs
    have h3:hJ (d+1) l=1+(l.map (iW (hJ d))).sum:=rfl
    omega
   have y5:=HY.out.2.1 s hsm
   have ya:=HY.out.2.2.1 s hsm
   have yt:=HY.out.2.2.2.1 s hsm
   have hls:=F7 HH.out.2.2.2.2.1 (L:=l) (s:=s) hLr ⟨cq,nq⟩ (i:=j) (od:=o) ho (HG.out (by omega)).2 hm hrg hAy ⟨ya.1,fun r hr=>⟨ya.2 r hr,y5.2.2.2.2 r hr,yt.2.2.2 r hr⟩,fun y hy=>⟨HY.out.1 s hsm y hy,y5.2.2.2.1 y hy,yt.2.2.1 y hy⟩,y5.2.1,y5.2.2.1,yt.1,yt.2.1⟩ hS.cm hRj hbud
   rw[<-ho] at hix
   have HJ:Hid (LR A ns P kb W3 k gS g n d (E+1+((l.take j).map (iW (hJ d))).sum) Pj Rj wr kj ss cs (.slice a1 n1 c1) (fi:Int) p0 id lv/\mV (fun x=>A x\/Rj x) wr (.slice a1 n1 c1) (oo.getD [])/\l[j]?=some s/\ss.length=j/\Z=(Em.iU (Em.aG d) (bA l) s >>= fun x=>Em.fE (Em.aG d) (bA l) (l.drop (j+1)) >>= fun t=>Su l p0 ((ss++[x])++t)) kj/\id=ss.all (·.idle)/\lv=ss.any (·.leaves)/\(∀s∈ss,zA ns l.length (eN ns d) s)/\p0<kj.net.places):=⟨hS,hO,hs,hr1,by rw[hr2,dR hs,xM],hr3,hr4,hr5,hr6⟩
   clear hr hr1 hr2 hr3 hr4 hr5 hr6 hS hO hs hsm kp hLr nq hRj e' hg' hat' e1 eg hm hrg hAy ho hbud y5 ya yt
   go_upto_region 10 with (go_at_call 202;refine hls.mono ?_;rintro e w1 ⟨aw,nw,cw,ai,ni,ci,id1,lv1,rfl,h1⟩)
   obtain ⟨q8,hq8⟩:∃q8,q8=w1.heap.size:=⟨_,rfl⟩
   rw[<-hq8]
   obtain ⟨V,hV⟩:∃V,V=w1.alloc (.cells #[.pointer (some ⟨gd,o,none⟩),.slice aw nw cw,.slice ai ni ci,.bool id1,.bool lv1] 269):=⟨_,rfl⟩
   have hbV:Below w1.heap.size w1 V:=by rw[hV];exact aC _ _
   have hkV:V.heap[q8]?=some (.cells #[.pointer (some ⟨gd,o,none⟩),.slice aw nw cw,.slice ai ni ci,.bool id1,.bool lv1] 269 (0,0)):=by rw[hV,hq8];exact bE w1 _
   rw[<-hV]
   obtain ⟨st,k1,P1,Q1,hz,i1,i2,C1,u1,d1,n1',r1,p1,V1,K1⟩:=h1.out
   have S1:LR A ns P kb W3 k gS g n d (E+1+((l.take (j+1)).map (iW (hJ d))).sum) P1 (fun x=>Rj x\/Q1 x) w1 k1 ss cs (.slice a1 n1 c1) (fi:Int) p0 id lv:=by
    refine LR.moreE (LR.coder HH.out.2.1 HJ.out.1 C1 u1 d1 n1' r1 p1) ?_
    rw[mE (iW (hJ d)) HJ.out.2.2.1];omega
   have O1:mV (fun x=>A x\/Rj x\/Q1 x) w1 (.slice a1 n1 c1) (oo.getD []):=HJ.out.2.1.carry (HJ.out.1.keepC HH.out.2.1 r1 Q1)
   have S2:=S1.below hbV
   have kV:aX (fun x=>A x\/Rj x\/Q1 x) (fun x=>A x\/Rj x\/Q1 x) w1 V:=fun x hx hl=>⟨hx,hbV.block x hl⟩
   have O2:=O1.carry kV
   have V2:Sy (fun x=>A x\/Rj x\/Q1 x) V st gd o (.slice aw nw cw) (.slice ai ni ci):=(V1.carry (A':=fun x=>A x\/Rj x\/Q1 x) (w':=w1) fun x hx _=>⟨hx.elim .inl fun h=>.inr (.inr h),rfl⟩).carry kV
   have nq8:q8≠g/\q8≠gS/\¬(A q8\/Rj q8\/Q1 q8):=⟨fun e=>by have:=aB S1.hg;omega,fun e=>by have:=aB S1.hs.1;omega,fun h=>by
    rcases h with h|h
    ·have:=HH.out.2.2.2.2.2 q8 h;have:=S1.fr.size;omega
    ·have:=(S1.rn q8 h).2;omega⟩
   have S3:∀b,LR A ns P kb W3 k gS g n d (E+1+((l.take (j+1)).map (iW (hJ d))).sum) P1 (fun x=>Rj x\/Q1 x) (V.setCell ⟨g,4,none⟩ (.bool b)) k1 ss cs (.slice a1 n1 c1) (fi:Int) p0 b lv:=fun b=>S2.flag HH.out.2.2.2.2.2 (j:=4) rfl
   have S4:∀b c,LR A ns P kb W3 k gS g n d (E+1+((l.take (j+1)).map (iW (hJ d))).sum) P1 (fun x=>Rj x\/Q1 x) ((V.setCell ⟨g,4,none⟩ (.bool b)).setCell ⟨g,5,none⟩ (.bool c)) k1 ss cs (.slice a1 n1 c1) (fi:Int) p0 b c:=fun b c=>(S3 b).flag HH.out.2.2.2.2.2 (j:=5) rfl
   have kG:∀b c,aX (fun x=>A x\/Rj x\/Q1 x) (fun x=>A x\/Rj x\/Q1 x) V ((V.setCell ⟨g,4,none⟩ (.bool b)).setCell ⟨g,5,none⟩ (.bool c)):=fun b c=>(S2.keepG HH.out.2.2.2.2.2 4 (.bool b)).trans ((S3 b).keepG HH.out.2.2.2.2.2 5 (.bool c)) (by simp[World.setCell])
   have kQ:∀b c,((V.setCell ⟨g,4,none⟩ (.bool b)).setCell ⟨g,5,none⟩ (.bool c)).heap[q8]?=some (.cells #[.pointer (some ⟨gd,o,none⟩),.slice aw nw cw,.slice ai ni ci,.bool id1,.bool lv1] 269 (0,0)):=fun b c=>by rw[Below.heap_setCell _ _ _ _ nq8.1,Below.heap_setCell _ _ _ _ nq8.1];exact hkV
   have HS4:Hid (∀b c,LR A ns P kb W3 k gS g n d (E+1+((l.take (j+1)).map (iW (hJ d))).sum) P1 (fun x=>Rj x\/Q1 x) ((V.setCell ⟨g,4,none⟩ (.bool b)).setCell ⟨g,5,none⟩ (.bool c)) k1 ss cs (.slice a1 n1 c1) (fi:Int) p0 b c/\mV (fun x=>A x\/Rj x\/Q1 x) ((V.setCell ⟨g,4,none⟩ (.bool b)).setCell ⟨g,5,none⟩ (.bool c)) (.slice a1 n1 c1) (oo.getD [])/\Sy (fun x=>A x\/Rj x\/Q1 x) ((V.setCell ⟨g,4,none⟩ (.bool b)).setCell ⟨g,5,none⟩ (.bool c)) st gd o (.slice aw nw cw) (.slice ai ni ci)/\((V.setCell ⟨g,4,none⟩ (.bool b)).setCell ⟨g,5,none⟩ (.bool c)).heap[q8]?=some (.cells #[.pointer (some ⟨gd,o,none⟩),.slice aw nw cw,.slice ai ni ci,.bool id1,.bool lv1] 269 (0,0))):=fun b c=>⟨S4 b c,O2.carry (kG b c),V2.carry (kG b c),kQ b c⟩
   have HJ2:Hid (ss.length=j/\Z=(Em.fE (Em.aG d) (bA l) (l.drop (j+1)) >>= fun t=>Su l p0 ((ss++[st])++t)) k1/\(id&&id1)=(ss++[st]).all (·.idle)/\(lv||lv1)=(ss++[st]).any (·.leaves)/\(∀s∈ss++[st],zA ns l.length (eN ns d) s)/\p0<k1.net.places/\st.idle=id1/\st.leaves=lv1):=by
    obtain ⟨_,_,_,g4,g5,g6,g7,g8,g9⟩:=HJ.out
    refine ⟨g4,by rw[g5];exact A9 hz,by rw[g6,<-i1];simp,by rw[g7,<-i2];simp,fun x hx=>?_,by omega,i1,i2⟩
    rcases List.mem_append.1 hx with h|h
    ·exact g8 x h
    ·rw[List.mem_singleton.1 h];exact K1
   have x4:V.cell? ⟨g,4,none⟩=some (.bool id):=aA S2.hg 4 rfl
   have y4':=aE S2.hg 4
   have x5:∀b,(V.setCell ⟨g,4,none⟩ (.bool b)).cell? ⟨g,5,none⟩=some (.bool lv):=fun b=>aA (S3 b).hg 5 rfl
   have y5':∀b,(V.setCell ⟨g,4,none⟩ (.bool b)).frozen? ⟨g,5,none⟩=false:=fun b=>aE (S3 b).hg 5
   have v3:V.cell? ⟨q8,3,none⟩=some (.bool id1):=aA hkV 3 rfl
   have v4:∀b,(V.setCell ⟨g,4,none⟩ (.bool b)).cell? ⟨q8,4,none⟩=some (.bool lv1):=fun b=>by
    rw[World.cell?_of_block (w:=V) (a:=⟨q8,4,none⟩) (Below.heap_setCell _ _ _ _ nq8.1)];exact aA hkV 4 rfl
   have HNQ:Hid (q8≠g/\q8≠gS/\¬(A q8\/Rj q8\/Q1 q8)):=nq8
   clear hls h1 hz i1 i2 C1 u1 d1 n1' r1 p1 V1 K1 S1 S2 S3 S4 O1 O2 V2 kV kG kQ HJ hix hq8 hV hbV hkV cq nq8
   go_cut [] from 41 to 78 (fun wx=>∃b,wx=V.setCell ⟨g,4,none⟩ (.bool b)/\Hid (b=(id&&id1)))
   case first=>
    cases id
    all_goals
     go_wp2_with fail
     go_meet
     case rel=>exact ⟨_,rfl,rfl⟩
   case rest=>
    obtain ⟨b,rfl,hb⟩:=hcut
    go_upto_region 11 with fail
    go_cut [] from 41 to 78 (fun wx=>∃c,wx=(V.setCell ⟨g,4,none⟩ (.bool b)).setCell ⟨g,5,none⟩ (.bool c)/\Hid (c=(lv||lv1)))
    case first=>
     cases lv
     all_goals
      go_wp2_with fail
      go_meet
      case rel=>exact ⟨_,rfl,rfl⟩
    case rest=>
     obtain ⟨c,rfl,hc⟩:=hcut
     go_upto_region 12 with fail
     obtain ⟨W3',hW3'⟩:∃W3',W3'=(V.setCell ⟨g,4,none⟩ (.bool b)).setCell ⟨g,5,none⟩ (.bool c):=⟨_,rfl⟩
     obtain ⟨T1,T2,T3,T4⟩:=HS4.out b c
     rw[<-hW3'] at T1 T2 T3 T4 ⊢
     have HJ3:Hid (ss.length=j/\Z=(Em.fE (Em.aG d) (bA l) (l.drop (j+1)) >>= fun t=>Su l p0 ((ss++[st])++t)) k1/\b=(ss++[st]).all (·.idle)/\c=(ss++[st]).any (·.leaves)/\(∀s∈ss++[st],zA ns l.length (eN ns d) s)/\p0<k1.net.places/\st.idle=id1/\st.leaves=lv1):=⟨HJ2.out.1,HJ2.out.2.1,hb.out.trans HJ2.out.2.2.1,hc.out.trans HJ2.out.2.2.2.1,HJ2.out.2.2.2.2⟩
     have HT:Hid (LR A ns P kb W3 k gS g n d (E+1+((l.take (j+1)).map (iW (hJ d))).sum) P1 (fun x=>Rj x\/Q1 x) W3' k1 ss cs (.slice a1 n1 c1) (fi:Int) p0 b c/\mV (fun x=>A x\/Rj x\/Q1 x) W3' (.slice a1 n1 c1) (oo.getD [])/\Sy (fun x=>A x\/Rj x\/Q1 x) W3' st gd o (.slice aw nw cw) (.slice ai ni ci)):=⟨T1,T2,T3⟩
     have s0:=aA T1.hg 0 (u:=.slice (some ⟨gS,0,none⟩) n n) rfl
     have u0:=aA T4 0 (u:=.pointer (some ⟨gd,o,none⟩)) rfl
     have u1:=aA T4 1 (u:=.slice aw nw cw) rfl
     have u2:=aA T4 2 (u:=.slice ai ni ci) rfl
     have u3:=aA T4 3 (u:=.bool id1) rfl
     have u4:=aA T4 4 (u:=.bool lv1) rfl
     obtain ⟨oS,hoS⟩:∃oS,oS=j*5:=⟨_,rfl⟩
     have hiS:∀W,(Instr.indexAt 221 (.slice (some ⟨gS,0,none⟩) n n) (.int .i64 (j:Int))).run Tryz.prog W=.ok (.pointer (some ⟨gS,oS,none⟩)) W:=fun W=>by rw[hoS];exact Pg (some ⟨gS,0,none⟩) gS n n j hlt (fun _=>rfl) W
     have hcl:∀jj,jj<5->∃u,W3'.cell? ⟨gS,oS+jj,none⟩=some u:=fun jj hjj=>by
      have hlen:=T1.hs.2
      exact ⟨_,aA T1.hs.1 (oS+jj) (by rw[List.getElem?_toArray];exact List.getElem?_eq_getElem (by omega))⟩
     obtain ⟨b0,m0⟩:=hcl 0 (by omega)
     obtain ⟨b1,m1⟩:=hcl 1 (by omega)
     obtain ⟨b2,m2⟩:=hcl 2 (by omega)
     obtain ⟨b3,m3⟩:=hcl 3 (by omega)
     obtain ⟨b4,m4⟩:=hcl 4 (by omega)
     rw[Nat.add_zero] at m0
     have z0:=aE T1.hs.1 oS
     have z1:=aE T1.hs.1 (oS+1)
     have z2:=aE T1.hs.1 (oS+2)
     have z3:=aE T1.hs.1 (oS+3)
     have z4:=aE T1.hs.1 (oS+4)
     have HO:Hid (oS=j*5):=hoS
     clear T1 T2 T3 T4 hcl hW3' HS4 HJ2 hoS x4 y4' x5 y5' v3 v4
     go_region
     all_goals
      go_wp2_with fail
      go_roundg (n-(j+1))
      case measure=>omega
      case rel=>
       obtain ⟨j1,j2,j3,j4,j5,j6,j7,j8⟩:=HJ3.out
       obtain ⟨cs',hput⟩:=HT.out.1.put HH.out.2.2.2.2.2 (s:=st) (gd:=gd) (od:=o) (by omega) HT.out.2.2 (i:=j) j1.symm
       rw[j7,j8,<-HO.out] at hput
       have hO6:=HT.out.2.1.carry (HT.out.1.keepS HH.out.2.2.2.2.2 fun x hx=>Tx (W:=W3') (gS:=gS) (o:=oS) (a:=.pointer (some ⟨gd,o,none⟩)) (b:=.slice aw nw cw) (c:=.slice ai ni ci) (e:=.bool id1) (f:=.bool lv1) x hx)
       generalize ((((W3'.setCell ⟨gS,oS,none⟩ (.pointer (some ⟨gd,o,none⟩))).setCell ⟨gS,oS+1,none⟩ (.slice aw nw cw)).setCell ⟨gS,oS+2,none⟩ (.slice ai ni ci)).setCell ⟨gS,oS+3,none⟩ (.bool id1)).setCell ⟨gS,oS+4,none⟩ (.bool lv1)=W6 at hput hO6 ⊢
       exact ⟨j+1,k1,ss++[st],cs',b,c,rfl,by omega,by go_num,by rw[List.length_append,j1];rfl,j2,j3,j4,j5,j6,P1,_,hput.drew,hO6.drew⟩
  ·have hjn:j=n:=by omega
   have hsl:ss.length=l.length:=by rw[hr1,hjn];exact HY.out.2.2.2.2.1
   have hZF:Z=some ((⟨ss,(eJ (cL l)).getD [],(fi:Int),p0,id,lv⟩:jG (St d) (Rg d)),kj):=by
    rw[hr2,List.drop_eq_nil_of_le (by rw[<-hsl,hr1];exact Nat.le_refl _)]
    show (Su l p0 (ss++[])) kj=_
    rw[List.append_nil,hr3,hr4,<-HY.out.2.2.2.2.2.2.1]
    rfl
   have hE:E+1+((l.take j).map (iW (hJ d))).sum=E+hJ (d+1) l:=by
    rw[List.take_of_length_le (by rw[<-hsl,hr1];exact Nat.le_refl _)]
    show _=E+(1+(l.map (iW (hJ d))).sum)
    omega
   have hfin:Laid A ns P kb w k (d+1) (E+hJ (d+1) l) (⟨ss,(eJ (cL l)).getD [],(fi:Int),p0,id,lv⟩:jG (St d) (Rg d)) g Pj (fun x=>Rj x\/x=g\/x=gS) wr kj:=by
    rw[<-hE]
    refine hS.done HQ.out.2.2.2.1 (by rw[hr1,hjn]) (by rw[<-HY.out.2.2.2.2.2.2.2.2.1];exact hO) ⟨by show ss.length≤1000000;omega,by show 0≤(fi:Int)/\(fi:Int)<ss.length;have:=HY.out.2.2.2.2.2.1;omega,fun i hi=>?_,?_,fun s hs=>?_⟩ ⟨?_,hr6⟩
    ·show i<ss.length
     rw[hsl];exact Nu.1 i hi
    ·show ((eJ (cL l)).getD []).length≤1000000
     have:=(Nu (l:=l)).2;omega
    ·show zA ns ss.length (eN ns d) s
     rw[hsl];exact hr5 s hs
    ·rw[HY.out.2.2.2.2.2.2.2.1,HH.out.2.2.1.2.1.len];omega
   have HF:Hid (Em.lay (Em.aG d) l k=some ((⟨ss,(eJ (cL l)).getD [],(fi:Int),p0,id,lv⟩:jG (St d) (Rg d)),kj)/\Laid A ns P kb w k (d+1) (E+hJ (d+1) l) (⟨ss,(eJ (cL l)).getD [],(fi:Int),p0,id,lv⟩:jG (St d) (Rg d)) g Pj (fun x=>Rj x\/x=g\/x=gS) wr kj):=⟨HZ.out.2.symm.trans hZF,hfin⟩
   clear hr hr1 hr2 hr3 hr4 hr5 hr6 hS hO hjn hsl hZF hE hfin
   go_wp2_with fail
   go_ret
   exact ⟨g,rfl,_,kj,Pj,_,HF.out⟩
theorem Ox (ih:yJ A kb ns d):yJ A kb ns (d+1):=fun hL hlay hall htm h hR hE=>Vd ih hL hlay hall htm h hR hE
theorem Fo:∀d,yJ A kb ns d
 | 0=>fun _ hlay _ _ _ _ _=>hlay.elim
 | d+1=>Ox (Fo d)
end
end Ew
end
section
open Go.RowKit Px
namespace Ew
open Px.Em (Kd Vr eL eM jG Rg cR)
open Nx (Nt Sp)
section
variable {A P:Nat->Prop}{w:World}{ns:List bB}{kb E:Nat}{k:Kd}
def zeroed (k:Kd) (t:Nat):Kd:={ k with net:={ k.net with first:=k.net.first.set t 0 } }
theorem eG.zeroed (h:eG E ns P w kb k) {t:Nat}(ht:t<k.net.first.length):∃b cap,w.cell? ⟨kb,1,none⟩=some (.slice (some ⟨b,0,none⟩) k.net.first.length cap)/\P b/\(∃u,w.cell? ⟨b,t,none⟩=some u)/\w.frozen? ⟨b,t,none⟩=false/\eG E ns P (w.setCell ⟨b,t,none⟩ (.int .i64 0)) kb (zeroed k t)/\bH P w (w.setCell ⟨b,t,none⟩ (.int .i64 0)):=by
 obtain ⟨⟨c,hc⟩,hF,hlt⟩:=h
 have hr:w.ownsRow 0 2 1 (c.v 1) k.net.first.length (k.net.first.map (Value.int .i64)):=hc.row 1 (by omega) (by omega)
 obtain ⟨b,cap,hv,_,hbl⟩:=hr.form (by omega)
 obtain ⟨hPb,hrole⟩:=hc.pr 1 b (by omega) (by omega) (by rw[hv];rfl)
 have hr':=hr
 rw[hv] at hr'
 obtain ⟨hst,hgr⟩:=hr'.stored t (.int .i64 0)
 have kp:∀x,x≠b->(w.setCell ⟨b,t,none⟩ (.int .i64 0)).heap[x]?=w.heap[x]?:=fun x hx=>Below.heap_setCell _ _ _ _ hx
 have hz:(w.setCell ⟨b,t,none⟩ (.int .i64 0)).heap.size=w.heap.size:=by simp[World.setCell]
 have hfr:bH P w (w.setCell ⟨b,t,none⟩ (.int .i64 0)):=(bH.refl _ _).setCell (.inl hPb) _
 obtain ⟨fv,hv1,hv2⟩:=hc.hv
 obtain ⟨fn,hn1,hn2⟩:=hc.hn
 refine ⟨b,cap,by rw[<-hv];exact hc.cell 1 rfl,hPb,⟨_,by rw[hr'.cellAt t (by omega)];exact List.getElem?_eq_getElem (by simpa using ht)⟩,hr'.frozenAt t,⟨⟨c,?_,fun j j1 j6=>?_,⟨fv,hv1.keep (kp _ fun e=>?_),hv2⟩,⟨fn,hn1.keep (kp _ fun e=>?_),hn2⟩,hc.p0,hc.pr,hc.pv,hc.pn,?_,hc.nn,hc.mvk⟩,?_,fun x hx=>by rw[hz];exact hlt x hx⟩,hfr⟩
 ·rw[kp kb fun e=>by have:=hc.p0.2;rw[e,hrole] at this;omega];exact hc.hk
 ·by_cases hj:j=1
  ·subst hj
   show World.ownsRow _ 0 2 1 (c.v 1) (k.net.first.set t 0).length ((k.net.first.set t 0).map (Value.int .i64))
   rw[hv,List.length_set,List.map_set]
   exact hst
  ·have e1:qH (Ew.zeroed k t).net j=qH k.net j:=by unfold qH;split<;>first|exact absurd rfl hj|rfl
   have e2:oV (Ew.zeroed k t).net j=oV k.net j:=by unfold oV;split<;>first|exact absurd rfl hj|rfl
   rw[e1,e2]
   refine dK (A:=fun x=>(c.v j).ownBlock=some x) (A':=fun _=>True) (hc.row j j1 j6) (fun _ h=>h) fun x hx _=>⟨trivial,kp x fun e=>?_⟩
   have:=(hc.pr j x j1 j6 hx).2;rw[e,hrole] at this;omega
 ·have:=hc.pv.2;rw[e,hrole] at this;omega
 ·have:=hc.pn.2;rw[e,hrole] at this;omega
 ·show c.nv≤(k.net.first.set t 0).length
  rw[List.length_set];exact hc.nv
 ·have hl:(Ew.zeroed k t).net.first.length=k.net.first.length:=by simp[Ew.zeroed]
  refine ⟨by rw[hl];exact hF.len,by rw[hl];exact hF.pot,hF.code,by rw[hl];exact hF.keeps,by rw[hl];exact hF.ins,by rw[hl];exact hF.outs,hF.nums,hF.e,fun x hx=>?_,hF.nn,hF.vf,hF.out⟩
  rcases List.mem_or_eq_of_mem_set hx with h|h
  ·exact hF.nf x h
  ·rw[h];exact ⟨by omega,by omega⟩
theorem eG.drew (h:eG E ns P w kb k):eG E ns P w.drew kb k:=h.below (Below.refl _ _).drew
theorem aE7 (b n cap t:Nat) (ht:t<n) (w:World):(Instr.indexAt 22 (.slice (some ⟨b,0,none⟩) n cap) (.int .i64 (t:Int))).run Tryz.prog w=.ok (.pointer (some ⟨b,t,none⟩)) w:=by
 rw[run_indexAt_slice _ _ _ _ _ _ _ (by kernel_rfl),if_pos ⟨by omega,by omega⟩]
 have e:(sizeOf (Tryz.prog.elem 22)).run Tryz.prog w=.ok 1 w:=by kernel_rfl
 rw[e]
 simp[Result.andThen,Addr.add]
 try (intro h;exact h.symm)
theorem Bj {b:Int}{l:List (St 6)}{r:List (List (St 6))}{g:jG (St 5) (Rg 5)}{k1:Kd}{t:Nat}(hz:(Em.aG 6).lay l k=some (g,k1)) (ht:g.there=(t:Int)):Em.qO b (l::r) k=((Em.aG 6).goOn g g.there (Em.dZ (List.replicate g.states.length []) g.first b false) >>= fun _=>Em.qO b r) (Ew.zeroed k1 t):=by
 have e:t=g.there.toNat:=by rw[ht];rfl
 rw[e]
 exact A9 (m:=(Em.aG 6).lay l) hz
theorem Mj {wr w1 w2 w5:World}{kj k1 k2:Kd}{d g:Nat}{r:Rg d}{P1 R1:Nat->Prop}{o:Option (Unit×Kd)}{e:Ending}(hP:∀b,P b->b<w.heap.size) (hfr:bH P w wr) (hpl:k.net.places≤kj.net.places) (L1:Laid A ns (Up P w wr) kb wr kj d E r g P1 R1 w1 k1) (h2:bH P1 w1 w2) (hp2:k1.net.places≤k2.net.places) (h:eY E ns P1 kb w2 k2 o (fun _=>.tuple #[]) e w5) :
    (e=Sv/\Hid (o=none)/\Hid (bH P w w5))\/∃k5,e=.returned (.tuple #[])/\Hid (o=some ((),k5))/\Hid (At E ns P kb w k w5 k5):=by
 have s0:=hfr.size
 have s1:=L1.fr.size
 have s2:=h2.size
 have f1:=hfr.up L1.fr
 have f2:bH P w w2:=f1.trans h2 fun b hb hp=>(L1.up b hp).elim (fun h=>h.elim id fun h=>absurd h.1 (by omega)) fun h=>absurd h.1 (by omega)
 have st:∀{w':World},bH P1 w2 w'->bH P w w':=fun h=>f2.trans h fun b hb hp=>(L1.up b hp).elim (fun h=>h.elim id fun h=>absurd h.1 (by omega)) fun h=>absurd h.1 (by omega)
 rcases h with ⟨rfl,h0,h1⟩|⟨_,k5,rfl,h0,h1⟩
 ·exact .inl ⟨rfl,h0,st h1.out⟩
 ·obtain ⟨c1,c2,c3⟩:=h1.out
  have s5:=c2.size
  refine .inr ⟨k5,rfl,h0,c1.mono (fun b hb=>?_) (fL hP (st c2).size),st c2,by have:=L1.pl;omega⟩
  rcases hb with hb|hb
  ·rcases L1.up b hb with hb|hb
   ·exact Up.size (by omega) b hb
   ·exact .inr ⟨by omega,by omega⟩
  ·exact .inr ⟨by omega,hb.2⟩
end
end Ew
end
end Go.Proofs.YtcdbhoknhnimcaaGreatDoor
