import Derived.Test.YthieaobjdpfcoaaGreatDoorVEo
set_option maxRecDepth 100000
set_option maxHeartbeats 16000000
namespace Go.Proofs.YthieaobjdpfcoaaGreatDoor
open Go.Proofs.Tryz (prog)
section
open Go.RowKit Px
namespace Ew
open Px.Em (Kd Vr eQ eR jP Rg cX)
open Nx (Nt Sp)
section
variable {P T X P1 T1 A:Nat->Prop}{w wr w2:World}{kb b E c d:Nat}{ns:List bE}{k kj k2:Kd}{t:cX}
theorem dE.up {s:Nat}{o o2:Option (cX×Kd)}{e:Ending}(S:Two E ns P T X kb b w k P1 T1 wr kj t c) (y:o=o2) (h:dE E ns P1 T1 kb b wr kj s o2 e w2):dE E ns P T kb b w k s o e w2:=by
 subst y
 have J:=S.fr.size
 have n:∀x,x<w.heap.size->(P1 x\/T1 x)->(P x\/T x):=fun x hx h=>by
  rcases h with h|h
  ·exact (S.up x h).1.elim .inl fun h=>absurd h.1 (by omega)
  ·exact (S.ut x h).1.elim .inr fun h=>absurd h.1 (by omega)
 rcases h with ⟨rfl,r,j⟩|⟨D,I,rfl,r,u,T2,j⟩
 ·exact .inl ⟨rfl,r,S.fr.trans j.out n⟩
 ·refine .inr ⟨D,I,rfl,r,u,T2,j.cm,j.im,j.dis,fun x hx=>⟨?_,id⟩,fun x hx=>⟨?_,id⟩,fun _ h=>h.elim,S.fr.trans j.fr n,aY2 S.pl j.pl⟩
  ·have l:=j.fr.size
   rcases (j.up x hx).1 with h|h
   ·exact Up.size l x (S.up x h).1
   ·exact .inr ⟨by omega,h.2⟩
  ·have l:=j.fr.size
   rcases (j.ut x hx).1 with h|h
   ·exact Up.size l x (S.ut x h).1
   ·exact .inr ⟨by omega,h.2⟩
theorem Two.choose {Y:Nat->Prop}(h:Two E ns P T (fun _=>False) kb b w k P1 T1 wr kj t c) (hx:Zf E ns P1 Y kb wr kj w2 k2) (y:∀x,Y x->wr.heap.size≤x):∃P2,Two E ns P T (fun _=>False) kb b w k P2 T1 w2 k2 t c/\(∀x,Y x->¬(P2 x\/T1 x))/\bM P1 wr w2:=by
 obtain ⟨P2,p1,p2,p3,p4,p5⟩:=hx
 have r:=p4.size
 have D:=h.fr.size
 refine ⟨P2,⟨p1,h.im.carry (p4.keep fun x hx n=>h.dis x n hx) r,fun x hx l=>?_,fun x hx=>⟨?_,id⟩,fun x hx=>⟨Up.size r x (h.ut x hx).1,id⟩,fun _ h=>h.elim,h.bad p4,aY2 h.pl p5⟩,fun x u s=>?_,p4⟩
 ·rcases (p2 x hx).1 with j|j
  ·exact h.dis x j l
  ·have:=h.im.2 x l;omega
 ·rcases (p2 x hx).1 with j|j
  ·exact Up.size r x (h.up x j).1
  ·exact .inr ⟨by omega,j.2⟩
 ·rcases s with n|l
  ·exact (p2 x n).2 u
  ·have:=h.im.2 x l;have:=y x u;omega
def fA:Wy->Bool:=fun y=>decide (y.kind=1)
def fB:Wy->Bool:=fun y=>!decide (y.kind=1)
def fC:Wy->Bool:=fun y=>y.now&&decide (y.kind=1)
def fD:Wy->Bool:=fun y=>y.now && !decide (y.kind=1)
def Zs (c1 c2:List (eQ×Int)×Int) (t:cX):Em.M cX:=Em.take c1.1 t >>= fun t'=>Em.take c2.1 t'
def Tv (s:eR (St d) (Rg d)) (c1 c2:List (eQ×Int)×Int) (t:cX):Em.M cX:=
 if s.leaves=true then (Em.dI (Em.aJ d) s.inside c2.2 >>= fun _=>Em.uZ c1.2 c2.2 >>= fun e=>Em.vM e s.drawn.leave >>= fun _=>Zs c1 c2 t) else Zs c1 c2 t
def Vd (s:eR (St d) (Rg d)) (c1:List (eQ×Int)×Int) (t:cX) (on back':Int):Em.M cX:=Em.mP (Em.aJ d) on back' s.inside >>= fun _=>Em.choose (Em.aJ d) s on fD >>= fun c2=>Tv s c1 c2 t
def Vm (s:eR (St d) (Rg d)) (c1:List (eQ×Int)×Int) (t:cX) (so back on:Int):Em.M cX:=if on=so then Vd s c1 t on back else (Em.tX on back >>= Vd s c1 t on)
theorem rM {s:eR (St d) (Rg d)}{so back:Int}:Em.fG (Em.aJ d) s so back t=(Em.fS so s.ways >>= fun _=>Em.vM so s.drawn.enter >>= fun _=>Em.choose (Em.aJ d) s so fC >>= fun c1=>Em.dU so c1.2 >>= fun on=>Vm s c1 t so back on):=by
 unfold Em.fG Vm Vd Tv Zs fC fD
 rfl
theorem Ed {so:Int}{y:eQ}{r:List eQ}(h:y.left=-1):Em.fS so (y::r) k=Em.fS so r k:=by rw[Em.fS,if_pos h]
theorem Ad {so:Int}{y:eQ}{r:List eQ}(h:y.left≠-1):Em.fS so (y::r) k=(Em.bS y.drawn.times >>= fun x=>Em.put y.left so x >>= fun _=>Em.fS so r) k:=by rw[Em.fS,if_neg h]
end
def oQ (A:Nat->Prop) (kb E:Nat) (ns:List bE) (d:Nat):Prop:=∀{P:Nat->Prop}{w:World}{k:Kd}{r:Rg d}{g:Nat}{so back:Int},fH A d w r g->eS ns d r->eK E ns P w kb k->Ro A P w->
 Calls prog 233 #[.pointer (some ⟨kb,0,none⟩),.pointer (some ⟨g,0,none⟩),.int .i64 so,.int .i64 back] w (fJ E ns P kb w k ((Em.aJ d).enter r so back k) (fun _=>.tuple #[]))
section
variable {P T X P1 T1 A:Nat->Prop}{w wr w2:World}{kb b E c d:Nat}{ns:List bE}{k kj k2:Kd}{t:cX}
theorem Two.roU (h:Two E ns P T X kb b w k P1 T1 wr kj t c) (hR:Ro A (fun x=>P x\/T x) w):Ro A (fun x=>P1 x\/T1 x) wr:=fun x hx=>⟨(h.ro hR x hx).1,fun hp=>hp.elim (h.ro hR x hx).2 (h.roT hR x hx).2⟩
theorem T9 {g:Rg d}{r:List (Rg d)}{on back:Int}:Em.mP (Em.aJ d) on back (g::r) k=((Em.aJ d).enter g on back >>= fun _=>Em.mP (Em.aJ d) on back r) k:=rfl
theorem jX:∀{cs:List (eQ×Int)}{t t':cX}{k k':Kd},Em.take cs t k=some (t',k')->t'.length=t.length
 | [],_,_,_,_,h=>by injection h with h;injection h with h _;rw[<-h]
 | y::r,t,t',k,k',h=>by
  obtain ⟨_,k1,_,h2⟩:=cV (show (Em.vM y.2 y.1.drawn.sets >>= fun _=>Em.take r (Em.eC t y.1.to y.2 y.1.drawn.back)) k=_ from h)
  rw[jX h2,nJ]
theorem aB2 (hE:E<1000000) (ih:oQ A kb E ns d) {gS o gd od n:Nat}{s:eR (St d) (Rg d)}{so back:Int}(hs:vS A w (fH A d w) gS o s gd od) (hK:B9 ns n (eS ns d) s) (h:eK E ns P w kb k) (hI:xE T w b t c) (hd:∀x,P x->¬T x) (hR:Ro A (fun x=>P x\/T x) w) (hn:t.length=n) (hc:c≤6000000000000) :
 Calls prog 215 #[.pointer (some ⟨kb,0,none⟩),.pointer (some ⟨gS,o,none⟩),.int .i64 so,.int .i64 back,.slice (some ⟨b,0,none⟩) n n] w (dE E ns P T kb b w k (c+1000000+1000000) (Em.fG (Em.aJ d) s so back t k)):=by
 obtain ⟨Z,hZ⟩:=gQx (Em.fG (Em.aJ d) s so back t k)
 obtain ⟨C6,cq⟩:∃C6:Unit->Em.M cX,C6=fun _=>Em.vM so s.drawn.enter >>= fun _=>Em.choose (Em.aJ d) s so fC >>= fun c1=>Em.dU so c1.2 >>= fun on=>Vm s c1 t so back on:=⟨_,rfl⟩
 have dr:Hid (C6=fun _=>Em.vM so s.drawn.enter >>= fun _=>Em.choose (Em.aJ d) s so fC >>= fun c1=>Em.dU so c1.2 >>= fun on=>Vm s c1 t so back on):=cq
 have HZ:Hid (Z=(Em.fS so s.ways >>= C6) k):=by rw[Hid,hZ,rM,cq]
 rw[<-hZ]
 obtain ⟨aw,gw,cw,q1,db,ch,cy⟩:=hs.wy
 obtain ⟨N,hN⟩:=gQx s.ways.length
 rw[<-hN] at q1 db ch
 have HW:Hid ((0<N->aw=some ⟨gw,0,none⟩/\A gw)/\(∀j y,s.ways[j]?=some y->B6 A w gw (j*3) y)/\N=s.ways.length):=⟨ch,cy,hN⟩
 have HH:Hid (vS A w (fH A d w) gS o s gd od/\B9 ns n (eS ns d) s/\Ro A (fun x=>P x\/T x) w/\t.length=n/\oQ A kb E ns d):=⟨hs,hK,hR,hn,ih⟩
 have HC:Hid (Two E ns P T (fun _=>False) kb b w k P T w k t c):=Two.start h hI hd
 have ea:(N:Int)≤1000000:=by have:=hK.wl;omega
 clear h hI hd hR hn hs hK ih hZ hN ch cy db cq
 go_enter Tryz.func215,Tryz.ntmps215
 go_wp2_with fail
 clear q1
 go_loopg [24] N (fun f i wr=>∃(j:Nat) (kj:Kd),f=N-j/\j≤N/\i=.int .i64 (j:Int)/\Hid (Z=(Em.fS so (s.ways.drop j) >>= C6) kj/\∃Pj,Two E ns P T (fun _=>False) kb b w k Pj T wr kj t c))
 case atStart=>exact ⟨0,k,by omega,by omega,rfl,HZ.out,P,HC.out⟩
 case round=>
  obtain ⟨j,kj,rfl,hj,rfl,hr⟩:=hrel
  obtain ⟨ah,P0,hT⟩:=hr.out
  by_cases hlt:j<N
  ·obtain ⟨y,hy⟩:∃y:eQ,s.ways[j]?=some y:=⟨s.ways[j]'(by rw[<-HW.out.2.2];exact hlt),aN4 _⟩
   have co:=(HW.out.1 (by omega)).2
   have kp:=hT.keep HH.out.2.2.1
   have br:=B6.carry kp co (HW.out.2.1 j y hy)
   have cg:=HH.out.2.1.wy y (aP1 hy)
   obtain ⟨gy,oy,pc,qs,y0,di,cr⟩:=br.d
   have y1:=br.t
   have y2:=br.l
   have cf:=aK9 aw gw N cw j hlt (fun U=>(HW.out.1 U).1)
   obtain ⟨lf,ba⟩:=gQx y.left
   rw[<-ba] at y2
   obtain ⟨X,hX⟩:=gQx (wr.alloc (.cells #[.pointer (some ⟨gy,oy,none⟩),.int .i64 y.to,.int .i64 lf] 275))
   obtain ⟨q,hq⟩:=gQx wr.heap.size
   have bj:Below wr.heap.size wr X:=by rw[hX];exact aL _ _
   have bg:X.heap[q]?=some (.cells #[.pointer (some ⟨gy,oy,none⟩),.int .i64 y.to,.int .i64 lf] 275 (0,0)):=by rw[hX,hq];exact aX wr _
   have x0:=aF bg 0 (u:=.pointer (some ⟨gy,oy,none⟩)) rfl
   have x2:=aF bg 2 (u:=.int .i64 lf) rfl
   rw[dT hy] at ah
   by_cases hl:lf=-1
   ·have bf:Hid (Z=(Em.fS so (s.ways.drop (j+1)) >>= C6) kj/\∃Pj,Two E ns P T (fun _=>False) kb b w k Pj T X kj t c):=⟨ah.trans (eH (m':=Em.fS so (s.ways.drop (j+1))) (Ed (by rw[<-ba];exact hl))),P0,hT.below bj⟩
    have t1:(lf == -1)=true:=by simpa using hl
    have t2:(lf != -1)=false:=by simp[hl]
    clear hr ah hT kp br cg cr bj bg ba hl hy co di
    go_upto_region 3 with fail
    rw[<-hX,<-hq]
    clear hX hq cf y0 y1 y2
    go_wp2_with fail
    go_roundg (N-(j+1))
    case measure=>omega
    case rel=>exact ⟨j+1,kj,rfl,by omega,by go_num,bf.out⟩
   ·have t1:(lf == -1)=false:=by simpa using hl
    have t2:(lf != -1)=true:=by simp[hl]
    have S0:Hid (Two E ns P T (fun _=>False) kb b w k P0 T X.drew kj t c):=hT.below bj.drew
    have m3:X.cell? ⟨gy,oy+3,none⟩=some (.int .i64 (y.drawn.times:Int)):=aN bj cr.2.2.2.1
    obtain ⟨tm,ct⟩:∃tm:Int,tm=(y.drawn.times:Int):=⟨_,rfl⟩
    have cd:=dP (n:=tm) S0.out.cm hE (by unfold jF;have:=cg.m;omega)
    have e0:Hid (Z=(Em.bS tm >>= fun x=>Em.put lf so x >>= fun _=>Em.fS so (s.ways.drop (j+1)) >>= C6) kj):=by
     rw[Hid,ct,ba]
     refine ah.trans ((eH (Ad (by rw[<-ba];exact hl))).trans ?_)
     simp only[pA]
    have HQ:Hid (X.drew.heap[q]?=some (.cells #[.pointer (some ⟨gy,oy,none⟩),.int .i64 y.to,.int .i64 lf] 275 (0,0))/\¬P0 q):=⟨bg,fun h=>by have:=hT.cm.2.2 q h;omega⟩
    rw[<-ct] at m3
    clear hr ah hT kp br cg cr bj bg ba hl hy ct co di
    go_upto_region 3 with fail
    rw[<-hX,<-hq]
    clear hX hq cf y0 y1 y2
    go_wp2_with fail
    go_region_law (first
     | (go_simp;go_at_call 207;refine cd.mono ?_;rintro e w1 (⟨rfl,O,J⟩|⟨x1,k1,rfl,O,J⟩);(· exact ⟨rfl,(.inl ⟨rfl,e0.out.trans (aH O.out),S0.out.bad J.out⟩)⟩);have du:Hid (w1.heap[q]?=some (.cells #[.pointer (some ⟨gy,oy,none⟩),.int .i64 y.to,.int .i64 lf] 275 (0,0))):=J.out.2.1.heap HQ.out.1 HQ.out.2;obtain ⟨P1,S1⟩:∃P1,Hid (Two E ns P T (fun _=>False) kb b w k P1 T w1 k1 t (c)):=⟨_,S0.out.coder J.out⟩;have e1:Hid _:=e0.out.trans (bind_some O.out);clear O J cd;have ce:=Ew.nU lf so x1 S1.out.cm;have z2:=aF du.out 2 (u:=.int .i64 lf) rfl)
     | (go_simp;go_at_call 214;refine ce.mono ?_;rintro e w2 (⟨rfl,O,J⟩|⟨_,k2,rfl,O,J⟩);(· exact ⟨rfl,(.inl ⟨rfl,e1.out.trans (aH O.out),S1.out.bad J.out⟩)⟩);obtain ⟨P2,S2⟩:∃P2,Hid (Two E ns P T (fun _=>False) kb b w k P2 T w2 k2 t (c)):=⟨_,S1.out.coder J.out⟩;have e2:Hid _:=e1.out.trans (bind_some O.out);clear O J ce))
    all_goals
     have bf:Hid (Z=(Em.fS so (s.ways.drop (j+1)) >>= C6) k2/\∃Pj,Two E ns P T (fun _=>False) kb b w k Pj T w2 k2 t c):=⟨e2.out,P2,S2.out⟩
     clear e0 e1 e2 S0 S1 S2 HQ
     go_wp2_with fail
     go_roundg (N-(j+1))
     case measure=>omega
     case rel=>exact ⟨j+1,k2,rfl,by omega,by go_num,bf.out⟩
  ·obtain rfl:j=N:=by omega
   have S0:Hid (Two E ns P T (fun _=>False) kb b w k P0 T wr kj t c):=hT
   have e0:Hid (Z=(Em.vM so s.drawn.enter >>= fun _=>Em.choose (Em.aJ d) s so fC >>= fun c1=>Em.dU so c1.2 >>= fun on=>Vm s c1 t so back on) kj):=by
    rw[Hid,ah,dr.out,HW.out.2.2,aR4];rfl
   have kp:=hT.keep HH.out.2.2.1
   have ak:=HH.out.1.carry kp (fH.carry d kp)
   obtain ⟨ve,q3,ck⟩:=ak.en
   have q0:=ak.d
   have bc:=aA8 (so:=so) HH.out.2.1.en ck S0.out.cm (S0.out.ro HH.out.2.2.1) hE
   obtain ⟨va,vn,vc,rfl⟩:=ck.sl'
   clear hr ah hT kp ak ck
   go_upto_region 7 with (go_at_call 208;refine bc.mono ?_;rintro e w1 (⟨rfl,O,J⟩|⟨_,k1,rfl,O,J⟩);(· exact ⟨rfl,(.inl ⟨rfl,e0.out.trans (aH O.out),S0.out.bad J.out⟩)⟩);obtain ⟨P1,S1⟩:∃P1,Hid (Two E ns P T (fun _=>False) kb b w k P1 T w1 k1 t (c)):=⟨_,S0.out.coder J.out⟩;have e1:Hid _:=e0.out.trans (bind_some O.out);clear O J bc)
   clear q0 q3 S0 e0
   have kp:=S1.out.keep HH.out.2.2.1
   have bp:Calls prog 202 _ w1 (zR E ns P1 A n kb w1 k1 (Em.choose (Em.aJ d) s so fC k1)):=aK2 (so:=so) hE (HH.out.1.carry kp (fH.carry d kp)) HH.out.2.1 S1.out.cm (S1.out.ro HH.out.2.2.1)
   clear kp
   go_upto_region 8 with (go_at_call 202;refine bp.mono ?_;rintro e w3 (⟨rfl,O,J⟩|⟨aa,ae,k3,ar,am,an,rfl,O,J⟩);(· exact ⟨rfl,(.inl ⟨rfl,e1.out.trans (aH O.out),S1.out.bad J.out⟩)⟩);have e3:Hid _:=e1.out.trans (bind_some O.out);clear O bp)
   clear e1
   obtain ⟨P3,au,hex,cu⟩:=S1.out.choose J.out.1 J.out.2.2.1
   have kp:=au.keep HH.out.2.2.1
   have ay:=HH.out.1.carry kp (fH.carry d kp)
   obtain ⟨vi,q2,ds⟩:=ay.iy
   obtain ⟨ai,gi,ci,rfl,dc,cn,dm⟩:=ds
   obtain ⟨M,hM⟩:=gQx s.inside.length
   rw[<-hM] at q2 dc cn
   have Q:Hid (Two E ns P T (fun _=>False) kb b w k P3 T w3 k3 t c/\qI A w3 (.slice ar am an) aa/\(∀g,(Value.slice ar am an).ownBlock=some g->g<w3.heap.size/\¬(P3 g\/T g))/\(∀y∈aa,xK ns n y.1)/\aa.length≤1000000/\vS A w3 (fH A d w3) gS o s gd od/\Ro A (fun x=>P3 x\/T x) w3):=⟨au,J.out.2.1,fun g Y=>⟨by obtain ⟨_,hr,_⟩:=J.out.2.1;exact (hr.lt g Y).2,hex g Y⟩,J.out.2.2.2.1,J.out.2.2.2.2.2,ay,au.roU HH.out.2.2.1⟩
   have HI:Hid ((0<M->ai=some ⟨gi,0,none⟩/\A gi)/\(∀j r,s.inside[j]?=some r->∃gr,w3.cell? ⟨gi,j,none⟩=some (.pointer (some ⟨gr,0,none⟩))/\fH A d w3 r gr)/\M=s.inside.length/\w3.cell? ⟨gS,o+2,none⟩=some (.slice ai M ci)/\A gS):=⟨cn,dm,hM,q2,ay.dA.2⟩
   have S3:Hid (Two E ns P3 T (fun _=>False) kb b w3 k3 P3 T w3 k3 t c):=Two.start au.cm au.im au.dis
   have eb:(M:Int)≤1000000:=by have:=HH.out.2.1.il;omega
   have dn:=oL so ae S3.out.cm hE
   clear J au hex cu kp ay q2 cn dm hM dc S1
   go_upto_region 9 with (go_at_call 204;refine dn.mono ?_;rintro e w4 (⟨rfl,O,J⟩|⟨x4,k4,rfl,O,J⟩);(· exact ⟨rfl,dE.up Q.out.1 rfl (.inl ⟨rfl,e3.out.trans (aH O.out),S3.out.bad J.out⟩)⟩);obtain ⟨P4,S4⟩:∃P4,Hid (Two E ns P3 T (fun _=>False) kb b w3 k3 P4 T w4 k4 t (c)):=⟨_,S3.out.coder J.out⟩;have e4:Hid _:=e3.out.trans (bind_some O.out);clear O J dn)
   obtain ⟨B,hB⟩:∃B,(x4 != so)=B:=⟨_,rfl⟩
   have dx:(x4==so)=!B:=by rw[<-hB,bne,Bool.not_not]
   have HB:Hid (B=true↔x4≠so):=by rw[Hid,<-hB];simp
   clear e3
   go_upto_if 67 with fail
   clear hB dx
   go_cut [3] (fun s3 wx=>∃(bk:Int) (km:Kd),s3=.int .i64 bk/\Hid (Z=Vd s (aa,ae) t x4 bk km/\∃Pm,Two E ns P3 T (fun _=>False) kb b w3 k3 Pm T wx km t c))
   case first=>
    cases B with
    | true=>
     have cx:=HB.out.1 rfl
     have e5:Hid (Z=(Em.tX x4 back >>= Vd s (aa,ae) t x4) k4):=by
      rw[Hid,e4.out]
      show Vm s (aa,ae) t so back x4 k4=_
      unfold Vm
      rw[if_neg cx]
     have S5:=S4
     have ca:=tW x4 back S5.out.cm hE
     clear cx e4
     go_wp2_with (go_at_call 232;refine ca.mono ?_;rintro e w6 (⟨rfl,O,J⟩|⟨x6,k6,rfl,O,J⟩);(· exact ⟨rfl,dE.up Q.out.1 rfl (.inl ⟨rfl,e5.out.trans (aH O.out),S5.out.bad J.out⟩)⟩);obtain ⟨P6,S6⟩:∃P6,Hid (Two E ns P3 T (fun _=>False) kb b w3 k3 P6 T w6 k6 t (c)):=⟨_,S5.out.coder J.out⟩;have e6:Hid _:=e5.out.trans (bind_some O.out);clear O J ca)
     go_meet
     case rel=>exact ⟨x6,k6,rfl,e6.out,P6,S6.out⟩
    | false=>
     have he:x4=so:=Classical.byContradiction fun h=>absurd (HB.out.2 h) (by simp)
     have bf:Hid (Z=Vd s (aa,ae) t x4 back k4/\∃Pm,Two E ns P3 T (fun _=>False) kb b w3 k3 Pm T w4 k4 t c):=by
      refine ⟨?_,P4,S4.out⟩
      rw[e4.out]
      show Vm s (aa,ae) t so back x4 k4=_
      unfold Vm
      rw[if_pos he]
     clear he e4 S4
     go_wp2_with fail
     go_meet
     case rel=>exact ⟨back,k4,rfl,bf.out⟩
   case rest=>
    obtain ⟨bk,km,rfl,hc⟩:=hcut
    obtain ⟨D,hD⟩:∃D:Unit->Em.M cX,D=fun _=>Em.choose (Em.aJ d) s x4 fD >>= fun c2=>Tv s (aa,ae) c2 t:=⟨_,rfl⟩
    have HD:Hid (D=fun _=>Em.choose (Em.aJ d) s x4 fD >>= fun c2=>Tv s (aa,ae) c2 t):=hD
    obtain ⟨dq,Pm,cp⟩:=hc.out
    have q2:=cL (cp.keep Q.out.2.2.2.2.2.2) HI.out.2.2.2.2 HI.out.2.2.2.1
    have dd:Hid (Z=(Em.mP (Em.aJ d) x4 bk (s.inside.drop 0) >>= D) km/\∃Pj,Two E ns P3 T (fun _=>False) kb b w3 k3 Pj T wc km t c):=⟨by rw[dq,hD];rfl,Pm,cp⟩
    clear hc dq cp hD S4 e4 S3
    go_wp2_with fail
    clear q2
    go_loopg [77] M (fun f i wr=>∃(j:Nat) (kj:Kd),f=M-j/\j≤M/\i=.int .i64 (j:Int)/\Hid (Z=(Em.mP (Em.aJ d) x4 bk (s.inside.drop j) >>= D) kj/\∃Pj,Two E ns P3 T (fun _=>False) kb b w3 k3 Pj T wr kj t c))
    case atStart=>exact ⟨0,km,by omega,by omega,rfl,dd.out⟩
    case round=>
     obtain ⟨j,kj,rfl,hj,rfl,hr⟩:=hrel
     obtain ⟨ah,P0,hT⟩:=hr.out
     by_cases hlt:j<M
     ·obtain ⟨r,bz⟩:∃r:Rg d,s.inside[j]?=some r:=⟨s.inside[j]'(by rw[<-HI.out.2.2.1];exact hlt),aN4 _⟩
      obtain ⟨gr,c0,dk⟩:=HI.out.2.1 j r bz
      have kp:=hT.keep Q.out.2.2.2.2.2.2
      have cf:=Xp ai gi M ci j hlt (fun U=>(HI.out.1 U).1)
      have c0:=cL kp (HI.out.1 (by omega)).2 c0
      have cb:=HH.out.2.2.2.2 (so:=x4) (back:=bk) (fH.carry d kp _ _ dk) (HH.out.2.1.sub r (aP1 bz)) hT.cm (hT.ro Q.out.2.2.2.2.2.2)
      have S5:Hid (Two E ns P3 T (fun _=>False) kb b w3 k3 P0 T wr kj t c):=hT
      have e5:Hid (Z=((Em.aJ d).enter r x4 bk >>= fun _=>Em.mP (Em.aJ d) x4 bk (s.inside.drop (j+1)) >>= D) kj):=by
       have hy:=T9 (k:=kj) (g:=r) (r:=s.inside.drop (j+1)) (on:=x4) (back:=bk)
       rw[<-dT bz] at hy
       exact ah.trans ((eH hy).trans zM)
      clear hr ah hT kp dk bz
      go_wp2_with (go_at_call 233;refine cb.mono ?_;rintro e w6 (⟨rfl,O,J⟩|⟨_,k6,rfl,O,J⟩);(· exact ⟨rfl,dE.up Q.out.1 rfl (.inl ⟨rfl,e5.out.trans (aH O.out),S5.out.bad J.out⟩)⟩);obtain ⟨P6,S6⟩:∃P6,Hid (Two E ns P3 T (fun _=>False) kb b w3 k3 P6 T w6 k6 t (c)):=⟨_,S5.out.coder J.out⟩;have e6:Hid _:=e5.out.trans (bind_some O.out);clear O J cb)
      go_roundg (M-(j+1))
      case measure=>omega
      case rel=>exact ⟨j+1,k6,rfl,by omega,by go_num,e6.out,P6,S6.out⟩
     ·obtain rfl:j=M:=by omega
      have S5:Hid (Two E ns P3 T (fun _=>False) kb b w3 k3 P0 T wr kj t c):=hT
      have e5:Hid (Z=(Em.choose (Em.aJ d) s x4 fD >>= fun c2=>Tv s (aa,ae) c2 t) kj):=by
       rw[Hid,ah,HD.out,HI.out.2.2.1,aR4];rfl
      have kp:=hT.keep Q.out.2.2.2.2.2.2
      have bp:Calls prog 202 _ wr (zR E ns P0 A n kb wr kj (Em.choose (Em.aJ d) s x4 fD kj)):=aJ6 (so:=x4) hE (Q.out.2.2.2.2.2.1.carry kp (fH.carry d kp)) HH.out.2.1 S5.out.cm (S5.out.ro Q.out.2.2.2.2.2.2)
      clear hr ah hT kp dd
      go_upto_region 17 with (go_at_call 202;refine bp.mono ?_;rintro e w6 (⟨rfl,O,J⟩|⟨ab,av,k6,af,ac,ad,rfl,O,J⟩);(· exact ⟨rfl,dE.up Q.out.1 rfl (.inl ⟨rfl,e5.out.trans (aH O.out),S5.out.bad J.out⟩)⟩);have e6:Hid _:=e5.out.trans (bind_some O.out);clear O bp)
      obtain ⟨P6,al,hex,cu⟩:=S5.out.choose J.out.1 J.out.2.2.1
      have kp:=al.keep Q.out.2.2.2.2.2.2
      have ao:=Q.out.2.2.2.2.2.1.carry kp (fH.carry d kp)
      have I:Hid (Two E ns P3 T (fun _=>False) kb b w3 k3 P6 T w6 k6 t c/\qI A w6 (.slice af ac ad) ab/\(∀g,(Value.slice af ac ad).ownBlock=some g->g<w6.heap.size/\¬(P6 g\/T g))/\(∀y∈ab,xK ns n y.1)/\ab.length≤1000000/\qI A w6 (.slice ar am an) aa/\(∀g,(Value.slice ar am an).ownBlock=some g->g<w6.heap.size/\¬(P6 g\/T g))/\vS A w6 (fH A d w6) gS o s gd od/\Ro A (fun x=>P6 x\/T x) w6):=by
       refine ⟨al,J.out.2.1,fun g Y=>⟨by obtain ⟨_,hr,_⟩:=J.out.2.1;exact (hr.lt g Y).2,hex g Y⟩,J.out.2.2.2.1,J.out.2.2.2.2.2,Q.out.2.1.keep kp (fun g Y=>al.fr.block g (Q.out.2.2.1 g Y).1 (Q.out.2.2.1 g Y).2),fun g Y=>⟨aO5 (Q.out.2.2.1 g Y).1 al.fr.size,fun U=>?_⟩,ao,al.roU Q.out.2.2.2.2.2.2⟩
       have hq:=Q.out.2.2.1 g Y
       rcases U with U|U
       ·exact (al.up g U).1.elim (fun h=>hq.2 (.inl h)) fun h=>absurd h.1 (by omega)
       ·exact hq.2 (.inr U)
      have S6:Hid (Two E ns P6 T (fun _=>False) kb b w6 k6 P6 T w6 k6 t c):=Two.start al.cm al.im al.dis
      have q4:=ao.leaves
      obtain ⟨lv,bv⟩:=gQx s.leaves
      rw[<-bv] at q4
      have dl:Hid True:=trivial
      clear J al hex cu kp S5 e5
      cases lv with
      | false=>
       have e7:Hid (Z=(Em.take aa t >>= fun t'=>Em.take ab t') k6):=by
        rw[Hid,e6.out]
        show Tv s (aa,ae) (ab,av) t k6=_
        unfold Tv
        rw[<-bv,if_neg (by simp)]
        rfl
       have S7:=S6
       clear e6 bv ao S6
       have ks:=S7.out.keep I.out.2.2.2.2.2.2.2.2
       have bh:qI A w6 (.slice ar am an) aa:=I.out.2.2.2.2.2.1.keep ks fun g Y=>S7.out.fr.block g (I.out.2.2.2.2.2.2.1 g Y).1 (I.out.2.2.2.2.2.2.1 g Y).2
       have bm:qI A w6 (.slice af ac ad) ab:=I.out.2.1.keep ks fun g Y=>S7.out.fr.block g (I.out.2.2.1 g Y).1 (I.out.2.2.1 g Y).2
       have hx1:∀g,(Value.slice ar am an).ownBlock=some g->¬(P6 g\/T g):=fun g Y U=>by
        have hq:=I.out.2.2.2.2.2.2.1 g Y
        rcases U with U|U
        ·exact (S7.out.up g U).1.elim (fun h=>hq.2 (.inl h)) fun h=>absurd h.1 (by omega)
        ·exact hq.2 (.inr U)
       have bb:∀g,(Value.slice af ac ad).ownBlock=some g->¬(P6 g\/T g)/\g<w6.heap.size:=fun g Y=>by
        have hq:=I.out.2.2.1 g Y
        refine ⟨fun U=>?_,aO5 hq.1 S7.out.fr.size⟩
        rcases U with U|U
        ·exact (S7.out.up g U).1.elim (fun h=>hq.2 (.inl h)) fun h=>absurd h.1 (by omega)
        ·exact hq.2 (.inr U)
       have ax:=S7.out.roU I.out.2.2.2.2.2.2.2.2
       have bq:=dS (n:=n) hE bh hx1 Q.out.2.2.2.1 HH.out.2.2.2.1 Q.out.2.2.2.2.1 S7.out.cm S7.out.im S7.out.dis ax (by omega)
       have HT:Hid (qI A w6 (.slice af ac ad) ab/\(∀g,(Value.slice af ac ad).ownBlock=some g->¬(P6 g\/T g)/\g<w6.heap.size)/\Ro A (fun x=>P6 x\/T x) w6):=⟨bm,bb,ax⟩
       clear ks bh bm hx1 bb ax
       go_wp2_with (first
        | (clear dl;go_at_call 213;refine bq.mono ?_;rintro e bu (⟨rfl,O,J⟩|⟨t7,k7,rfl,O,P7,T7,h7⟩);(· exact ⟨rfl,dE.up Q.out.1 rfl (dE.up I.out.1 rfl (dE.up S7.out e7.out (.inl ⟨rfl,aH O.out,J⟩)))⟩);have H7:Hid _:=h7;have E7:Hid _:=O.out;have kq:bB A A w6 bu:=h7.keep HT.out.2.2;have bo:qI A bu (.slice af ac ad) ab:=HT.out.1.keep kq (fun g Y=>h7.fr.block g (HT.out.2.1 g Y).2 (HT.out.2.1 g Y).1);have bn:∀g,(Value.slice af ac ad).ownBlock=some g->¬(P7 g\/T7 g):=(fun g Y U=>by { have hq:=HT.out.2.1 g Y;rcases U with U|U;exact (h7.up g U).1.elim (fun h=>hq.1 (.inl h)) (fun h=>absurd h.1 (by omega));exact (h7.ut g U).1.elim (fun h=>hq.1 (.inr h)) (fun h=>absurd h.1 (by omega)) });have be:=dS (n:=n) hE bo bn I.out.2.2.2.1 (by rw[jX O.out];exact HH.out.2.2.2.1) I.out.2.2.2.2.1 h7.cm h7.im h7.dis (h7.roU HT.out.2.2) (by omega);clear O h7 kq bo bn bq)
        | (go_at_call 213;refine be.mono ?_;rintro e dz h8;rcases h8 with ⟨rfl,O,J⟩|⟨t8,k8,rfl,O,J⟩;(· exact ⟨rfl,dE.up Q.out.1 rfl (dE.up I.out.1 rfl (dE.up S7.out e7.out (dE.up H7.out (bind_some E7.out) (.inl ⟨rfl,O,J⟩))))⟩)))
       go_end0
       exact dE.up Q.out.1 rfl (dE.up I.out.1 rfl (dE.up S7.out e7.out (dE.up H7.out (bind_some E7.out) (.inr ⟨t8,k8,rfl,O,J⟩))))
      | true=>
       have e7:Hid (Z=(Em.dI (Em.aJ d) s.inside av >>= fun _=>Em.uZ ae av >>= fun e=>Em.vM e s.drawn.leave >>= fun _=>Em.take aa t >>= fun t'=>Em.take ab t') k6):=by
        rw[Hid,e6.out]
        show Tv s (aa,ae) (ab,av) t k6=_
        unfold Tv
        rw[<-bv,if_pos rfl]
        rfl
       have S7:=S6
       obtain ⟨vj,q2,df⟩:=ao.iy
       have cc:=Yg hE d (so:=av) df HH.out.2.1.sub S7.out.cm (S7.out.ro I.out.2.2.2.2.2.2.2.2)
       obtain ⟨aj,gj,cj,rfl,_⟩:=df
       clear e6 bv ao S6
       go_upto_region 19 with (go_at_call 212;refine cc.mono ?_;rintro e w8 (⟨rfl,O,J⟩|⟨_,k8,rfl,O,J⟩);(· exact ⟨rfl,dE.up Q.out.1 rfl (dE.up I.out.1 rfl (.inl ⟨rfl,e7.out.trans (aH O.out),S7.out.bad J.out⟩))⟩);obtain ⟨P8,S8⟩:∃P8,Hid (Two E ns P6 T (fun _=>False) kb b w6 k6 P8 T w8 k8 t (c)):=⟨_,S7.out.coder J.out⟩;have e8:Hid _:=e7.out.trans (bind_some O.out);clear O J cc)
       clear S7 e7 q2 q4
       have hdr:Below w8.heap.size w8 w8.drew:=⟨rfl,rfl,rfl,aO4 _,fun _ _=>rfl⟩
       have S9:Hid (Two E ns P6 T (fun _=>False) kb b w6 k6 P8 T w8.drew k8 t c):=S8.out.below hdr
       have kp:=S9.out.keep I.out.2.2.2.2.2.2.2.2
       have ak:=I.out.2.2.2.2.2.2.2.1.carry kp (fH.carry d kp)
       obtain ⟨vl,q5,cv⟩:=ak.le
       have q0:w8.cell? ⟨gS,o,none⟩=_:=ak.d
       have dp:w8.cell? ⟨gd,od+5,none⟩=some vl:=q5
       obtain ⟨cz,dj,de,rfl⟩:=cv.sl'
       have da:=pS ae av S9.out.cm hE
       have e9:Hid (Z=(Em.uZ ae av >>= fun e=>Em.vM e s.drawn.leave >>= fun _=>Em.take aa t >>= fun t'=>Em.take ab t') k8):=e8.out
       have dy:Hid (cJ A w8.drew s.drawn.leave (.slice cz dj de)):=cv
       clear kp ak cv q5 S8 e8 hdr
       go_region_law (first
        | (go_simp;go_at_call 211;refine da.mono ?_;rintro e bw (⟨rfl,O,J⟩|⟨x10,dt,rfl,O,J⟩);(· exact ⟨rfl,dE.up Q.out.1 rfl (dE.up I.out.1 rfl (.inl ⟨rfl,e9.out.trans (aH O.out),S9.out.bad J.out⟩))⟩);have KS:Hid (bB A A w8.drew bw):=(S9.out.ro I.out.2.2.2.2.2.2.2.2).keep J.out.2.1;have KD:Hid (bw.cell? ⟨gd,od+5,none⟩=some (.slice cz dj de)):=cL KS.out I.out.2.2.2.2.2.2.2.1.dA.1 dp;obtain ⟨dh,bi⟩:∃dh,Hid (Two E ns P6 T (fun _=>False) kb b w6 k6 dh T bw dt t (c)):=⟨_,S9.out.coder J.out⟩;have e10:Hid _:=e9.out.trans (bind_some O.out);clear O J da;have kp:bB A A w6 bw:=bi.out.keep I.out.2.2.2.2.2.2.2.2;have ak:=I.out.2.2.2.2.2.2.2.1.carry kp (fH.carry d kp);have r0:=ak.d;have r5:=KD.out;have bc:=aA8 (so:=x10) HH.out.2.1.le (dy.out.carry KS.out) bi.out.cm (bi.out.ro I.out.2.2.2.2.2.2.2.2) hE;clear kp ak)
        | (go_simp;go_at_call 208;refine bc.mono ?_;rintro e ap (⟨rfl,O,J⟩|⟨_,dw,rfl,O,J⟩);(· exact ⟨rfl,dE.up Q.out.1 rfl (dE.up I.out.1 rfl (.inl ⟨rfl,e10.out.trans (aH O.out),bi.out.bad J.out⟩))⟩);obtain ⟨az,ag⟩:∃az,Hid (Two E ns P6 T (fun _=>False) kb b w6 k6 az T ap dw t (c)):=⟨_,bi.out.coder J.out⟩;have e11:Hid _:=e10.out.trans (bind_some O.out);clear O J bc))
       all_goals
        clear q0 dp S9 e9
        have ks:=ag.out.keep I.out.2.2.2.2.2.2.2.2
        have bh:qI A ap (.slice ar am an) aa:=I.out.2.2.2.2.2.1.keep ks fun g Y=>ag.out.fr.block g (I.out.2.2.2.2.2.2.1 g Y).1 (I.out.2.2.2.2.2.2.1 g Y).2
        have bm:qI A ap (.slice af ac ad) ab:=I.out.2.1.keep ks fun g Y=>ag.out.fr.block g (I.out.2.2.1 g Y).1 (I.out.2.2.1 g Y).2
        have hx1:∀g,(Value.slice ar am an).ownBlock=some g->¬(az g\/T g):=fun g Y U=>by
         have hq:=I.out.2.2.2.2.2.2.1 g Y
         rcases U with U|U
         ·exact (ag.out.up g U).1.elim (fun h=>hq.2 (.inl h)) fun h=>absurd h.1 (by omega)
         ·exact hq.2 (.inr U)
        have bb:∀g,(Value.slice af ac ad).ownBlock=some g->¬(az g\/T g)/\g<ap.heap.size:=fun g Y=>by
         have hq:=I.out.2.2.1 g Y
         refine ⟨fun U=>?_,aO5 hq.1 ag.out.fr.size⟩
         rcases U with U|U
         ·exact (ag.out.up g U).1.elim (fun h=>hq.2 (.inl h)) fun h=>absurd h.1 (by omega)
         ·exact hq.2 (.inr U)
        have ax:=ag.out.roU I.out.2.2.2.2.2.2.2.2
        have bq:=dS (n:=n) hE bh hx1 Q.out.2.2.2.1 HH.out.2.2.2.1 Q.out.2.2.2.2.1 ag.out.cm ag.out.im ag.out.dis ax (by omega)
        have HT:Hid (qI A ap (.slice af ac ad) ab/\(∀g,(Value.slice af ac ad).ownBlock=some g->¬(az g\/T g)/\g<ap.heap.size)/\Ro A (fun x=>az x\/T x) ap):=⟨bm,bb,ax⟩
        clear ks bh bm hx1 bb ax
        go_wp2_with (first
         | (clear dl;go_at_call 213;refine bq.mono ?_;rintro e bu (⟨rfl,O,J⟩|⟨t7,k7,rfl,O,P7,T7,h7⟩);(· exact ⟨rfl,dE.up Q.out.1 rfl (dE.up I.out.1 rfl (dE.up ag.out e11.out (.inl ⟨rfl,aH O.out,J⟩)))⟩);have H7:Hid _:=h7;have E7:Hid _:=O.out;have kq:bB A A ap bu:=h7.keep HT.out.2.2;have bo:qI A bu (.slice af ac ad) ab:=HT.out.1.keep kq (fun g Y=>h7.fr.block g (HT.out.2.1 g Y).2 (HT.out.2.1 g Y).1);have bn:∀g,(Value.slice af ac ad).ownBlock=some g->¬(P7 g\/T7 g):=(fun g Y U=>by { have hq:=HT.out.2.1 g Y;rcases U with U|U;exact (h7.up g U).1.elim (fun h=>hq.1 (.inl h)) (fun h=>absurd h.1 (by omega));exact (h7.ut g U).1.elim (fun h=>hq.1 (.inr h)) (fun h=>absurd h.1 (by omega)) });have be:=dS (n:=n) hE bo bn I.out.2.2.2.1 (by rw[jX O.out];exact HH.out.2.2.2.1) I.out.2.2.2.2.1 h7.cm h7.im h7.dis (h7.roU HT.out.2.2) (by omega);clear O h7 kq bo bn bq)
         | (go_at_call 213;refine be.mono ?_;rintro e dz h8;rcases h8 with ⟨rfl,O,J⟩|⟨t8,k8,rfl,O,J⟩;(· exact ⟨rfl,dE.up Q.out.1 rfl (dE.up I.out.1 rfl (dE.up ag.out e11.out (dE.up H7.out (bind_some E7.out) (.inl ⟨rfl,O,J⟩))))⟩)))
        go_end0
        exact dE.up Q.out.1 rfl (dE.up I.out.1 rfl (dE.up ag.out e11.out (dE.up H7.out (bind_some E7.out) (.inr ⟨t8,k8,rfl,O,J⟩))))
end
theorem Xy:(prog.info? 238).map (fun i=>(i.zero,i.size,i.bytes))=some (some (.slice none 0 0),1,24):=by kernel_rfl
theorem aK3 (n:Nat):(madeCells (Value.cells (.slice none 0 0)) (n*1))=(List.replicate n (Value.slice none 0 0)).toArray:=by
 apply Array.toList_inj.1
 apply List.ext_getElem
 ·simp[madeCells]
 ·intro k h j
  simp[madeCells,Value.cells,Nat.mod_one]
theorem Rh (w:World) (n:Nat) (s:n≤1000000):(Instr.makeSlice 190 (.int .i64 (n:Int)) (.int .i64 (n:Int))).run prog w=.ok (.slice (some ⟨w.heap.size,0,none⟩) n n) (w.alloc (.cells (List.replicate n (Value.slice none 0 0)).toArray 238)):=by
 obtain ⟨i0,r,j,l,h⟩:=aZ1 Xy
 have:=run_make (P:=prog) w 190 238 i0 (.slice none 0 0) Tryz.underlying190 r j .i64 .i64 (n:Int) (n:Int) (by omega) (by omega) (by rw[h];omega) (by omega)
 rw[this,l]
 simp only[aW9]
 rw[aK3]
theorem Q9 {w:World}{b n:Nat}(h:w.heap[b]?=some (.cells (List.replicate n (Value.slice none 0 0)).toArray 238 (0,0))):xE (fun x=>x=b) w b (List.replicate n []) 0:=by
 have j:∀(i:Nat) (v:Value),(List.replicate n (Value.slice none 0 0))[i]?=some v->v=.slice none 0 0:=fun i v j=>by
  rw[aW7] at j;split at j;injection j with j;exact j.symm;exact absurd j (by simp)
 have r:∀(i:Nat) (l:List (Int×Bool)),(List.replicate n ([]:List (Int×Bool)))[i]?=some l->l=[]:=fun i l r=>by
  rw[aW7] at r;split at r;injection r with r;exact r.symm;exact absurd r (by simp)
 refine ⟨⟨_,fun _=>0,h,by simp,fun i v l u s=>?_,⟨rfl,rfl⟩,fun i v g u s=>?_,fun i l s=>?_⟩,fun x hx=>by rw[hx];exact aB h⟩
 ·rw[j i v u,r i l s];exact aY7 _ _ _ _
 ·rw[j i v u] at s;simp[Value.ownBlock] at s
 ·rw[r i l s];simp
def nK (E:Nat) (ns:List bE) (P T:Nat->Prop) (kb:Nat) (w:World) (k:Kd) (o:Option (Unit×Kd)) (e:Ending) (w':World):Prop:=
 (e=Vl/\Hid (o=none)/\Hid (bM (fun x=>P x\/T x) w w'))\/∃k',e=.returned (.tuple #[])/\Hid (o=some ((),k'))/\Hid (∃P1,eK E ns P1 w' kb k'/\(∀x,P1 x->Up P w w' x)/\bM (fun x=>P x\/T x) w w'/\k.net.places≤k'.net.places)
def Nz (A:Nat->Prop) (kb E:Nat) (ns:List bE) (d:Nat):Prop:=∀{P T:Nat->Prop}{w:World}{k:Kd}{r:Rg d}{g b:Nat}{here:Int}{t:cX}{c:Nat},fH A d w r g->eS ns d r->eK E ns P w kb k->xE T w b t c->(∀x,P x->¬T x)->Ro A (fun x=>P x\/T x) w->t.length=(Em.aJ d).size r->c≤2000000->
 Calls prog 118 #[.pointer (some ⟨kb,0,none⟩),.pointer (some ⟨g,0,none⟩),.int .i64 here,.slice (some ⟨b,0,none⟩) ((Em.aJ d).size r) ((Em.aJ d).size r)] w (nK E ns P T kb w k ((Em.aJ d).goOn r here t k))
section
variable {P T X P1 T1 A:Nat->Prop}{w wr w2:World}{kb b E c d:Nat}{ns:List bE}{k kj k2:Kd}{t:cX}
theorem nK.ran {w0:World}{o:Option (Unit×Kd)}{e:Ending}(hb:Below w0.heap.size w0 w) (s:∀x,P x->x<w0.heap.size) (u:∀x,T x->w0.heap.size≤x) (h:nK E ns P T kb w k o e w2):fJ E ns P kb w0 k o (fun _=>.tuple #[]) e w2:=by
 have D:=hb.size
 have n:∀x,x<w0.heap.size->(P x\/T x)->P x:=fun x hx h=>h.elim id fun h=>absurd (u x h) (by omega)
 rcases h with ⟨rfl,l,j⟩|⟨y,rfl,l,j⟩
 ·exact .inl ⟨rfl,l,(bM.of_below hb).trans j.out n⟩
 ·obtain ⟨P1,p1,p2,p3,p4⟩:=j.out
  have r:bM P w0 w2:=(bM.of_below hb).trans p3 n
  exact .inr ⟨(),y,rfl,l,p1.mono (fun x hx=>(p2 x hx).elim .inl fun h=>.inr ⟨by omega,h.2⟩) (iI s r.size),r,p4⟩
def Oc (s:eR (St d) (Rg d)) (c1 c2:List (eQ×Int)×Int) (t:cX):Em.M cX:=
 if s.leaves=true then (Em.uZ c1.2 c2.2 >>= fun gone=>Em.dI (Em.aJ d) s.inside gone >>= fun _=>Em.vM gone s.drawn.leave >>= fun _=>Zs c1 c2 t) else Zs c1 c2 t
def Ux (s:eR (St d) (Rg d)) (c1:List (eQ×Int)×Int) (t:cX) (on:Int):Em.M cX:=Em.vM on s.drawn.during >>= fun _=>Em.pZ (Em.aJ d) on s.inside >>= fun _=>Em.choose (Em.aJ d) s on fB >>= fun c2=>Oc s c1 c2 t
def Zq (s:eR (St d) (Rg d)) (c1:List (eQ×Int)×Int) (t:cX) (on0:Int):Em.M cX:=
 if Em.Er s.drawn.rests=true\/on0=-1 then Ux s c1 t on0 else (Em.eP s.drawn.rests >>= fun x=>Em.bS 0 >>= fun z=>Em.made 17 x z on0 >>= fun on=>Ux s c1 t on)
theorem Ip {s:eR (St d) (Rg d)}{so:Int}:Em.eT (Em.aJ d) s so t=(Em.choose (Em.aJ d) s so fA >>= fun c1=>Em.dU so c1.2 >>= fun on0=>Zq s c1 t on0):=by
 unfold Em.eT Zq Ux Oc Zs fA fB
 rfl
theorem Ml {g:Rg d}{r:List (Rg d)}{on:Int}(h:on=-1\/(Em.aJ d).idle g=true):Em.pZ (Em.aJ d) on (g::r) k=Em.pZ (Em.aJ d) on r k:=by rw[Em.pZ,if_pos h]
theorem Ya {g:Rg d}{r:List (Rg d)}{on:Int}(h:¬(on=-1\/(Em.aJ d).idle g=true)):Em.pZ (Em.aJ d) on (g::r) k=(Em.given on ((Em.aJ d).there g) >>= fun h=>(Em.aJ d).goOn g h (List.replicate ((Em.aJ d).size g) []) >>= fun _=>Em.pZ (Em.aJ d) on r) k:=by rw[Em.pZ,if_neg h]
theorem fH.cells:∀(d:Nat) {r:Rg d}{g:Nat},fH A d w r g->eS ns d r->A g/\∃ad cap vo fi lv,w.heap[g]?=some (.cells #[.slice ad ((Em.aJ d).size r) cap,vo,.int .i64 fi,.int .i64 ((Em.aJ d).there r),.bool ((Em.aJ d).idle r),.bool lv] 188 (0,0))/\(Em.aJ d).size r≤1000000
 | 0,_,_,h,_=>h.elim
 | d+1,r,g,h,hk=>by
  obtain ⟨gS,ad,cap,vo,h1,h2,_⟩:=h
  exact ⟨h2,ad,cap,vo,_,_,h1,Od.n hk⟩
def aN8 (E:Nat) (ns:List bE) (P:Nat->Prop) (kb:Nat) (w:World) (k:Kd) (o:Option (Unit×Kd)) (e:Ending) (w':World):Prop:=
 (e=Vl/\Hid (o=none)/\Hid (bM P w w'))\/∃k',e=.returned (.tuple #[])/\Hid (o=some ((),k'))/\Hid (At E ns P kb w k w' k')
theorem nK.at {W W' j r:World}{n:Kd}{y:Nat->Prop}{o:Option (Unit×Kd)}{e:Ending}(J:∀x,P x->x<wr.heap.size) (hb:Below wr.heap.size wr W) (D:At E ns P kb W kj j n) (l:Below j.heap.size j W') (O:∀x,y x->wr.heap.size≤x) (h:nK E ns (Up P W j) y kb W' n o e r):aN8 E ns P kb wr kj o e r:=by
 have s0:=hb.size
 have U:=D.2.1.size
 have Z:=l.size
 have f1:bM P wr W':=((bM.of_below hb).trans D.2.1 fun _ _ h=>h).trans (bM.of_below (P:=fun _=>False) l) fun _ _ h=>h.elim
 have I:∀x,x<wr.heap.size->(Up P W j x\/y x)->P x:=fun x hx h=>by
  rcases h with (h|h)|h
  ·exact h
  ·omega
  ·have:=O x h;omega
 rcases h with ⟨rfl,s,u⟩|⟨Q,rfl,s,u⟩
 ·exact .inl ⟨rfl,s,f1.trans u.out I⟩
 ·obtain ⟨P1,p1,p2,p3,p4⟩:=u.out
  have Y:=p3.size
  have f2:=f1.trans p3 I
  refine .inr ⟨Q,rfl,s,p1.mono (fun x hx=>?_) (iI J f2.size),f2,aY2 D.2.2 p4⟩
  rcases p2 x hx with (h|h)|h
  ·exact .inl h
  ·exact .inr ⟨by omega,by omega⟩
  ·exact .inr ⟨by omega,h.2⟩
theorem zB {W W' j:World}{s:Kd}{r:Rg d}{J b':Nat}{here:Int}(U:Nz A kb E ns d) (Y:∀x,P x->x<wr.heap.size) (hb:Below wr.heap.size wr W) (y:At E ns P kb W kj j s) (l:Below j.heap.size j W') (n:wr.heap.size≤b'/\¬Up P W j b') (D:W'.heap[b']?=some (.cells (Array.replicate ((Em.aJ d).size r) (Value.slice none 0 0)) 238 (0,0))) (u:Ro A P wr) (I:fH A d wr r J) (Q:eS ns d r) :
 Calls prog 118 #[.pointer (some ⟨kb,0,none⟩),.pointer (some ⟨J,0,none⟩),.int .i64 here,.slice (some ⟨b',0,none⟩) ((Em.aJ d).size r) ((Em.aJ d).size r)] W' (aN8 E ns P kb wr kj ((Em.aJ d).goOn r here (List.replicate ((Em.aJ d).size r) []) s)):=by
 have s0:=hb.size
 have s1:=y.2.1.size
 have s2:=l.size
 have f1:bM P wr W':=((bM.of_below hb).trans y.2.1 fun _ _ h=>h).trans (bM.of_below (P:=fun _=>False) l) fun _ _ h=>h.elim
 have O:=u.keep f1
 have D:W'.heap[b']?=some (.cells (List.replicate ((Em.aJ d).size r) (Value.slice none 0 0)).toArray 238 (0,0)):=by rw[D,<-List.toArray_replicate]
 refine (U (fH.carry d O _ _ I) Q (y.1.below l) (Q9 D) (fun x hx e=>n.2 (e▸hx)) (fun x hx=>⟨aO5 (u x hx).1 (by omega),?_⟩) (by simp) (by omega)).mono fun e Z h=>h.at Y hb y l fun x hx=>by rw[hx];exact n.1
 have:=(u x hx).1
 rintro ((h|h)|h)
 ·exact (u x hx).2 h
 ·omega
 ·omega
end
end Ew
end
end Go.Proofs.YthieaobjdpfcoaaGreatDoor
