import Derived.Test.YtcdbhoknhnimcaaGreatDoorTEn
set_option maxRecDepth 100000
set_option maxHeartbeats 16000000
namespace Go.Proofs.YtcdbhoknhnimcaaGreatDoor
section
open Go.RowKit Px
namespace Ew
open Px.Em (Kd Vr eL eM jG Rg cR)
open Nx (Nt Sp)
section
variable {P T X P1 T1 A:Nat->Prop}{w wr w2:World}{kb b E c d:Nat}{ns:List bB}{k kj k2:Kd}{t:cR}
def ArM (w:World) (v:Value) (l:List (Int×Bool)):Prop:=w.ownsRow 0 273 2 v l.length (l.flatMap Se)
theorem An:∀l:List (Int×Bool),Rows (fun a cs=>cs=Se a) l (l.flatMap Se)
 | []=>rfl
 | a::r=>⟨Se a,r.flatMap Se,by simp,rfl,An r⟩
theorem ArM.open {v:Value}{l:List (Int×Bool)}(h:ArM w v l):∃ad g cap,v=.slice ad l.length cap/\l.length≤maxLen/\(0<l.length->ad=some ⟨g,0,none⟩/\v.ownBlock=some g)/\∀(i:Nat) (a:Int×Bool),l[i]?=some a->w.cell? ⟨g,i*2,none⟩=some (.int .i64 a.1)/\w.cell? ⟨g,i*2+1,none⟩=some (.bool a.2):=by
 obtain ⟨ad,g,cap,h1,h2,h3,h4⟩:=uX.open (A:=fun x=>v.ownBlock=some x) (k:=2) (fun a c hc=>by rw[hc];rfl) ⟨h,fun _ h=>h⟩ (An l)
 refine ⟨ad,g,cap,h1,h2,fun hp=>⟨(h3 hp).1,(h3 hp).2.1⟩,fun i a hi=>?_⟩
 obtain ⟨c,rfl,hx⟩:=h4 i a hi
 exact ⟨hx 0 _ rfl,hx 1 _ rfl⟩
theorem En {has:Bool}{a:Int×Bool}{r:List (Int×Bool)}{o:Int}(h:(a.2&&has)=true):Em.iJ has (a::r) o k=(Em.tN o a.1 >>= fun b'=>Em.iJ has r b') k:=by rw[Em.iJ,if_pos h]
theorem Lc {has:Bool}{a:Int×Bool}{r:List (Int×Bool)}{o:Int}(h:(a.2&&has)=false):Em.iJ has (a::r) o k=Em.iJ has r o k:=by rw[Em.iJ,if_neg (by rw[h];simp)]
theorem Sb (hE:E<1000000) {gS o gd od:Nat}{s:eM (St d) (Rg d)}{v:Value}{l:List (Int×Bool)}(hs:uG A w (eV A d w) gS o s gd od) (hv:ArM w v l) (hvo:∀g,v.ownBlock=some g->¬P g) (h:eG E ns P w kb k) (hR:Ro A P w) :
    Calls Tryz.prog 244 #[.pointer (some ⟨kb,0,none⟩),.pointer (some ⟨gS,o,none⟩),v] w (eY E ns P kb w k (Em.iJ (decide (0<s.inside.length)) l (-1) k) (Value.int .i64)):=by
 obtain ⟨X,hX⟩:∃X,X=Em.iJ (decide (0<s.inside.length)) l (-1) k:=⟨_,rfl⟩
 have HX:Hid (X=Em.iJ (decide (0<s.inside.length)) l (-1) k):=hX
 rw[<-hX]
 obtain ⟨ad,g,cap,rfl,hmx,hg,hat⟩:=hv.open
 obtain ⟨N,hN⟩:∃N,N=l.length:=⟨_,rfl⟩
 rw[<-hN] at hmx hg hvo ⊢
 obtain ⟨vi,q2,hvi⟩:=hs.iy
 obtain ⟨ai,gi,ci,rfl,hmi,_⟩:=hvi
 obtain ⟨M,hM⟩:∃M,M=s.inside.length:=⟨_,rfl⟩
 rw[<-hM] at q2 hmi
 have HV:Hid ((0<N->ad=some ⟨g,0,none⟩/\¬P g)/\(∀(i:Nat) (a:Int×Bool),l[i]?=some a->w.cell? ⟨g,i*2,none⟩=some (.int .i64 a.1)/\w.cell? ⟨g,i*2+1,none⟩=some (.bool a.2))/\N=l.length/\M=s.inside.length/\w.cell? ⟨gS,o+2,none⟩=some (.slice ai M ci)/\A gS):=⟨fun hp=>⟨(hg hp).1,hvo g (hg hp).2⟩,hat,hN,hM,q2,hs.dA.2⟩
 have HC:Hid (eG E ns P w kb k/\Ro A P w):=⟨h,hR⟩
 have HP:Hid (∀b,P b->b<w.heap.size):=h.2.2
 have hN6:(N:Int)≤9223372036854775807:=by unfold maxLen at hmx;omega
 clear h hR hg hat hvo hX hN hs hmx hM q2 hv
 go_enter Tryz.func244,Tryz.ntmps244
 go_wp2_with fail
 go_loopg [7,12] N (fun f ov i wr=>∃(j:Nat) (o2:Int) (kj:Kd),f=N-j/\j≤N/\ov=.int .i64 o2/\i=.int .i64 (j:Int)/\Hid (X=Em.iJ (decide (0<s.inside.length)) (l.drop j) o2 kj/\At E ns P kb w k wr kj))
 case atStart=>exact ⟨0,-1,k,by omega,by omega,rfl,rfl,HX.out,At.start HC.out.1⟩
 case round=>
  obtain ⟨j,o2,kj,rfl,hj,rfl,rfl,hr⟩:=hrel
  obtain ⟨hr1,hr2⟩:=hr.out
  by_cases hlt:j<N
  ·obtain ⟨a,ha⟩:∃a:Int×Bool,l[j]?=some a:=⟨l[j]'(by rw[<-HV.out.2.2.1];exact hlt),List.getElem?_eq_getElem _⟩
   obtain ⟨c0,c1⟩:=HV.out.2.1 j a ha
   have hgv:=HV.out.1 (by omega)
   have c0:=hr2.2.1.cell c0 hgv.2
   have c1:=hr2.2.1.cell c1 hgv.2
   have hix:=aE8 ad g N cap j hlt (fun _=>hgv.1)
   obtain ⟨Y,hY⟩:∃Y,Y=wr.alloc (.cells #[.int .i64 a.1,.bool a.2] 273):=⟨_,rfl⟩
   obtain ⟨q,hq⟩:∃q,q=wr.heap.size:=⟨_,rfl⟩
   have hbY:Below wr.heap.size wr Y:=by rw[hY];exact aC _ _
   have hkY:Y.heap[q]?=some (.cells #[.int .i64 a.1,.bool a.2] 273 (0,0)):=by rw[hY,hq];exact bE wr _
   have hA:=hr2.below HP.out hbY
   have x0:=aA hkY 0 (u:=.int .i64 a.1) rfl
   have x1:=aA hkY 1 (u:=.bool a.2) rfl
   have z2:=cF (hA.keep HC.out.2) HV.out.2.2.2.2.2 HV.out.2.2.2.2.1
   rw[dR ha] at hr1
   obtain ⟨a1,a2⟩:=a
   by_cases hyes:(a2&&decide (0<s.inside.length))=true
   ·have a0:Hid (At E ns P kb w k Y kj):=hA
    have e0:Hid (X=(Em.tN o2 a1 >>= fun b'=>Em.iJ (decide (0<s.inside.length)) (l.drop (j+1)) b') kj):=hr1.trans (En hyes)
    have hor:=oZ o2 a1 hA.1 hE
    obtain ⟨rfl,hM0⟩:a2=true/\0<M:=by have:=HV.out.2.2.2.1;rw[Bool.and_eq_true] at hyes;exact ⟨hyes.1,by have:=of_decide_eq_true hyes.2;omega⟩
    have hM1:(0:Int)<(M:Int):=by omega
    clear hr hr1 hr2 hbY hkY hA hyes hgv ha hM0
    go_upto_region 5 with fail
    rw[<-hY,<-hq]
    clear hY hq hix c0 c1
    go_wp2_with (go_at_call 239;refine hor.mono ?_;rintro e w1 (⟨rfl,h0,h1⟩|⟨x1,k1,rfl,h0,h1⟩);(· exact ⟨rfl,At.ran HP.out a0.out e0.out (.inl ⟨rfl,aF h0.out,h1⟩)⟩);have a1:Hid (At E ns P kb w k w1 k1):=a0.out.step HP.out h1.out;have e1:Hid _:=e0.out.trans (bind_some h0.out);clear h0 h1 hor)
    go_roundg (N-(j+1))
    case measure=>omega
    case rel=>exact ⟨j+1,x1,k1,rfl,by omega,rfl,by go_num,e1.out,a1.out⟩
   ·have hno:(a2&&decide (0<s.inside.length))=false:=by simpa using hyes
    have HN2:Hid (_/\_):=⟨hr1.trans (Lc hno),hA⟩
    have hM:a2=true->¬(0:Int)<(M:Int):=fun e=>by subst e;have:=HV.out.2.2.2.1;have h0:¬0<s.inside.length:=fun h=>hyes (by rw[Bool.true_and];exact decide_eq_true h);omega
    clear hr hr1 hr2 hbY hkY hA hyes hno hgv ha
    cases a2 with
    | false=>
     clear hM
     go_upto_region 5 with fail
     rw[<-hY,<-hq]
     clear hY hq hix c0 c1
     go_wp2_with fail
     go_roundg (N-(j+1))
     case measure=>omega
     case rel=>exact ⟨j+1,o2,kj,rfl,by omega,rfl,by go_num,HN2.out⟩
    | true=>
     have hM:=hM rfl
     go_upto_region 5 with fail
     rw[<-hY,<-hq]
     clear hY hq hix c0 c1
     go_wp2_with fail
     go_roundg (N-(j+1))
     case measure=>omega
     case rel=>exact ⟨j+1,o2,kj,rfl,by omega,rfl,by go_num,HN2.out⟩
  ·obtain rfl:j=N:=by omega
   have HF:Hid (eY E ns P kb w k X (Value.int .i64) (.returned (.int .i64 o2)) wr):=At.ends hr2 (by rw[hr1,HV.out.2.2.1,List.drop_length];rfl)
   clear hr hr1 hr2
   go_wp2_with fail
   go_ret
   exact HF.out
end
end Ew
end
section
open Go.RowKit Px
namespace Ew
open Px.Em (Kd Vr eL eM jG Rg cR)
open Nx (Nt Sp)
section
variable {P T X P1 T1 A:Nat->Prop}{w wr w2:World}{kb b E c d:Nat}{ns:List bB}{k kj k2:Kd}{t:cR}
theorem dC.up {c':Nat}{o o2:Option (cR×Kd)}{e:Ending}(S:Two E ns P T X kb b w k P1 T1 wr kj t c) (ho:o=o2) (h:dC E ns P1 T1 kb b wr kj c' o2 e w2):dC E ns P T kb b w k c' o e w2:=by
 subst ho
 have hs:=S.fr.size
 have hPT:∀x,x<w.heap.size->(P1 x\/T1 x)->(P x\/T x):=fun x hx h=>by
  rcases h with h|h
  ·exact (S.up x h).1.elim .inl fun h=>absurd h.1 (by omega)
  ·exact (S.ut x h).1.elim .inr fun h=>absurd h.1 (by omega)
 rcases h with ⟨rfl,h1,h2⟩|⟨t',k',rfl,h1,P2,T2,h2⟩
 ·exact .inl ⟨rfl,h1,S.fr.trans h2.out hPT⟩
 ·refine .inr ⟨t',k',rfl,h1,P2,T2,h2.cm,h2.im,h2.dis,fun x hx=>⟨?_,id⟩,fun x hx=>⟨?_,id⟩,fun _ h=>h.elim,S.fr.trans h2.fr hPT,Int.le_trans S.pl h2.pl⟩
  ·have hs2:=h2.fr.size
   rcases (h2.up x hx).1 with h|h
   ·exact Up.size hs2 x (S.up x h).1
   ·exact .inr ⟨by omega,h.2⟩
  ·have hs2:=h2.fr.size
   rcases (h2.ut x hx).1 with h|h
   ·exact Up.size hs2 x (S.ut x h).1
   ·exact .inr ⟨by omega,h.2⟩
theorem Two.choose {Y:Nat->Prop}(h:Two E ns P T (fun _=>False) kb b w k P1 T1 wr kj t c) (hx:Xb E ns P1 Y kb wr kj w2 k2) (hY:∀x,Y x->wr.heap.size≤x):∃P2,Two E ns P T (fun _=>False) kb b w k P2 T1 w2 k2 t c/\(∀x,Y x->¬(P2 x\/T1 x))/\bH P1 wr w2:=by
 obtain ⟨P2,p1,p2,p3,p4,p5⟩:=hx
 have s1:=p4.size
 have s0:=h.fr.size
 refine ⟨P2,⟨p1,h.im.carry (p4.keep fun x hx hp=>h.dis x hp hx) s1,fun x hx ht=>?_,fun x hx=>⟨?_,id⟩,fun x hx=>⟨Up.size s1 x (h.ut x hx).1,id⟩,fun _ h=>h.elim,h.bad p4,Int.le_trans h.pl p5⟩,fun x hy hpt=>?_,p4⟩
 ·rcases (p2 x hx).1 with h'|h'
  ·exact h.dis x h' ht
  ·have:=h.im.2 x ht;omega
 ·rcases (p2 x hx).1 with h'|h'
  ·exact Up.size s1 x (h.up x h').1
  ·exact .inr ⟨by omega,h'.2⟩
 ·rcases hpt with hp|ht
  ·exact (p2 x hp).2 hy
  ·have:=h.im.2 x ht;have:=hY x hy;omega
def fA:Wy->Bool:=fun y=>decide (y.kind=1)
def fB:Wy->Bool:=fun y=>!decide (y.kind=1)
def fC:Wy->Bool:=fun y=>y.now&&decide (y.kind=1)
def fD:Wy->Bool:=fun y=>y.now && !decide (y.kind=1)
def Xo (c1 c2:List (eL×Int)×Int) (t:cR):Em.M cR:=Em.take c1.1 t >>= fun t'=>Em.take c2.1 t'
def Rb (s:eM (St d) (Rg d)) (c1 c2:List (eL×Int)×Int) (t:cR):Em.M cR:=
 if s.leaves=true then (Em.dG (Em.aG d) s.inside c2.2 >>= fun _=>Em.tN c1.2 c2.2 >>= fun e=>Em.uA e s.drawn.leave >>= fun _=>Xo c1 c2 t) else Xo c1 c2 t
def Zr (s:eM (St d) (Rg d)) (c1:List (eL×Int)×Int) (t:cR) (on back':Int):Em.M cR:=Em.mD (Em.aG d) on back' s.inside >>= fun _=>Em.choose (Em.aG d) s on fD >>= fun c2=>Rb s c1 c2 t
def Sw (s:eM (St d) (Rg d)) (c1:List (eL×Int)×Int) (t:cR) (so back on:Int):Em.M cR:=if on=so then Zr s c1 t on back else (Em.sP on back >>= Zr s c1 t on)
theorem qT {s:eM (St d) (Rg d)}{so back:Int}:Em.eU (Em.aG d) s so back t=(Em.fO so s.ways >>= fun _=>Em.uA so s.drawn.enter >>= fun _=>Em.choose (Em.aG d) s so fC >>= fun c1=>Em.dS so c1.2 >>= fun on=>Sw s c1 t so back on):=by
 unfold Em.eU Sw Zr Rb Xo fC fD
 rfl
theorem Cb {so:Int}{y:eL}{r:List eL}(h:y.left=-1):Em.fO so (y::r) k=Em.fO so r k:=by rw[Em.fO,if_pos h]
theorem U8 {so:Int}{y:eL}{r:List eL}(h:y.left≠-1):Em.fO so (y::r) k=(Em.bM y.drawn.times >>= fun x=>Em.put y.left so x >>= fun _=>Em.fO so r) k:=by rw[Em.fO,if_neg h]
end
end Ew
end
section
open Go.RowKit Px
namespace Ew
open Px.Em (Kd Vr eL eM jG Rg cR)
open Nx (Nt Sp)
def nV (A:Nat->Prop) (kb E:Nat) (ns:List bB) (d:Nat):Prop:=∀{P:Nat->Prop}{w:World}{k:Kd}{r:Rg d}{g:Nat}{so back:Int},eV A d w r g->eN ns d r->eG E ns P w kb k->Ro A P w->
 Calls Tryz.prog 261 #[.pointer (some ⟨kb,0,none⟩),.pointer (some ⟨g,0,none⟩),.int .i64 so,.int .i64 back] w (eY E ns P kb w k ((Em.aG d).enter r so back k) (fun _=>.tuple #[]))
section
variable {P T X P1 T1 A:Nat->Prop}{w wr w2:World}{kb b E c d:Nat}{ns:List bB}{k kj k2:Kd}{t:cR}
theorem Two.roU (h:Two E ns P T X kb b w k P1 T1 wr kj t c) (hR:Ro A (fun x=>P x\/T x) w):Ro A (fun x=>P1 x\/T1 x) wr:=fun x hx=>⟨(h.ro hR x hx).1,fun hp=>hp.elim (h.ro hR x hx).2 (h.roT hR x hx).2⟩
theorem H9 {g:Rg d}{r:List (Rg d)}{on back:Int}:Em.mD (Em.aG d) on back (g::r) k=((Em.aG d).enter g on back >>= fun _=>Em.mD (Em.aG d) on back r) k:=rfl
theorem jO:∀{cs:List (eL×Int)}{t t':cR}{k k':Kd},Em.take cs t k=some (t',k')->t'.length=t.length
 | [],_,_,_,_,h=>by injection h with h;injection h with h _;rw[<-h]
 | y::r,t,t',k,k',h=>by
  obtain ⟨_,k1,_,h2⟩:=cQ (show (Em.uA y.2 y.1.drawn.sets >>= fun _=>Em.take r (Em.dZ t y.1.to y.2 y.1.drawn.back)) k=_ from h)
  rw[jO h2,mT]
theorem xX (hE:E<1000000) (ih:nV A kb E ns d) {gS o gd od n:Nat}{s:eM (St d) (Rg d)}{so back:Int}(hs:uG A w (eV A d w) gS o s gd od) (hK:zA ns n (eN ns d) s) (h:eG E ns P w kb k) (hI:vJ T w b t c) (hd:∀x,P x->¬T x) (hR:Ro A (fun x=>P x\/T x) w) (hn:t.length=n) (hc:c≤6000000000000) :
    Calls Tryz.prog 243 #[.pointer (some ⟨kb,0,none⟩),.pointer (some ⟨gS,o,none⟩),.int .i64 so,.int .i64 back,.slice (some ⟨b,0,none⟩) n n] w (dC E ns P T kb b w k (c+1000000+1000000) (Em.eU (Em.aG d) s so back t k)):=by
 obtain ⟨Z,hZ⟩:∃Z,Z=Em.eU (Em.aG d) s so back t k:=⟨_,rfl⟩
 obtain ⟨C6,hC6⟩:∃C6:Unit->Em.M cR,C6=fun _=>Em.uA so s.drawn.enter >>= fun _=>Em.choose (Em.aG d) s so fC >>= fun c1=>Em.dS so c1.2 >>= fun on=>Sw s c1 t so back on:=⟨_,rfl⟩
 have HC6:Hid (C6=fun _=>Em.uA so s.drawn.enter >>= fun _=>Em.choose (Em.aG d) s so fC >>= fun c1=>Em.dS so c1.2 >>= fun on=>Sw s c1 t so back on):=hC6
 have HZ:Hid (Z=(Em.fO so s.ways >>= C6) k):=by rw[Hid,hZ,qT,hC6]
 rw[<-hZ]
 obtain ⟨aw,gw,cw,q1,hmx,hgw,hwy⟩:=hs.wy
 obtain ⟨N,hN⟩:∃N,N=s.ways.length:=⟨_,rfl⟩
 rw[<-hN] at q1 hmx hgw
 have HW:Hid ((0<N->aw=some ⟨gw,0,none⟩/\A gw)/\(∀j y,s.ways[j]?=some y->yX A w gw (j*3) y)/\N=s.ways.length):=⟨hgw,hwy,hN⟩
 have HH:Hid (uG A w (eV A d w) gS o s gd od/\zA ns n (eN ns d) s/\Ro A (fun x=>P x\/T x) w/\t.length=n/\nV A kb E ns d):=⟨hs,hK,hR,hn,ih⟩
 have HC:Hid (Two E ns P T (fun _=>False) kb b w k P T w k t c):=Two.start h hI hd
 have hN6:(N:Int)≤1000000:=by have:=hK.wl;omega
 clear h hI hd hR hn hs hK ih hZ hN hgw hwy hmx hC6
 go_enter Tryz.func243,Tryz.ntmps243
 go_wp2_with fail
 clear q1
 go_loopg [24] N (fun f i wr=>∃(j:Nat) (kj:Kd),f=N-j/\j≤N/\i=.int .i64 (j:Int)/\Hid (Z=(Em.fO so (s.ways.drop j) >>= C6) kj/\∃Pj,Two E ns P T (fun _=>False) kb b w k Pj T wr kj t c))
 case atStart=>exact ⟨0,k,by omega,by omega,rfl,HZ.out,P,HC.out⟩
 case round=>
  obtain ⟨j,kj,rfl,hj,rfl,hr⟩:=hrel
  obtain ⟨hr1,P0,hT⟩:=hr.out
  by_cases hlt:j<N
  ·obtain ⟨y,hy⟩:∃y:eL,s.ways[j]?=some y:=⟨s.ways[j]'(by rw[<-HW.out.2.2];exact hlt),List.getElem?_eq_getElem _⟩
   have hAw:=(HW.out.1 (by omega)).2
   have kp:=hT.keep HH.out.2.2.1
   have hyw:=yX.carry kp hAw (HW.out.2.1 j y hy)
   have hyK:=HH.out.2.1.wy y (List.mem_of_getElem? hy)
   obtain ⟨gy,oy,pc,qs,y0,hAy,hwm⟩:=hyw.d
   have y1:=hyw.t
   have y2:=hyw.l
   have hix:=aE5 aw gw N cw j hlt (fun hp=>(HW.out.1 hp).1)
   obtain ⟨lf,hlf⟩:∃lf,lf=y.left:=⟨_,rfl⟩
   rw[<-hlf] at y2
   obtain ⟨X,hX⟩:∃X,X=wr.alloc (.cells #[.pointer (some ⟨gy,oy,none⟩),.int .i64 y.to,.int .i64 lf] 303):=⟨_,rfl⟩
   obtain ⟨q,hq⟩:∃q,q=wr.heap.size:=⟨_,rfl⟩
   have hbX:Below wr.heap.size wr X:=by rw[hX];exact aC _ _
   have hkX:X.heap[q]?=some (.cells #[.pointer (some ⟨gy,oy,none⟩),.int .i64 y.to,.int .i64 lf] 303 (0,0)):=by rw[hX,hq];exact bE wr _
   have x0:=aA hkX 0 (u:=.pointer (some ⟨gy,oy,none⟩)) rfl
   have x2:=aA hkX 2 (u:=.int .i64 lf) rfl
   rw[dR hy] at hr1
   by_cases hl:lf=-1
   ·have HN2:Hid (Z=(Em.fO so (s.ways.drop (j+1)) >>= C6) kj/\∃Pj,Two E ns P T (fun _=>False) kb b w k Pj T X kj t c):=⟨hr1.trans (eC (m':=Em.fO so (s.ways.drop (j+1))) (Cb (by rw[<-hlf];exact hl))),P0,hT.below hbX⟩
    have t1:(lf == -1)=true:=by simpa using hl
    have t2:(lf != -1)=false:=by simp[hl]
    clear hr hr1 hT kp hyw hyK hwm hbX hkX hlf hl hy hAw hAy
    go_upto_region 3 with fail
    rw[<-hX,<-hq]
    clear hX hq hix y0 y1 y2
    go_wp2_with fail
    go_roundg (N-(j+1))
    case measure=>omega
    case rel=>exact ⟨j+1,kj,rfl,by omega,by go_num,HN2.out⟩
   ·have t1:(lf == -1)=false:=by simpa using hl
    have t2:(lf != -1)=true:=by simp[hl]
    have S0:Hid (Two E ns P T (fun _=>False) kb b w k P0 T X.drew kj t c):=hT.below hbX.drew
    have m3:X.cell? ⟨gy,oy+3,none⟩=some (.int .i64 (y.drawn.times:Int)):=aM hbX hwm.2.2.2.1
    obtain ⟨tm,htm⟩:∃tm:Int,tm=(y.drawn.times:Int):=⟨_,rfl⟩
    have hnum:=dB (n:=tm) S0.out.cm hE (by unfold eF;have:=hyK.m;omega)
    have e0:Hid (Z=(Em.bM tm >>= fun x=>Em.put lf so x >>= fun _=>Em.fO so (s.ways.drop (j+1)) >>= C6) kj):=by
     rw[Hid,htm,hlf]
     refine hr1.trans ((eC (U8 (by rw[<-hlf];exact hl))).trans ?_)
     simp only[oD]
    have HQ:Hid (X.drew.heap[q]?=some (.cells #[.pointer (some ⟨gy,oy,none⟩),.int .i64 y.to,.int .i64 lf] 303 (0,0))/\¬P0 q):=⟨hkX,fun h=>by have:=hT.cm.2.2 q h;omega⟩
    rw[<-htm] at m3
    clear hr hr1 hT kp hyw hyK hwm hbX hkX hlf hl hy htm hAw hAy
    go_upto_region 3 with fail
    rw[<-hX,<-hq]
    clear hX hq hix y0 y1 y2
    go_wp2_with fail
    go_region_law (first
     | (go_simp;go_at_call 235;refine hnum.mono ?_;rintro e w1 (⟨rfl,h0,h1⟩|⟨x1,k1,rfl,h0,h1⟩);(· exact ⟨rfl,(.inl ⟨rfl,e0.out.trans (aF h0.out),S0.out.bad h1.out⟩)⟩);have Hk1:Hid (w1.heap[q]?=some (.cells #[.pointer (some ⟨gy,oy,none⟩),.int .i64 y.to,.int .i64 lf] 303 (0,0))):=h1.out.2.1.heap HQ.out.1 HQ.out.2;obtain ⟨P1,S1⟩:∃P1,Hid (Two E ns P T (fun _=>False) kb b w k P1 T w1 k1 t (c)):=⟨_,S0.out.coder h1.out⟩;have e1:Hid _:=e0.out.trans (bind_some h0.out);clear h0 h1 hnum;have hput:=Ew.nE lf so x1 S1.out.cm;have z2:=aA Hk1.out 2 (u:=.int .i64 lf) rfl)
     | (go_simp;go_at_call 242;refine hput.mono ?_;rintro e w2 (⟨rfl,h0,h1⟩|⟨_,k2,rfl,h0,h1⟩);(· exact ⟨rfl,(.inl ⟨rfl,e1.out.trans (aF h0.out),S1.out.bad h1.out⟩)⟩);obtain ⟨P2,S2⟩:∃P2,Hid (Two E ns P T (fun _=>False) kb b w k P2 T w2 k2 t (c)):=⟨_,S1.out.coder h1.out⟩;have e2:Hid _:=e1.out.trans (bind_some h0.out);clear h0 h1 hput))
    all_goals
     have HN2:Hid (Z=(Em.fO so (s.ways.drop (j+1)) >>= C6) k2/\∃Pj,Two E ns P T (fun _=>False) kb b w k Pj T w2 k2 t c):=⟨e2.out,P2,S2.out⟩
     clear e0 e1 e2 S0 S1 S2 HQ
     go_wp2_with fail
     go_roundg (N-(j+1))
     case measure=>omega
     case rel=>exact ⟨j+1,k2,rfl,by omega,by go_num,HN2.out⟩
  ·obtain rfl:j=N:=by omega
   have S0:Hid (Two E ns P T (fun _=>False) kb b w k P0 T wr kj t c):=hT
   have e0:Hid (Z=(Em.uA so s.drawn.enter >>= fun _=>Em.choose (Em.aG d) s so fC >>= fun c1=>Em.dS so c1.2 >>= fun on=>Sw s c1 t so back on) kj):=by
    rw[Hid,hr1,HC6.out,HW.out.2.2,List.drop_length];rfl
   have kp:=hT.keep HH.out.2.2.1
   have hse:=HH.out.1.carry kp (eV.carry d kp)
   obtain ⟨ve,q3,hve⟩:=hse.en
   have q0:=hse.d
   have hdo:=tZ (so:=so) HH.out.2.1.en hve S0.out.cm (S0.out.ro HH.out.2.2.1) hE
   obtain ⟨va,vn,vc,rfl⟩:=hve.sl'
   clear hr hr1 hT kp hse hve
   go_upto_region 7 with (go_at_call 236;refine hdo.mono ?_;rintro e w1 (⟨rfl,h0,h1⟩|⟨_,k1,rfl,h0,h1⟩);(· exact ⟨rfl,(.inl ⟨rfl,e0.out.trans (aF h0.out),S0.out.bad h1.out⟩)⟩);obtain ⟨P1,S1⟩:∃P1,Hid (Two E ns P T (fun _=>False) kb b w k P1 T w1 k1 t (c)):=⟨_,S0.out.coder h1.out⟩;have e1:Hid _:=e0.out.trans (bind_some h0.out);clear h0 h1 hdo)
   clear q0 q3 S0 e0
   have kp:=S1.out.keep HH.out.2.2.1
   have hch:Calls Tryz.prog 230 _ w1 (yH E ns P1 A n kb w1 k1 (Em.choose (Em.aG d) s so fC k1)):=Rv (so:=so) hE (HH.out.1.carry kp (eV.carry d kp)) HH.out.2.1 S1.out.cm (S1.out.ro HH.out.2.2.1)
   clear kp
   go_upto_region 8 with (go_at_call 230;refine hch.mono ?_;rintro e w3 (⟨rfl,h0,h1⟩|⟨cs3,tk3,k3,ac3,nc3,cc3,rfl,h0,h1⟩);(· exact ⟨rfl,(.inl ⟨rfl,e1.out.trans (aF h0.out),S1.out.bad h1.out⟩)⟩);have e3:Hid _:=e1.out.trans (bind_some h0.out);clear h0 hch)
   clear e1
   obtain ⟨P3,hS3,hex,hfr⟩:=S1.out.choose h1.out.1 h1.out.2.2.1
   have kp:=hS3.keep HH.out.2.2.1
   have hse3:=HH.out.1.carry kp (eV.carry d kp)
   obtain ⟨vi,q2,hvi⟩:=hse3.iy
   obtain ⟨ai,gi,ci,rfl,hmi,hgi,hin⟩:=hvi
   obtain ⟨M,hM⟩:∃M,M=s.inside.length:=⟨_,rfl⟩
   rw[<-hM] at q2 hmi hgi
   have HB1:Hid (Two E ns P T (fun _=>False) kb b w k P3 T w3 k3 t c/\pQ A w3 (.slice ac3 nc3 cc3) cs3/\(∀g,(Value.slice ac3 nc3 cc3).ownBlock=some g->g<w3.heap.size/\¬(P3 g\/T g))/\(∀y∈cs3,vS ns n y.1)/\cs3.length≤1000000/\uG A w3 (eV A d w3) gS o s gd od/\Ro A (fun x=>P3 x\/T x) w3):=⟨hS3,h1.out.2.1,fun g hg=>⟨by obtain ⟨_,hr,_⟩:=h1.out.2.1;exact (hr.lt g hg).2,hex g hg⟩,h1.out.2.2.2.1,h1.out.2.2.2.2.2,hse3,hS3.roU HH.out.2.2.1⟩
   have HI:Hid ((0<M->ai=some ⟨gi,0,none⟩/\A gi)/\(∀j r,s.inside[j]?=some r->∃gr,w3.cell? ⟨gi,j,none⟩=some (.pointer (some ⟨gr,0,none⟩))/\eV A d w3 r gr)/\M=s.inside.length/\w3.cell? ⟨gS,o+2,none⟩=some (.slice ai M ci)/\A gS):=⟨hgi,hin,hM,q2,hse3.dA.2⟩
   have S3:Hid (Two E ns P3 T (fun _=>False) kb b w3 k3 P3 T w3 k3 t c):=Two.start hS3.cm hS3.im hS3.dis
   have hM6:(M:Int)≤1000000:=by have:=HH.out.2.1.il;omega
   have hbn:=nQ so tk3 S3.out.cm hE
   clear h1 hS3 hex hfr kp hse3 q2 hgi hin hM hmi S1
   go_upto_region 9 with (go_at_call 232;refine hbn.mono ?_;rintro e w4 (⟨rfl,h0,h1⟩|⟨x4,k4,rfl,h0,h1⟩);(· exact ⟨rfl,dC.up HB1.out.1 rfl (.inl ⟨rfl,e3.out.trans (aF h0.out),S3.out.bad h1.out⟩)⟩);obtain ⟨P4,S4⟩:∃P4,Hid (Two E ns P3 T (fun _=>False) kb b w3 k3 P4 T w4 k4 t (c)):=⟨_,S3.out.coder h1.out⟩;have e4:Hid _:=e3.out.trans (bind_some h0.out);clear h0 h1 hbn)
   obtain ⟨B,hB⟩:∃B,(x4 != so)=B:=⟨_,rfl⟩
   have hB':(x4==so)=!B:=by rw[<-hB,bne,Bool.not_not]
   have HB:Hid (B=true↔x4≠so):=by rw[Hid,<-hB];simp
   clear e3
   go_upto_if 67 with fail
   clear hB hB'
   go_cut [3] (fun s3 wx=>∃(bk:Int) (km:Kd),s3=.int .i64 bk/\Hid (Z=Zr s (cs3,tk3) t x4 bk km/\∃Pm,Two E ns P3 T (fun _=>False) kb b w3 k3 Pm T wx km t c))
   case first=>
    cases B with
    | true=>
     have hne:=HB.out.1 rfl
     have e5:Hid (Z=(Em.sP x4 back >>= Zr s (cs3,tk3) t x4) k4):=by
      rw[Hid,e4.out]
      show Sw s (cs3,tk3) t so back x4 k4=_
      unfold Sw
      rw[if_neg hne]
     have S5:=S4
     have hand:=sO x4 back S5.out.cm hE
     clear hne e4
     go_wp2_with (go_at_call 260;refine hand.mono ?_;rintro e w6 (⟨rfl,h0,h1⟩|⟨x6,k6,rfl,h0,h1⟩);(· exact ⟨rfl,dC.up HB1.out.1 rfl (.inl ⟨rfl,e5.out.trans (aF h0.out),S5.out.bad h1.out⟩)⟩);obtain ⟨P6,S6⟩:∃P6,Hid (Two E ns P3 T (fun _=>False) kb b w3 k3 P6 T w6 k6 t (c)):=⟨_,S5.out.coder h1.out⟩;have e6:Hid _:=e5.out.trans (bind_some h0.out);clear h0 h1 hand)
     go_meet
     case rel=>exact ⟨x6,k6,rfl,e6.out,P6,S6.out⟩
    | false=>
     have he:x4=so:=Classical.byContradiction fun h=>absurd (HB.out.2 h) (by simp)
     have HN2:Hid (Z=Zr s (cs3,tk3) t x4 back k4/\∃Pm,Two E ns P3 T (fun _=>False) kb b w3 k3 Pm T w4 k4 t c):=by
      refine ⟨?_,P4,S4.out⟩
      rw[e4.out]
      show Sw s (cs3,tk3) t so back x4 k4=_
      unfold Sw
      rw[if_pos he]
     clear he e4 S4
     go_wp2_with fail
     go_meet
     case rel=>exact ⟨back,k4,rfl,HN2.out⟩
   case rest=>
    obtain ⟨bk,km,rfl,hc⟩:=hcut
    obtain ⟨D,hD⟩:∃D:Unit->Em.M cR,D=fun _=>Em.choose (Em.aG d) s x4 fD >>= fun c2=>Rb s (cs3,tk3) c2 t:=⟨_,rfl⟩
    have HD:Hid (D=fun _=>Em.choose (Em.aG d) s x4 fD >>= fun c2=>Rb s (cs3,tk3) c2 t):=hD
    obtain ⟨hc1,Pm,hc2⟩:=hc.out
    have q2:=cF (hc2.keep HB1.out.2.2.2.2.2.2) HI.out.2.2.2.2 HI.out.2.2.2.1
    have HM0:Hid (Z=(Em.mD (Em.aG d) x4 bk (s.inside.drop 0) >>= D) km/\∃Pj,Two E ns P3 T (fun _=>False) kb b w3 k3 Pj T wc km t c):=⟨by rw[hc1,hD];rfl,Pm,hc2⟩
    clear hc hc1 hc2 hD S4 e4 S3
    go_wp2_with fail
    clear q2
    go_loopg [77] M (fun f i wr=>∃(j:Nat) (kj:Kd),f=M-j/\j≤M/\i=.int .i64 (j:Int)/\Hid (Z=(Em.mD (Em.aG d) x4 bk (s.inside.drop j) >>= D) kj/\∃Pj,Two E ns P3 T (fun _=>False) kb b w3 k3 Pj T wr kj t c))
    case atStart=>exact ⟨0,km,by omega,by omega,rfl,HM0.out⟩
    case round=>
     obtain ⟨j,kj,rfl,hj,rfl,hr⟩:=hrel
     obtain ⟨hr1,P0,hT⟩:=hr.out
     by_cases hlt:j<M
     ·obtain ⟨r,hrr⟩:∃r:Rg d,s.inside[j]?=some r:=⟨s.inside[j]'(by rw[<-HI.out.2.2.1];exact hlt),List.getElem?_eq_getElem _⟩
      obtain ⟨gr,c0,hrg⟩:=HI.out.2.1 j r hrr
      have kp:=hT.keep HB1.out.2.2.2.2.2.2
      have hix:=Vf ai gi M ci j hlt (fun hp=>(HI.out.1 hp).1)
      have c0:=cF kp (HI.out.1 (by omega)).2 c0
      have hent:=HH.out.2.2.2.2 (so:=x4) (back:=bk) (eV.carry d kp _ _ hrg) (HH.out.2.1.sub r (List.mem_of_getElem? hrr)) hT.cm (hT.ro HB1.out.2.2.2.2.2.2)
      have S5:Hid (Two E ns P3 T (fun _=>False) kb b w3 k3 P0 T wr kj t c):=hT
      have e5:Hid (Z=((Em.aG d).enter r x4 bk >>= fun _=>Em.mD (Em.aG d) x4 bk (s.inside.drop (j+1)) >>= D) kj):=by
       have hy:=H9 (k:=kj) (g:=r) (r:=s.inside.drop (j+1)) (on:=x4) (back:=bk)
       rw[<-dR hrr] at hy
       exact hr1.trans ((eC hy).trans yE)
      clear hr hr1 hT kp hrg hrr
      go_wp2_with (go_at_call 261;refine hent.mono ?_;rintro e w6 (⟨rfl,h0,h1⟩|⟨_,k6,rfl,h0,h1⟩);(· exact ⟨rfl,dC.up HB1.out.1 rfl (.inl ⟨rfl,e5.out.trans (aF h0.out),S5.out.bad h1.out⟩)⟩);obtain ⟨P6,S6⟩:∃P6,Hid (Two E ns P3 T (fun _=>False) kb b w3 k3 P6 T w6 k6 t (c)):=⟨_,S5.out.coder h1.out⟩;have e6:Hid _:=e5.out.trans (bind_some h0.out);clear h0 h1 hent)
      go_roundg (M-(j+1))
      case measure=>omega
      case rel=>exact ⟨j+1,k6,rfl,by omega,by go_num,e6.out,P6,S6.out⟩
     ·obtain rfl:j=M:=by omega
      have S5:Hid (Two E ns P3 T (fun _=>False) kb b w3 k3 P0 T wr kj t c):=hT
      have e5:Hid (Z=(Em.choose (Em.aG d) s x4 fD >>= fun c2=>Rb s (cs3,tk3) c2 t) kj):=by
       rw[Hid,hr1,HD.out,HI.out.2.2.1,List.drop_length];rfl
      have kp:=hT.keep HB1.out.2.2.2.2.2.2
      have hch:Calls Tryz.prog 230 _ wr (yH E ns P0 A n kb wr kj (Em.choose (Em.aG d) s x4 fD kj)):=Ru (so:=x4) hE (HB1.out.2.2.2.2.2.1.carry kp (eV.carry d kp)) HH.out.2.1 S5.out.cm (S5.out.ro HB1.out.2.2.2.2.2.2)
      clear hr hr1 hT kp HM0
      go_upto_region 17 with (go_at_call 230;refine hch.mono ?_;rintro e w6 (⟨rfl,h0,h1⟩|⟨cs6,tk6,k6,ac6,nc6,cc6,rfl,h0,h1⟩);(· exact ⟨rfl,dC.up HB1.out.1 rfl (.inl ⟨rfl,e5.out.trans (aF h0.out),S5.out.bad h1.out⟩)⟩);have e6:Hid _:=e5.out.trans (bind_some h0.out);clear h0 hch)
      obtain ⟨P6,hS6,hex,hfr⟩:=S5.out.choose h1.out.1 h1.out.2.2.1
      have kp:=hS6.keep HB1.out.2.2.2.2.2.2
      have hse6:=HB1.out.2.2.2.2.2.1.carry kp (eV.carry d kp)
      have HB2:Hid (Two E ns P3 T (fun _=>False) kb b w3 k3 P6 T w6 k6 t c/\pQ A w6 (.slice ac6 nc6 cc6) cs6/\(∀g,(Value.slice ac6 nc6 cc6).ownBlock=some g->g<w6.heap.size/\¬(P6 g\/T g))/\(∀y∈cs6,vS ns n y.1)/\cs6.length≤1000000/\pQ A w6 (.slice ac3 nc3 cc3) cs3/\(∀g,(Value.slice ac3 nc3 cc3).ownBlock=some g->g<w6.heap.size/\¬(P6 g\/T g))/\uG A w6 (eV A d w6) gS o s gd od/\Ro A (fun x=>P6 x\/T x) w6):=by
       refine ⟨hS6,h1.out.2.1,fun g hg=>⟨by obtain ⟨_,hr,_⟩:=h1.out.2.1;exact (hr.lt g hg).2,hex g hg⟩,h1.out.2.2.2.1,h1.out.2.2.2.2.2,HB1.out.2.1.keep kp (fun g hg=>hS6.fr.block g (HB1.out.2.2.1 g hg).1 (HB1.out.2.2.1 g hg).2),fun g hg=>⟨Nat.lt_of_lt_of_le (HB1.out.2.2.1 g hg).1 hS6.fr.size,fun hp=>?_⟩,hse6,hS6.roU HB1.out.2.2.2.2.2.2⟩
       have hq:=HB1.out.2.2.1 g hg
       rcases hp with hp|hp
       ·exact (hS6.up g hp).1.elim (fun h=>hq.2 (.inl h)) fun h=>absurd h.1 (by omega)
       ·exact hq.2 (.inr hp)
      have S6:Hid (Two E ns P6 T (fun _=>False) kb b w6 k6 P6 T w6 k6 t c):=Two.start hS6.cm hS6.im hS6.dis
      have q4:=hse6.leaves
      obtain ⟨lv,hlv⟩:∃lv,lv=s.leaves:=⟨_,rfl⟩
      rw[<-hlv] at q4
      have TK1:Hid True:=trivial
      clear h1 hS6 hex hfr kp S5 e5
      cases lv with
      | false=>
       have e7:Hid (Z=(Em.take cs3 t >>= fun t'=>Em.take cs6 t') k6):=by
        rw[Hid,e6.out]
        show Rb s (cs3,tk3) (cs6,tk6) t k6=_
        unfold Rb
        rw[<-hlv,if_neg (by simp)]
        rfl
       have S7:=S6
       clear e6 hlv hse6 S6
       have ks:=S7.out.keep HB2.out.2.2.2.2.2.2.2.2
       have hv1:pQ A w6 (.slice ac3 nc3 cc3) cs3:=HB2.out.2.2.2.2.2.1.keep ks fun g hg=>S7.out.fr.block g (HB2.out.2.2.2.2.2.2.1 g hg).1 (HB2.out.2.2.2.2.2.2.1 g hg).2
       have hv2:pQ A w6 (.slice ac6 nc6 cc6) cs6:=HB2.out.2.1.keep ks fun g hg=>S7.out.fr.block g (HB2.out.2.2.1 g hg).1 (HB2.out.2.2.1 g hg).2
       have hx1:∀g,(Value.slice ac3 nc3 cc3).ownBlock=some g->¬(P6 g\/T g):=fun g hg hp=>by
        have hq:=HB2.out.2.2.2.2.2.2.1 g hg
        rcases hp with hp|hp
        ·exact (S7.out.up g hp).1.elim (fun h=>hq.2 (.inl h)) fun h=>absurd h.1 (by omega)
        ·exact hq.2 (.inr hp)
       have hx2:∀g,(Value.slice ac6 nc6 cc6).ownBlock=some g->¬(P6 g\/T g)/\g<w6.heap.size:=fun g hg=>by
        have hq:=HB2.out.2.2.1 g hg
        refine ⟨fun hp=>?_,Nat.lt_of_lt_of_le hq.1 S7.out.fr.size⟩
        rcases hp with hp|hp
        ·exact (S7.out.up g hp).1.elim (fun h=>hq.2 (.inl h)) fun h=>absurd h.1 (by omega)
        ·exact hq.2 (.inr hp)
       have hRm:=S7.out.roU HB2.out.2.2.2.2.2.2.2.2
       have htk:=dQ (n:=n) hE hv1 hx1 HB1.out.2.2.2.1 HH.out.2.2.2.1 HB1.out.2.2.2.2.1 S7.out.cm S7.out.im S7.out.dis hRm (by omega)
       have HT:Hid (pQ A w6 (.slice ac6 nc6 cc6) cs6/\(∀g,(Value.slice ac6 nc6 cc6).ownBlock=some g->¬(P6 g\/T g)/\g<w6.heap.size)/\Ro A (fun x=>P6 x\/T x) w6):=⟨hv2,hx2,hRm⟩
       clear ks hv1 hv2 hx1 hx2 hRm
       go_wp2_with (first
        | (clear TK1;go_at_call 241;refine htk.mono ?_;rintro e w17 (⟨rfl,h0,h1⟩|⟨t7,k7,rfl,h0,P7,T7,h7⟩);(· exact ⟨rfl,dC.up HB1.out.1 rfl (dC.up HB2.out.1 rfl (dC.up S7.out e7.out (.inl ⟨rfl,aF h0.out,h1⟩)))⟩);have H7:Hid _:=h7;have E7:Hid _:=h0.out;have kq:aX A A w6 w17:=h7.keep HT.out.2.2;have hv7:pQ A w17 (.slice ac6 nc6 cc6) cs6:=HT.out.1.keep kq (fun g hg=>h7.fr.block g (HT.out.2.1 g hg).2 (HT.out.2.1 g hg).1);have hx7:∀g,(Value.slice ac6 nc6 cc6).ownBlock=some g->¬(P7 g\/T7 g):=(fun g hg hp=>by { have hq:=HT.out.2.1 g hg;rcases hp with hp|hp;exact (h7.up g hp).1.elim (fun h=>hq.1 (.inl h)) (fun h=>absurd h.1 (by omega));exact (h7.ut g hp).1.elim (fun h=>hq.1 (.inr h)) (fun h=>absurd h.1 (by omega)) });have htk2:=dQ (n:=n) hE hv7 hx7 HB2.out.2.2.2.1 (by rw[jO h0.out];exact HH.out.2.2.2.1) HB2.out.2.2.2.2.1 h7.cm h7.im h7.dis (h7.roU HT.out.2.2) (by omega);clear h0 h7 kq hv7 hx7 htk)
        | (go_at_call 241;refine htk2.mono ?_;rintro e w18 h8;rcases h8 with ⟨rfl,h0,h1⟩|⟨t8,k8,rfl,h0,h1⟩;(· exact ⟨rfl,dC.up HB1.out.1 rfl (dC.up HB2.out.1 rfl (dC.up S7.out e7.out (dC.up H7.out (bind_some E7.out) (.inl ⟨rfl,h0,h1⟩))))⟩)))
       go_end0
       exact dC.up HB1.out.1 rfl (dC.up HB2.out.1 rfl (dC.up S7.out e7.out (dC.up H7.out (bind_some E7.out) (.inr ⟨t8,k8,rfl,h0,h1⟩))))
      | true=>
       have e7:Hid (Z=(Em.dG (Em.aG d) s.inside tk6 >>= fun _=>Em.tN tk3 tk6 >>= fun e=>Em.uA e s.drawn.leave >>= fun _=>Em.take cs3 t >>= fun t'=>Em.take cs6 t') k6):=by
        rw[Hid,e6.out]
        show Rb s (cs3,tk3) (cs6,tk6) t k6=_
        unfold Rb
        rw[<-hlv,if_pos rfl]
        rfl
       have S7:=S6
       obtain ⟨vj,q2,hvj⟩:=hse6.iy
       have hlv2:=rF hE d (so:=tk6) hvj HH.out.2.1.sub S7.out.cm (S7.out.ro HB2.out.2.2.2.2.2.2.2.2)
       obtain ⟨aj,gj,cj,rfl,_⟩:=hvj
       clear e6 hlv hse6 S6
       go_upto_region 19 with (go_at_call 240;refine hlv2.mono ?_;rintro e w8 (⟨rfl,h0,h1⟩|⟨_,k8,rfl,h0,h1⟩);(· exact ⟨rfl,dC.up HB1.out.1 rfl (dC.up HB2.out.1 rfl (.inl ⟨rfl,e7.out.trans (aF h0.out),S7.out.bad h1.out⟩))⟩);obtain ⟨P8,S8⟩:∃P8,Hid (Two E ns P6 T (fun _=>False) kb b w6 k6 P8 T w8 k8 t (c)):=⟨_,S7.out.coder h1.out⟩;have e8:Hid _:=e7.out.trans (bind_some h0.out);clear h0 h1 hlv2)
       clear S7 e7 q2 q4
       have hdr:Below w8.heap.size w8 w8.drew:=⟨rfl,rfl,rfl,Nat.le_refl _,fun _ _=>rfl⟩
       have S9:Hid (Two E ns P6 T (fun _=>False) kb b w6 k6 P8 T w8.drew k8 t c):=S8.out.below hdr
       have kp:=S9.out.keep HB2.out.2.2.2.2.2.2.2.2
       have hse:=HB2.out.2.2.2.2.2.2.2.1.carry kp (eV.carry d kp)
       obtain ⟨vl,q5,hvl⟩:=hse.le
       have q0:w8.cell? ⟨gS,o,none⟩=_:=hse.d
       have q5':w8.cell? ⟨gd,od+5,none⟩=some vl:=q5
       obtain ⟨va',vn',vc',rfl⟩:=hvl.sl'
       have hor:=oZ tk3 tk6 S9.out.cm hE
       have e9:Hid (Z=(Em.tN tk3 tk6 >>= fun e=>Em.uA e s.drawn.leave >>= fun _=>Em.take cs3 t >>= fun t'=>Em.take cs6 t') k8):=e8.out
       have HSE:Hid (cE A w8.drew s.drawn.leave (.slice va' vn' vc')):=hvl
       clear kp hse hvl q5 S8 e8 hdr
       go_region_law (first
        | (go_simp;go_at_call 239;refine hor.mono ?_;rintro e w10 (⟨rfl,h0,h1⟩|⟨x10,k10,rfl,h0,h1⟩);(· exact ⟨rfl,dC.up HB1.out.1 rfl (dC.up HB2.out.1 rfl (.inl ⟨rfl,e9.out.trans (aF h0.out),S9.out.bad h1.out⟩))⟩);have KS:Hid (aX A A w8.drew w10):=(S9.out.ro HB2.out.2.2.2.2.2.2.2.2).keep h1.out.2.1;have KD:Hid (w10.cell? ⟨gd,od+5,none⟩=some (.slice va' vn' vc')):=cF KS.out HB2.out.2.2.2.2.2.2.2.1.dA.1 q5';obtain ⟨P10,S10⟩:∃P10,Hid (Two E ns P6 T (fun _=>False) kb b w6 k6 P10 T w10 k10 t (c)):=⟨_,S9.out.coder h1.out⟩;have e10:Hid _:=e9.out.trans (bind_some h0.out);clear h0 h1 hor;have kp:aX A A w6 w10:=S10.out.keep HB2.out.2.2.2.2.2.2.2.2;have hse:=HB2.out.2.2.2.2.2.2.2.1.carry kp (eV.carry d kp);have r0:=hse.d;have r5:=KD.out;have hdo:=tZ (so:=x10) HH.out.2.1.le (HSE.out.carry KS.out) S10.out.cm (S10.out.ro HB2.out.2.2.2.2.2.2.2.2) hE;clear kp hse)
        | (go_simp;go_at_call 236;refine hdo.mono ?_;rintro e w11 (⟨rfl,h0,h1⟩|⟨_,k11,rfl,h0,h1⟩);(· exact ⟨rfl,dC.up HB1.out.1 rfl (dC.up HB2.out.1 rfl (.inl ⟨rfl,e10.out.trans (aF h0.out),S10.out.bad h1.out⟩))⟩);obtain ⟨P11,S11⟩:∃P11,Hid (Two E ns P6 T (fun _=>False) kb b w6 k6 P11 T w11 k11 t (c)):=⟨_,S10.out.coder h1.out⟩;have e11:Hid _:=e10.out.trans (bind_some h0.out);clear h0 h1 hdo))
       all_goals
        clear q0 q5' S9 e9
        have ks:=S11.out.keep HB2.out.2.2.2.2.2.2.2.2
        have hv1:pQ A w11 (.slice ac3 nc3 cc3) cs3:=HB2.out.2.2.2.2.2.1.keep ks fun g hg=>S11.out.fr.block g (HB2.out.2.2.2.2.2.2.1 g hg).1 (HB2.out.2.2.2.2.2.2.1 g hg).2
        have hv2:pQ A w11 (.slice ac6 nc6 cc6) cs6:=HB2.out.2.1.keep ks fun g hg=>S11.out.fr.block g (HB2.out.2.2.1 g hg).1 (HB2.out.2.2.1 g hg).2
        have hx1:∀g,(Value.slice ac3 nc3 cc3).ownBlock=some g->¬(P11 g\/T g):=fun g hg hp=>by
         have hq:=HB2.out.2.2.2.2.2.2.1 g hg
         rcases hp with hp|hp
         ·exact (S11.out.up g hp).1.elim (fun h=>hq.2 (.inl h)) fun h=>absurd h.1 (by omega)
         ·exact hq.2 (.inr hp)
        have hx2:∀g,(Value.slice ac6 nc6 cc6).ownBlock=some g->¬(P11 g\/T g)/\g<w11.heap.size:=fun g hg=>by
         have hq:=HB2.out.2.2.1 g hg
         refine ⟨fun hp=>?_,Nat.lt_of_lt_of_le hq.1 S11.out.fr.size⟩
         rcases hp with hp|hp
         ·exact (S11.out.up g hp).1.elim (fun h=>hq.2 (.inl h)) fun h=>absurd h.1 (by omega)
         ·exact hq.2 (.inr hp)
        have hRm:=S11.out.roU HB2.out.2.2.2.2.2.2.2.2
        have htk:=dQ (n:=n) hE hv1 hx1 HB1.out.2.2.2.1 HH.out.2.2.2.1 HB1.out.2.2.2.2.1 S11.out.cm S11.out.im S11.out.dis hRm (by omega)
        have HT:Hid (pQ A w11 (.slice ac6 nc6 cc6) cs6/\(∀g,(Value.slice ac6 nc6 cc6).ownBlock=some g->¬(P11 g\/T g)/\g<w11.heap.size)/\Ro A (fun x=>P11 x\/T x) w11):=⟨hv2,hx2,hRm⟩
        clear ks hv1 hv2 hx1 hx2 hRm
        go_wp2_with (first
         | (clear TK1;go_at_call 241;refine htk.mono ?_;rintro e w17 (⟨rfl,h0,h1⟩|⟨t7,k7,rfl,h0,P7,T7,h7⟩);(· exact ⟨rfl,dC.up HB1.out.1 rfl (dC.up HB2.out.1 rfl (dC.up S11.out e11.out (.inl ⟨rfl,aF h0.out,h1⟩)))⟩);have H7:Hid _:=h7;have E7:Hid _:=h0.out;have kq:aX A A w11 w17:=h7.keep HT.out.2.2;have hv7:pQ A w17 (.slice ac6 nc6 cc6) cs6:=HT.out.1.keep kq (fun g hg=>h7.fr.block g (HT.out.2.1 g hg).2 (HT.out.2.1 g hg).1);have hx7:∀g,(Value.slice ac6 nc6 cc6).ownBlock=some g->¬(P7 g\/T7 g):=(fun g hg hp=>by { have hq:=HT.out.2.1 g hg;rcases hp with hp|hp;exact (h7.up g hp).1.elim (fun h=>hq.1 (.inl h)) (fun h=>absurd h.1 (by omega));exact (h7.ut g hp).1.elim (fun h=>hq.1 (.inr h)) (fun h=>absurd h.1 (by omega)) });have htk2:=dQ (n:=n) hE hv7 hx7 HB2.out.2.2.2.1 (by rw[jO h0.out];exact HH.out.2.2.2.1) HB2.out.2.2.2.2.1 h7.cm h7.im h7.dis (h7.roU HT.out.2.2) (by omega);clear h0 h7 kq hv7 hx7 htk)
         | (go_at_call 241;refine htk2.mono ?_;rintro e w18 h8;rcases h8 with ⟨rfl,h0,h1⟩|⟨t8,k8,rfl,h0,h1⟩;(· exact ⟨rfl,dC.up HB1.out.1 rfl (dC.up HB2.out.1 rfl (dC.up S11.out e11.out (dC.up H7.out (bind_some E7.out) (.inl ⟨rfl,h0,h1⟩))))⟩)))
        go_end0
        exact dC.up HB1.out.1 rfl (dC.up HB2.out.1 rfl (dC.up S11.out e11.out (dC.up H7.out (bind_some E7.out) (.inr ⟨t8,k8,rfl,h0,h1⟩))))
end
end Ew
end
end Go.Proofs.YtcdbhoknhnimcaaGreatDoor
