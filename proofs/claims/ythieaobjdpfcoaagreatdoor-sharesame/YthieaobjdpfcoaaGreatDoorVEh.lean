import Derived.Test.YthieaobjdpfcoaaGreatDoorVEf
import Derived.Deep.RegionHeld3
import Derived.Test.YthieaobjdpfcoaaGreatDoorVCs5
set_option maxRecDepth 100000
set_option maxHeartbeats 4000000
namespace Go.Proofs.YthieaobjdpfcoaaGreatDoor
section
open Go.RowKit Px
namespace Ew
open Px.Em (Kd Vr)
open Nx (Nt Sp)
section
variable {P A:Nat->Prop}{w w':World}{kb E:Nat}{ns:List bE}{k:Kd}
theorem eK.cellV (h:eK E ns P w kb k):w.cell? ⟨kb,7,none⟩=some (.map (some (kb-2))):=by
 obtain ⟨⟨c,j⟩,_⟩:=h
 rw[j.cell 7 (u:=.map (some c.mv)) rfl,show kb-2=c.mv by have:=j.mvk;omega]
theorem eK.lookV (h:eK E ns P w kb k) {s:bE}(l:s.length≤maxLen):(Instr.lookup 132 (.map (some (kb-2))) (sv s) false).run Tryz.prog w=.ok (.agg #[.int .i64 (k.vars s).now,.int .i64 (k.vars s).was,.int .i64 (k.vars s).first]) w:=by
 obtain ⟨⟨c,j⟩,_⟩:=h
 rw[show kb-2=c.mv by have:=j.mvk;omega]
 exact j.lookV l
def Cu (k k':Kd):Prop:=∀s,(k'.vars s).now=(k.vars s).now
theorem Cu.trans {a b c:Kd}(h:Cu a b) (h':Cu b c):Cu a c:=fun s=>(h' s).trans (h s)
theorem yR {c a b d p:Int}{k':Kd}(h:Em.made c a b d k=some (p,k')):Cu k k':=fun s=>by rw[(F4 h).2.2.2.2]
theorem rW {n p:Int}{c:Kd}(h:Em.bS n k=some (p,c)):Cu k c:=by
 cases hn:k.nums n with
 | some q=>rw[yN hn] at h;injection h with h;injection h with _ h;subst h;exact fun _=>rfl
 | none=>
  cases hm:Em.made 1 k.net.nums.length 0 0 k with
  | none=>rw[wK hn hm] at h;exact absurd h (by simp)
  | some q=>rw[wJ hn hm] at h;injection h with h;injection h with _ h;subst h;exact fun s=>yR hm s
theorem Vt {s:bE}{p:Int}{c:Kd}(h:Em.sN s k=some (p,c)):Cu k c:=by
 by_cases hw:(k.vars s).was=-1
 ·rw[Hg hw] at h
  injection h with h
  injection h with _ h
  subst h
  intro t
  show (if t=s then (⟨(k.vars s).now,k.net.places,(k.vars s).first⟩:Vr) else k.vars t).now=_
  split
  ·rename_i e;rw[e]
  ·rfl
 ·rw[Hh hw] at h;injection h with h;injection h with _ h;subst h;exact fun _=>rfl
theorem cV {α β:Type}{m:Em.M α}{f:α->Em.M β}{r:β×Kd}(h:(m >>= f) k=some r):∃a k',m k=some (a,k')/\f a k'=some r:=by
 cases hm:m k with
 | none=>rw[aH hm] at h;exact absurd h (by simp)
 | some q=>obtain ⟨a,k'⟩:=q;rw[bind_some hm] at h;exact ⟨a,k',rfl,h⟩
theorem Tp:∀(e:Px.E) {k c:Kd}{p:Int},Em.eP e k=some (p,c)->Cu k c:=by
 intro e
 induction e with
 | nil=>intro k c p h;exact rW h
 | node b o a l r ihl ihr=>
  intro k c p h
  by_cases h1:a.code=1
  ·rw[Bu h1] at h;exact rW h
  by_cases h2:a.code=2
  ·rw[Bo h2] at h;injection h with h;injection h with _ h;subst h;exact fun _=>rfl
  by_cases h3:a.code=3
  ·rw[Bq h3] at h;exact Vt h
  by_cases h4:a.code=4\/a.code=5
  ·rw[Bt h4] at h
   obtain ⟨x,s,n,j⟩:=cV h
   exact (ihl n).trans (yR j)
  by_cases n:a.code=0\/16<a.code
  ·rw[Is n] at h;exact rW h
  ·rw[Bp (by omega) (by omega)] at h
   obtain ⟨x,s,j,I⟩:=cV h
   obtain ⟨y,k2,D,u⟩:=cV I
   exact ((ihl j).trans (ihr D)).trans (yR u)
theorem dT {α:Type}{l:List α}{j:Nat}{a:α}(h:l[j]?=some a):l.drop j=a::l.drop (j+1):=by
 obtain ⟨c,n⟩:=aO5.1 h
 rw[aO9 c,n]
theorem cJ.opn {l:List iY}{v:Value}(h:cJ A w l v) :
    ∃ad g cap,v=.slice ad l.length cap/\l.length≤maxLen/\(0<l.length->ad=some ⟨g,0,none⟩/\A g/\g<w.heap.size)/\∀(i:Nat) (a:iY),l[i]?=some a->∃p,w.cell? ⟨g,i*2,none⟩=some (sv a.name)/\w.cell? ⟨g,i*2+1,none⟩=some (.pointer p)/\jR A w a.e (.pointer p):=by
 obtain ⟨O,r,y⟩:=h
 obtain ⟨ad,g,cap,J,n,s,I⟩:=wU.open (k:=2) (fun a c ⟨p,hc,_⟩=>by rw[hc];rfl) r y
 refine ⟨ad,g,cap,J,n,s,fun i a D=>?_⟩
 obtain ⟨c,⟨p,rfl,j⟩,hx⟩:=I i a D
 obtain ⟨u,rfl⟩:=j.pt'
 exact ⟨u,hx 0 _ rfl,hx 1 _ rfl,j⟩
theorem Uc {so:Int}{a:iY}{r:List iY}:Em.Cy so (a::r) k=(Em.eP a.e >>= fun x=>Em.put (k.vars a.name).now so x >>= fun _=>Em.Cy so r) k:=rfl
theorem aA8 {so:Int}{l:List iY}{v:Value}(hl:qE ns l) (hv:cJ A w l v) (h:eK E ns P w kb k) (hR:Ro A P w) (hE:E<1000000) :
    Calls Tryz.prog 208 #[.pointer (some ⟨kb,0,none⟩),.int .i64 so,v] w (fJ E ns P kb w k (Em.vM so l k) (fun _=>.tuple #[])):=by
 obtain ⟨ad,g,cap,rfl,I,hg,ah⟩:=cJ.opn hv
 by_cases hso:so=-1
 ·have t:(so == -1)=true:=by simpa using hso
  have HF:Hid (fJ E ns P kb w k (Em.vM so l k) (fun _=>.tuple #[]) (.returned (.tuple #[])) w):=fJ.pure (a:=()) (val:=fun _=>.tuple #[]) h (by unfold Em.vM;rw[if_pos hso];rfl)
  clear hl hv h hR I hg ah hso
  go_enter Tryz.func208,Tryz.ntmps208
  go_wp2_with fail
  go_end0
  exact HF.out
 ·have t:(so == -1)=false:=by simpa using hso
  have ai:Em.vM so l k=Em.Cy so l k:=by unfold Em.vM;rw[if_neg hso]
  rw[ai]
  obtain ⟨N,hN⟩:∃N,N=l.length:=⟨_,rfl⟩
  rw[<-hN] at I hg ⊢
  have HN:Hid (N=l.length):=hN
  have HG:Hid (0<N->ad=some ⟨g,0,none⟩/\A g/\g<w.heap.size):=hg
  have ay:Hid (∀(i:Nat) (a:iY),l[i]?=some a->∃p,w.cell? ⟨g,i*2,none⟩=some (sv a.name)/\w.cell? ⟨g,i*2+1,none⟩=some (.pointer p)/\jR A w a.e (.pointer p)):=ah
  have HL:Hid (qE ns l):=hl
  have HC:Hid (eK E ns P w kb k/\Ro A P w):=⟨h,hR⟩
  have bc:(N:Int)≤9223372036854775807:=by unfold maxLen at I;omega
  clear hl hv h hR I hg ah hso ai hN
  go_enter Tryz.func208,Tryz.ntmps208
  go_wp2_with fail
  go_loopg [12] N (fun f i wr=>∃(j:Nat) (kj:Kd),f=N-j/\j≤N/\i=.int .i64 (j:Int)/\Hid (Em.Cy so l k=Em.Cy so (l.drop j) kj/\eK E ns (Up P w wr) wr kb kj/\bM P w wr/\k.net.places≤kj.net.places))
  case atStart=>exact ⟨0,k,by omega,by omega,rfl,rfl,HC.out.1.mono (fun _ h=>.inl h) (fun b hb=>hb.elim (HC.out.1.2.2 b) fun h=>h.2),bM.refl _ _,Int.le_refl _⟩
  case round=>
   obtain ⟨j,kj,rfl,hj,rfl,hr⟩:=hrel
   by_cases hlt:j<N
   ·obtain ⟨a,ha⟩:∃a,l[j]?=some a:=⟨l[j]'(by rw[<-HN.out];exact hlt),by rw[aN3]⟩
    obtain ⟨p,c0,c1,he⟩:=ay.out j a ha
    obtain ⟨ao,ap,bb⟩:=HG.out (by omega)
    have av:=ixS ad g N cap j hlt (fun _=>ao)
    have ae:=(HC.out.2 g ap).2
    obtain ⟨O,s,n,Q⟩:=hr.out
    have c0:=n.cell c0 ae
    have c1:=n.cell c1 ae
    obtain ⟨r,Y,y⟩:=HL.out a (aO7 ha)
    obtain ⟨S,hS⟩:∃S,Value.string S=sv a.name:=⟨_,rfl⟩
    rw[<-hS] at c0
    obtain ⟨X,hX⟩:∃X,X=wr.alloc (.cells #[.string S,.pointer p] 297):=⟨_,rfl⟩
    obtain ⟨q,hq⟩:∃q,q=wr.heap.size:=⟨_,rfl⟩
    have ab:Below wr.heap.size wr X:=by rw[hX];exact aL _ _
    have U:X.heap[q]?=some (.cells #[.string S,.pointer p] 297 (0,0)):=by rw[hX,hq];exact aX wr _
    have D:Below wr.heap.size wr X.drew:=ab.drew
    have J:=s.below D
    have al:Ro A (Up P w wr) wr:=HC.out.2.up n.size
    have an:Ro A (Up P w wr) X.drew:=al.size ab.size
    have au:jR A X.drew a.e (.pointer p):=(he.carry (HC.out.2.keep n)).carry fun b hb hl=>⟨hb,D.block b hl⟩
    have ar:=lN (A:=A) (kb:=kb) (ns:=ns) hE a.e y au J an
    have aj:¬Up P w wr q:=fun hu=>by have:=s.2.2 q hu;omega
    have z7:=J.cellV
    have am:=J.lookV Y
    obtain ⟨nw,ac⟩:∃nw,nw=(kj.vars a.name).now:=⟨_,rfl⟩
    have ak:Hid (nw=(kj.vars a.name).now):=ac
    rw[<-hS,<-ac] at am
    clear ac
    have x0:=aF U 0 (u:=.string S) rfl
    have x1:=aF U 1 (u:=.pointer p) rfl
    have bf:X.cell? ⟨kb,7,none⟩=some (.map (some (kb-2))):=z7
    have be:=Bn
    have c:Hid (Em.Cy so l k=Em.Cy so (l.drop j) kj/\eK E ns (Up P w wr) wr kb kj/\bM P w wr/\k.net.places≤kj.net.places):=hr.out
    have HX:Hid (Below wr.heap.size wr X.drew/\X.heap[q]?=some (.cells #[.string S,.pointer p] 297 (0,0))/\¬Up P w wr q/\l[j]?=some a/\Value.string S=sv a.name/\a.name.length≤maxLen):=⟨D,U,aj,ha,hS,Y⟩
    clear hr O s n Q ao ap bb ae r Y y ab U D J al an au aj z7 he ha hS
    go_upto_region 4 with fail
    rw[<-hX,<-hq]
    clear hX hq av c0 c1
    have e0:Hid (Em.Cy so l k=(Em.eP a.e >>= fun x=>Em.put nw so x >>= fun _=>Em.Cy so (l.drop (j+1))) kj):=by rw[Hid,c.out.1,dT HX.out.2.2.2.1,ak.out];exact Uc
    go_region_law
     (first
      | (go_simp;go_at_call 206;refine ar.mono ?_;rintro e w1 (⟨rfl,h0,r⟩|⟨x,k1,rfl,h0,r⟩)
         (· exact ⟨rfl,fJ.up HC.out.1.2.2 c.out.2.2.1 c.out.2.2.2 e0.out (fJ.below c.out.2.1.2.2 HX.out.1 (.inl ⟨rfl,aH h0.out,r⟩))⟩)
         have ag:=r.out.2.1.heap (show X.drew.heap[q]?=_ from HX.out.2.1) HX.out.2.2.1
         have m7:=r.out.1.cellV
         have m0:=aF ag 0 (u:=.string S) rfl
         have m1:=aF ag 1 (u:=.pointer p) rfl
         have Z:=r.out.1.lookV HX.out.2.2.2.2.2
         rw[<-HX.out.2.2.2.2.1,Tp a.e h0.out a.name,<-ak.out] at Z
         have aa:=Ew.nU nw so x r.out.1
         have e1:Hid ((Em.eP a.e >>= fun x=>Em.put nw so x >>= fun _=>Em.Cy so (l.drop (j+1))) kj=(Em.put nw so x >>= fun _=>Em.Cy so (l.drop (j+1))) k1):=bind_some h0.out
         clear ag)
      | (go_simp;go_at_call 214;refine aa.mono ?_;rintro e w2 (⟨rfl,Y,y⟩|⟨_,k2,rfl,Y,y⟩)
         (· exact ⟨rfl,fJ.up HC.out.1.2.2 c.out.2.2.1 c.out.2.2.2 e0.out (fJ.below c.out.2.1.2.2 HX.out.1 (fJ.up (fun b hb=>aO2 (c.out.2.1.2.2 b hb) HX.out.1.size) r.out.2.1 r.out.2.2 e1.out (.inl ⟨rfl,aH Y.out,y⟩)))⟩)))
    all_goals
     have ax:=HX.out.1.size
     have az:=r.out.2.1.size
     have aw:=y.out.2.1.size
     have af:bM P w w2:=c.out.2.2.1.up (((bM.of_below HX.out.1).trans r.out.2.1 fun _ _ h=>h).trans y.out.2.1 fun b hb hu=>hu.elim id fun h=>absurd h.1 (by omega))
     have ba:Hid (Em.Cy so l k=Em.Cy so (l.drop (j+1)) k2/\eK E ns (Up P w w2) w2 kb k2/\bM P w w2/\k.net.places≤k2.net.places):=by
      refine ⟨by rw[e0.out,e1.out,bind_some Y.out],y.out.1.mono (fun b hb=>?_) (iI HC.out.1.2.2 af.size),af,by have:=c.out.2.2.2;have:=r.out.2.2;have:=y.out.2.2;omega⟩
      have:=c.out.2.2.1.size
      rcases hb with ((hb|hb)|hb)|hb
      ·exact .inl hb
      ·exact .inr ⟨hb.1,by omega⟩
      ·exact .inr ⟨by omega,by omega⟩
      ·exact .inr ⟨by omega,hb.2⟩
     clear ax az aw af h0 r Y y aa ar am Z
     go_wp2_with fail
     go_roundg (N-(j+1))
     case measure=>omega
     case rel=>exact ⟨j+1,k2,rfl,by omega,by go_num,ba.out⟩
   ·obtain rfl:j=N:=by omega
    obtain ⟨O,s,n,Q⟩:=hr.out
    have HF:Hid (fJ E ns P kb w k (Em.Cy so l k) (fun _=>.tuple #[]) (.returned (.tuple #[])) wr):=.inr ⟨(),kj,rfl,by rw[Hid,O,HN.out,aP6];rfl,s,n,Q⟩
    clear hr O s n Q
    go_wp2_with fail
    go_end0
    exact HF.out
end
open Px.Em (eQ eR jP Rg)
structure B6 (A:Nat->Prop) (w:World) (gW o:Nat) (y:eQ):Prop where
 d:∃gy oy p q,w.cell? ⟨gW,o,none⟩=some (.pointer (some ⟨gy,oy,none⟩))/\A gy/\jE A w gy oy y.drawn p q
 t:w.cell? ⟨gW,o+1,none⟩=some (.int .i64 y.to)
 l:w.cell? ⟨gW,o+2,none⟩=some (.int .i64 y.left)
def Yr {ρ:Type}(A:Nat->Prop) (w:World) (RM:ρ->Nat->Prop) (v:Value) (l:List ρ):Prop:=
 ∃ad g cap,v=.slice ad l.length cap/\l.length≤maxLen/\(0<l.length->ad=some ⟨g,0,none⟩/\A g)/\∀j r,l[j]?=some r->∃gr,w.cell? ⟨g,j,none⟩=some (.pointer (some ⟨gr,0,none⟩))/\RM r gr
structure vS {σ ρ:Type}(A:Nat->Prop) (w:World) (RM:ρ->Nat->Prop) (gS o:Nat) (s:eR σ ρ) (gd od:Nat):Prop where
 d:w.cell? ⟨gS,o,none⟩=some (.pointer (some ⟨gd,od,none⟩))
 dA:A gd/\A gS
 last:w.cell? ⟨gd,od+2,none⟩=some (.bool s.drawn.last)
 en:∃v,w.cell? ⟨gd,od+3,none⟩=some v/\cJ A w s.drawn.enter v
 du:∃v,w.cell? ⟨gd,od+4,none⟩=some v/\cJ A w s.drawn.during v
 le:∃v,w.cell? ⟨gd,od+5,none⟩=some v/\cJ A w s.drawn.leave v
 re:∃p,w.cell? ⟨gd,od+6,none⟩=some (.pointer p)/\jR A w s.drawn.rests (.pointer p)
 wy:∃ad g cap,w.cell? ⟨gS,o+1,none⟩=some (.slice ad s.ways.length cap)/\s.ways.length≤maxLen/\(0<s.ways.length->ad=some ⟨g,0,none⟩/\A g)/\∀j y,s.ways[j]?=some y->B6 A w g (j*3) y
 iy:∃v,w.cell? ⟨gS,o+2,none⟩=some v/\Yr A w RM v s.inside
 idle:w.cell? ⟨gS,o+3,none⟩=some (.bool s.idle)
 leaves:w.cell? ⟨gS,o+4,none⟩=some (.bool s.leaves)
def nL (A:Nat->Prop) (w:World) (v:Value) (l:List Nat):Prop:=
 ∃ad g cap,v=.slice ad l.length cap/\(0<l.length->ad=some ⟨g,0,none⟩/\A g)/\∀j x:Nat,l[j]?=some x->w.cell? ⟨g,j,none⟩=some (.int .i64 (x:Int))
def Nu {σ ρ:Type}(A:Nat->Prop) (w:World) (RM:ρ->Nat->Prop) (r:jP σ ρ) (g:Nat):Prop:=
 ∃gS ad cap vo,w.heap[g]?=some (.cells #[.slice ad r.states.length cap,vo,.int .i64 r.first,.int .i64 r.there,.bool r.idle,.bool r.leaves] 188 (0,0))/\A g/\(0<r.states.length->ad=some ⟨gS,0,none⟩/\A gS)/\nL A w vo r.order/\∀i s,r.states[i]?=some s->∃gd od,vS A w RM gS (i*5) s gd od
def fH (A:Nat->Prop):(k:Nat)->World->Rg k->Nat->Prop
 | 0=>fun _ _ _=>False
 | k+1=>fun w r g=>Nu A w (fH A k w) r g
section
variable {A A':Nat->Prop}{w w':World}{σ ρ:Type}{RM RM':ρ->Nat->Prop}
theorem cL (k:bB A A' w w') {b o:Nat}{v:Value}(c:A b) (h:w.cell? ⟨b,o,none⟩=some v):w'.cell? ⟨b,o,none⟩=some v:=by
 rw[aY4 (w:=w) (a:=⟨b,o,none⟩) (k b c (aY3 w _ h)).2];exact h
theorem jE.carry (k:bB A A' w w') {gy o:Nat}{y:Wy}{p:Option Addr}{q:Value}(c:A gy) (h:jE A w gy o y p q):jE A' w' gy o y p q:=by
 obtain ⟨I,s,n,J,r,D,j,u,l⟩:=h
 exact ⟨cL k c I,cL k c s,cL k c n,cL k c J,cL k c r,cL k c D,cL k c j,u.carry k,l.carry k⟩
theorem B6.carry (k:bB A A' w w') {c o:Nat}{y:eQ}(j:A c) (h:B6 A w c o y):B6 A' w' c o y:=by
 obtain ⟨⟨n,s,p,q,D,l,r⟩,u,I⟩:=h
 exact ⟨⟨n,s,p,q,cL k j D,(k n l (aY3 w _ r.1)).1,jE.carry k l r⟩,cL k j u,cL k j I⟩
theorem Yr.carry (k:bB A A' w w') (O:∀r g,RM r g->RM' r g) {v:Value}{l:List ρ}(h:Yr A w RM v l):Yr A' w' RM' v l:=by
 obtain ⟨U,g,cap,Q,J,u,D⟩:=h
 refine ⟨U,g,cap,Q,J,fun c=>?_,fun j r y=>?_⟩
 ·obtain ⟨n,s,_⟩:=D 0 _ (aN3 c)
  exact ⟨(u c).1,(k g (u c).2 (aY3 w _ s)).1⟩
 ·obtain ⟨n,s,I⟩:=D j r y
  exact ⟨n,cL k (u (by have:=(aO5.1 y).1;omega)).2 s,O r n I⟩
theorem vS.carry (k:bB A A' w w') (hR:∀r g,RM r g->RM' r g) {gS o:Nat}{s:eR σ ρ}{gd od:Nat}(h:vS A w RM gS o s gd od):vS A' w' RM' gS o s gd od:=by
 obtain ⟨d,⟨a1,c⟩,la,⟨ve,e,Q⟩,⟨Y,O,D⟩,⟨U,l1,l2⟩,⟨p,p1,p2⟩,⟨J,n,X,w1,w2,w3,w4⟩,⟨vi,Z,i2⟩,id,le⟩:=h
 refine ⟨cL k c d,⟨(k gd a1 (aY3 w _ la)).1,(k gS c (aY3 w _ d)).1⟩,cL k a1 la,⟨ve,cL k a1 e,Q.carry k⟩,⟨Y,cL k a1 O,D.carry k⟩,⟨U,cL k a1 l1,l2.carry k⟩,⟨p,cL k a1 p1,p2.carry k⟩,⟨J,n,X,cL k c w1,w2,fun l=>?_,fun j y u=>?_⟩,⟨vi,cL k c Z,i2.carry k hR⟩,cL k c id,cL k c le⟩
 ·have I:=w4 0 _ (aN3 l)
  exact ⟨(w3 l).1,(k n (w3 l).2 (aY3 w _ I.t)).1⟩
 ·exact B6.carry k (w3 (by have:=(aO5.1 u).1;omega)).2 (w4 j y u)
theorem nL.carry (k:bB A A' w w') {v:Value}{l:List Nat}(h:nL A w v l):nL A' w' v l:=by
 obtain ⟨D,g,cap,u,n,s⟩:=h
 refine ⟨D,g,cap,u,fun c=>?_,fun j x r=>?_⟩
 ·have y:=s 0 _ (aN3 c)
  exact ⟨(n c).1,(k g (n c).2 (aY3 w _ y)).1⟩
 ·exact cL k (n (by have:=(aO5.1 r).1;omega)).2 (s j x r)
theorem Nu.carry (k:bB A A' w w') (X:∀r g,RM r g->RM' r g) {r:jP σ ρ}{g:Nat}(h:Nu A w RM r g):Nu A' w' RM' r g:=by
 obtain ⟨gS,Y,cap,O,D,J,n,U,I⟩:=h
 have l:=k g J (aB D)
 refine ⟨gS,Y,cap,O,by rw[l.2];exact D,l.1,fun c=>?_,U.carry k,fun i s Q=>?_⟩
 ·obtain ⟨y,u,j⟩:=I 0 _ (aN3 c)
  exact ⟨(n c).1,(k gS (n c).2 (aY3 w _ j.d)).1⟩
 ·obtain ⟨y,u,j⟩:=I i s Q
  exact ⟨y,u,j.carry k X⟩
theorem fH.carry:∀(n:Nat) {A A':Nat->Prop}{w w':World},bB A A' w w'->∀(r:Rg n) (g:Nat),fH A n w r g->fH A' n w' r g
 | 0,_,_,_,_,_,_,_,h=>h
 | n+1,_,_,_,_,k,_,_,h=>Nu.carry k (fH.carry n k) h
end
structure xK (ns:List bE) (n:Nat) (y:eQ):Prop where
 c:sG y.drawn.cond
 s:qE ns y.drawn.sets
 t:0≤y.to/\y.to<n
 m:y.drawn.times≤1000000
structure B9 {σ ρ:Type}(ns:List bE) (n:Nat) (sub:ρ->Prop) (s:eR σ ρ):Prop where
 en:qE ns s.drawn.enter
 du:qE ns s.drawn.during
 le:qE ns s.drawn.leave
 re:sG s.drawn.rests
 wy:∀y∈s.ways,xK ns n y
 wl:s.ways.length≤1000000
 il:s.inside.length≤1000000
 sub:∀r∈s.inside,sub r
structure Od {σ ρ:Type}(ns:List bE) (sub:ρ->Prop) (r:jP σ ρ):Prop where
 n:r.states.length≤1000000
 f:0≤r.first/\r.first<r.states.length
 o:∀i∈r.order,i<r.states.length
 ol:r.order.length≤1000000
 st:∀s∈r.states,B9 ns r.states.length sub s
def eS (ns:List bE):(k:Nat)->Rg k->Prop
 | 0=>fun _=>True
 | k+1=>fun r=>Od ns (eS ns k) r
def At (E:Nat) (ns:List bE) (P:Nat->Prop) (kb:Nat) (w:World) (k:Kd) (wr:World) (kj:Kd):Prop:=eK E ns (Up P w wr) wr kb kj/\bM P w wr/\k.net.places≤kj.net.places
section
variable {P A:Nat->Prop}{w wr w2:World}{kb E:Nat}{ns:List bE}{k kj k2:Kd}
theorem At.start (h:eK E ns P w kb k):At E ns P kb w k w k:=⟨h.mono (fun _ h=>.inl h) (fun b hb=>hb.elim (h.2.2 b) fun h=>h.2),bM.refl _ _,Int.le_refl _⟩
theorem At.step (hP:∀b,P b->b<w.heap.size) (h:At E ns P kb w k wr kj) (h2:At E ns (Up P w wr) kb wr kj w2 k2):At E ns P kb w k w2 k2:=
 ⟨h2.1.up hP h.2.1.size h2.2.1.size,h.2.1.up h2.2.1,aX9 h.2.2 h2.2.2⟩
theorem At.below (j:∀b,P b->b<w.heap.size) (h:At E ns P kb w k wr kj) (hb:Below wr.heap.size wr w2):At E ns P kb w k w2 kj:=by
 have c:bM P w w2:=h.2.1.trans (bM.of_below (P:=fun _=>False) hb) fun _ _ h=>h.elim
 exact ⟨(h.1.below hb).mono (Up.size hb.size) (iI j c.size),c,h.2.2⟩
theorem At.ran {α:Type}{o o2:Option (α×Kd)}{val:α->Value}{e:Ending}(hP:∀b,P b->b<w.heap.size) (h:At E ns P kb w k wr kj) (ho:o=o2) (h2:fJ E ns (Up P w wr) kb wr kj o2 val e w2):fJ E ns P kb w k o val e w2:=fJ.up hP h.2.1 h.2.2 ho h2
theorem At.ends {α:Type}{o:Option (α×Kd)}{val:α->Value}{a:α}(h:At E ns P kb w k wr kj) (ho:o=some (a,kj)):fJ E ns P kb w k o val (.returned (val a)) wr:=.inr ⟨a,kj,rfl,ho,h⟩
theorem At.ro (h:At E ns P kb w k wr kj) (hR:Ro A P w):Ro A (Up P w wr) wr:=hR.up h.2.1.size
theorem At.keep (h:At E ns P kb w k wr kj) (hR:Ro A P w):bB A A w wr:=hR.keep h.2.1
theorem Se (ad:Option Addr) (g n cap j:Nat) (l:j<n) (c:0<n->ad=some ⟨g,0,none⟩) (w:World):(Instr.indexAt 186 (.slice ad n cap) (.int .i64 (j:Int))).run Tryz.prog w=.ok (.pointer (some ⟨g,j*5,none⟩)) w:=by
 obtain rfl:=c (by omega)
 rw[aY6 _ _ _ _ _ _ _ (by kernel_rfl),if_pos ⟨by omega,by omega⟩]
 have e:(sizeOf (Tryz.prog.elem 186)).run Tryz.prog w=.ok 5 w:=by kernel_rfl
 rw[e]
 simp[Result.andThen,Addr.add]
 try (intro h;exact h.symm)
theorem aK9 (ad:Option Addr) (g n cap j:Nat) (l:j<n) (c:0<n->ad=some ⟨g,0,none⟩) (w:World):(Instr.indexAt 233 (.slice ad n cap) (.int .i64 (j:Int))).run Tryz.prog w=.ok (.pointer (some ⟨g,j*3,none⟩)) w:=by
 obtain rfl:=c (by omega)
 rw[aY6 _ _ _ _ _ _ _ (by kernel_rfl),if_pos ⟨by omega,by omega⟩]
 have e:(sizeOf (Tryz.prog.elem 233)).run Tryz.prog w=.ok 3 w:=by kernel_rfl
 rw[e]
 simp[Result.andThen,Addr.add]
 try (intro h;exact h.symm)
theorem Xp (ad:Option Addr) (g n cap j:Nat) (l:j<n) (c:0<n->ad=some ⟨g,0,none⟩) (w:World):(Instr.indexAt 234 (.slice ad n cap) (.int .i64 (j:Int))).run Tryz.prog w=.ok (.pointer (some ⟨g,j,none⟩)) w:=by
 obtain rfl:=c (by omega)
 rw[aY6 _ _ _ _ _ _ _ (by kernel_rfl),if_pos ⟨by omega,by omega⟩]
 have e:(sizeOf (Tryz.prog.elem 234)).run Tryz.prog w=.ok 1 w:=by kernel_rfl
 rw[e]
 simp[Result.andThen,Addr.add]
 try (intro h;exact h.symm)
theorem Eo {σ ρ:Type}{p:Int}{s:eR σ ρ}{l:List (eR σ ρ)}{i:Nat}{o:Int}(h:s.drawn.last=true):Em.oY p (s::l) i o k=(Em.is p i >>= fun x=>Em.uZ o x >>= fun o'=>Em.oY p l (i+1) o') k:=by rw[Em.oY,if_pos h]
theorem Lc {σ ρ:Type}{p:Int}{s:eR σ ρ}{l:List (eR σ ρ)}{i:Nat}{o:Int}(h:s.drawn.last=false):Em.oY p (s::l) i o k=Em.oY p l (i+1) o k:=by rw[Em.oY,if_neg (by rw[h];simp)]
theorem aH1 {σ ρ:Type}{RM:ρ->Nat->Prop}{r:jP σ ρ}{g:Nat}(O:Nu A w RM r g) (hn:r.states.length≤1000000) (h:eK E ns P w kb k) (hR:Ro A P w) (hE:E<1000000) :
    Calls Tryz.prog 244 #[.pointer (some ⟨kb,0,none⟩),.pointer (some ⟨g,0,none⟩)] w (fJ E ns P kb w k (Em.over r k) (Value.int .i64)):=by
 obtain ⟨gS,Z,cap,vo,hg,Q,hS,_,X⟩:=O
 obtain ⟨N,hN⟩:∃N,N=r.states.length:=⟨_,rfl⟩
 rw[<-hN] at hg hS hn
 have g0:=aF hg 0 (u:=.slice Z N cap) rfl
 have HN:Hid _:=hN
 have HG:Hid (_/\¬P g):=⟨hg,(hR g Q).2⟩
 have HS:Hid (0<N->Z=some ⟨gS,0,none⟩/\A gS):=hS
 have ab:Hid _:=X
 have HC:Hid (_/\_):=⟨h,hR⟩
 have ae:(N:Int)≤1000000:=by omega
 clear h hR hg Q hS X hN
 go_enter Tryz.func244,Tryz.ntmps244
 go_wp2_with fail
 clear g0
 go_loopg [5,12] N (fun f ov i wr=>∃(j:Nat) (o:Int) (kj:Kd),f=N-j/\j≤N/\ov=.int .i64 o/\i=.int .i64 (j:Int)/\Hid (Em.over r k=Em.oY r.there (r.states.drop j) j o kj/\At E ns P kb w k wr kj))
 case atStart=>exact ⟨0,-1,k,by omega,by omega,rfl,rfl,rfl,At.start HC.out.1⟩
 case round=>
  obtain ⟨j,o,kj,rfl,hj,rfl,rfl,O⟩:=hrel
  by_cases hlt:j<N
  ·obtain ⟨s,hs⟩:∃s,r.states[j]?=some s:=⟨r.states[j]'(by rw[<-HN.out];exact hlt),by rw[aN3]⟩
   obtain ⟨l,c⟩:=O.out
   obtain ⟨gd,od,n⟩:=ab.out j s hs
   have kp:=c.keep HC.out.2
   have ac:=Se Z gS N cap j hlt (fun hp=>(HS.out hp).1)
   have I:=c.2.1.heap HG.out.1 HG.out.2
   have g0:=aF I 0 (u:=.slice Z N cap) rfl
   have g3:=aF I 3 (u:=.int .i64 r.there) rfl
   have d0:=cL kp n.dA.2 n.d
   have d1:=cL kp n.dA.1 n.last
   rw[dT hs] at l
   have J:Hid (_/\_):=⟨l,c⟩
   cases hl:s.drawn.last with
   | true=>
    rw[hl] at d1
    have U:=aE4 r.there j (by omega) c.1 hE
    have HP:Hid _:=HC.out.1.2.2
    have a0:Hid (At E ns P kb w k wr kj):=c
    have e0:Hid (Em.over r k=(Em.is r.there j >>= fun x=>Em.uZ o x >>= fun o'=>Em.oY r.there (r.states.drop (j+1)) (j+1) o') kj):=by rw[Hid,J.out.1,Eo hl]
    clear O l c n kp I hl hs J
    go_wp2_with (first
     | (go_at_call 163;refine U.mono ?_;rintro e w1 (⟨rfl,y,D⟩|⟨x1,k1,rfl,y,D⟩);(· exact ⟨rfl,At.ran HP.out a0.out e0.out (.inl ⟨rfl,aH y.out,D⟩)⟩);have a1:Hid (At E ns P kb w k w1 k1):=a0.out.step HP.out D.out;have e1:Hid _:=e0.out.trans (bind_some y.out);clear y D U;have Y:=pS o x1 a1.out.1 hE)
     | (go_at_call 211;refine Y.mono ?_;rintro e w2 (⟨rfl,y,D⟩|⟨x2,k2,rfl,y,D⟩);(· exact ⟨rfl,At.ran HP.out a1.out e1.out (.inl ⟨rfl,aH y.out,D⟩)⟩);have a2:Hid (At E ns P kb w k w2 k2):=a1.out.step HP.out D.out;have e2:Hid _:=e1.out.trans (bind_some y.out);clear y D Y))
    go_roundg (N-(j+1))
    case measure=>omega
    case rel=>exact ⟨j+1,x2,k2,rfl,by omega,rfl,by go_num,e2.out,a2.out⟩
   | false=>
    rw[hl] at d1
    have aa:Hid (Em.over r k=Em.oY r.there (r.states.drop (j+1)) (j+1) o kj/\_):=⟨by rw[J.out.1,Lc hl],c⟩
    clear O l c n kp I hl hs
    go_wp2_with fail
    go_roundg (N-(j+1))
    case measure=>omega
    case rel=>exact ⟨j+1,o,kj,rfl,by omega,rfl,by go_num,aa.out⟩
  ·obtain rfl:j=N:=by omega
   obtain ⟨l,c⟩:=O.out
   have HF:Hid (fJ E ns P kb w k (Em.over r k) (Value.int .i64) (.returned (.int .i64 o)) wr):=At.ends c (by rw[l,HN.out,aP6];rfl)
   clear O l c
   go_wp2_with fail
   go_ret
   exact HF.out
end
end Ew
end
end Go.Proofs.YthieaobjdpfcoaaGreatDoor
