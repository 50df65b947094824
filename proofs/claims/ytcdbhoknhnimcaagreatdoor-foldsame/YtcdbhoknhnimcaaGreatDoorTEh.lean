import Derived.Test.YtcdbhoknhnimcaaGreatDoorTEf
import Derived.Deep.RegionHeld3
import Derived.Test.YtcdbhoknhnimcaaGreatDoorTCs5
set_option maxRecDepth 100000
set_option maxHeartbeats 4000000
namespace Go.Proofs.YtcdbhoknhnimcaaGreatDoor
section
open Go.RowKit Px
namespace Ew
open Px.Em (Kd Vr)
open Nx (Nt Sp)
section
variable {P A:Nat->Prop}{w w':World}{kb E:Nat}{ns:List bB}{k:Kd}
theorem eG.cellV (h:eG E ns P w kb k):w.cell? ⟨kb,7,none⟩=some (.map (some (kb-2))):=by
 obtain ⟨⟨c,hc⟩,_⟩:=h
 rw[hc.cell 7 (u:=.map (some c.mv)) rfl,show kb-2=c.mv by have:=hc.mvk;omega]
theorem eG.lookV (h:eG E ns P w kb k) {s:bB}(hs:s.length≤maxLen):(Instr.lookup 166 (.map (some (kb-2))) (sv s) false).run Tryz.prog w=.ok (.agg #[.int .i64 (k.vars s).now,.int .i64 (k.vars s).was,.int .i64 (k.vars s).first]) w:=by
 obtain ⟨⟨c,hc⟩,_⟩:=h
 rw[show kb-2=c.mv by have:=hc.mvk;omega]
 exact hc.lookV hs
def Aq (k k':Kd):Prop:=∀s,(k'.vars s).now=(k.vars s).now
theorem Aq.trans {a b c:Kd}(h:Aq a b) (h':Aq b c):Aq a c:=fun s=>(h' s).trans (h s)
theorem xH {c a b d p:Int}{k':Kd}(h:Em.made c a b d k=some (p,k')):Aq k k':=fun s=>by rw[(zT h).2.2.2.2]
theorem rD {n p:Int}{k':Kd}(h:Em.bM n k=some (p,k')):Aq k k':=by
 cases hn:k.nums n with
 | some q=>rw[xE hn] at h;injection h with h;injection h with _ h;subst h;exact fun _=>rfl
 | none=>
  cases hm:Em.made 1 k.net.nums.length 0 0 k with
  | none=>rw[uS hn hm] at h;exact absurd h (by simp)
  | some q=>rw[uR hn hm] at h;injection h with h;injection h with _ h;subst h;exact fun s=>xH hm s
theorem Td {s:bB}{p:Int}{k':Kd}(h:Em.rO s k=some (p,k')):Aq k k':=by
 by_cases hw:(k.vars s).was=-1
 ·rw[Ev hw] at h
  injection h with h
  injection h with _ h
  subst h
  intro t
  show (if t=s then (⟨(k.vars s).now,k.net.places,(k.vars s).first⟩:Vr) else k.vars t).now=_
  split
  ·rename_i e;rw[e]
  ·rfl
 ·rw[Ex hw] at h;injection h with h;injection h with _ h;subst h;exact fun _=>rfl
theorem cQ {α β:Type}{m:Em.M α}{f:α->Em.M β}{r:β×Kd}(h:(m >>= f) k=some r):∃a k',m k=some (a,k')/\f a k'=some r:=by
 cases hm:m k with
 | none=>rw[aF hm] at h;exact absurd h (by simp)
 | some q=>obtain ⟨a,k'⟩:=q;rw[bind_some hm] at h;exact ⟨a,k',rfl,h⟩
theorem Qv:∀(e:Px.E) {k k':Kd}{p:Int},Em.eK e k=some (p,k')->Aq k k':=by
 intro e
 induction e with
 | nil=>intro k k' p h;exact rD h
 | node b o a l r ihl ihr=>
  intro k k' p h
  by_cases h1:a.code=1
  ·rw[m9 h1] at h;exact rD h
  by_cases h2:a.code=2
  ·rw[Z7 h2] at h;injection h with h;injection h with _ h;subst h;exact fun _=>rfl
  by_cases h3:a.code=3
  ·rw[Z9 h3] at h;exact Td h
  by_cases h4:a.code=4\/a.code=5
  ·rw[j9 h4] at h
   obtain ⟨x,k1,h5,h6⟩:=cQ h
   exact (ihl h5).trans (xH h6)
  by_cases h5:a.code=0\/16<a.code
  ·rw[Gg h5] at h;exact rD h
  ·rw[Z8 (by omega) (by omega)] at h
   obtain ⟨x,k1,h6,h7⟩:=cQ h
   obtain ⟨y,k2,h8,h9⟩:=cQ h7
   exact ((ihl h6).trans (ihr h8)).trans (xH h9)
theorem dR {α:Type}{l:List α}{j:Nat}{a:α}(h:l[j]?=some a):l.drop j=a::l.drop (j+1):=by
 obtain ⟨h1,h2⟩:=List.getElem?_eq_some_iff.1 h
 rw[List.drop_eq_getElem_cons h1,h2]
theorem cE.opn {l:List iQ}{v:Value}(h:cE A w l v) :
    ∃ad g cap,v=.slice ad l.length cap/\l.length≤maxLen/\(0<l.length->ad=some ⟨g,0,none⟩/\A g/\g<w.heap.size)/\∀(i:Nat) (a:iQ),l[i]?=some a->∃p,w.cell? ⟨g,i*2,none⟩=some (sv a.name)/\w.cell? ⟨g,i*2+1,none⟩=some (.pointer p)/\jI A w a.e (.pointer p):=by
 obtain ⟨xs,hr,hs⟩:=h
 obtain ⟨ad,g,cap,h1,h2,h3,h4⟩:=uX.open (k:=2) (fun a c ⟨p,hc,_⟩=>by rw[hc];rfl) hr hs
 refine ⟨ad,g,cap,h1,h2,h3,fun i a hi=>?_⟩
 obtain ⟨c,⟨p,rfl,hp⟩,hx⟩:=h4 i a hi
 obtain ⟨u,rfl⟩:=hp.pt'
 exact ⟨u,hx 0 _ rfl,hx 1 _ rfl,hp⟩
theorem Rl {so:Int}{a:iQ}{r:List iQ}:Em.Av so (a::r) k=(Em.eK a.e >>= fun x=>Em.put (k.vars a.name).now so x >>= fun _=>Em.Av so r) k:=rfl
theorem tZ {so:Int}{l:List iQ}{v:Value}(hl:pK ns l) (hv:cE A w l v) (h:eG E ns P w kb k) (hR:Ro A P w) (hE:E<1000000) :
    Calls Tryz.prog 236 #[.pointer (some ⟨kb,0,none⟩),.int .i64 so,v] w (eY E ns P kb w k (Em.uA so l k) (fun _=>.tuple #[])):=by
 obtain ⟨ad,g,cap,rfl,hmx,hg,hcs⟩:=cE.opn hv
 by_cases hso:so=-1
 ·have t:(so == -1)=true:=by simpa using hso
  have HF:Hid (eY E ns P kb w k (Em.uA so l k) (fun _=>.tuple #[]) (.returned (.tuple #[])) w):=eY.pure (a:=()) (val:=fun _=>.tuple #[]) h (by unfold Em.uA;rw[if_pos hso];rfl)
  clear hl hv h hR hmx hg hcs hso
  go_enter Tryz.func236,Tryz.ntmps236
  go_wp2_with fail
  go_end0
  exact HF.out
 ·have t:(so == -1)=false:=by simpa using hso
  have hdo:Em.uA so l k=Em.Av so l k:=by unfold Em.uA;rw[if_neg hso]
  rw[hdo]
  obtain ⟨N,hN⟩:∃N,N=l.length:=⟨_,rfl⟩
  rw[<-hN] at hmx hg ⊢
  have HN:Hid (N=l.length):=hN
  have HG:Hid (0<N->ad=some ⟨g,0,none⟩/\A g/\g<w.heap.size):=hg
  have HCS:Hid (∀(i:Nat) (a:iQ),l[i]?=some a->∃p,w.cell? ⟨g,i*2,none⟩=some (sv a.name)/\w.cell? ⟨g,i*2+1,none⟩=some (.pointer p)/\jI A w a.e (.pointer p)):=hcs
  have HL:Hid (pK ns l):=hl
  have HC:Hid (eG E ns P w kb k/\Ro A P w):=⟨h,hR⟩
  have hN6:(N:Int)≤9223372036854775807:=by unfold maxLen at hmx;omega
  clear hl hv h hR hmx hg hcs hso hdo hN
  go_enter Tryz.func236,Tryz.ntmps236
  go_wp2_with fail
  go_loopg [12] N (fun f i wr=>∃(j:Nat) (kj:Kd),f=N-j/\j≤N/\i=.int .i64 (j:Int)/\Hid (Em.Av so l k=Em.Av so (l.drop j) kj/\eG E ns (Up P w wr) wr kb kj/\bH P w wr/\k.net.places≤kj.net.places))
  case atStart=>exact ⟨0,k,by omega,by omega,rfl,rfl,HC.out.1.mono (fun _ h=>.inl h) (fun b hb=>hb.elim (HC.out.1.2.2 b) fun h=>h.2),bH.refl _ _,Int.le_refl _⟩
  case round=>
   obtain ⟨j,kj,rfl,hj,rfl,hr⟩:=hrel
   by_cases hlt:j<N
   ·obtain ⟨a,ha⟩:∃a,l[j]?=some a:=⟨l[j]'(by rw[<-HN.out];exact hlt),by rw[List.getElem?_eq_getElem]⟩
    obtain ⟨p,c0,c1,he⟩:=HCS.out j a ha
    obtain ⟨hg1,hg2,hg3⟩:=HG.out (by omega)
    have hix:=ixS ad g N cap j hlt (fun _=>hg1)
    have hgn:=(HC.out.2 g hg2).2
    obtain ⟨hr1,hr2,hr3,hr4⟩:=hr.out
    have c0:=hr3.cell c0 hgn
    have c1:=hr3.cell c1 hgn
    obtain ⟨h1,h2,h3⟩:=HL.out a (List.mem_of_getElem? ha)
    obtain ⟨S,hS⟩:∃S,Value.string S=sv a.name:=⟨_,rfl⟩
    rw[<-hS] at c0
    obtain ⟨X,hX⟩:∃X,X=wr.alloc (.cells #[.string S,.pointer p] 325):=⟨_,rfl⟩
    obtain ⟨q,hq⟩:∃q,q=wr.heap.size:=⟨_,rfl⟩
    have hbX:Below wr.heap.size wr X:=by rw[hX];exact aC _ _
    have hkX:X.heap[q]?=some (.cells #[.string S,.pointer p] 325 (0,0)):=by rw[hX,hq];exact bE wr _
    have hbD:Below wr.heap.size wr X.drew:=hbX.drew
    have hCX:=hr2.below hbD
    have hRj:Ro A (Up P w wr) wr:=HC.out.2.up hr3.size
    have hRX:Ro A (Up P w wr) X.drew:=hRj.size hbX.size
    have heX:jI A X.drew a.e (.pointer p):=(he.carry (HC.out.2.keep hr3)).carry fun b hb hl=>⟨hb,hbD.block b hl⟩
    have hcl:=kS (A:=A) (kb:=kb) (ns:=ns) hE a.e h3 heX hCX hRX
    have hqU:¬Up P w wr q:=fun hu=>by have:=hr2.2.2 q hu;omega
    have z7:=hCX.cellV
    have hlk:=hCX.lookV h2
    obtain ⟨nw,hnw⟩:∃nw,nw=(kj.vars a.name).now:=⟨_,rfl⟩
    have HNW:Hid (nw=(kj.vars a.name).now):=hnw
    rw[<-hS,<-hnw] at hlk
    clear hnw
    have x0:=aA hkX 0 (u:=.string S) rfl
    have x1:=aA hkX 1 (u:=.pointer p) rfl
    have z7':X.cell? ⟨kb,7,none⟩=some (.map (some (kb-2))):=z7
    have hfd:=Z4
    have HR1:Hid (Em.Av so l k=Em.Av so (l.drop j) kj/\eG E ns (Up P w wr) wr kb kj/\bH P w wr/\k.net.places≤kj.net.places):=hr.out
    have HX:Hid (Below wr.heap.size wr X.drew/\X.heap[q]?=some (.cells #[.string S,.pointer p] 325 (0,0))/\¬Up P w wr q/\l[j]?=some a/\Value.string S=sv a.name/\a.name.length≤maxLen):=⟨hbD,hkX,hqU,ha,hS,h2⟩
    clear hr hr1 hr2 hr3 hr4 hg1 hg2 hg3 hgn h1 h2 h3 hbX hkX hbD hCX hRj hRX heX hqU z7 he ha hS
    go_upto_region 4 with fail
    rw[<-hX,<-hq]
    clear hX hq hix c0 c1
    have e0:Hid (Em.Av so l k=(Em.eK a.e >>= fun x=>Em.put nw so x >>= fun _=>Em.Av so (l.drop (j+1))) kj):=by rw[Hid,HR1.out.1,dR HX.out.2.2.2.1,HNW.out];exact Rl
    go_region_law
     (first
      | (go_simp;go_at_call 234;refine hcl.mono ?_;rintro e w1 (⟨rfl,h0,h1⟩|⟨x,k1,rfl,h0,h1⟩)
         (· exact ⟨rfl,eY.up HC.out.1.2.2 HR1.out.2.2.1 HR1.out.2.2.2 e0.out (eY.below HR1.out.2.1.2.2 HX.out.1 (.inl ⟨rfl,aF h0.out,h1⟩))⟩)
         have hk1:=h1.out.2.1.heap (show X.drew.heap[q]?=_ from HX.out.2.1) HX.out.2.2.1
         have m7:=h1.out.1.cellV
         have m0:=aA hk1 0 (u:=.string S) rfl
         have m1:=aA hk1 1 (u:=.pointer p) rfl
         have hlk1:=h1.out.1.lookV HX.out.2.2.2.2.2
         rw[<-HX.out.2.2.2.2.1,Qv a.e h0.out a.name,<-HNW.out] at hlk1
         have hput:=Ew.nE nw so x h1.out.1
         have e1:Hid ((Em.eK a.e >>= fun x=>Em.put nw so x >>= fun _=>Em.Av so (l.drop (j+1))) kj=(Em.put nw so x >>= fun _=>Em.Av so (l.drop (j+1))) k1):=bind_some h0.out
         clear hk1)
      | (go_simp;go_at_call 242;refine hput.mono ?_;rintro e w2 (⟨rfl,h2,h3⟩|⟨_,k2,rfl,h2,h3⟩)
         (· exact ⟨rfl,eY.up HC.out.1.2.2 HR1.out.2.2.1 HR1.out.2.2.2 e0.out (eY.below HR1.out.2.1.2.2 HX.out.1 (eY.up (fun b hb=>Nat.lt_of_lt_of_le (HR1.out.2.1.2.2 b hb) HX.out.1.size) h1.out.2.1 h1.out.2.2 e1.out (.inl ⟨rfl,aF h2.out,h3⟩)))⟩)))
    all_goals
     have hs1:=HX.out.1.size
     have hs2:=h1.out.2.1.size
     have hs3:=h3.out.2.1.size
     have hfr:bH P w w2:=HR1.out.2.2.1.up (((bH.of_below HX.out.1).trans h1.out.2.1 fun _ _ h=>h).trans h3.out.2.1 fun b hb hu=>hu.elim id fun h=>absurd h.1 (by omega))
     have HN2:Hid (Em.Av so l k=Em.Av so (l.drop (j+1)) k2/\eG E ns (Up P w w2) w2 kb k2/\bH P w w2/\k.net.places≤k2.net.places):=by
      refine ⟨by rw[e0.out,e1.out,bind_some h2.out],h3.out.1.mono (fun b hb=>?_) (fL HC.out.1.2.2 hfr.size),hfr,by have:=HR1.out.2.2.2;have:=h1.out.2.2;have:=h3.out.2.2;omega⟩
      have:=HR1.out.2.2.1.size
      rcases hb with ((hb|hb)|hb)|hb
      ·exact .inl hb
      ·exact .inr ⟨hb.1,by omega⟩
      ·exact .inr ⟨by omega,by omega⟩
      ·exact .inr ⟨by omega,hb.2⟩
     clear hs1 hs2 hs3 hfr h0 h1 h2 h3 hput hcl hlk hlk1
     go_wp2_with fail
     go_roundg (N-(j+1))
     case measure=>omega
     case rel=>exact ⟨j+1,k2,rfl,by omega,by go_num,HN2.out⟩
   ·obtain rfl:j=N:=by omega
    obtain ⟨hr1,hr2,hr3,hr4⟩:=hr.out
    have HF:Hid (eY E ns P kb w k (Em.Av so l k) (fun _=>.tuple #[]) (.returned (.tuple #[])) wr):=.inr ⟨(),kj,rfl,by rw[Hid,hr1,HN.out,List.drop_length];rfl,hr2,hr3,hr4⟩
    clear hr hr1 hr2 hr3 hr4
    go_wp2_with fail
    go_end0
    exact HF.out
end
end Ew
end
section
open Go.RowKit Px
namespace Ew
open Px.Em (Kd Vr eL eM jG Rg)
open Nx (Nt Sp)
structure yX (A:Nat->Prop) (w:World) (gW o:Nat) (y:eL):Prop where
 d:∃gy oy p q,w.cell? ⟨gW,o,none⟩=some (.pointer (some ⟨gy,oy,none⟩))/\A gy/\iV A w gy oy y.drawn p q
 t:w.cell? ⟨gW,o+1,none⟩=some (.int .i64 y.to)
 l:w.cell? ⟨gW,o+2,none⟩=some (.int .i64 y.left)
def InM {ρ:Type}(A:Nat->Prop) (w:World) (RM:ρ->Nat->Prop) (v:Value) (l:List ρ):Prop:=
 ∃ad g cap,v=.slice ad l.length cap/\l.length≤maxLen/\(0<l.length->ad=some ⟨g,0,none⟩/\A g)/\∀j r,l[j]?=some r->∃gr,w.cell? ⟨g,j,none⟩=some (.pointer (some ⟨gr,0,none⟩))/\RM r gr
structure uG {σ ρ:Type}(A:Nat->Prop) (w:World) (RM:ρ->Nat->Prop) (gS o:Nat) (s:eM σ ρ) (gd od:Nat):Prop where
 d:w.cell? ⟨gS,o,none⟩=some (.pointer (some ⟨gd,od,none⟩))
 dA:A gd/\A gS
 last:w.cell? ⟨gd,od+2,none⟩=some (.bool s.drawn.last)
 en:∃v,w.cell? ⟨gd,od+3,none⟩=some v/\cE A w s.drawn.enter v
 du:∃v,w.cell? ⟨gd,od+4,none⟩=some v/\cE A w s.drawn.during v
 le:∃v,w.cell? ⟨gd,od+5,none⟩=some v/\cE A w s.drawn.leave v
 re:∃p,w.cell? ⟨gd,od+6,none⟩=some (.pointer p)/\jI A w s.drawn.rests (.pointer p)
 wy:∃ad g cap,w.cell? ⟨gS,o+1,none⟩=some (.slice ad s.ways.length cap)/\s.ways.length≤maxLen/\(0<s.ways.length->ad=some ⟨g,0,none⟩/\A g)/\∀j y,s.ways[j]?=some y->yX A w g (j*3) y
 iy:∃v,w.cell? ⟨gS,o+2,none⟩=some v/\InM A w RM v s.inside
 idle:w.cell? ⟨gS,o+3,none⟩=some (.bool s.idle)
 leaves:w.cell? ⟨gS,o+4,none⟩=some (.bool s.leaves)
def mV (A:Nat->Prop) (w:World) (v:Value) (l:List Nat):Prop:=
 ∃ad g cap,v=.slice ad l.length cap/\(0<l.length->ad=some ⟨g,0,none⟩/\A g)/\∀j x:Nat,l[j]?=some x->w.cell? ⟨g,j,none⟩=some (.int .i64 (x:Int))
def Lh {σ ρ:Type}(A:Nat->Prop) (w:World) (RM:ρ->Nat->Prop) (r:jG σ ρ) (g:Nat):Prop:=
 ∃gS ad cap vo,w.heap[g]?=some (.cells #[.slice ad r.states.length cap,vo,.int .i64 r.first,.int .i64 r.there,.bool r.idle,.bool r.leaves] 223 (0,0))/\A g/\(0<r.states.length->ad=some ⟨gS,0,none⟩/\A gS)/\mV A w vo r.order/\∀i s,r.states[i]?=some s->∃gd od,uG A w RM gS (i*5) s gd od
def eV (A:Nat->Prop):(k:Nat)->World->Rg k->Nat->Prop
 | 0=>fun _ _ _=>False
 | k+1=>fun w r g=>Lh A w (eV A k w) r g
section
variable {A A':Nat->Prop}{w w':World}{σ ρ:Type}{RM RM':ρ->Nat->Prop}
theorem cF (k:aX A A' w w') {b o:Nat}{v:Value}(ha:A b) (h:w.cell? ⟨b,o,none⟩=some v):w'.cell? ⟨b,o,none⟩=some v:=by
 rw[World.cell?_of_block (w:=w) (a:=⟨b,o,none⟩) (k b ha (World.block_lt_of_cell? w _ h)).2];exact h
theorem iV.carry (k:aX A A' w w') {gy o:Nat}{y:Wy}{p:Option Addr}{q:Value}(ha:A gy) (h:iV A w gy o y p q):iV A' w' gy o y p q:=by
 obtain ⟨h0,h1,h2,h3,h4,h5,h6,h7,h8⟩:=h
 exact ⟨cF k ha h0,cF k ha h1,cF k ha h2,cF k ha h3,cF k ha h4,cF k ha h5,cF k ha h6,h7.carry k,h8.carry k⟩
theorem yX.carry (k:aX A A' w w') {gW o:Nat}{y:eL}(ha:A gW) (h:yX A w gW o y):yX A' w' gW o y:=by
 obtain ⟨⟨gy,oy,p,q,h1,h2,h3⟩,h4,h5⟩:=h
 exact ⟨⟨gy,oy,p,q,cF k ha h1,(k gy h2 (World.block_lt_of_cell? w _ h3.1)).1,iV.carry k h2 h3⟩,cF k ha h4,cF k ha h5⟩
theorem InM.carry (k:aX A A' w w') (hR:∀r g,RM r g->RM' r g) {v:Value}{l:List ρ}(h:InM A w RM v l):InM A' w' RM' v l:=by
 obtain ⟨ad,g,cap,h1,h2,h3,h4⟩:=h
 refine ⟨ad,g,cap,h1,h2,fun hp=>?_,fun j r hj=>?_⟩
 ·obtain ⟨gr,h5,_⟩:=h4 0 _ (List.getElem?_eq_getElem hp)
  exact ⟨(h3 hp).1,(k g (h3 hp).2 (World.block_lt_of_cell? w _ h5)).1⟩
 ·obtain ⟨gr,h5,h6⟩:=h4 j r hj
  exact ⟨gr,cF k (h3 (by have:=(List.getElem?_eq_some_iff.1 hj).1;omega)).2 h5,hR r gr h6⟩
theorem uG.carry (k:aX A A' w w') (hR:∀r g,RM r g->RM' r g) {gS o:Nat}{s:eM σ ρ}{gd od:Nat}(h:uG A w RM gS o s gd od):uG A' w' RM' gS o s gd od:=by
 obtain ⟨d,⟨a1,a2⟩,la,⟨ve,e1,e2⟩,⟨vd,d1,d2⟩,⟨vl,l1,l2⟩,⟨p,p1,p2⟩,⟨aw,gw,cw,w1,w2,w3,w4⟩,⟨vi,i1,i2⟩,id,le⟩:=h
 refine ⟨cF k a2 d,⟨(k gd a1 (World.block_lt_of_cell? w _ la)).1,(k gS a2 (World.block_lt_of_cell? w _ d)).1⟩,cF k a1 la,⟨ve,cF k a1 e1,e2.carry k⟩,⟨vd,cF k a1 d1,d2.carry k⟩,⟨vl,cF k a1 l1,l2.carry k⟩,⟨p,cF k a1 p1,p2.carry k⟩,⟨aw,gw,cw,cF k a2 w1,w2,fun hp=>?_,fun j y hj=>?_⟩,⟨vi,cF k a2 i1,i2.carry k hR⟩,cF k a2 id,cF k a2 le⟩
 ·have h0:=w4 0 _ (List.getElem?_eq_getElem hp)
  exact ⟨(w3 hp).1,(k gw (w3 hp).2 (World.block_lt_of_cell? w _ h0.t)).1⟩
 ·exact yX.carry k (w3 (by have:=(List.getElem?_eq_some_iff.1 hj).1;omega)).2 (w4 j y hj)
theorem mV.carry (k:aX A A' w w') {v:Value}{l:List Nat}(h:mV A w v l):mV A' w' v l:=by
 obtain ⟨ad,g,cap,h1,h3,h4⟩:=h
 refine ⟨ad,g,cap,h1,fun hp=>?_,fun j x hj=>?_⟩
 ·have h5:=h4 0 _ (List.getElem?_eq_getElem hp)
  exact ⟨(h3 hp).1,(k g (h3 hp).2 (World.block_lt_of_cell? w _ h5)).1⟩
 ·exact cF k (h3 (by have:=(List.getElem?_eq_some_iff.1 hj).1;omega)).2 (h4 j x hj)
theorem Lh.carry (k:aX A A' w w') (hR:∀r g,RM r g->RM' r g) {r:jG σ ρ}{g:Nat}(h:Lh A w RM r g):Lh A' w' RM' r g:=by
 obtain ⟨gS,ad,cap,vo,h1,h2,h3,h4,h5⟩:=h
 have k1:=k g h2 (aB h1)
 refine ⟨gS,ad,cap,vo,by rw[k1.2];exact h1,k1.1,fun hp=>?_,h4.carry k,fun i s hi=>?_⟩
 ·obtain ⟨gd,od,h6⟩:=h5 0 _ (List.getElem?_eq_getElem hp)
  exact ⟨(h3 hp).1,(k gS (h3 hp).2 (World.block_lt_of_cell? w _ h6.d)).1⟩
 ·obtain ⟨gd,od,h6⟩:=h5 i s hi
  exact ⟨gd,od,h6.carry k hR⟩
theorem eV.carry:∀(n:Nat) {A A':Nat->Prop}{w w':World},aX A A' w w'->∀(r:Rg n) (g:Nat),eV A n w r g->eV A' n w' r g
 | 0,_,_,_,_,_,_,_,h=>h
 | n+1,_,_,_,_,k,_,_,h=>Lh.carry k (eV.carry n k) h
end
structure vS (ns:List bB) (n:Nat) (y:eL):Prop where
 c:rL y.drawn.cond
 s:pK ns y.drawn.sets
 t:0≤y.to/\y.to<n
 m:y.drawn.times≤1000000
structure zA {σ ρ:Type}(ns:List bB) (n:Nat) (sub:ρ->Prop) (s:eM σ ρ):Prop where
 en:pK ns s.drawn.enter
 du:pK ns s.drawn.during
 le:pK ns s.drawn.leave
 re:rL s.drawn.rests
 wy:∀y∈s.ways,vS ns n y
 wl:s.ways.length≤1000000
 il:s.inside.length≤1000000
 sub:∀r∈s.inside,sub r
structure Lp {σ ρ:Type}(ns:List bB) (sub:ρ->Prop) (r:jG σ ρ):Prop where
 n:r.states.length≤1000000
 f:0≤r.first/\r.first<r.states.length
 o:∀i∈r.order,i<r.states.length
 ol:r.order.length≤1000000
 st:∀s∈r.states,zA ns r.states.length sub s
def eN (ns:List bB):(k:Nat)->Rg k->Prop
 | 0=>fun _=>True
 | k+1=>fun r=>Lp ns (eN ns k) r
def At (E:Nat) (ns:List bB) (P:Nat->Prop) (kb:Nat) (w:World) (k:Kd) (wr:World) (kj:Kd):Prop:=eG E ns (Up P w wr) wr kb kj/\bH P w wr/\k.net.places≤kj.net.places
section
variable {P A:Nat->Prop}{w wr w2:World}{kb E:Nat}{ns:List bB}{k kj k2:Kd}
theorem At.start (h:eG E ns P w kb k):At E ns P kb w k w k:=⟨h.mono (fun _ h=>.inl h) (fun b hb=>hb.elim (h.2.2 b) fun h=>h.2),bH.refl _ _,Int.le_refl _⟩
theorem At.step (hP:∀b,P b->b<w.heap.size) (h:At E ns P kb w k wr kj) (h2:At E ns (Up P w wr) kb wr kj w2 k2):At E ns P kb w k w2 k2:=
 ⟨h2.1.up hP h.2.1.size h2.2.1.size,h.2.1.up h2.2.1,Int.le_trans h.2.2 h2.2.2⟩
theorem At.below (hP:∀b,P b->b<w.heap.size) (h:At E ns P kb w k wr kj) (hb:Below wr.heap.size wr w2):At E ns P kb w k w2 kj:=by
 have hf:bH P w w2:=h.2.1.trans (bH.of_below (P:=fun _=>False) hb) fun _ _ h=>h.elim
 exact ⟨(h.1.below hb).mono (Up.size hb.size) (fL hP hf.size),hf,h.2.2⟩
theorem At.ran {α:Type}{o o2:Option (α×Kd)}{val:α->Value}{e:Ending}(hP:∀b,P b->b<w.heap.size) (h:At E ns P kb w k wr kj) (ho:o=o2) (h2:eY E ns (Up P w wr) kb wr kj o2 val e w2):eY E ns P kb w k o val e w2:=eY.up hP h.2.1 h.2.2 ho h2
theorem At.ends {α:Type}{o:Option (α×Kd)}{val:α->Value}{a:α}(h:At E ns P kb w k wr kj) (ho:o=some (a,kj)):eY E ns P kb w k o val (.returned (val a)) wr:=.inr ⟨a,kj,rfl,ho,h⟩
theorem At.ro (h:At E ns P kb w k wr kj) (hR:Ro A P w):Ro A (Up P w wr) wr:=hR.up h.2.1.size
theorem At.keep (h:At E ns P kb w k wr kj) (hR:Ro A P w):aX A A w wr:=hR.keep h.2.1
theorem Pg (ad:Option Addr) (g n cap j:Nat) (hk:j<n) (ha:0<n->ad=some ⟨g,0,none⟩) (w:World):(Instr.indexAt 221 (.slice ad n cap) (.int .i64 (j:Int))).run Tryz.prog w=.ok (.pointer (some ⟨g,j*5,none⟩)) w:=by
 obtain rfl:=ha (by omega)
 rw[run_indexAt_slice _ _ _ _ _ _ _ (by kernel_rfl),if_pos ⟨by omega,by omega⟩]
 have e:(sizeOf (Tryz.prog.elem 221)).run Tryz.prog w=.ok 5 w:=by kernel_rfl
 rw[e]
 simp[Result.andThen,Addr.add]
 try (intro h;exact h.symm)
theorem aE5 (ad:Option Addr) (g n cap j:Nat) (hk:j<n) (ha:0<n->ad=some ⟨g,0,none⟩) (w:World):(Instr.indexAt 266 (.slice ad n cap) (.int .i64 (j:Int))).run Tryz.prog w=.ok (.pointer (some ⟨g,j*3,none⟩)) w:=by
 obtain rfl:=ha (by omega)
 rw[run_indexAt_slice _ _ _ _ _ _ _ (by kernel_rfl),if_pos ⟨by omega,by omega⟩]
 have e:(sizeOf (Tryz.prog.elem 266)).run Tryz.prog w=.ok 3 w:=by kernel_rfl
 rw[e]
 simp[Result.andThen,Addr.add]
 try (intro h;exact h.symm)
theorem Vf (ad:Option Addr) (g n cap j:Nat) (hk:j<n) (ha:0<n->ad=some ⟨g,0,none⟩) (w:World):(Instr.indexAt 267 (.slice ad n cap) (.int .i64 (j:Int))).run Tryz.prog w=.ok (.pointer (some ⟨g,j,none⟩)) w:=by
 obtain rfl:=ha (by omega)
 rw[run_indexAt_slice _ _ _ _ _ _ _ (by kernel_rfl),if_pos ⟨by omega,by omega⟩]
 have e:(sizeOf (Tryz.prog.elem 267)).run Tryz.prog w=.ok 1 w:=by kernel_rfl
 rw[e]
 simp[Result.andThen,Addr.add]
 try (intro h;exact h.symm)
theorem Ch {σ ρ:Type}{p:Int}{s:eM σ ρ}{l:List (eM σ ρ)}{i:Nat}{o:Int}(h:s.drawn.last=true):Em.nZ p (s::l) i o k=(Em.is p i >>= fun x=>Em.tN o x >>= fun o'=>Em.nZ p l (i+1) o') k:=by rw[Em.nZ,if_pos h]
theorem Is {σ ρ:Type}{p:Int}{s:eM σ ρ}{l:List (eM σ ρ)}{i:Nat}{o:Int}(h:s.drawn.last=false):Em.nZ p (s::l) i o k=Em.nZ p l (i+1) o k:=by rw[Em.nZ,if_neg (by rw[h];simp)]
theorem Ir {σ ρ:Type}{RM:ρ->Nat->Prop}{r:jG σ ρ}{g:Nat}(hr:Lh A w RM r g) (hn:r.states.length≤1000000) (h:eG E ns P w kb k) (hR:Ro A P w) (hE:E<1000000) :
    Calls Tryz.prog 272 #[.pointer (some ⟨kb,0,none⟩),.pointer (some ⟨g,0,none⟩)] w (eY E ns P kb w k (Em.over r k) (Value.int .i64)):=by
 obtain ⟨gS,ad,cap,vo,hg,hAg,hS,_,hst⟩:=hr
 obtain ⟨N,hN⟩:∃N,N=r.states.length:=⟨_,rfl⟩
 rw[<-hN] at hg hS hn
 have g0:=aA hg 0 (u:=.slice ad N cap) rfl
 have HN:Hid _:=hN
 have HG:Hid (_/\¬P g):=⟨hg,(hR g hAg).2⟩
 have HS:Hid (0<N->ad=some ⟨gS,0,none⟩/\A gS):=hS
 have HST:Hid _:=hst
 have HC:Hid (_/\_):=⟨h,hR⟩
 have hN6:(N:Int)≤1000000:=by omega
 clear h hR hg hAg hS hst hN
 go_enter Tryz.func272,Tryz.ntmps272
 go_wp2_with fail
 clear g0
 go_loopg [5,12] N (fun f ov i wr=>∃(j:Nat) (o:Int) (kj:Kd),f=N-j/\j≤N/\ov=.int .i64 o/\i=.int .i64 (j:Int)/\Hid (Em.over r k=Em.nZ r.there (r.states.drop j) j o kj/\At E ns P kb w k wr kj))
 case atStart=>exact ⟨0,-1,k,by omega,by omega,rfl,rfl,rfl,At.start HC.out.1⟩
 case round=>
  obtain ⟨j,o,kj,rfl,hj,rfl,rfl,hr⟩:=hrel
  by_cases hlt:j<N
  ·obtain ⟨s,hs⟩:∃s,r.states[j]?=some s:=⟨r.states[j]'(by rw[<-HN.out];exact hlt),by rw[List.getElem?_eq_getElem]⟩
   obtain ⟨hr1,hr2⟩:=hr.out
   obtain ⟨gd,od,hse⟩:=HST.out j s hs
   have kp:=hr2.keep HC.out.2
   have hix:=Pg ad gS N cap j hlt (fun hp=>(HS.out hp).1)
   have hgr:=hr2.2.1.heap HG.out.1 HG.out.2
   have g0:=aA hgr 0 (u:=.slice ad N cap) rfl
   have g3:=aA hgr 3 (u:=.int .i64 r.there) rfl
   have d0:=cF kp hse.dA.2 hse.d
   have d1:=cF kp hse.dA.1 hse.last
   rw[dR hs] at hr1
   have HR1:Hid (_/\_):=⟨hr1,hr2⟩
   cases hl:s.drawn.last with
   | true=>
    rw[hl] at d1
    have his:=G1 r.there j (by omega) hr2.1 hE
    have HP:Hid _:=HC.out.1.2.2
    have a0:Hid (At E ns P kb w k wr kj):=hr2
    have e0:Hid (Em.over r k=(Em.is r.there j >>= fun x=>Em.tN o x >>= fun o'=>Em.nZ r.there (r.states.drop (j+1)) (j+1) o') kj):=by rw[Hid,HR1.out.1,Ch hl]
    clear hr hr1 hr2 hse kp hgr hl hs HR1
    go_wp2_with (first
     | (go_at_call 204;refine his.mono ?_;rintro e w1 (⟨rfl,h0,h1⟩|⟨x1,k1,rfl,h0,h1⟩);(· exact ⟨rfl,At.ran HP.out a0.out e0.out (.inl ⟨rfl,aF h0.out,h1⟩)⟩);have a1:Hid (At E ns P kb w k w1 k1):=a0.out.step HP.out h1.out;have e1:Hid _:=e0.out.trans (bind_some h0.out);clear h0 h1 his;have hor:=oZ o x1 a1.out.1 hE)
     | (go_at_call 239;refine hor.mono ?_;rintro e w2 (⟨rfl,h0,h1⟩|⟨x2,k2,rfl,h0,h1⟩);(· exact ⟨rfl,At.ran HP.out a1.out e1.out (.inl ⟨rfl,aF h0.out,h1⟩)⟩);have a2:Hid (At E ns P kb w k w2 k2):=a1.out.step HP.out h1.out;have e2:Hid _:=e1.out.trans (bind_some h0.out);clear h0 h1 hor))
    go_roundg (N-(j+1))
    case measure=>omega
    case rel=>exact ⟨j+1,x2,k2,rfl,by omega,rfl,by go_num,e2.out,a2.out⟩
   | false=>
    rw[hl] at d1
    have HN2:Hid (Em.over r k=Em.nZ r.there (r.states.drop (j+1)) (j+1) o kj/\_):=⟨by rw[HR1.out.1,Is hl],hr2⟩
    clear hr hr1 hr2 hse kp hgr hl hs
    go_wp2_with fail
    go_roundg (N-(j+1))
    case measure=>omega
    case rel=>exact ⟨j+1,o,kj,rfl,by omega,rfl,by go_num,HN2.out⟩
  ·obtain rfl:j=N:=by omega
   obtain ⟨hr1,hr2⟩:=hr.out
   have HF:Hid (eY E ns P kb w k (Em.over r k) (Value.int .i64) (.returned (.int .i64 o)) wr):=At.ends hr2 (by rw[hr1,HN.out,List.drop_length];rfl)
   clear hr hr1 hr2
   go_wp2_with fail
   go_ret
   exact HF.out
end
end Ew
end
end Go.Proofs.YtcdbhoknhnimcaaGreatDoor
