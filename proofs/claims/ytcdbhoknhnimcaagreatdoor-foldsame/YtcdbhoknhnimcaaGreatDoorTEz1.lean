import Derived.Test.YtcdbhoknhnimcaaGreatDoorTEy
import Derived.Test.YtcdbhoknhnimcaaGreatDoorTCk2
namespace Go.Proofs.YtcdbhoknhnimcaaGreatDoor
section
open Go.RowKit Px
namespace Ew
open Px.Em (Kd Vr eL eM jG Rg cR)
open Nx (Nt Sp)
section
variable {A A' P Pj Rj:Nat->Prop}{w wr w':World}{ns:List bB}{kb gS g n d E gd od:Nat}{k kj:Kd}{ss:List (eM (St d) (Rg d))}{vo vw vi:Value}{fi th:Int}{id lv:Bool}
theorem Sy.carry (kp:aX A A' w w') {s:eM (St d) (Rg d)}(h:Sy A w s gd od vw vi):Sy A' w' s gd od vw vi:=by
 obtain ⟨d0,d2,⟨v3,d3,e3⟩,⟨v4,d4,e4⟩,⟨v5,d5,e5⟩,⟨p6,d6,e6⟩,⟨ad,gw,cap,w1,w2,w3,w4⟩,ad',gi,cap',i1,i2,i3,i4⟩:=h
 refine ⟨(kp gd d0 (World.block_lt_of_cell? w _ d2)).1,cF kp d0 d2,⟨v3,cF kp d0 d3,e3.carry kp⟩,⟨v4,cF kp d0 d4,e4.carry kp⟩,⟨v5,cF kp d0 d5,e5.carry kp⟩,⟨p6,cF kp d0 d6,e6.carry kp⟩,⟨ad,gw,cap,w1,w2,fun hp=>?_,fun j y hy=>?_⟩,ad',gi,cap',i1,i2,fun hp=>?_,fun j r hr=>?_⟩
 ·obtain ⟨y,hy⟩:∃y,s.ways[0]?=some y:=⟨_,List.getElem?_eq_getElem hp⟩
  exact ⟨(w3 hp).1,(kp gw (w3 hp).2 (World.block_lt_of_cell? w _ (w4 0 y hy).t)).1⟩
 ·have hp:0<s.ways.length:=by have:=(List.getElem?_eq_some_iff.1 hy).1;omega
  exact (w4 j y hy).carry kp (w3 hp).2
 ·obtain ⟨y,hy⟩:∃y,s.inside[0]?=some y:=⟨_,List.getElem?_eq_getElem hp⟩
  obtain ⟨gr,h1,_⟩:=i4 0 y hy
  exact ⟨(i3 hp).1,(kp gi (i3 hp).2 (World.block_lt_of_cell? w _ h1)).1⟩
 ·have hp:0<s.inside.length:=by have:=(List.getElem?_eq_some_iff.1 hr).1;omega
  obtain ⟨gr,h1,h2⟩:=i4 j r hr
  exact ⟨gr,cF kp (i3 hp).2 h1,eV.carry d kp r gr h2⟩
def Ap (A:Nat->Prop) (w:World) (cs:List Value) (i:Nat) (s:eM (St d) (Rg d)):Prop:=
 ∃gd od vw vi,cs[i*5]?=some (.pointer (some ⟨gd,od,none⟩))/\cs[i*5+1]?=some vw/\cs[i*5+2]?=some vi/\cs[i*5+3]?=some (.bool s.idle)/\cs[i*5+4]?=some (.bool s.leaves)/\Sy A w s gd od vw vi
theorem Ap.carry (kp:aX A A' w w') {cs:List Value}{i:Nat}{s:eM (St d) (Rg d)}(h:Ap A w cs i s):Ap A' w' cs i s:=by
 obtain ⟨gd,od,vw,vi,h0,h1,h2,h3,h4,h5⟩:=h
 exact ⟨gd,od,vw,vi,h0,h1,h2,h3,h4,h5.carry kp⟩
end
structure LR (A:Nat->Prop) (ns:List bB) (P:Nat->Prop) (kb:Nat) (w:World) (k:Kd) (gS g n d E:Nat) (Pj Rj:Nat->Prop) (wr:World) (kj:Kd) (ss:List (eM (St d) (Rg d))) (cs:List Value) (vo:Value) (fi th:Int) (id lv:Bool):Prop where
 cm:eG E ns Pj wr kb kj
 up:∀x,Pj x->Up P w wr x
 dr:∀x,Pj x->¬Rj x
 rn:∀x,Rj x->w.heap.size≤x/\x<wr.heap.size
 fr:bH P w wr
 pl:k.net.places≤kj.net.places
 hg:wr.heap[g]?=some (.cells #[.slice (some ⟨gS,0,none⟩) n n,vo,.int .i64 fi,.int .i64 th,.bool id,.bool lv] 223 (0,0))
 gl:w.heap.size≤g/\¬Pj g/\¬Rj g/\g≠gS
 hs:wr.heap[gS]?=some (.cells cs.toArray 269 (0,0))/\cs.length=n*5
 sl:w.heap.size≤gS/\¬Pj gS/\¬Rj gS
 st:∀i s,ss[i]?=some s->Ap (fun x=>A x\/Rj x) wr cs i s
section
variable {A P Pj Rj:Nat->Prop}{w wr w':World}{ns:List bB}{kb gS g n d E:Nat}{k kj:Kd}{ss:List (eM (St d) (Rg d))}{cs:List Value}{vo:Value}{fi th:Int}{id lv:Bool}
theorem LR.coder {E':Nat}{P' R':Nat->Prop}{k':Kd}(hR:Ro A P w) (h:LR A ns P kb w k gS g n d E Pj Rj wr kj ss cs vo fi th id lv) (hc:eG E' ns P' w' kb k') (hu:∀x,P' x->Up Pj wr w' x) (hd:∀x,P' x->¬R' x) (hr:∀x,R' x->wr.heap.size≤x/\x<w'.heap.size) (hf:bH Pj wr w') (hp:kj.net.places≤k'.net.places) :
    LR A ns P kb w k gS g n d E' P' (fun x=>Rj x\/R' x) w' k' ss cs vo fi th id lv:=by
 have s0:=h.fr.size
 have s1:=hf.size
 have lg:=aB h.hg
 have ls:=aB h.hs.1
 have nP:∀x,x<wr.heap.size->¬Pj x->¬P' x:=fun x hx hn hp=>(hu x hp).elim hn fun h=>absurd h.1 (by omega)
 have nR:∀x,x<wr.heap.size->¬Rj x->¬(Rj x\/R' x):=fun x hx hn h=>h.elim hn fun h=>absurd (hr x h).1 (by omega)
 have nA:∀x,A x->¬Pj x:=fun x hx hp=>(h.up x hp).elim (hR x hx).2 fun h=>absurd h.1 (by have:=(hR x hx).1;omega)
 have kpR:aX (fun x=>A x\/Rj x) (fun x=>A x\/Rj x\/R' x) wr w':=fun x hx hl=>⟨hx.elim .inl fun h=>.inr (.inl h),hf.block x hl (hx.elim (nA x) fun h' hp=>h.dr x hp h')⟩
 refine ⟨hc,fun x hx=>?_,fun x hx h'=>?_,fun x hx=>?_,h.fr.trans hf fun x hx hq=>(h.up x hq).elim (fun h=>h) fun h=>absurd h.1 (by omega),Int.le_trans h.pl hp,hf.heap h.hg h.gl.2.1,⟨h.gl.1,nP g lg h.gl.2.1,nR g lg h.gl.2.2.1,h.gl.2.2.2⟩,⟨hf.heap h.hs.1 h.sl.2.1,h.hs.2⟩,⟨h.sl.1,nP gS ls h.sl.2.1,nR gS ls h.sl.2.2⟩,fun i s hs=>(h.st i s hs).carry kpR⟩
 ·rcases hu x hx with h'|h'
  ·exact Up.size s1 x (h.up x h')
  ·exact .inr ⟨by omega,h'.2⟩
 ·rcases h' with h'|h'
  ·rcases hu x hx with hp|hp
   ·exact h.dr x hp h'
   ·have:=(h.rn x h').2;omega
  ·exact hd x hx h'
 ·rcases hx with hx|hx
  ·exact ⟨(h.rn x hx).1,by have:=(h.rn x hx).2;omega⟩
  ·exact ⟨by have:=(hr x hx).1;omega,(hr x hx).2⟩
theorem LR.below (h:LR A ns P kb w k gS g n d E Pj Rj wr kj ss cs vo fi th id lv) (hb:Below wr.heap.size wr w'):LR A ns P kb w k gS g n d E Pj Rj w' kj ss cs vo fi th id lv:=
 ⟨h.cm.below hb,fun x hx=>Up.size hb.size x (h.up x hx),h.dr,fun x hx=>⟨(h.rn x hx).1,Nat.lt_of_lt_of_le (h.rn x hx).2 hb.size⟩,h.fr.trans (bH.of_below (P:=fun _=>False) hb) fun _ _ h=>h.elim,h.pl,aH hb h.hg,h.gl,⟨aH hb h.hs.1,h.hs.2⟩,h.sl,fun i s hs=>(h.st i s hs).carry fun x hx hl=>⟨hx,hb.block x hl⟩⟩
theorem LR.flag (h:LR A ns P kb w k gS g n d E Pj Rj wr kj ss cs vo fi th id lv) (hA:∀x,A x->x<w.heap.size) {j:Nat}{v vo':Value}{fi' th':Int}{id' lv':Bool}(hl:[Value.slice (some ⟨gS,0,none⟩) n n,vo,.int .i64 fi,.int .i64 th,.bool id,.bool lv].set j v=[Value.slice (some ⟨gS,0,none⟩) n n,vo',.int .i64 fi',.int .i64 th',.bool id',.bool lv']) :
    LR A ns P kb w k gS g n d E Pj Rj (wr.setCell ⟨g,j,none⟩ v) kj ss cs vo' fi' th' id' lv':=by
 have hz:(wr.setCell ⟨g,j,none⟩ v).heap.size=wr.heap.size:=by simp[World.setCell]
 have hk:∀x,x≠g->(wr.setCell ⟨g,j,none⟩ v).heap[x]?=wr.heap[x]?:=fun x hx=>Below.heap_setCell _ _ _ _ hx
 have hAq:∀x,A x->x≠g:=fun x hx e=>by have:=hA x hx;have:=h.gl.1;omega
 have hs:=bQ (l:=[Value.slice (some ⟨gS,0,none⟩) n n,vo,.int .i64 fi,.int .i64 th,.bool id,.bool lv]) h.hg j v
 rw[hl] at hs
 exact ⟨⟨h.cm.1.imp fun _ hc=>hc.carry fun x hx _=>⟨hx,hk x fun e=>h.gl.2.1 (e▸hx)⟩,h.cm.2.1,fun x hx=>by rw[hz];exact h.cm.2.2 x hx⟩,fun x hx=>Up.size (by rw[hz];exact Nat.le_refl _) x (h.up x hx),h.dr,fun x hx=>by rw[hz];exact h.rn x hx,h.fr.setCell (.inr h.gl.1) _,h.pl,hs,h.gl,⟨by rw[hk gS (fun e=>h.gl.2.2.2 e.symm)];exact h.hs.1,h.hs.2⟩,h.sl,fun i s hi=>(h.st i s hi).carry fun x hx _=>⟨hx,hk x (hx.elim (hAq x) fun hr e=>h.gl.2.2.1 (e▸hr))⟩⟩
theorem LR.set (h:LR A ns P kb w k gS g n d E Pj Rj wr kj ss cs vo fi th id lv) (hA:∀x,A x->x<w.heap.size) {j:Nat}(hj:ss.length*5≤j) (v:Value) :
    LR A ns P kb w k gS g n d E Pj Rj (wr.setCell ⟨gS,j,none⟩ v) kj ss (cs.set j v) vo fi th id lv:=by
 have hz:(wr.setCell ⟨gS,j,none⟩ v).heap.size=wr.heap.size:=by simp[World.setCell]
 have hk:∀x,x≠gS->(wr.setCell ⟨gS,j,none⟩ v).heap[x]?=wr.heap[x]?:=fun x hx=>Below.heap_setCell _ _ _ _ hx
 have hAq:∀x,A x->x≠gS:=fun x hx e=>by have:=hA x hx;have:=h.sl.1;omega
 refine ⟨⟨h.cm.1.imp fun _ hc=>hc.carry fun x hx _=>⟨hx,hk x fun e=>h.sl.2.1 (e▸hx)⟩,h.cm.2.1,fun x hx=>by rw[hz];exact h.cm.2.2 x hx⟩,fun x hx=>Up.size (by rw[hz];exact Nat.le_refl _) x (h.up x hx),h.dr,fun x hx=>by rw[hz];exact h.rn x hx,h.fr.setCell (.inr h.sl.1) _,h.pl,by rw[hk g h.gl.2.2.2];exact h.hg,h.gl,⟨bQ h.hs.1 j v,by rw[List.length_set];exact h.hs.2⟩,h.sl,fun i s hi=>?_⟩
 have hl:=(List.getElem?_eq_some_iff.1 hi).1
 obtain ⟨gd,od,vw,vi,h0,h1,h2,h3,h4,h5⟩:=(h.st i s hi).carry (A':=fun x=>A x\/Rj x) (w':=wr.setCell ⟨gS,j,none⟩ v) fun x hx _=>⟨hx,hk x (hx.elim (hAq x) fun hr e=>h.sl.2.2 (e▸hr))⟩
 exact ⟨gd,od,vw,vi,by rw[List.getElem?_set_ne (by omega)];exact h0,by rw[List.getElem?_set_ne (by omega)];exact h1,by rw[List.getElem?_set_ne (by omega)];exact h2,by rw[List.getElem?_set_ne (by omega)];exact h3,by rw[List.getElem?_set_ne (by omega)];exact h4,h5⟩
theorem LR.more (h:LR A ns P kb w k gS g n d E Pj Rj wr kj ss cs vo fi th id lv) {s:eM (St d) (Rg d)}(hs:Ap (fun x=>A x\/Rj x) wr cs ss.length s):LR A ns P kb w k gS g n d E Pj Rj wr kj (ss++[s]) cs vo fi th id lv:=by
 refine { h with st:=fun i t hi=>?_ }
 rcases Nat.lt_trichotomy i ss.length with hl|rfl|hl
 ·rw[List.getElem?_append_left hl] at hi
  exact h.st i t hi
 ·rw[List.getElem?_concat_length] at hi
  injection hi with hi
  exact hi▸hs
 ·rw[List.getElem?_eq_none (by simp;omega)] at hi
  exact absurd hi (by simp)
theorem LR.put (h:LR A ns P kb w k gS g n d E Pj Rj wr kj ss cs vo fi th id lv) (hA:∀x,A x->x<w.heap.size) {s:eM (St d) (Rg d)}{gd od:Nat}{vw vi:Value}(hn:ss.length<n) (hV:Sy (fun x=>A x\/Rj x) wr s gd od vw vi) {i:Nat}(hi:i=ss.length) :
    ∃cs',LR A ns P kb w k gS g n d E Pj Rj (((((wr.setCell ⟨gS,i*5,none⟩ (.pointer (some ⟨gd,od,none⟩))).setCell ⟨gS,i*5+1,none⟩ vw).setCell ⟨gS,i*5+2,none⟩ vi).setCell ⟨gS,i*5+3,none⟩ (.bool s.idle)).setCell ⟨gS,i*5+4,none⟩ (.bool s.leaves)) kj (ss++[s]) cs' vo fi th id lv:=by
 have h1:=((((h.set hA (j:=i*5) (by omega) (.pointer (some ⟨gd,od,none⟩))).set hA (j:=i*5+1) (by omega) vw).set hA (j:=i*5+2) (by omega) vi).set hA (j:=i*5+3) (by omega) (.bool s.idle)).set hA (j:=i*5+4) (by omega) (.bool s.leaves)
 refine ⟨_,h1.more ⟨gd,od,vw,vi,?_,?_,?_,?_,?_,hV.carry fun x hx _=>⟨hx,?_⟩⟩⟩
 all_goals first
  | (rw[<-hi];have hc:=h.hs.2;simp[List.getElem?_set];omega)
  | skip
 have hx':x≠gS:=fun e=>by
  rcases hx with hx|hx
  ·have:=hA x hx;have:=h.sl.1;omega
  ·exact h.sl.2.2 (e▸hx)
 rw[Below.heap_setCell _ _ _ _ hx',Below.heap_setCell _ _ _ _ hx',Below.heap_setCell _ _ _ _ hx',Below.heap_setCell _ _ _ _ hx',Below.heap_setCell _ _ _ _ hx']
theorem LR.done {w0:World}{order:List Nat}(h:LR A ns P kb w k gS g n d E Pj Rj wr kj ss cs vo fi th id lv) (hb:Below w0.heap.size w0 w) (hn:ss.length=n) (ho:mV (fun x=>A x\/Rj x) wr vo order) (hok:eN ns (d+1) (⟨ss,order,fi,th,id,lv⟩:jG (St d) (Rg d))) (hth:0≤th/\th<kj.net.places) :
    Laid A ns P kb w0 k (d+1) E (⟨ss,order,fi,th,id,lv⟩:jG (St d) (Rg d)) g Pj (fun x=>Rj x\/x=g\/x=gS) wr kj:=by
 have s0:=h.fr.size
 have s1:=hb.size
 have lg:=aB h.hg
 have ls:=aB h.hs.1
 have kR:aX (fun x=>A x\/Rj x) (fun x=>A x\/Rj x\/x=g\/x=gS) wr wr:=fun x hx _=>⟨hx.elim .inl fun h=>.inr (.inl h),rfl⟩
 refine ⟨h.cm,fun x hx=>(h.up x hx).elim .inl fun h=>.inr ⟨by omega,h.2⟩,fun x hx h'=>?_,fun x hx=>?_,(bH.of_below hb).trans h.fr fun _ _ h=>h,h.pl,?_,hok,hth⟩
 ·rcases h' with h'|rfl|rfl
  ·exact h.dr x hx h'
  ·exact h.gl.2.1 hx
  ·exact h.sl.2.1 hx
 ·rcases hx with hx|rfl|rfl
  ·have:=h.rn x hx;omega
  ·have:=h.gl.1;omega
  ·have:=h.sl.1;omega
 ·refine ⟨gS,some ⟨gS,0,none⟩,n,vo,by show wr.heap[g]?=some (.cells #[.slice (some ⟨gS,0,none⟩) ss.length n,_,_,_,_,_] _ _);rw[hn];exact h.hg,.inr (.inr (.inl rfl)),fun _=>⟨rfl,.inr (.inr (.inr rfl))⟩,ho.carry kR,fun i s hi=>?_⟩
  obtain ⟨gd,od,vw,vi,h0,h1,h2,h3,h4,h5⟩:=(h.st i s hi).carry kR
  obtain ⟨d0,d2,e3,e4,e5,e6,⟨ad,gw,cap,rfl,w2,w3,w4⟩,e8⟩:=h5
  exact ⟨gd,od,aA h.hs.1 _ (by simpa using h0),⟨d0,.inr (.inr (.inr rfl))⟩,d2,e3,e4,e5,e6,⟨ad,gw,cap,aA h.hs.1 _ (by simpa using h1),w2,w3,w4⟩,⟨vi,aA h.hs.1 _ (by simpa using h2),e8⟩,aA h.hs.1 _ (by simpa using h3),aA h.hs.1 _ (by simpa using h4)⟩
end
end Ew
end
section
namespace Px
def E4 (o:List Nat):Nat->Nat->Option Nat
 | 0,_=>none
 | p+1,k=>if o.getD p 0=k then some p else E4 o p k
theorem zP {o:List Nat}:∀{p k q:Nat},E4 o p k=some q->q<p/\o.getD q 0=k:=by
 intro p
 induction p with
 | zero=>intro k q h;simp[E4] at h
 | succ p ih=>
  intro k q h
  rw[E4] at h
  split at h
  ·rename_i he
   injection h with h
   subst h
   exact ⟨by omega,he⟩
  ·have:=ih h
   exact ⟨by omega,this.2⟩
def Wv (o:List Nat):Prop:=∀p q,p<o.length->q<o.length->o.getD p 0=o.getD q 0->p=q
theorem Ug {o:List Nat}(ho:Wv o):∀{p q:Nat},q<p->p≤o.length->E4 o p (o.getD q 0)=some q:=by
 intro p
 induction p with
 | zero=>intro q h _;omega
 | succ p ih=>
  intro q h hp
  rw[E4]
  split
  ·rename_i he
   rw[ho p q (by omega) (by omega) he]
  ·rename_i hne
   by_cases e:q=p
   ·subst e;exact absurd rfl hne
   ·exact ih (by omega) (by omega)
theorem fX (o:List Nat) (j p:Nat) (hp:p<o.length):(o++[j]).getD p 0=o.getD p 0:=by
 rw[List.getD_eq_getElem?_getD,List.getD_eq_getElem?_getD,List.getElem?_append_left hp]
theorem tX (o:List Nat) (j:Nat):(o++[j]).getD o.length 0=j:=by
 rw[List.getD_eq_getElem?_getD,List.getElem?_append_right (Nat.le_refl _)];simp
theorem sA (o:List Nat) (k:Nat):k∈o↔∃p,p<o.length/\o.getD p 0=k:=by
 constructor
 ·intro h
  obtain ⟨p,hp,he⟩:=List.getElem_of_mem h
  exact ⟨p,hp,by rw[List.getD_eq_getElem?_getD,List.getElem?_eq_getElem hp];exact he⟩
 ·rintro ⟨p,hp,rfl⟩
  rw[List.getD_eq_getElem?_getD,List.getElem?_eq_getElem hp]
  exact List.getElem_mem hp
theorem Kq {G:List (List (Option Nat))}{T:List Bool}{j:Nat}:∀{k:Nat},qI G T j k=0->∀i,i<k->T.getD i false=false->(G.getD i []).count (some j)=0:=by
 intro k
 induction k with
 | zero=>intro _ i h;omega
 | succ k ih=>
  intro h i hi ht
  rw[qI] at h
  by_cases e:i=k
  ·subst e
   rw[ht] at h
   simp only[Bool.false_eq_true,if_false] at h
   omega
  ·exact ih (by omega) i (by omega) ht
structure aP5 (G:List (List (Option Nat))) (o:List Nat) (T:List Bool):Prop where
 once:Wv o
 told:∀k,k<G.length->(T.getD k false=true↔k∈o)
 low:∀k∈o,k<G.length
 len:T.length=G.length
 ahead:∀q,q<o.length->∀k,k<G.length->some (o.getD q 0)∈G.getD k []->∃p,p<q/\o.getD p 0=k
theorem Kl {G:List (List (Option Nat))}:∀{r:Nat}{o:List Nat}{T:List Bool},oY G r=some (o,T)->aP5 G o T:=by
 intro r
 induction r with
 | zero=>
  intro o T h
  rw[oY] at h
  injection h with h
  injection h with h1 h2
  subst h1;subst h2
  exact ⟨fun p q hp=>absurd hp (by simp),fun k _=>by rw[pZ];simp,by simp,by simp,fun q hq=>absurd hq (by simp)⟩
 | succ r ih=>
  intro o T h
  rw[oY] at h
  split at h
  ·exact absurd h (by simp)
  ·rename_i o' T' hr
   split at h
   ·exact absurd h (by simp)
   ·rename_i j hj
    injection h with h
    injection h with h1 h2
    subst h1;subst h2
    have F:=ih hr
    obtain ⟨n1,n2,_⟩:=nI hj
    unfold mC at n2
    simp only[Bool.and_eq_true,Bool.not_eq_true',decide_eq_true_eq] at n2
    have hjo:j∉o':=fun hm=>by have:=(F.told j n1).2 hm;rw[n2.1] at this;simp at this
    refine ⟨?_,?_,?_,by rw[List.length_set];exact F.len,?_⟩
    ·intro p q hp hq he
     rw[List.length_append,List.length_singleton] at hp hq
     by_cases e1:p<o'.length
     ·by_cases e2:q<o'.length
      ·rw[fX _ _ _ e1,fX _ _ _ e2] at he
       exact F.once p q e1 e2 he
      ·obtain rfl:q=o'.length:=by omega
       rw[fX _ _ _ e1,tX] at he
       exact absurd ((sA _ _).2 ⟨p,e1,he⟩) hjo
     ·obtain rfl:p=o'.length:=by omega
      by_cases e2:q<o'.length
      ·rw[fX _ _ _ e2,tX] at he
       exact absurd ((sA _ _).2 ⟨q,e2,he.symm⟩) hjo
      ·omega
    ·intro k hk
     rw[rX T' j k (by rw[F.len];exact n1)]
     by_cases e:j=k
     ·subst e;simp
     ·rw[if_neg e,F.told k hk]
      simp[Ne.symm e]
    ·intro k hk
     rcases List.mem_append.1 hk with hk|hk
     ·exact F.low k hk
     ·rw[List.mem_singleton.1 hk];exact n1
    ·intro q hq k hk hm
     rw[List.length_append,List.length_singleton] at hq
     by_cases e:q<o'.length
     ·rw[fX _ _ _ e] at hm
      obtain ⟨p,hp,he⟩:=F.ahead q e k hk hm
      exact ⟨p,hp,by rw[fX _ _ _ (by omega)];exact he⟩
     ·obtain rfl:q=o'.length:=by omega
      rw[tX] at hm
      have hk1:k∈o':=by
       rw[<-F.told k hk]
       cases ht:T'.getD k false with
       | true=>rfl
       | false=>
        have:=Kq n2.2 k hk ht
        exact absurd hm (List.count_eq_zero.1 this)
      obtain ⟨p,hp,he⟩:=(sA _ _).1 hk1
      exact ⟨p,hp,by rw[fX _ _ _ hp];exact he⟩
theorem Ki:∀(n:Nat) (o:List Nat),o.Nodup->(∀k∈o,k<n)->o.length≤n:=by
 intro n
 induction n with
 | zero=>
  intro o _ h
  cases o with
  | nil=>simp
  | cons a r=>exact absurd (h a (by simp)) (by omega)
 | succ n ih=>
  intro o hd h
  by_cases hm:n∈o
  ·have h1:=ih (o.erase n) (hd.erase n) (fun k hk=>by
    have h2:=(hd.mem_erase_iff).1 hk
    have:=h k h2.2
    have:=h2.1
    omega)
   have:=List.length_erase_of_mem hm
   omega
  ·have:=ih o hd (fun k hk=>by
    have:=h k hk
    have:k≠n:=fun e=>hm (e▸hk)
    omega)
   omega
theorem Oc:∀(n:Nat) (o:List Nat),Wv o->(∀k∈o,k<n)->o.length=n->∀k,k<n->k∈o:=by
 intro n o ho hl hn k hk
 have hnd:o.Nodup:=by
  rw[List.nodup_iff_pairwise_ne,List.pairwise_iff_getElem]
  intro i j hi hj hij he
  have:=ho i j hi hj (by rw[List.getD_eq_getElem?_getD,List.getD_eq_getElem?_getD,List.getElem?_eq_getElem hi,List.getElem?_eq_getElem hj];exact congrArg (fun x=>(some x).getD 0) he)
  omega
 by_cases hm:k∈o
 ·exact hm
 ·have:=Ki n (k::o) (List.nodup_cons.2 ⟨hm,hnd⟩) (fun x hx=>by
   rcases List.mem_cons.1 hx with rfl|hx
   ·exact hk
   ·exact hl x hx)
  rw[List.length_cons] at this
  omega
theorem Ci {G:List (List (Option Nat))}{o:List Nat}(h:eJ G=some o):o.length=G.length/\Wv o/\(∀k∈o,k<G.length)/\(∀k,k<G.length->∃p,E4 o o.length k=some p)/\∀k j,k<G.length->j<G.length->some j∈G.getD k []->∀p q,E4 o o.length k=some p->E4 o o.length j=some q->p<q:=by
 unfold eJ at h
 cases hk:oY G G.length with
 | none=>rw[hk] at h;simp at h
 | some x=>
  obtain ⟨o',T⟩:=x
  rw[hk] at h
  simp at h
  subst h
  have F:=Kl hk
  have hl:=(tM hk).2.1
  refine ⟨hl,F.once,F.low,fun k hk'=>?_,fun k j hk' hj hm p q hp hq=>?_⟩
  ·obtain ⟨p,hp,he⟩:=(sA _ _).1 (Oc _ o' F.once F.low hl k hk')
   exact ⟨p,by rw[<-he];exact Ug F.once hp (Nat.le_refl _)⟩
  ·obtain ⟨p1,p2⟩:=zP hp
   obtain ⟨q1,q2⟩:=zP hq
   obtain ⟨p',hp',he⟩:=F.ahead q q1 k hk' (by rw[q2];exact hm)
   have:=F.once p p' p1 (by omega) (by rw[p2,he])
   omega
section
variable {ρ:Type}
theorem Lv {vs:List bJ}{ns:List bB}{b:Bool}:∀{l:List Wy},kL vs ns b l=0->∀y∈l,∃i,jK ns y.to=some i:=by
 intro l
 induction l with
 | nil=>intro _ y hy;simp at hy
 | cons a r ih=>
  intro h y hy
  rw[kL] at h
  by_cases e:mY vs ns b a=0
  ·rw[if_neg (by simp[e])] at h
   rcases List.mem_cons.1 hy with rfl|hy
   ·cases hf:jK ns y.to with
    | some i=>exact ⟨i,rfl⟩
    | none=>unfold mY at e;rw[hf] at e;simp at e
   ·exact ih h y hy
  ·rw[if_pos e] at h
   exact absurd h e
theorem Hv {vs:List bJ}{ns:List bB}{i:Nat}{s:cC ρ}(h:iY vs ns i s=0):∀y∈s.ways,∃i,jK ns y.to=some i:=by
 unfold iY at h
 split at h
 ·simp at h
 ·unfold yG at h
  split at h
  ·simp at h
  ·split at h
   ·contradiction
   ·split at h
    ·contradiction
    ·split at h
     ·contradiction
     ·split at h
      ·simp at h
      ·exact Lv h
theorem qZ {vs:List bJ}{R:List ρ->Nat->B6}{ns:List bB}:∀{l:List (cC ρ)}{i n m:Nat},fV vs R ns l i n=.ok m->∀s∈l,(∃i,iY vs ns i s=0)/\∃n m,gK R s.regions n=.ok m:=by
 intro l
 induction l with
 | nil=>intro i n m _ s hs;simp at hs
 | cons a r ih=>
  intro i n m h s hs
  rw[fV] at h
  split at h
  ·exact absurd h (by simp)
  ·rename_i he
   split at h
   ·exact absurd h (by simp)
   ·rename_i m' hm'
    rcases List.mem_cons.1 hs with rfl|hs
    ·exact ⟨⟨i,by omega⟩,_,_,hm'⟩
    ·exact ih h s hs
theorem mM {R:List ρ->Nat->B6}:∀{l:List (List ρ)}{n m:Nat},gK R l n=.ok m->∀r∈l,∃n m,R r n=.ok m:=by
 intro l
 induction l with
 | nil=>intro n m _ r hr;simp at hr
 | cons a r ih=>
  intro n m h x hx
  rw[gK] at h
  split at h
  ·exact absurd h (by simp)
  ·rename_i m' hm'
   rcases List.mem_cons.1 hx with rfl|hx
   ·exact ⟨_,_,hm'⟩
   ·exact ih h x hx
def aH5 (l:List (cC ρ)):Prop:=∃o,eJ (cL l)=some o/\Xa (bA l)/\∀s∈l,∀y∈s.ways,∃i,jK (bA l) y.to=some i
theorem Ua {vs:List bJ}{R:List ρ->Nat->B6}{l:List (cC ρ)}{n m:Nat}(h:oI vs R l n=.ok m):aH5 l/\∀s∈l,∃n m,gK R s.regions n=.ok m:=by
 unfold oI at h
 split at h
 ·exact absurd h (by simp)
 ·rename_i m' hs
  split at h
  ·exact absurd h (by simp)
  ·rename_i hw
   have hw:cN l=0:=by omega
   unfold cN at hw
   split at hw
   ·simp at hw
   ·split at hw
    ·simp at hw
    ·split at hw
     ·simp at hw
     ·rename_i ho
      cases hg:eJ (cL l) with
      | none=>rw[hg] at ho;simp at ho
      | some o=>exact ⟨⟨o,hg,Ii hs,fun s hs'=>by obtain ⟨⟨i,hi⟩,_⟩:=qZ hs s hs';exact Hv hi⟩,fun s hs'=>(qZ hs s hs').2⟩
end
end Px
end
section
open Go.RowKit Px
namespace Ew
open Px.Em (Kd Vr eL eM jG Rg cR)
open Nx (Nt Sp)
theorem Vm:(Tryz.prog.info? 269).map (fun i=>(i.zero,i.size,i.bytes))=some (some (.agg #[.pointer none,.slice none 0 0,.slice none 0 0,.bool false,.bool false]),5,64):=by kernel_rfl
theorem Yu (n:Nat) (hn:n≤1000000):∃cs:List Value,cs.length=n*5/\∀W,(Instr.makeSlice 221 (.int .i64 (n:Int)) (.int .i64 (n:Int))).run Tryz.prog W=.ok (.slice (some ⟨W.heap.size,0,none⟩) n n) (W.alloc (.cells cs.toArray 269)):=by
 obtain ⟨i0,hi,hz0,hz1,hz2⟩:=info_parts Vm
 refine ⟨(madeCells (Value.cells (.agg #[.pointer none,.slice none 0 0,.slice none 0 0,.bool false,.bool false])) (n*5)).toList,by simp[madeCells],fun W=>?_⟩
 have:=run_make (P:=Tryz.prog) W 221 269 i0 (.agg #[.pointer none,.slice none 0 0,.slice none 0 0,.bool false,.bool false]) Tryz.underlying221 hi hz0 .i64 .i64 (n:Int) (n:Int) (by omega) (by omega) (by rw[hz2];omega) (by omega)
 rw[this,hz1]
 simp only[Int.toNat_natCast,Array.toArray_toList]
section
variable {A:Nat->Prop}{w:World}{d:Nat}{l:List (cC (St d))}
theorem Nw {v:Value}(h:aL A w (d+1) l v) :
    ∃ad g cap,v=.slice ad l.length cap/\(0<l.length->ad=some ⟨g,0,none⟩/\A g)/\∀(i:Nat) (s:cC (St d)),l[i]?=some s->∃ve vd vl p ay ar gy capy capr,Lg A w g i s ve vd vl p ay ar gy capy capr/\gI A w (aL A w d) s.regions (.slice ar s.regions.length capr)/\(0<s.ways.length->A gy):=by
 obtain ⟨xs,hr,hs⟩:=h
 obtain ⟨ad,g,cap,h1,h2,h3,h4⟩:=uX.open (k:=9) (fun a c ⟨e,d,l,p,y,r,hc,_⟩=>by rw[hc];rfl) hr hs
 refine ⟨ad,g,cap,h1,fun hp=>⟨(h3 hp).1,(h3 hp).2.1⟩,fun i s hi=>?_⟩
 obtain ⟨c,⟨e,d,l,p,y,r,rfl,q1,q2,q3,q4,q5,q6⟩,hx⟩:=h4 i s hi
 obtain ⟨u,rfl⟩:=q4.pt'
 obtain ⟨ay,gy,capy,rfl,y1,y2,y3⟩:=q5.open
 obtain ⟨ar,gr,capr,rfl,_⟩:=q6.len
 refine ⟨e,d,l,u,ay,ar,gy,capy,capr,⟨hx 0 _ rfl,hx 1 _ rfl,hx 2 _ rfl,hx 3 _ rfl,hx 4 _ rfl,hx 5 _ rfl,hx 6 _ rfl,hx 7 _ rfl,hx 8 _ rfl,q1,q2,q3,q4,y1,y2,y3⟩,q6,fun hp=>?_⟩
 obtain ⟨xs',hr',_⟩:=q5
 exact hr'.2 gy (by rw[(y2 hp).1];rfl)
theorem aC2 {g:Nat}(hg:0<l.length->g<w.heap.size) (hat:∀(i:Nat) (s:cC (St d)),l[i]?=some s->∃ve vd vl p ay ar gy capy capr,Lg A w g i s ve vd vl p ay ar gy capy capr) (hN:∀s∈l,s.name.length≤maxLen/\s.ways.length≤1000000/\∀y∈s.ways,y.to.length≤maxLen):lV w g l:=by
 intro i s hi
 obtain ⟨ve,vd,vl,p,ay,ar,gy,capy,capr,hM⟩:=hat i s hi
 have hs:=hN s (List.mem_of_getElem? hi)
 refine ⟨hg (by have:=(List.getElem?_eq_some_iff.1 hi).1;omega),hM.c0,hM.c1,hs.1,hs.2.1,ay,gy,capy,hM.c7,hM.hw.2.1,fun m y hm=>?_⟩
 obtain ⟨p',q',m0,m1,m2,m3,m4,m5,m6,m7,m8⟩:=hM.hw.2.2 m y hm
 obtain ⟨a,b,c,rfl⟩:=m8.sl'
 exact ⟨p',_,m0,m1,m2,m3,m4,m5,m6,⟨a,b,c,rfl⟩,hs.2.2 y (List.mem_of_getElem? hm)⟩
theorem Qn (h1:iS l=1):∃i:Nat,Em.Dm l=(i:Int)/\tR (fun x:cC (St d)=>x.first) l=(i:Int)/\i<l.length:=by
 unfold Em.Dm tR
 cases h:l.findIdx? (fun x=>x.first) with
 | none=>
  rw[List.findIdx?_eq_none_iff] at h
  unfold iS at h1
  have:l.filter (·.first)=[]:=List.filter_eq_nil_iff.2 fun x hx=>by simpa using h x hx
  rw[this] at h1
  simp at h1
 | some i=>exact ⟨i,rfl,rfl,(List.findIdx?_eq_some_iff_getElem.1 h).1⟩
theorem Nu:(∀i∈(eJ (cL l)).getD [],i<l.length)/\((eJ (cL l)).getD []).length≤l.length:=by
 have hg:(cL l).length=l.length:=by simp[cL]
 cases h:eJ (cL l) with
 | none=>simp
 | some o=>
  obtain ⟨h1,_,h3,_⟩:=Ci h
  exact ⟨fun i hi=>by have:=h3 i (by simpa using hi);omega,by simp;omega⟩
def Su (l:List (cC (St d))) (p:Int) (ss:List (eM (St d) (Rg d))):Em.M (jG (St d) (Rg d)):=pure ⟨ss,(eJ (cL l)).getD [],Em.Dm l,p,ss.all (·.idle),ss.any (·.leaves)⟩
theorem Zd {k:Kd}:Em.lay (Em.aG d) l k=(Em.fE (Em.aG d) (bA l) l >>= Su l k.net.places) (bD (aQ k (Em.Dm l+1)) k.net.places):=by
 show (Em.kept (Em.Dm l+1) >>= fun p=>Em.fE (Em.aG d) (bA l) l >>= Su l p) k=_
 exact A9 (Fq k _)
theorem xM {names:List bB}{s:cC (St d)}{r:List (cC (St d))}{ss:List (eM (St d) (Rg d))}{p:Int}:(Em.fE (Em.aG d) names (s::r) >>= fun t=>Su l p (ss++t))=(Em.iU (Em.aG d) names s >>= fun x=>Em.fE (Em.aG d) names r >>= fun t=>Su l p ((ss++[x])++t)):=by
 simp only[Em.fE,oD,pure_bind,List.append_assoc,List.singleton_append]
theorem Uj {w':World}{oo:Option (List Nat)}{e:Ending}(h:Er w oo e w'):∃v b,e=.returned (.tuple #[v,.bool b])/\Hid (Below w.heap.size w w')/\(∃a n c,v=.slice a n c)/\mV (fun x=>w.heap.size≤x/\x<w'.heap.size) w' v (oo.getD []):=by
 obtain ⟨hb,⟨rfl,rfl⟩|⟨o,v,rfl,rfl,ad,g,cap,rfl,h1,h2⟩⟩:=h
 ·exact ⟨_,_,rfl,hb,⟨_,_,_,rfl⟩,none,0,0,rfl,fun h=>absurd h (by simp),fun j x hx=>by simp at hx⟩
 ·exact ⟨_,_,rfl,hb,⟨_,_,_,rfl⟩,ad,g,cap,rfl,fun hp=>⟨(h1 hp).1,(h1 hp).2⟩,fun j x hx=>by
   obtain ⟨hj,he⟩:=List.getElem?_eq_some_iff.1 hx
   have hx':o[j]?=some x:=hx
   rw[h2 j hj,List.getD_eq_getElem?_getD,hx'];rfl⟩
end
section
variable {A P Pj Rj:Nat->Prop}{w wr w':World}{ns:List bB}{kb gS g n d E:Nat}{k kj:Kd}{ss:List (eM (St d) (Rg d))}{cs:List Value}{vo:Value}{fi th:Int}{id lv:Bool}
theorem LR.keepC (hR:Ro A P w) (h:LR A ns P kb w k gS g n d E Pj Rj wr kj ss cs vo fi th id lv) (hf:bH Pj wr w') (R':Nat->Prop):aX (fun x=>A x\/Rj x) (fun x=>A x\/Rj x\/R' x) wr w':=fun x hx hl=>⟨hx.elim .inl fun h=>.inr (.inl h),hf.block x hl (hx.elim (fun hx hp=>(h.up x hp).elim (hR x hx).2 fun h=>absurd h.1 (by have:=(hR x hx).1;omega)) fun h' hp=>h.dr x hp h')⟩
theorem LR.keepG (h:LR A ns P kb w k gS g n d E Pj Rj wr kj ss cs vo fi th id lv) (hA:∀x,A x->x<w.heap.size) (j:Nat) (v:Value):aX (fun x=>A x\/Rj x) (fun x=>A x\/Rj x) wr (wr.setCell ⟨g,j,none⟩ v):=fun x hx _=>⟨hx,Below.heap_setCell _ _ _ _ (show x≠g from hx.elim (fun hx e=>by have:=hA x hx;have:=h.gl.1;omega) fun hr e=>h.gl.2.2.1 (e▸hr))⟩
theorem LR.keepS (h:LR A ns P kb w k gS g n d E Pj Rj wr kj ss cs vo fi th id lv) (hA:∀x,A x->x<w.heap.size) (hw:∀x,x≠gS->w'.heap[x]?=wr.heap[x]?):aX (fun x=>A x\/Rj x) (fun x=>A x\/Rj x) wr w':=fun x hx _=>⟨hx,hw x (hx.elim (fun hx e=>by have:=hA x hx;have:=h.sl.1;omega) fun hr e=>h.sl.2.2 (e▸hr))⟩
theorem LR.moreE {E':Nat}(h:LR A ns P kb w k gS g n d E Pj Rj wr kj ss cs vo fi th id lv) (hE:E=E'):LR A ns P kb w k gS g n d E' Pj Rj wr kj ss cs vo fi th id lv:=hE▸h
theorem LR.drew (h:LR A ns P kb w k gS g n d E Pj Rj wr kj ss cs vo fi th id lv):LR A ns P kb w k gS g n d E Pj Rj wr.drew kj ss cs vo fi th id lv:=h.below (Below.refl _ _).drew
theorem mV.drew {B:Nat->Prop}{o:List Nat}(h:mV B w vo o):mV B w.drew vo o:=h.carry fun _ hx _=>⟨hx,rfl⟩
theorem Tx {W:World}{gS o:Nat}{a b c e f:Value}(x:Nat) (hx:x≠gS):(((((W.setCell ⟨gS,o,none⟩ a).setCell ⟨gS,o+1,none⟩ b).setCell ⟨gS,o+2,none⟩ c).setCell ⟨gS,o+3,none⟩ e).setCell ⟨gS,o+4,none⟩ f).heap[x]?=W.heap[x]?:=by
 rw[Below.heap_setCell _ _ _ _ hx,Below.heap_setCell _ _ _ _ hx,Below.heap_setCell _ _ _ _ hx,Below.heap_setCell _ _ _ _ hx,Below.heap_setCell _ _ _ _ hx]
end
end Ew
end
end Go.Proofs.YtcdbhoknhnimcaaGreatDoor
