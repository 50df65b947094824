import Derived.Test.YthieaobjdpfcoaaGreatDoorVEy
import Derived.Test.YthieaobjdpfcoaaGreatDoorVCk2
namespace Go.Proofs.YthieaobjdpfcoaaGreatDoor
section
open Go.RowKit Px
namespace Ew
open Px.Em (Kd Vr eQ eR jP Rg cX)
open Nx (Nt Sp)
section
variable {A A' P Pj Rj:Nat->Prop}{w wr w':World}{ns:List bE}{kb gS g n d E gd od:Nat}{k kj:Kd}{ss:List (eR (St d) (Rg d))}{vo vw vi:Value}{fi th:Int}{id lv:Bool}
theorem Vo.carry (c:bB A A' w w') {s:eR (St d) (Rg d)}(h:Vo A w s gd od vw vi):Vo A' w' s gd od vw vi:=by
 obtain ⟨D,Y,⟨v3,d3,e3⟩,⟨v4,d4,e4⟩,⟨v5,d5,e5⟩,⟨p6,d6,e6⟩,⟨ad,gw,cap,w1,w2,w3,w4⟩,Q,gi,J,i1,i2,U,Z⟩:=h
 refine ⟨(c gd D (aY3 w _ Y)).1,cL c D Y,⟨v3,cL c D d3,e3.carry c⟩,⟨v4,cL c D d4,e4.carry c⟩,⟨v5,cL c D d5,e5.carry c⟩,⟨p6,cL c D d6,e6.carry c⟩,⟨ad,gw,cap,w1,w2,fun u=>?_,fun j y I=>?_⟩,Q,gi,J,i1,i2,fun u=>?_,fun j r e=>?_⟩
 ·obtain ⟨y,I⟩:∃y,s.ways[0]?=some y:=⟨_,aN3 u⟩
  exact ⟨(w3 u).1,(c gw (w3 u).2 (aY3 w _ (w4 0 y I).t)).1⟩
 ·have u:0<s.ways.length:=by have:=(aO5.1 I).1;omega
  exact (w4 j y I).carry c (w3 u).2
 ·obtain ⟨y,I⟩:∃y,s.inside[0]?=some y:=⟨_,aN3 u⟩
  obtain ⟨X,O,_⟩:=Z 0 y I
  exact ⟨(U u).1,(c gi (U u).2 (aY3 w _ O)).1⟩
 ·have u:0<s.inside.length:=by have:=(aO5.1 e).1;omega
  obtain ⟨X,O,h2⟩:=Z j r e
  exact ⟨X,cL c (U u).2 O,fH.carry d c r X h2⟩
def Ct (A:Nat->Prop) (w:World) (cs:List Value) (i:Nat) (s:eR (St d) (Rg d)):Prop:=
 ∃gd od vw vi,cs[i*5]?=some (.pointer (some ⟨gd,od,none⟩))/\cs[i*5+1]?=some vw/\cs[i*5+2]?=some vi/\cs[i*5+3]?=some (.bool s.idle)/\cs[i*5+4]?=some (.bool s.leaves)/\Vo A w s gd od vw vi
theorem Ct.carry (c:bB A A' w w') {cs:List Value}{i:Nat}{s:eR (St d) (Rg d)}(h:Ct A w cs i s):Ct A' w' cs i s:=by
 obtain ⟨gd,od,vw,vi,D,u,j,I,r,y⟩:=h
 exact ⟨gd,od,vw,vi,D,u,j,I,r,y.carry c⟩
end
structure LR (A:Nat->Prop) (ns:List bE) (P:Nat->Prop) (kb:Nat) (w:World) (k:Kd) (gS g n d E:Nat) (Pj Rj:Nat->Prop) (wr:World) (kj:Kd) (ss:List (eR (St d) (Rg d))) (cs:List Value) (vo:Value) (fi th:Int) (id lv:Bool):Prop where
 cm:eK E ns Pj wr kb kj
 up:∀x,Pj x->Up P w wr x
 dr:∀x,Pj x->¬Rj x
 rn:∀x,Rj x->w.heap.size≤x/\x<wr.heap.size
 fr:bM P w wr
 pl:k.net.places≤kj.net.places
 hg:wr.heap[g]?=some (.cells #[.slice (some ⟨gS,0,none⟩) n n,vo,.int .i64 fi,.int .i64 th,.bool id,.bool lv] 188 (0,0))
 gl:w.heap.size≤g/\¬Pj g/\¬Rj g/\g≠gS
 hs:wr.heap[gS]?=some (.cells cs.toArray 236 (0,0))/\cs.length=n*5
 sl:w.heap.size≤gS/\¬Pj gS/\¬Rj gS
 st:∀i s,ss[i]?=some s->Ct (fun x=>A x\/Rj x) wr cs i s
section
variable {A P Pj Rj:Nat->Prop}{w wr w':World}{ns:List bE}{kb gS g n d E:Nat}{k kj:Kd}{ss:List (eR (St d) (Rg d))}{cs:List Value}{vo:Value}{fi th:Int}{id lv:Bool}
theorem LR.coder {E':Nat}{u R':Nat->Prop}{O:Kd}(Y:Ro A P w) (h:LR A ns P kb w k gS g n d E Pj Rj wr kj ss cs vo fi th id lv) (hc:eK E' ns u w' kb O) (I:∀x,u x->Up Pj wr w' x) (hd:∀x,u x->¬R' x) (D:∀x,R' x->wr.heap.size≤x/\x<w'.heap.size) (r:bM Pj wr w') (j:kj.net.places≤O.net.places) :
    LR A ns P kb w k gS g n d E' u (fun x=>Rj x\/R' x) w' O ss cs vo fi th id lv:=by
 have s0:=h.fr.size
 have e:=r.size
 have U:=aB h.hg
 have ls:=aB h.hs.1
 have X:∀x,x<wr.heap.size->¬Pj x->¬u x:=fun x hx J j=>(I x j).elim J fun h=>absurd h.1 (by omega)
 have Q:∀x,x<wr.heap.size->¬Rj x->¬(Rj x\/R' x):=fun x hx J h=>h.elim J fun h=>absurd (D x h).1 (by omega)
 have nA:∀x,A x->¬Pj x:=fun x hx j=>(h.up x j).elim (Y x hx).2 fun h=>absurd h.1 (by have:=(Y x hx).1;omega)
 have y:bB (fun x=>A x\/Rj x) (fun x=>A x\/Rj x\/R' x) wr w':=fun x hx Z=>⟨hx.elim .inl fun h=>.inr (.inl h),r.block x Z (hx.elim (nA x) fun c j=>h.dr x j c)⟩
 refine ⟨hc,fun x hx=>?_,fun x hx c=>?_,fun x hx=>?_,h.fr.trans r fun x hx hq=>(h.up x hq).elim (fun h=>h) fun h=>absurd h.1 (by omega),aX9 h.pl j,r.heap h.hg h.gl.2.1,⟨h.gl.1,X g U h.gl.2.1,Q g U h.gl.2.2.1,h.gl.2.2.2⟩,⟨r.heap h.hs.1 h.sl.2.1,h.hs.2⟩,⟨h.sl.1,X gS ls h.sl.2.1,Q gS ls h.sl.2.2⟩,fun i s hs=>(h.st i s hs).carry y⟩
 ·rcases I x hx with c|c
  ·exact Up.size e x (h.up x c)
  ·exact .inr ⟨by omega,c.2⟩
 ·rcases c with c|c
  ·rcases I x hx with j|j
   ·exact h.dr x j c
   ·have:=(h.rn x c).2;omega
  ·exact hd x hx c
 ·rcases hx with hx|hx
  ·exact ⟨(h.rn x hx).1,by have:=(h.rn x hx).2;omega⟩
  ·exact ⟨by have:=(D x hx).1;omega,(D x hx).2⟩
theorem LR.below (h:LR A ns P kb w k gS g n d E Pj Rj wr kj ss cs vo fi th id lv) (hb:Below wr.heap.size wr w'):LR A ns P kb w k gS g n d E Pj Rj w' kj ss cs vo fi th id lv:=
 ⟨h.cm.below hb,fun x hx=>Up.size hb.size x (h.up x hx),h.dr,fun x hx=>⟨(h.rn x hx).1,aO2 (h.rn x hx).2 hb.size⟩,h.fr.trans (bM.of_below (P:=fun _=>False) hb) fun _ _ h=>h.elim,h.pl,aD hb h.hg,h.gl,⟨aD hb h.hs.1,h.hs.2⟩,h.sl,fun i s hs=>(h.st i s hs).carry fun x hx hl=>⟨hx,hb.block x hl⟩⟩
theorem LR.flag (h:LR A ns P kb w k gS g n d E Pj Rj wr kj ss cs vo fi th id lv) (hA:∀x,A x->x<w.heap.size) {j:Nat}{v r:Value}{D c:Int}{y u:Bool}(U:[Value.slice (some ⟨gS,0,none⟩) n n,vo,.int .i64 fi,.int .i64 th,.bool id,.bool lv].set j v=[Value.slice (some ⟨gS,0,none⟩) n n,r,.int .i64 D,.int .i64 c,.bool y,.bool u]) :
    LR A ns P kb w k gS g n d E Pj Rj (wr.setCell ⟨g,j,none⟩ v) kj ss cs r D c y u:=by
 have O:(wr.setCell ⟨g,j,none⟩ v).heap.size=wr.heap.size:=by simp[World.setCell]
 have J:∀x,x≠g->(wr.setCell ⟨g,j,none⟩ v).heap[x]?=wr.heap[x]?:=fun x hx=>Below.heap_setCell _ _ _ _ hx
 have I:∀x,A x->x≠g:=fun x hx e=>by have:=hA x hx;have:=h.gl.1;omega
 have Q:=cH (l:=[Value.slice (some ⟨gS,0,none⟩) n n,vo,.int .i64 fi,.int .i64 th,.bool id,.bool lv]) h.hg j v
 rw[U] at Q
 exact ⟨⟨h.cm.1.imp fun _ Z=>Z.carry fun x hx _=>⟨hx,J x fun e=>h.gl.2.1 (e▸hx)⟩,h.cm.2.1,fun x hx=>by rw[O];exact h.cm.2.2 x hx⟩,fun x hx=>Up.size (by rw[O];exact aN4 _) x (h.up x hx),h.dr,fun x hx=>by rw[O];exact h.rn x hx,h.fr.setCell (.inr h.gl.1) _,h.pl,Q,h.gl,⟨by rw[J gS (fun e=>h.gl.2.2.2 e.symm)];exact h.hs.1,h.hs.2⟩,h.sl,fun i s Y=>(h.st i s Y).carry fun x hx _=>⟨hx,J x (hx.elim (I x) fun X e=>h.gl.2.2.1 (e▸X))⟩⟩
theorem LR.set (h:LR A ns P kb w k gS g n d E Pj Rj wr kj ss cs vo fi th id lv) (hA:∀x,A x->x<w.heap.size) {j:Nat}(hj:ss.length*5≤j) (v:Value) :
    LR A ns P kb w k gS g n d E Pj Rj (wr.setCell ⟨gS,j,none⟩ v) kj ss (cs.set j v) vo fi th id lv:=by
 have u:(wr.setCell ⟨gS,j,none⟩ v).heap.size=wr.heap.size:=by simp[World.setCell]
 have r:∀x,x≠gS->(wr.setCell ⟨gS,j,none⟩ v).heap[x]?=wr.heap[x]?:=fun x hx=>Below.heap_setCell _ _ _ _ hx
 have c:∀x,A x->x≠gS:=fun x hx e=>by have:=hA x hx;have:=h.sl.1;omega
 refine ⟨⟨h.cm.1.imp fun _ Y=>Y.carry fun x hx _=>⟨hx,r x fun e=>h.sl.2.1 (e▸hx)⟩,h.cm.2.1,fun x hx=>by rw[u];exact h.cm.2.2 x hx⟩,fun x hx=>Up.size (by rw[u];exact aN4 _) x (h.up x hx),h.dr,fun x hx=>by rw[u];exact h.rn x hx,h.fr.setCell (.inr h.sl.1) _,h.pl,by rw[r g h.gl.2.2.2];exact h.hg,h.gl,⟨cH h.hs.1 j v,by rw[aR6];exact h.hs.2⟩,h.sl,fun i s y=>?_⟩
 have Z:=(aO5.1 y).1
 obtain ⟨gd,od,vw,vi,J,U,D,O,Q,X⟩:=(h.st i s y).carry (A':=fun x=>A x\/Rj x) (w':=wr.setCell ⟨gS,j,none⟩ v) fun x hx _=>⟨hx,r x (hx.elim (c x) fun I e=>h.sl.2.2 (e▸I))⟩
 exact ⟨gd,od,vw,vi,by rw[aX4 (by omega)];exact J,by rw[aX4 (by omega)];exact U,by rw[aX4 (by omega)];exact D,by rw[aX4 (by omega)];exact O,by rw[aX4 (by omega)];exact Q,X⟩
theorem LR.more (h:LR A ns P kb w k gS g n d E Pj Rj wr kj ss cs vo fi th id lv) {s:eR (St d) (Rg d)}(r:Ct (fun x=>A x\/Rj x) wr cs ss.length s):LR A ns P kb w k gS g n d E Pj Rj wr kj (ss++[s]) cs vo fi th id lv:=by
 refine { h with st:=fun i t c=>?_ }
 rcases Nat.lt_trichotomy i ss.length with j|rfl|j
 ·rw[aR4 j] at c
  exact h.st i t c
 ·rw[List.getElem?_concat_length] at c
  injection c with c
  exact c▸r
 ·rw[aX3 (by simp;omega)] at c
  exact absurd c (by simp)
theorem LR.put (h:LR A ns P kb w k gS g n d E Pj Rj wr kj ss cs vo fi th id lv) (hA:∀x,A x->x<w.heap.size) {s:eR (St d) (Rg d)}{gd od:Nat}{vw vi:Value}(D:ss.length<n) (u:Vo (fun x=>A x\/Rj x) wr s gd od vw vi) {i:Nat}(y:i=ss.length) :
    ∃cs',LR A ns P kb w k gS g n d E Pj Rj (((((wr.setCell ⟨gS,i*5,none⟩ (.pointer (some ⟨gd,od,none⟩))).setCell ⟨gS,i*5+1,none⟩ vw).setCell ⟨gS,i*5+2,none⟩ vi).setCell ⟨gS,i*5+3,none⟩ (.bool s.idle)).setCell ⟨gS,i*5+4,none⟩ (.bool s.leaves)) kj (ss++[s]) cs' vo fi th id lv:=by
 have r:=((((h.set hA (j:=i*5) (by omega) (.pointer (some ⟨gd,od,none⟩))).set hA (j:=i*5+1) (by omega) vw).set hA (j:=i*5+2) (by omega) vi).set hA (j:=i*5+3) (by omega) (.bool s.idle)).set hA (j:=i*5+4) (by omega) (.bool s.leaves)
 refine ⟨_,r.more ⟨gd,od,vw,vi,?_,?_,?_,?_,?_,u.carry fun x hx _=>⟨hx,?_⟩⟩⟩
 all_goals first
  | (rw[<-y];have I:=h.hs.2;simp[List.getElem?_set];omega)
  | skip
 have c:x≠gS:=fun e=>by
  rcases hx with hx|hx
  ·have:=hA x hx;have:=h.sl.1;omega
  ·exact h.sl.2.2 (e▸hx)
 rw[Below.heap_setCell _ _ _ _ c,Below.heap_setCell _ _ _ _ c,Below.heap_setCell _ _ _ _ c,Below.heap_setCell _ _ _ _ c,Below.heap_setCell _ _ _ _ c]
theorem LR.done {w0:World}{order:List Nat}(h:LR A ns P kb w k gS g n d E Pj Rj wr kj ss cs vo fi th id lv) (hb:Below w0.heap.size w0 w) (hn:ss.length=n) (e:nL (fun x=>A x\/Rj x) wr vo order) (r:eS ns (d+1) (⟨ss,order,fi,th,id,lv⟩:jP (St d) (Rg d))) (c:0≤th/\th<kj.net.places) :
    Laid A ns P kb w0 k (d+1) E (⟨ss,order,fi,th,id,lv⟩:jP (St d) (Rg d)) g Pj (fun x=>Rj x\/x=g\/x=gS) wr kj:=by
 have s0:=h.fr.size
 have s1:=hb.size
 have lg:=aB h.hg
 have ls:=aB h.hs.1
 have u:bB (fun x=>A x\/Rj x) (fun x=>A x\/Rj x\/x=g\/x=gS) wr wr:=fun x hx _=>⟨hx.elim .inl fun h=>.inr (.inl h),rfl⟩
 refine ⟨h.cm,fun x hx=>(h.up x hx).elim .inl fun h=>.inr ⟨by omega,h.2⟩,fun x hx j=>?_,fun x hx=>?_,(bM.of_below hb).trans h.fr fun _ _ h=>h,h.pl,?_,r,c⟩
 ·rcases j with j|rfl|rfl
  ·exact h.dr x hx j
  ·exact h.gl.2.1 hx
  ·exact h.sl.2.1 hx
 ·rcases hx with hx|rfl|rfl
  ·have:=h.rn x hx;omega
  ·have:=h.gl.1;omega
  ·have:=h.sl.1;omega
 ·refine ⟨gS,some ⟨gS,0,none⟩,n,vo,by show wr.heap[g]?=some (.cells #[.slice (some ⟨gS,0,none⟩) ss.length n,_,_,_,_,_] _ _);rw[hn];exact h.hg,.inr (.inr (.inl rfl)),fun _=>⟨rfl,.inr (.inr (.inr rfl))⟩,e.carry u,fun i s hi=>?_⟩
  obtain ⟨gd,od,vw,vi,J,U,I,h3,Q,X⟩:=(h.st i s hi).carry u
  obtain ⟨Z,y,e3,e4,D,O,⟨Y,gw,cap,rfl,w2,w3,w4⟩,e8⟩:=X
  exact ⟨gd,od,aF h.hs.1 _ (by simpa using J),⟨Z,.inr (.inr (.inr rfl))⟩,y,e3,e4,D,O,⟨Y,gw,cap,aF h.hs.1 _ (by simpa using U),w2,w3,w4⟩,⟨vi,aF h.hs.1 _ (by simpa using I),e8⟩,aF h.hs.1 _ (by simpa using h3),aF h.hs.1 _ (by simpa using Q)⟩
end
end Ew
end
section
namespace Px
def L0 (o:List Nat):Nat->Nat->Option Nat
 | 0,_=>none
 | p+1,k=>if o.getD p 0=k then some p else L0 o p k
theorem E4 {o:List Nat}:∀{p k q:Nat},L0 o p k=some q->q<p/\o.getD q 0=k:=by
 intro p
 induction p with
 | zero=>intro k q h;simp[L0] at h
 | succ p ih=>
  intro k q h
  rw[L0] at h
  split at h
  ·rename_i he
   injection h with h
   subst h
   exact ⟨by omega,he⟩
  ·have:=ih h
   exact ⟨by omega,this.2⟩
def Za (o:List Nat):Prop:=∀p q,p<o.length->q<o.length->o.getD p 0=o.getD q 0->p=q
theorem Wp {o:List Nat}(c:Za o):∀{p q:Nat},q<p->p≤o.length->L0 o p (o.getD q 0)=some q:=by
 intro p
 induction p with
 | zero=>intro q h _;omega
 | succ p ih=>
  intro q h j
  rw[L0]
  split
  ·rename_i he
   rw[c p q (by omega) (by omega) he]
  ·rename_i hne
   by_cases e:q=p
   ·subst e;exact absurd rfl hne
   ·exact ih (by omega) (by omega)
theorem gC (o:List Nat) (j p:Nat) (c:p<o.length):(o++[j]).getD p 0=o.getD p 0:=by
 rw[iO,iO,aR4 c]
theorem vJ (o:List Nat) (j:Nat):(o++[j]).getD o.length 0=j:=by
 rw[iO,aW6 (aN4 _)];simp
theorem tG (o:List Nat) (k:Nat):k∈o↔∃p,p<o.length/\o.getD p 0=k:=by
 constructor
 ·intro h
  obtain ⟨p,c,j⟩:=List.getElem_of_mem h
  exact ⟨p,c,by rw[iO,aN3 c];exact j⟩
 ·rintro ⟨p,c,rfl⟩
  rw[iO,aN3 c]
  exact aY1 c
theorem Na {G:List (List (Option Nat))}{T:List Bool}{j:Nat}:∀{k:Nat},rC G T j k=0->∀i,i<k->T.getD i false=false->(G.getD i []).count (some j)=0:=by
 intro k
 induction k with
 | zero=>intro _ i h;omega
 | succ k ih=>
  intro h i r c
  rw[rC] at h
  by_cases e:i=k
  ·subst e
   rw[c] at h
   simp only[Bool.false_eq_true,if_false] at h
   omega
  ·exact ih (by omega) i (by omega) c
structure aW1 (G:List (List (Option Nat))) (o:List Nat) (T:List Bool):Prop where
 once:Za o
 told:∀k,k<G.length->(T.getD k false=true↔k∈o)
 low:∀k∈o,k<G.length
 len:T.length=G.length
 ahead:∀q,q<o.length->∀k,k<G.length->some (o.getD q 0)∈G.getD k []->∃p,p<q/\o.getD p 0=k
theorem Mt {G:List (List (Option Nat))}:∀{r:Nat}{o:List Nat}{T:List Bool},pR G r=some (o,T)->aW1 G o T:=by
 intro r
 induction r with
 | zero=>
  intro o T h
  rw[pR] at h
  injection h with h
  injection h with h1 h2
  subst h1;subst h2
  exact ⟨fun p q u=>absurd u (by simp),fun k _=>by rw[qT];simp,by simp,by simp,fun q I=>absurd I (by simp)⟩
 | succ r ih=>
  intro o T h
  rw[pR] at h
  split at h
  ·exact absurd h (by simp)
  ·rename_i o' T' hr
   split at h
   ·exact absurd h (by simp)
   ·rename_i j hj
    injection h with h
    injection h with h1 h2
    subst h1;subst h2
    have F:=ih hr
    obtain ⟨Q,J,_⟩:=nY hj
    unfold mO at J
    simp only[Bool.and_eq_true,Bool.not_eq_true',decide_eq_true_eq] at J
    have D:j∉o':=fun y=>by have:=(F.told j Q).2 y;rw[J.1] at this;simp at this
    refine ⟨?_,?_,?_,by rw[aR6];exact F.len,?_⟩
    ·intro p q u I s
     rw[aO6,aW9] at u I
     by_cases e1:p<o'.length
     ·by_cases e2:q<o'.length
      ·rw[gC _ _ _ e1,gC _ _ _ e2] at s
       exact F.once p q e1 e2 s
      ·obtain rfl:q=o'.length:=by omega
       rw[gC _ _ _ e1,vJ] at s
       exact absurd ((tG _ _).2 ⟨p,e1,s⟩) D
     ·obtain rfl:p=o'.length:=by omega
      by_cases e2:q<o'.length
      ·rw[gC _ _ _ e2,vJ] at s
       exact absurd ((tG _ _).2 ⟨q,e2,s.symm⟩) D
      ·omega
    ·intro k c
     rw[rF T' j k (by rw[F.len];exact Q)]
     by_cases e:j=k
     ·subst e;simp
     ·rw[if_neg e,F.told k c]
      simp[Ne.symm e]
    ·intro k c
     rcases aP5.1 c with c|c
     ·exact F.low k c
     ·rw[aP1.1 c];exact Q
    ·intro q I k c y
     rw[aO6,aW9] at I
     by_cases e:q<o'.length
     ·rw[gC _ _ _ e] at y
      obtain ⟨p,u,s⟩:=F.ahead q e k c y
      exact ⟨p,u,by rw[gC _ _ _ (by omega)];exact s⟩
     ·obtain rfl:q=o'.length:=by omega
      rw[vJ] at y
      have O:k∈o':=by
       rw[<-F.told k c]
       cases ht:T'.getD k false with
       | true=>rfl
       | false=>
        have:=Na J.2 k c ht
        exact absurd y (List.count_eq_zero.1 this)
      obtain ⟨p,u,s⟩:=(tG _ _).1 O
      exact ⟨p,u,by rw[gC _ _ _ u];exact s⟩
theorem Mr:∀(n:Nat) (o:List Nat),o.Nodup->(∀k∈o,k<n)->o.length≤n:=by
 intro n
 induction n with
 | zero=>
  intro o _ h
  cases o with
  | nil=>simp
  | cons a r=>exact absurd (h a (by simp)) (by omega)
 | succ n ih=>
  intro o hd h
  by_cases hm:n∈o
  ·have s:=ih (o.erase n) (hd.erase n) (fun k c=>by
    have j:=(hd.mem_erase_iff).1 c
    have:=h k j.2
    have:=j.1
    omega)
   have:=List.length_erase_of_mem hm
   omega
  ·have:=ih o hd (fun k c=>by
    have:=h k c
    have:k≠n:=fun e=>hm (e▸c)
    omega)
   omega
theorem Qw:∀(n:Nat) (o:List Nat),Za o->(∀k∈o,k<n)->o.length=n->∀k,k<n->k∈o:=by
 intro n o s u J k D
 have c:o.Nodup:=by
  rw[List.nodup_iff_pairwise_ne,List.pairwise_iff_getElem]
  intro i j h r y I
  have:=s i j h r (by rw[iO,iO,aN3 h,aN3 r];exact congrArg (fun x=>(some x).getD 0) I)
  omega
 by_cases hm:k∈o
 ·exact hm
 ·have:=Mr n (k::o) (List.nodup_cons.2 ⟨hm,c⟩) (fun x hx=>by
   rcases aV8.1 hx with rfl|hx
   ·exact D
   ·exact u x hx)
  rw[aR5] at this
  omega
theorem Ep {G:List (List (Option Nat))}{o:List Nat}(h:eO G=some o):o.length=G.length/\Za o/\(∀k∈o,k<G.length)/\(∀k,k<G.length->∃p,L0 o o.length k=some p)/\∀k j,k<G.length->j<G.length->some j∈G.getD k []->∀p q,L0 o o.length k=some p->L0 o o.length j=some q->p<q:=by
 unfold eO at h
 cases hk:pR G G.length with
 | none=>rw[hk] at h;simp at h
 | some x=>
  obtain ⟨y,T⟩:=x
  rw[hk] at h
  simp at h
  subst h
  have F:=Mt hk
  have u:=(uY hk).2.1
  refine ⟨u,F.once,F.low,fun k c=>?_,fun k j c X D p q r J=>?_⟩
  ·obtain ⟨p,r,s⟩:=(tG _ _).1 (Qw _ y F.once F.low u k c)
   exact ⟨p,by rw[<-s];exact Wp F.once r (aN4 _)⟩
  ·obtain ⟨p1,p2⟩:=E4 r
   obtain ⟨Q,U⟩:=E4 J
   obtain ⟨O,I,s⟩:=F.ahead q Q k c (by rw[U];exact D)
   have:=F.once p O p1 (by omega) (by rw[p2,s])
   omega
section
variable {ρ:Type}
theorem Oh {vs:List bQ}{ns:List bE}{b:Bool}:∀{l:List Wy},lF vs ns b l=0->∀y∈l,∃i,jT ns y.to=some i:=by
 intro l
 induction l with
 | nil=>intro _ y c;simp at c
 | cons a r ih=>
  intro h y c
  rw[lF] at h
  by_cases e:nO vs ns b a=0
  ·rw[if_neg (by simp[e])] at h
   rcases aV8.1 c with rfl|c
   ·cases hf:jT ns y.to with
    | some i=>exact ⟨i,rfl⟩
    | none=>unfold nO at e;rw[hf] at e;simp at e
   ·exact ih h y c
  ·rw[if_pos e] at h
   exact absurd h e
theorem Kh {vs:List bQ}{ns:List bE}{i:Nat}{s:cF ρ}(h:jH vs ns i s=0):∀y∈s.ways,∃i,jT ns y.to=some i:=by
 unfold jH at h
 split at h
 ·simp at h
 ·unfold zO at h
  split at h
  ·simp at h
  ·split at h
   ·contradiction
   ·split at h
    ·contradiction
    ·split at h
     ·contradiction
     ·split at h
      ·simp at h
      ·exact Oh h
theorem rR {vs:List bQ}{R:List ρ->Nat->I4}{ns:List bE}:∀{l:List (cF ρ)}{i n m:Nat},gA vs R ns l i n=.ok m->∀s∈l,(∃i,jH vs ns i s=0)/\∃n m,gR R s.regions n=.ok m:=by
 intro l
 induction l with
 | nil=>intro i n m _ s c;simp at c
 | cons a r ih=>
  intro i n m h s c
  rw[gA] at h
  split at h
  ·exact absurd h (by simp)
  ·rename_i he
   split at h
   ·exact absurd h (by simp)
   ·rename_i m' hm'
    rcases aV8.1 c with rfl|c
    ·exact ⟨⟨i,by omega⟩,_,_,hm'⟩
    ·exact ih h s c
theorem mZ {R:List ρ->Nat->I4}:∀{l:List (List ρ)}{n m:Nat},gR R l n=.ok m->∀r∈l,∃n m,R r n=.ok m:=by
 intro l
 induction l with
 | nil=>intro n m _ r c;simp at c
 | cons a r ih=>
  intro n m h x hx
  rw[gR] at h
  split at h
  ·exact absurd h (by simp)
  ·rename_i m' hm'
   rcases aV8.1 hx with rfl|hx
   ·exact ⟨_,_,hm'⟩
   ·exact ih h x hx
def aO0 (l:List (cF ρ)):Prop:=∃o,eO (cQ l)=some o/\Zd (bD l)/\∀s∈l,∀y∈s.ways,∃i,jT (bD l) y.to=some i
theorem Wl {vs:List bQ}{R:List ρ->Nat->I4}{l:List (cF ρ)}{n m:Nat}(h:pE vs R l n=.ok m):aO0 l/\∀s∈l,∃n m,gR R s.regions n=.ok m:=by
 unfold pE at h
 split at h
 ·exact absurd h (by simp)
 ·rename_i m' hs
  split at h
  ·exact absurd h (by simp)
  ·rename_i c
   have c:dD l=0:=by omega
   unfold dD at c
   split at c
   ·simp at c
   ·split at c
    ·simp at c
    ·split at c
     ·simp at c
     ·rename_i ho
      cases hg:eO (cQ l) with
      | none=>rw[hg] at ho;simp at ho
      | some o=>exact ⟨⟨o,hg,Kr hs,fun s j=>by obtain ⟨⟨i,r⟩,_⟩:=rR hs s j;exact Kh r⟩,fun s j=>(rR hs s j).2⟩
end
end Px
end
section
open Go.RowKit Px
namespace Ew
open Px.Em (Kd Vr eQ eR jP Rg cX)
open Nx (Nt Sp)
theorem Xv:(Tryz.prog.info? 236).map (fun i=>(i.zero,i.size,i.bytes))=some (some (.agg #[.pointer none,.slice none 0 0,.slice none 0 0,.bool false,.bool false]),5,64):=by kernel_rfl
theorem aD2 (n:Nat) (s:n≤1000000):∃cs:List Value,cs.length=n*5/\∀W,(Instr.makeSlice 186 (.int .i64 (n:Int)) (.int .i64 (n:Int))).run Tryz.prog W=.ok (.slice (some ⟨W.heap.size,0,none⟩) n n) (W.alloc (.cells cs.toArray 236)):=by
 obtain ⟨i0,r,h,j,c⟩:=aY8 Xv
 refine ⟨(madeCells (Value.cells (.agg #[.pointer none,.slice none 0 0,.slice none 0 0,.bool false,.bool false])) (n*5)).toList,by simp[madeCells],fun W=>?_⟩
 have:=run_make (P:=Tryz.prog) W 186 236 i0 (.agg #[.pointer none,.slice none 0 0,.slice none 0 0,.bool false,.bool false]) Tryz.underlying186 r h .i64 .i64 (n:Int) (n:Int) (by omega) (by omega) (by rw[c];omega) (by omega)
 rw[this,j]
 simp only[aW7,Array.toArray_toList]
section
variable {A:Nat->Prop}{w:World}{d:Nat}{l:List (cF (St d))}
theorem Qr {v:Value}(h:aM A w (d+1) l v) :
    ∃ad g cap,v=.slice ad l.length cap/\(0<l.length->ad=some ⟨g,0,none⟩/\A g)/\∀(i:Nat) (s:cF (St d)),l[i]?=some s->∃ve vd vl p ay ar gy capy capr,Ns A w g i s ve vd vl p ay ar gy capy capr/\gP A w (aM A w d) s.regions (.slice ar s.regions.length capr)/\(0<s.ways.length->A gy):=by
 obtain ⟨xs,hr,hs⟩:=h
 obtain ⟨ad,g,cap,h1,h2,Q,h4⟩:=wU.open (k:=9) (fun a c ⟨e,d,l,p,y,r,hc,_⟩=>by rw[hc];rfl) hr hs
 refine ⟨ad,g,cap,h1,fun j=>⟨(Q j).1,(Q j).2.1⟩,fun i s hi=>?_⟩
 obtain ⟨c,⟨e,d,l,p,y,r,rfl,q1,q2,q3,O,J,I⟩,hx⟩:=h4 i s hi
 obtain ⟨u,rfl⟩:=O.pt'
 obtain ⟨ay,gy,capy,rfl,Y,U,Z⟩:=J.open
 obtain ⟨ar,gr,capr,rfl,_⟩:=I.len
 refine ⟨e,d,l,u,ay,ar,gy,capy,capr,⟨hx 0 _ rfl,hx 1 _ rfl,hx 2 _ rfl,hx 3 _ rfl,hx 4 _ rfl,hx 5 _ rfl,hx 6 _ rfl,hx 7 _ rfl,hx 8 _ rfl,q1,q2,q3,O,Y,U,Z⟩,I,fun j=>?_⟩
 obtain ⟨X,D,_⟩:=J
 exact D.2 gy (by rw[(U j).1];rfl)
theorem aI7 {g:Nat}(Q:0<l.length->g<w.heap.size) (j:∀(i:Nat) (s:cF (St d)),l[i]?=some s->∃ve vd vl p ay ar gy capy capr,Ns A w g i s ve vd vl p ay ar gy capy capr) (hN:∀s∈l,s.name.length≤maxLen/\s.ways.length≤1000000/\∀y∈s.ways,y.to.length≤maxLen):mH w g l:=by
 intro i s u
 obtain ⟨ve,vd,vl,p,ay,ar,gy,capy,capr,h⟩:=j i s u
 have r:=hN s (aO7 u)
 refine ⟨Q (by have:=(aO5.1 u).1;omega),h.c0,h.c1,r.1,r.2.1,ay,gy,capy,h.c7,h.hw.2.1,fun m y D=>?_⟩
 obtain ⟨Z,q',U,Y,J,O,e,X,I,m7,m8⟩:=h.hw.2.2 m y D
 obtain ⟨a,b,c,rfl⟩:=m8.sl'
 exact ⟨Z,_,U,Y,J,O,e,X,I,⟨a,b,c,rfl⟩,r.2.2 y (aO7 D)⟩
theorem Tk (c:jC l=1):∃i:Nat,Em.Ga l=(i:Int)/\vG (fun x:cF (St d)=>x.first) l=(i:Int)/\i<l.length:=by
 unfold Em.Ga vG
 cases h:l.findIdx? (fun x=>x.first) with
 | none=>
  rw[List.findIdx?_eq_none_iff] at h
  unfold jC at c
  have:l.filter (·.first)=[]:=List.filter_eq_nil_iff.2 fun x hx=>by simpa using h x hx
  rw[this] at c
  simp at c
 | some i=>exact ⟨i,rfl,rfl,(List.findIdx?_eq_some_iff_getElem.1 h).1⟩
theorem Qp:(∀i∈(eO (cQ l)).getD [],i<l.length)/\((eO (cQ l)).getD []).length≤l.length:=by
 have s:(cQ l).length=l.length:=by simp[cQ]
 cases h:eO (cQ l) with
 | none=>simp
 | some o=>
  obtain ⟨r,_,c,_⟩:=Ep h
  exact ⟨fun i j=>by have:=c i (by simpa using j);omega,by simp;omega⟩
def Vk (l:List (cF (St d))) (p:Int) (ss:List (eR (St d) (Rg d))):Em.M (jP (St d) (Rg d)):=pure ⟨ss,(eO (cQ l)).getD [],Em.Ga l,p,ss.all (·.idle),ss.any (·.leaves)⟩
theorem aD9 {k:Kd}:Em.lay (Em.aJ d) l k=(Em.fL (Em.aJ d) (bD l) l >>= Vk l k.net.places) (bF (aU k (Em.Ga l+1)) k.net.places):=by
 show (Em.kept (Em.Ga l+1) >>= fun p=>Em.fL (Em.aJ d) (bD l) l >>= Vk l p) k=_
 exact I0 (Ii k _)
theorem yV {names:List bE}{s:cF (St d)}{r:List (cF (St d))}{ss:List (eR (St d) (Rg d))}{p:Int}:(Em.fL (Em.aJ d) names (s::r) >>= fun t=>Vk l p (ss++t))=(Em.jD (Em.aJ d) names s >>= fun x=>Em.fL (Em.aJ d) names r >>= fun t=>Vk l p ((ss++[x])++t)):=by
 simp only[Em.fL,pA,pure_bind,List.append_assoc,List.singleton_append]
theorem Ws {w':World}{oo:Option (List Nat)}{e:Ending}(h:Hd w oo e w'):∃v b,e=.returned (.tuple #[v,.bool b])/\Hid (Below w.heap.size w w')/\(∃a n c,v=.slice a n c)/\nL (fun x=>w.heap.size≤x/\x<w'.heap.size) w' v (oo.getD []):=by
 obtain ⟨hb,⟨rfl,rfl⟩|⟨o,v,rfl,rfl,I,g,cap,rfl,u,y⟩⟩:=h
 ·exact ⟨_,_,rfl,hb,⟨_,_,_,rfl⟩,none,0,0,rfl,fun h=>absurd h (by simp),fun j x hx=>by simp at hx⟩
 ·exact ⟨_,_,rfl,hb,⟨_,_,_,rfl⟩,I,g,cap,rfl,fun s=>⟨(u s).1,(u s).2⟩,fun j x hx=>by
   obtain ⟨D,J⟩:=aO5.1 hx
   have r:o[j]?=some x:=hx
   rw[y j D,iO,r];rfl⟩
end
section
variable {A P Pj Rj:Nat->Prop}{w wr w':World}{ns:List bE}{kb gS g n d E:Nat}{k kj:Kd}{ss:List (eR (St d) (Rg d))}{cs:List Value}{vo:Value}{fi th:Int}{id lv:Bool}
theorem LR.keepC (hR:Ro A P w) (h:LR A ns P kb w k gS g n d E Pj Rj wr kj ss cs vo fi th id lv) (hf:bM Pj wr w') (R':Nat->Prop):bB (fun x=>A x\/Rj x) (fun x=>A x\/Rj x\/R' x) wr w':=fun x hx hl=>⟨hx.elim .inl fun h=>.inr (.inl h),hf.block x hl (hx.elim (fun hx hp=>(h.up x hp).elim (hR x hx).2 fun h=>absurd h.1 (by have:=(hR x hx).1;omega)) fun h' hp=>h.dr x hp h')⟩
theorem LR.keepG (h:LR A ns P kb w k gS g n d E Pj Rj wr kj ss cs vo fi th id lv) (hA:∀x,A x->x<w.heap.size) (j:Nat) (v:Value):bB (fun x=>A x\/Rj x) (fun x=>A x\/Rj x) wr (wr.setCell ⟨g,j,none⟩ v):=fun x hx _=>⟨hx,Below.heap_setCell _ _ _ _ (show x≠g from hx.elim (fun hx e=>by have:=hA x hx;have:=h.gl.1;omega) fun hr e=>h.gl.2.2.1 (e▸hr))⟩
theorem LR.keepS (h:LR A ns P kb w k gS g n d E Pj Rj wr kj ss cs vo fi th id lv) (hA:∀x,A x->x<w.heap.size) (hw:∀x,x≠gS->w'.heap[x]?=wr.heap[x]?):bB (fun x=>A x\/Rj x) (fun x=>A x\/Rj x) wr w':=fun x hx _=>⟨hx,hw x (hx.elim (fun hx e=>by have:=hA x hx;have:=h.sl.1;omega) fun hr e=>h.sl.2.2 (e▸hr))⟩
theorem LR.moreE {E':Nat}(h:LR A ns P kb w k gS g n d E Pj Rj wr kj ss cs vo fi th id lv) (hE:E=E'):LR A ns P kb w k gS g n d E' Pj Rj wr kj ss cs vo fi th id lv:=hE▸h
theorem LR.drew (h:LR A ns P kb w k gS g n d E Pj Rj wr kj ss cs vo fi th id lv):LR A ns P kb w k gS g n d E Pj Rj wr.drew kj ss cs vo fi th id lv:=h.below (Below.refl _ _).drew
theorem nL.drew {B:Nat->Prop}{o:List Nat}(h:nL B w vo o):nL B w.drew vo o:=h.carry fun _ hx _=>⟨hx,rfl⟩
theorem Wi {W:World}{gS o:Nat}{a b c e f:Value}(x:Nat) (hx:x≠gS):(((((W.setCell ⟨gS,o,none⟩ a).setCell ⟨gS,o+1,none⟩ b).setCell ⟨gS,o+2,none⟩ c).setCell ⟨gS,o+3,none⟩ e).setCell ⟨gS,o+4,none⟩ f).heap[x]?=W.heap[x]?:=by
 rw[Below.heap_setCell _ _ _ _ hx,Below.heap_setCell _ _ _ _ hx,Below.heap_setCell _ _ _ _ hx,Below.heap_setCell _ _ _ _ hx,Below.heap_setCell _ _ _ _ hx]
end
end Ew
end
end Go.Proofs.YthieaobjdpfcoaaGreatDoor
