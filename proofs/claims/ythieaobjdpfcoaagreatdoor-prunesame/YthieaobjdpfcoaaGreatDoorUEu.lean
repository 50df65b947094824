import Derived.Test.YthieaobjdpfcoaaGreatDoorUEq
set_option maxRecDepth 100000
set_option maxHeartbeats 16000000
namespace Go.Proofs.YthieaobjdpfcoaaGreatDoor
section
open Go.RowKit Px
namespace Ew
open Px.Em (Kd Vr eQ eR jP Rg cX)
open Nx (Nt Sp)
theorem Xy:(Tryz.prog.info? 238).map (fun i=>(i.zero,i.size,i.bytes))=some (some (.slice none 0 0),1,24):=by kernel_rfl
theorem aK3 (n:Nat):(madeCells (Value.cells (.slice none 0 0)) (n*1))=(List.replicate n (Value.slice none 0 0)).toArray:=by
 apply Array.toList_inj.1
 apply List.ext_getElem
 ·simp[madeCells]
 ·intro k j h
  simp[madeCells,Value.cells,Nat.mod_one]
theorem Rh (w:World) (n:Nat) (s:n≤1000000):(Instr.makeSlice 190 (.int .i64 (n:Int)) (.int .i64 (n:Int))).run Tryz.prog w=.ok (.slice (some ⟨w.heap.size,0,none⟩) n n) (w.alloc (.cells (List.replicate n (Value.slice none 0 0)).toArray 238)):=by
 obtain ⟨i0,r,h,l,j⟩:=aX6 Xy
 have:=run_make (P:=Tryz.prog) w 190 238 i0 (.slice none 0 0) Tryz.underlying190 r h .i64 .i64 (n:Int) (n:Int) (by omega) (by omega) (by rw[j];omega) (by omega)
 rw[this,l]
 simp only[aP2]
 rw[aK3]
theorem Q9 {w:World}{b n:Nat}(h:w.heap[b]?=some (.cells (List.replicate n (Value.slice none 0 0)).toArray 238 (0,0))):xE (fun x=>x=b) w b (List.replicate n []) 0:=by
 have r:∀(i:Nat) (v:Value),(List.replicate n (Value.slice none 0 0))[i]?=some v->v=.slice none 0 0:=fun i v r=>by
  rw[aO9] at r;split at r;injection r with r;exact r.symm;exact absurd r (by simp)
 have j:∀(i:Nat) (l:List (Int×Bool)),(List.replicate n ([]:List (Int×Bool)))[i]?=some l->l=[]:=fun i l j=>by
  rw[aO9] at j;split at j;injection j with j;exact j.symm;exact absurd j (by simp)
 refine ⟨⟨_,fun _=>0,h,by simp,fun i v l u s=>?_,⟨rfl,rfl⟩,fun i v g u s=>?_,fun i l s=>?_⟩,fun x hx=>by rw[hx];exact aB h⟩
 ·rw[r i v u,j i l s];exact aX2 _ _ _ _
 ·rw[r i v u] at s;simp[Value.ownBlock] at s
 ·rw[j i l s];simp
def nK (E:Nat) (ns:List bE) (P T:Nat->Prop) (kb:Nat) (w:World) (k:Kd) (o:Option (Unit×Kd)) (e:Ending) (w':World):Prop:=
 (e=Vl/\Hid (o=none)/\Hid (bM (fun x=>P x\/T x) w w'))\/∃k',e=.returned (.tuple #[])/\Hid (o=some ((),k'))/\Hid (∃P1,eK E ns P1 w' kb k'/\(∀x,P1 x->Up P w w' x)/\bM (fun x=>P x\/T x) w w'/\k.net.places≤k'.net.places)
def Nz (A:Nat->Prop) (kb E:Nat) (ns:List bE) (d:Nat):Prop:=∀{P T:Nat->Prop}{w:World}{k:Kd}{r:Rg d}{g b:Nat}{here:Int}{t:cX}{c:Nat},fH A d w r g->eS ns d r->eK E ns P w kb k->xE T w b t c->(∀x,P x->¬T x)->Ro A (fun x=>P x\/T x) w->t.length=(Em.aJ d).size r->c≤2000000->
 Calls Tryz.prog 118 #[.pointer (some ⟨kb,0,none⟩),.pointer (some ⟨g,0,none⟩),.int .i64 here,.slice (some ⟨b,0,none⟩) ((Em.aJ d).size r) ((Em.aJ d).size r)] w (nK E ns P T kb w k ((Em.aJ d).goOn r here t k))
section
variable {P T X P1 T1 A:Nat->Prop}{w wr w2:World}{kb b E c d:Nat}{ns:List bE}{k kj k2:Kd}{t:cX}
theorem nK.ran {w0:World}{o:Option (Unit×Kd)}{e:Ending}(hb:Below w0.heap.size w0 w) (y:∀x,P x->x<w0.heap.size) (s:∀x,T x->w0.heap.size≤x) (h:nK E ns P T kb w k o e w2):fJ E ns P kb w0 k o (fun _=>.tuple #[]) e w2:=by
 have D:=hb.size
 have n:∀x,x<w0.heap.size->(P x\/T x)->P x:=fun x hx h=>h.elim id fun h=>absurd (s x h) (by omega)
 rcases h with ⟨rfl,l,j⟩|⟨u,rfl,l,j⟩
 ·exact .inl ⟨rfl,l,(bM.of_below hb).trans j.out n⟩
 ·obtain ⟨P1,p1,p2,p3,p4⟩:=j.out
  have r:bM P w0 w2:=(bM.of_below hb).trans p3 n
  exact .inr ⟨(),u,rfl,l,p1.mono (fun x hx=>(p2 x hx).elim .inl fun h=>.inr ⟨by omega,h.2⟩) (iI y r.size),r,p4⟩
def Oc (s:eR (St d) (Rg d)) (c1 c2:List (eQ×Int)×Int) (t:cX):Em.M cX:=
 if s.leaves=true then (Em.uZ c1.2 c2.2 >>= fun gone=>Em.dI (Em.aJ d) s.inside gone >>= fun _=>Em.vM gone s.drawn.leave >>= fun _=>Zs c1 c2 t) else Zs c1 c2 t
def gs5 (s:eR (St d) (Rg d)) (c1:List (eQ×Int)×Int) (t:cX) (on:Int):Em.M cX:=Em.vM on s.drawn.during >>= fun _=>Em.pZ (Em.aJ d) on s.inside >>= fun _=>Em.choose (Em.aJ d) s on fB >>= fun c2=>Oc s c1 c2 t
def Zq (s:eR (St d) (Rg d)) (c1:List (eQ×Int)×Int) (t:cX) (on0:Int):Em.M cX:=
 if Em.Er s.drawn.rests=true\/on0=-1 then gs5 s c1 t on0 else (Em.eP s.drawn.rests >>= fun x=>Em.bS 0 >>= fun z=>Em.made 17 x z on0 >>= fun on=>gs5 s c1 t on)
theorem Ip {s:eR (St d) (Rg d)}{so:Int}:Em.eT (Em.aJ d) s so t=(Em.choose (Em.aJ d) s so fA >>= fun c1=>Em.dU so c1.2 >>= fun on0=>Zq s c1 t on0):=by
 unfold Em.eT Zq gs5 Oc Zs fA fB
 rfl
theorem Ml {g:Rg d}{r:List (Rg d)}{on:Int}(h:on=-1\/(Em.aJ d).idle g=true):Em.pZ (Em.aJ d) on (g::r) k=Em.pZ (Em.aJ d) on r k:=by rw[Em.pZ,if_pos h]
theorem Ya {g:Rg d}{r:List (Rg d)}{on:Int}(h:¬(on=-1\/(Em.aJ d).idle g=true)):Em.pZ (Em.aJ d) on (g::r) k=(Em.given on ((Em.aJ d).there g) >>= fun h=>(Em.aJ d).goOn g h (List.replicate ((Em.aJ d).size g) []) >>= fun _=>Em.pZ (Em.aJ d) on r) k:=by rw[Em.pZ,if_neg h]
theorem fH.cells:∀(d:Nat) {r:Rg d}{g:Nat},fH A d w r g->eS ns d r->A g/\∃ad cap vo fi lv,w.heap[g]?=some (.cells #[.slice ad ((Em.aJ d).size r) cap,vo,.int .i64 fi,.int .i64 ((Em.aJ d).there r),.bool ((Em.aJ d).idle r),.bool lv] 188 (0,0))/\(Em.aJ d).size r≤1000000
 | 0,_,_,h,_=>h.elim
 | d+1,r,g,h,hk=>by
  obtain ⟨gS,ad,cap,vo,h1,h2,_⟩:=h
  exact ⟨h2,ad,cap,vo,_,_,h1,Od.n hk⟩
def aN8 (E:Nat) (ns:List bE) (P:Nat->Prop) (kb:Nat) (w:World) (k:Kd) (o:Option (Unit×Kd)) (e:Ending) (w':World):Prop:=
 (e=Vl/\Hid (o=none)/\Hid (bM P w w'))\/∃k',e=.returned (.tuple #[])/\Hid (o=some ((),k'))/\Hid (At E ns P kb w k w' k')
theorem nK.at {W W' j n:World}{r:Kd}{u:Nat->Prop}{o:Option (Unit×Kd)}{e:Ending}(Q:∀x,P x->x<wr.heap.size) (hb:Below wr.heap.size wr W) (s:At E ns P kb W kj j r) (l:Below j.heap.size j W') (J:∀x,u x->wr.heap.size≤x) (h:nK E ns (Up P W j) u kb W' r o e n):aN8 E ns P kb wr kj o e n:=by
 have Y:=hb.size
 have Z:=s.2.1.size
 have s2:=l.size
 have f1:bM P wr W':=((bM.of_below hb).trans s.2.1 fun _ _ h=>h).trans (bM.of_below (P:=fun _=>False) l) fun _ _ h=>h.elim
 have I:∀x,x<wr.heap.size->(Up P W j x\/u x)->P x:=fun x hx h=>by
  rcases h with (h|h)|h
  ·exact h
  ·omega
  ·have:=J x h;omega
 rcases h with ⟨rfl,D,y⟩|⟨O,rfl,D,y⟩
 ·exact .inl ⟨rfl,D,f1.trans y.out I⟩
 ·obtain ⟨P1,p1,p2,p3,p4⟩:=y.out
  have U:=p3.size
  have f2:=f1.trans p3 I
  refine .inr ⟨O,rfl,D,p1.mono (fun x hx=>?_) (iI Q f2.size),f2,aW6 s.2.2 p4⟩
  rcases p2 x hx with (h|h)|h
  ·exact .inl h
  ·exact .inr ⟨by omega,by omega⟩
  ·exact .inr ⟨by omega,h.2⟩
theorem zB {W W' l:World}{s:Kd}{r:Rg d}{J b':Nat}{here:Int}(O:Nz A kb E ns d) (Z:∀x,P x->x<wr.heap.size) (hb:Below wr.heap.size wr W) (u:At E ns P kb W kj l s) (j:Below l.heap.size l W') (n:wr.heap.size≤b'/\¬Up P W l b') (D:W'.heap[b']?=some (.cells (Array.replicate ((Em.aJ d).size r) (Value.slice none 0 0)) 238 (0,0))) (y:Ro A P wr) (I:fH A d wr r J) (Q:eS ns d r) :
    Calls Tryz.prog 118 #[.pointer (some ⟨kb,0,none⟩),.pointer (some ⟨J,0,none⟩),.int .i64 here,.slice (some ⟨b',0,none⟩) ((Em.aJ d).size r) ((Em.aJ d).size r)] W' (aN8 E ns P kb wr kj ((Em.aJ d).goOn r here (List.replicate ((Em.aJ d).size r) []) s)):=by
 have s0:=hb.size
 have s1:=u.2.1.size
 have s2:=j.size
 have f1:bM P wr W':=((bM.of_below hb).trans u.2.1 fun _ _ h=>h).trans (bM.of_below (P:=fun _=>False) j) fun _ _ h=>h.elim
 have Y:=y.keep f1
 have D:W'.heap[b']?=some (.cells (List.replicate ((Em.aJ d).size r) (Value.slice none 0 0)).toArray 238 (0,0)):=by rw[D,<-List.toArray_replicate]
 refine (O (fH.carry d Y _ _ I) Q (u.1.below j) (Q9 D) (fun x hx e=>n.2 (e▸hx)) (fun x hx=>⟨aH3 (y x hx).1 (by omega),?_⟩) (by simp) (by omega)).mono fun e U h=>h.at Z hb u j fun x hx=>by rw[hx];exact n.1
 have:=(y x hx).1
 rintro ((h|h)|h)
 ·exact (y x hx).2 h
 ·omega
 ·omega
end
end Ew
end
section
open Go.RowKit Px
namespace Ew
open Px.Em (Kd Vr eQ eR jP Rg cX)
open Nx (Nt Sp)
section
variable {P T X P1 T1 A:Nat->Prop}{w wr w2:World}{kb b E c d:Nat}{ns:List bE}{k kj k2:Kd}{t:cX}
theorem Two.trans {n:cX}{s:Nat}{r T2:Nat->Prop}(S:Two E ns P T (fun _=>False) kb b w k P1 T1 wr kj t c) (j:Two E ns P1 T1 (fun _=>False) kb b wr kj r T2 w2 k2 n s):Two E ns P T (fun _=>False) kb b w k r T2 w2 k2 n s:=by
 have u:=S.fr.size
 have l:=j.fr.size
 refine ⟨j.cm,j.im,j.dis,fun x hx=>⟨?_,id⟩,fun x hx=>⟨?_,id⟩,fun _ h=>h.elim,S.fr.trans j.fr fun x hx h=>?_,aW6 S.pl j.pl⟩
 ·rcases (j.up x hx).1 with h|h
  ·exact Up.size l x (S.up x h).1
  ·exact .inr ⟨by omega,h.2⟩
 ·rcases (j.ut x hx).1 with h|h
  ·exact Up.size l x (S.ut x h).1
  ·exact .inr ⟨by omega,h.2⟩
 ·rcases h with h|h
  ·exact (S.up x h).1.elim .inl fun h=>absurd h.1 (by omega)
  ·exact (S.ut x h).1.elim .inr fun h=>absurd h.1 (by omega)
theorem Two.ends {o:Option (Unit×Kd)}{c:Nat}(h:Two E ns P T (fun _=>False) kb b w k P1 T1 wr kj t c) (ho:o=some ((),kj)):nK E ns P T kb w k o (.returned (.tuple #[])) wr:=
 .inr ⟨kj,rfl,ho,P1,h.cm,fun x hx=>(h.up x hx).1,h.fr,h.pl⟩
def Vn (g:jP (St d) (Rg d)) (i:Nat) (r:List Nat) (t:cX) (so:Int):Em.M Unit:=
 if so=-1 then Em.cA (Em.aJ d) g r t else
 match g.states[i]? with
 | none=>Em.thrown
 | some s=>Em.bS ((i:Int)+1) >>= fun x=>Em.put g.there so x >>= fun _=>Em.iQ (decide (0<s.inside.length)) (t.getD i []) (-1) >>= fun b=>Em.fG (Em.aJ d) s so b t >>= fun t'=>Em.cA (Em.aJ d) g r t'
theorem A8 {g:jP (St d) (Rg d)}{i:Nat}{r:List Nat}:Em.cA (Em.aJ d) g (i::r) t k=(Em.J6 (t.getD i []) (-1) >>= Vn g i r t) k:=by
 rw[Em.cA]
 refine congrFun (congrArg (fun f=>Em.J6 (t.getD i []) (-1) >>= f) (funext fun h=>?_)) k
 unfold Vn
 split
 ·rfl
 ·cases g.states[i]?<;>rfl
theorem Tz {g:jP (St d) (Rg d)}{i:Nat}{r:List Nat}{so:Int}(h:so=-1):Vn g i r t so k=Em.cA (Em.aJ d) g r t k:=by unfold Vn;rw[if_pos h]
theorem aF7 {g:jP (St d) (Rg d)}{i:Nat}{r:List Nat}{so:Int}{s:eR (St d) (Rg d)}(h:¬so=-1) (j:g.states[i]?=some s):Vn g i r t so k=(Em.bS ((i:Int)+1) >>= fun x=>Em.put g.there so x >>= fun _=>Em.iQ (decide (0<s.inside.length)) (t.getD i []) (-1) >>= fun b=>Em.fG (Em.aJ d) s so b t >>= fun t'=>Em.cA (Em.aJ d) g r t') k:=by
 unfold Vn;rw[if_neg h,j]
theorem Kj {a:Int×Bool}{r:List (Int×Bool)}{so:Int}:Em.J6 (a::r) so k=(Em.uZ so a.1 >>= fun so'=>Em.J6 r so') k:=rfl
theorem xE.at (h:xE T w b t c) {i:Nat}{l:List (Int×Bool)}(r:t[i]?=some l):∃v,w.cell? ⟨b,i,none⟩=some v/\ArM w v l/\(∀g,v.ownBlock=some g->T g)/\T b:=by
 obtain ⟨⟨vs,s,j⟩,_⟩:=h
 have y:i<vs.length:=by rw[j.len];exact (aH6.1 r).1
 have n:vs[i]?=some vs[i]:=aE5 y
 exact ⟨vs[i],aA j.hb i (by rw[List.getElem?_toArray];exact n),j.row i _ l n r,fun g u=>(j.pr i _ g n u).1,j.pb.1⟩
theorem zD {s:eR (St d) (Rg d)}{so back:Int}{j:cX}{l:Kd}(h:Em.fG (Em.aJ d) s so back t k=some (j,l)):j.length=t.length:=by
 rw[rM] at h
 obtain ⟨_,D,_,h⟩:=cV h
 obtain ⟨_,k2,_,h⟩:=cV h
 obtain ⟨c1,J,_,h⟩:=cV h
 obtain ⟨on,O,_,h⟩:=cV h
 have r:∀{c2:List (eQ×Int)×Int}{k:Kd},Zs c1 c2 t k=some (j,l)->j.length=t.length:=fun {c2 k} h=>by
  obtain ⟨Q,I,n,y⟩:=cV h
  rw[jX y,jX n]
 have u:∀{c2:List (eQ×Int)×Int}{k:Kd},Tv s c1 c2 t k=some (j,l)->j.length=t.length:=fun {c2 k} h=>by
  unfold Tv at h
  split at h
  ·obtain ⟨_,_,_,h⟩:=cV h
   obtain ⟨_,_,_,h⟩:=cV h
   obtain ⟨_,_,_,h⟩:=cV h
   exact r h
  ·exact r h
 have n:∀{bk:Int}{k:Kd},es5 s c1 t on bk k=some (j,l)->j.length=t.length:=fun {bk k} h=>by
  obtain ⟨_,_,_,h⟩:=cV h
  obtain ⟨_,_,_,h⟩:=cV h
  exact u h
 unfold Vm at h
 split at h
 ·exact n h
 ·obtain ⟨_,_,_,h⟩:=cV h
  exact n h
theorem tR (hE:E<1000000) (ih:oQ A kb E ns d) {r:jP (St d) (Rg d)}{g n:Nat}(hr:Nu A w (fH A d w) r g) (hk:Od ns (eS ns d) r) (h:eK E ns P w kb k) (hI:xE T w b t c) (hd:∀x,P x->¬T x) (hR:Ro A (fun x=>P x\/T x) w) (hn:t.length=n) (ai:n=r.states.length) (hc:c≤3000000000000) :
    Calls Tryz.prog 164 #[.pointer (some ⟨kb,0,none⟩),.pointer (some ⟨g,0,none⟩),.slice (some ⟨b,0,none⟩) n n] w (nK E ns P T kb w k (Em.cA (Em.aJ d) r r.order t k)):=by
 obtain ⟨Z,hZ⟩:∃Z,Z=Em.cA (Em.aJ d) r r.order t k:=⟨_,rfl⟩
 have HZ:Hid (Z=Em.cA (Em.aJ d) r r.order t k):=hZ
 rw[<-hZ]
 obtain ⟨gS,aS,cS,vo,hg,bp,hS,⟨ao,go,co,rfl,bb,aj⟩,hst⟩:=hr
 obtain ⟨N,hN⟩:∃N,N=r.order.length:=⟨_,rfl⟩
 rw[<-hN] at bb
 rw[<-ai] at hg hS
 rw[<-hN] at hg
 have g1:=aA hg 1 (u:=.slice ao N co) rfl
 have HN:Hid (N=r.order.length/\n=r.states.length/\Od ns (eS ns d) r/\n≤1000000/\N≤1000000):=⟨hN,ai,hk,by rw[ai];exact hk.n,by rw[hN];exact hk.ol⟩
 have HO:Hid ((0<N->ao=some ⟨go,0,none⟩/\A go)/\∀j x:Nat,r.order[j]?=some x->w.cell? ⟨go,j,none⟩=some (.int .i64 (x:Int))):=⟨bb,aj⟩
 have HG:Hid (w.heap[g]?=some (.cells #[.slice aS n cS,.slice ao N co,.int .i64 r.first,.int .i64 r.there,.bool r.idle,.bool r.leaves] 188 (0,0))/\A g/\(0<n->aS=some ⟨gS,0,none⟩/\A gS)/\∀i s,r.states[i]?=some s->∃gd od,vS A w (fH A d w) gS (i*5) s gd od):=⟨hg,bp,hS,hst⟩
 have HC:Hid (Two E ns P T (fun _=>False) kb b w k P T w k t c/\Ro A (fun x=>P x\/T x) w/\t.length=n/\oQ A kb E ns d):=⟨Two.start h hI hd,hR,hn,ih⟩
 have cb:(N:Int)≤1000000:=by have:=hk.ol;omega
 clear h hI hd hR hn ai ih hk hg bp hS bb aj hst hN hZ
 go_enter Tryz.func164,Tryz.ntmps164
 go_wp2_with fail
 clear g1
 go_loopg [16] N (fun f i wr=>∃(j:Nat) (kj:Kd) (y:cX),f=N-j/\j≤N/\i=.int .i64 (j:Int)/\Hid (Z=Em.cA (Em.aJ d) r (r.order.drop j) y kj/\y.length=n/\∃Pj O,Two E ns P T (fun _=>False) kb b w k Pj O wr kj y (c+2000000*j)))
 case atStart=>exact ⟨0,k,t,by omega,by omega,rfl,HZ.out,HC.out.2.2.1,P,T,HC.out.1⟩
 case round=>
  obtain ⟨j,kj,y,rfl,hj,rfl,hr⟩:=hrel
  obtain ⟨J,af,Pj,O,hT⟩:=hr.out
  by_cases hlt:j<N
  ·obtain ⟨i,hi⟩:∃i:Nat,r.order[j]?=some i:=⟨r.order[j]'(by rw[<-HN.out.1];exact hlt),aE5 _⟩
   have ap:i<n:=by rw[HN.out.2.1];exact HN.out.2.2.1.o i (aH8 hi)
   have Q:=hT.keep HC.out.2.1
   have bo:=ixI ao go N co j hlt (fun hp=>(HO.out.1 hp).1)
   have o0:=cL Q (HO.out.1 (by omega)).2 (HO.out.2 j i hi)
   obtain ⟨l,hl⟩:∃l,y[i]?=some l:=⟨_,aE5 (by rw[af];exact ap)⟩
   obtain ⟨v,b0,hv,be,bi⟩:=hT.im.at hl
   have ca:=ixA b n n i ap
   obtain ⟨al,gl,cl,rfl,au,ah,br⟩:=hv.open
   obtain ⟨L,hL⟩:∃L,L=l.length:=⟨_,rfl⟩
   rw[<-hL] at au ah b0 be
   have bc:y.getD i []=l:=by rw[iO,hl];rfl
   have e0:Hid (Z=(Em.J6 (l.drop 0) (-1) >>= Vn r i (r.order.drop (j+1)) y) kj):=by
    rw[Hid,J,dT hi,List.drop_zero,<-bc];exact A8
   obtain ⟨cj,bf⟩:∃cj,cj=c+2000000*j:=⟨_,rfl⟩
   have ax:Hid (cj=c+2000000*j/\cj≤6000000000000):=⟨bf,by have:=HN.out.2.2.2.2;omega⟩
   rw[<-bf] at hT
   have S0:Hid (Two E ns P T (fun _=>False) kb b w k Pj O wr kj y cj):=hT
   have HV:Hid (ArM wr (.slice al L cl) l/\(∀g,(Value.slice al L cl).ownBlock=some g->O g)/\(0<L->al=some ⟨gl,0,none⟩/\(Value.slice al L cl).ownBlock=some gl)/\(∀(m:Nat) (a:Int×Bool),l[m]?=some a->wr.cell? ⟨gl,m*2,none⟩=some (.int .i64 a.1)/\wr.cell? ⟨gl,m*2+1,none⟩=some (.bool a.2))/\L=l.length/\y.length=n/\y.getD i []=l/\i<n/\y[i]?=some l/\O b):=⟨by rw[hL];exact hv,be,by rw[hL] at ah ⊢;exact ah,br,hL,af,bc,ap,hl,bi⟩
   have ch:(L:Int)≤9223372036854775807:=by unfold maxLen at au;omega
   have cf:(i:Int)<1000000:=by have:=HN.out.2.2.2.1;omega
   clear hr J af hT Q hi hv be ah br hL au bc bf hl bi
   go_wp2_with fail
   clear o0 bo b0
   go_loopg [8,25] L (fun f sv i2 wm=>∃(m:Nat) (so:Int) (km:Kd),f=L-m/\m≤L/\sv=.int .i64 so/\i2=.int .i64 (m:Int)/\Hid (Z=(Em.J6 (l.drop m) so >>= Vn r i (r.order.drop (j+1)) y) km/\∃Pm,Two E ns P T (fun _=>False) kb b w k Pm O wm km y cj/\bM Pj wr wm/\∀x,Pm x->Up Pj wr wm x))
   case atStart=>exact ⟨0,-1,kj,by omega,by omega,rfl,rfl,e0.out,Pj,S0.out,bM.refl _ _,fun x hx=>.inl hx⟩
   case round=>
    obtain ⟨m,so,km,rfl,hm,rfl,rfl,hr⟩:=hrel
    obtain ⟨J,Pm,hT,U,ab⟩:=hr.out
    by_cases hltm:m<L
    ·obtain ⟨a,ha⟩:∃a:Int×Bool,l[m]?=some a:=⟨l[m]'(by rw[<-HV.out.2.2.2.2.1];exact hltm),aE5 _⟩
     obtain ⟨c0,c1⟩:=HV.out.2.2.2.1 m a ha
     have av:=HV.out.2.2.1 (by omega)
     have aw:¬Pj gl:=fun hp=>S0.out.dis gl hp (HV.out.2.1 gl av.2)
     have c0:=U.cell c0 aw
     have c1:=U.cell c1 aw
     have bv:=aL2 al gl L cl m hltm (fun _=>av.1)
     obtain ⟨Y,hY⟩:∃Y,Y=wr.alloc (.cells #[.int .i64 a.1,.bool a.2] 240):=⟨_,rfl⟩
     obtain ⟨q,hq⟩:∃q,q=wr.heap.size:=⟨_,rfl⟩
     have ag:Below wr.heap.size wr Y:=by rw[hY];exact aC _ _
     have bm:Y.heap[q]?=some (.cells #[.int .i64 a.1,.bool a.2] 240 (0,0)):=by rw[hY,hq];exact aX wr _
     have x0:=aA bm 0 (u:=.int .i64 a.1) rfl
     have az:=hT.below ag
     have bk:=pS so a.1 az.cm hE
     have e1:Hid (Z=(Em.uZ so a.1 >>= fun bz=>Em.J6 (l.drop (m+1)) bz >>= Vn r i (r.order.drop (j+1)) y) km):=by
      refine J.trans ((eH (by rw[dT ha];exact Kj)).trans zM)
     have HY:Hid (Two E ns P T (fun _=>False) kb b w k Pm O Y km y cj/\(∀w1,bM Pm Y w1->bM Pj _ w1/\∀x,Up Pm Y w1 x->Up Pj _ w1 x)):=⟨az,fun w1 hf=>by
      have s1:=hf.size
      have s2:=ag.size
      have s3:=U.size
      refine ⟨(U.trans (bM.of_below (P:=fun _=>False) ag) fun _ _ h=>h.elim).trans hf fun x hx h=>(ab x h).elim id fun h=>absurd h.1 (by omega),fun x hx=>?_⟩
      rcases hx with hx|hx
      ·exact Up.size (by omega) x (ab x hx)
      ·exact .inr ⟨by omega,hx.2⟩⟩
     clear hr J hT U ab ag bm az av aw ha
     go_upto_region 7 with fail
     rw[<-hY,<-hq]
     clear hY hq bv c0 c1
     go_wp2_with (go_at_call 211;refine bk.mono ?_;rintro e w1 (⟨rfl,D,I⟩|⟨x1,k1,rfl,D,I⟩);(· exact ⟨rfl,.inl ⟨rfl,e1.out.trans (aH D.out),HY.out.1.bad I.out⟩⟩))
     have aa:Hid _:=And.intro (e1.out.trans (bind_some D.out)) (And.intro (HY.out.1.coder I.out) (HY.out.2 _ I.out.2.1))
     clear D I bk
     go_roundg (L-(m+1))
     case measure=>omega
     case rel=>exact ⟨m+1,x1,k1,rfl,by omega,rfl,by go_num,aa.out.1,_,aa.out.2.1,aa.out.2.2.1,aa.out.2.2.2⟩
    ·obtain rfl:m=L:=by omega
     have e1:Hid (Z=Vn r i (r.order.drop (j+1)) y so km):=by rw[Hid,J,HV.out.2.2.2.2.1,aK8];rfl
     have S1:Hid (Two E ns P T (fun _=>False) kb b w k Pm O wr km y cj):=hT
     by_cases hso:so=-1
     ·have t1:(so == -1)=true:=by simpa using hso
      have t2:(so != -1)=false:=by simp[hso]
      have aa:Hid (Z=Em.cA (Em.aJ d) r (r.order.drop (j+1)) y km/\y.length=n/\∃Pj O,Two E ns P T (fun _=>False) kb b w k Pj O wr km y (c+2000000*(j+1))):=⟨e1.out.trans (Tz hso),HV.out.2.2.2.2.2.1,Pm,O,S1.out.more (by have:=ax.out.1;omega)⟩
      clear hr J hT U ab hso
      go_wp2_with fail
      go_roundg (N-(j+1))
      case measure=>omega
      case rel=>exact ⟨j+1,km,y,rfl,by omega,by go_num,aa.out⟩
     ·have t1:(so == -1)=false:=by simpa using hso
      have t2:(so != -1)=true:=by simp[hso]
      obtain ⟨s,hs⟩:∃s:eR (St d) (Rg d),r.states[i]?=some s:=⟨_,aE5 (by rw[<-HN.out.2.1];exact HV.out.2.2.2.2.2.2.2.1)⟩
      obtain ⟨gd,od,ad⟩:=HG.out.2.2.2 i s hs
      have bh:=HN.out.2.2.1.st s (aH8 hs)
      rw[<-HN.out.2.1] at bh
      obtain ⟨oS,ay⟩:∃oS,oS=i*5:=⟨_,rfl⟩
      rw[<-ay] at ad
      have e2:Hid (Z=(Em.bS ((i:Int)+1) >>= fun x=>Em.put r.there so x >>= fun _=>Em.iQ (decide (0<s.inside.length)) l (-1) >>= fun b=>Em.fG (Em.aJ d) s so b y >>= fun t'=>Em.cA (Em.aJ d) r (r.order.drop (j+1)) t') km):=by
       rw[Hid,<-HV.out.2.2.2.2.2.2.1];exact e1.out.trans (aF7 hso hs)
      have hdr:Below wr.heap.size wr wr.drew:=⟨rfl,rfl,rfl,aF4 _,fun _ _=>rfl⟩
      have S2:Hid (Two E ns P T (fun _=>False) kb b w k Pm O wr.drew km y cj):=hT.below hdr
      have Q:=S2.out.keep HC.out.2.1
      have ac:=lA Q HG.out.2.1 HG.out.1
      have g3:wr.cell? ⟨g,3,none⟩=some (.int .i64 r.there):=aA ac 3 rfl
      have bq:=nX (w:=wr.drew) i (by omega)
      have am:=dP (n:=(i:Int)+1) S2.out.cm hE (Ia (by omega))
      have ar:Hid (vS A w (fH A d w) gS oS s gd od/\B9 ns n (eS ns d) s):=⟨ad,bh⟩
      have bn:=Se aS gS n cS i HV.out.2.2.2.2.2.2.2.1 (fun hp=>(HG.out.2.2.1 hp).1)
      rw[<-ay] at bn
      clear hr J hT U ab hso S1 e1 hs ad bh ay hdr Q ac
      go_upto_region 10 with fail
      clear t1 t2
      go_region_law (first
       | (go_simp;go_at_call 158;refine bq.mono ?_;rintro e cg ⟨rfl,bw⟩;obtain rfl:=bw.symm;clear bq)
       | (go_simp;go_at_call 207;refine am.mono ?_;rintro e w3 (⟨rfl,D,I⟩|⟨x3,k3,rfl,D,I⟩);(· exact ⟨rfl,.inl ⟨rfl,e2.out.trans (aH D.out),S2.out.bad I.out⟩⟩);obtain ⟨P3,S3⟩:∃P3,Hid (Two E ns P T (fun _=>False) kb b w k P3 O w3 k3 y (cj)):=⟨_,S2.out.coder I.out⟩;have e3:Hid _:=e2.out.trans (bind_some D.out);clear D I am;have an:=Ew.nU r.there so x3 S3.out.cm;have cd:=aA (lA (S3.out.keep HC.out.2.1) HG.out.2.1 HG.out.1) 3 (u:=.int .i64 r.there) rfl)
       | (go_simp;go_at_call 214;refine an.mono ?_;rintro e w4 (⟨rfl,D,I⟩|⟨_,k4,rfl,D,I⟩);(· exact ⟨rfl,.inl ⟨rfl,e3.out.trans (aH D.out),S3.out.bad I.out⟩⟩);obtain ⟨P4,S4⟩:∃P4,Hid (Two E ns P T (fun _=>False) kb b w k P4 O w4 k4 y (cj)):=⟨_,S3.out.coder I.out⟩;have e4:Hid _:=e3.out.trans (bind_some D.out);clear D I an))
      all_goals
       clear S2 e2 S3 e3 g3
       have hdr:Below w4.heap.size w4 w4.drew:=⟨rfl,rfl,rfl,aF4 _,fun _ _=>rfl⟩
       have S5:Hid (Two E ns P T (fun _=>False) kb b w k P4 O w4.drew k4 y cj):=S4.out.below hdr
       have Q:=S5.out.keep HC.out.2.1
       have ac:=lA Q HG.out.2.1 HG.out.1
       have g0:w4.cell? ⟨g,0,none⟩=some (.slice aS n cS):=aA ac 0 rfl
       obtain ⟨v4,b4,ba,ak,_⟩:=S5.out.im.at HV.out.2.2.2.2.2.2.2.2.1
       have cc:w4.cell? ⟨b,i,none⟩=some v4:=b4
       have ae:=Ut hE (ar.out.1.carry Q (fH.carry d Q)) ba (fun x hx hp=>S5.out.dis x hp (ak x hx)) S5.out.cm (S5.out.ro HC.out.2.1)
       obtain ⟨a4,g4,c4,rfl,_⟩:=ba.open
       have e5:=e4
       clear S4 e4 hdr Q ac b4 ba ak
       go_upto_region 11 with fail
       go_region_law (first
        | (go_simp;go_at_call 216;refine ae.mono ?_;rintro e w6 (⟨rfl,D,I⟩|⟨x6,k6,rfl,D,I⟩);(· exact ⟨rfl,.inl ⟨rfl,e5.out.trans (aH D.out),S5.out.bad I.out⟩⟩);obtain ⟨P6,S6⟩:∃P6,Hid (Two E ns P T (fun _=>False) kb b w k P6 O w6 k6 y (cj)):=⟨_,S5.out.coder I.out⟩;have e6:Hid _:=e5.out.trans (bind_some D.out);clear D I ae;have Q:=S6.out.keep HC.out.2.1;have ce:=aA (lA Q HG.out.2.1 HG.out.1) 0 (u:=.slice aS n cS) rfl;have bj:=zE (n:=n) (so:=so) (back:=x6) hE HC.out.2.2.2 (ar.out.1.carry Q (fH.carry d Q)) ar.out.2 S6.out.cm S6.out.im S6.out.dis (S6.out.roU HC.out.2.1) HV.out.2.2.2.2.2.1 ax.out.2;clear Q)
        | (go_simp;go_at_call 215;refine bj.mono ?_;rintro e w7 h7;rcases h7 with ⟨rfl,D,I⟩|⟨t7,k7,rfl,D,P7,T7,h7⟩;(· exact ⟨rfl,.inl ⟨rfl,e6.out.trans (aH D.out),S6.out.fr.trans I.out fun x hx h=>by { rcases h with h|h;exact (S6.out.up x h).1.elim .inl (fun h=>absurd h.1 (by omega));exact (S6.out.ut x h).1.elim .inr (fun h=>absurd h.1 (by omega)) }⟩⟩);have bu:Hid (Z=Em.cA (Em.aJ d) r (r.order.drop (j+1)) t7 k7/\t7.length=n/\∃Pj O,Two E ns P T (fun _=>False) kb b w k Pj O w7 k7 t7 (c+2000000*(j+1))):=⟨e6.out.trans (bind_some D.out),by { rw[zD D.out];exact HV.out.2.2.2.2.2.1 },P7,T7,(S6.out.trans h7).more (by { have:=ax.out.1;omega })⟩;clear D h7 bj))
       all_goals
        clear S5 e5 S6 e6
        go_wp2_with fail
        go_roundg (N-(j+1))
        case measure=>omega
        case rel=>exact ⟨j+1,k7,t7,rfl,by omega,by go_num,bu.out⟩
  ·obtain rfl:j=N:=by omega
   have HF:Hid (nK E ns P T kb w k Z (.returned (.tuple #[])) wr):=Two.ends hT (by rw[J,HN.out.1,aK8];rfl)
   clear hr J af hT
   go_wp2_with fail
   go_end0
   exact HF.out
end
end Ew
end
section
open Go.RowKit Px
namespace Ew
open Px.Em (Kd Vr eQ eR jP Rg cX)
open Nx (Nt Sp)
section
variable {P T X P1 T1 A:Nat->Prop}{w wr w2:World}{kb b E c d:Nat}{ns:List bE}{k kj k2:Kd}{t:cX}
theorem nK.up {o o2:Option (Unit×Kd)}{e:Ending}(S:Two E ns P T X kb b w k P1 T1 wr kj t c) (y:o=o2) (h:nK E ns P1 T1 kb wr kj o2 e w2):nK E ns P T kb w k o e w2:=by
 subst y
 have D:=S.fr.size
 have j:∀x,x<w.heap.size->(P1 x\/T1 x)->(P x\/T x):=fun x hx h=>by
  rcases h with h|h
  ·exact (S.up x h).1.elim .inl fun h=>absurd h.1 (by omega)
  ·exact (S.ut x h).1.elim .inr fun h=>absurd h.1 (by omega)
 rcases h with ⟨rfl,n,l⟩|⟨s,rfl,n,l⟩
 ·exact .inl ⟨rfl,n,S.fr.trans l.out j⟩
 ·obtain ⟨u,p1,p2,p3,p4⟩:=l.out
  have r:=p3.size
  refine .inr ⟨s,rfl,n,u,p1,fun x hx=>?_,S.fr.trans p3 j,aW6 S.pl p4⟩
  rcases p2 x hx with h|h
  ·exact Up.size r x (S.up x h).1
  ·exact .inr ⟨by omega,h.2⟩
def enB (g:jP (St d) (Rg d)) (back:Int):Em.M cX:=if back=-1 then pure (List.replicate g.states.length []) else (Em.given back g.there >>= fun w=>Em.wT w g.states.length 0 (List.replicate g.states.length []))
theorem Tx {g:jP (St d) (Rg d)}{so back:Int}(h:¬so=-1):Em.enter (Em.aJ d) g so back=(enB g back >>= fun t=>Em.dU so back >>= fun f=>Em.cA (Em.aJ d) g g.order (Em.eC t g.first f false)):=by
 unfold Em.enter enB
 rw[if_neg h]
 by_cases h2:back=-1
 ·simp only[h2,if_true,pure_bind]
 ·simp only[h2,if_false,pA]
theorem Gv {was:Int}{m i:Nat}:Em.wT was (m+1) i t k=(Em.is was i >>= fun x=>Em.wT was m (i+1) (Em.eC t i x true)) k:=rfl
theorem Gg (hE:E<1000000) (ih:oQ A kb E ns d) {P:Nat->Prop}{w:World}{k:Kd}{r:jP (St d) (Rg d)}{g:Nat}{so back:Int}(hr:Nu A w (fH A d w) r g) (hk:Od ns (eS ns d) r) (h:eK E ns P w kb k) (hR:Ro A P w) :
    Calls Tryz.prog 233 #[.pointer (some ⟨kb,0,none⟩),.pointer (some ⟨g,0,none⟩),.int .i64 so,.int .i64 back] w (fJ E ns P kb w k (Em.enter (Em.aJ d) r so back k) (fun _=>.tuple #[])):=by
 obtain ⟨Z,hZ⟩:∃Z,Z=Em.enter (Em.aJ d) r so back k:=⟨_,rfl⟩
 rw[<-hZ]
 by_cases hso:so=-1
 ·have HF:Hid (fJ E ns P kb w k Z (fun _=>.tuple #[]) (.returned (.tuple #[])) w):=At.ends (At.start h) (a:=()) (val:=fun _=>.tuple #[]) (by rw[hZ];unfold Em.enter;rw[if_pos hso];rfl)
  have t1:(so == -1)=true:=by simpa using hso
  clear h hR hr hk hZ hso ih
  go_enter Tryz.func233,Tryz.ntmps233
  go_wp2_with fail
  go_end0
  exact HF.out
 ·have t1:(so == -1)=false:=by simpa using hso
  have hr0:=hr
  obtain ⟨gS,aS,cS,vo,hg,ae,hS,aj,hst⟩:=hr
  obtain ⟨n,hn⟩:∃n,n=r.states.length:=⟨_,rfl⟩
  rw[<-hn] at hg hS
  have g0:=aA hg 0 (u:=.slice aS n cS) rfl
  have aw:n≤1000000:=by rw[hn];exact hk.n
  have ay:∀W,(Instr.makeSlice 190 (.int .i64 (n:Int)) (.int .i64 (n:Int))).run Tryz.prog W=.ok (.slice (some ⟨W.heap.size,0,none⟩) n n) (W.alloc (.cells (List.replicate n (Value.slice none 0 0)).toArray 238)):=fun W=>Rh W n aw
  obtain ⟨w1,ab⟩:∃w1,w1=w.alloc (.cells (Array.replicate n (Value.slice none 0 0)) 238):=⟨_,rfl⟩
  obtain ⟨b,hb⟩:∃b,b=w.heap.size:=⟨_,rfl⟩
  have U:Below w.heap.size w w1:=by rw[ab];exact aC _ _
  have am:xE (fun x=>x=b) w1 b (List.replicate n []) 0:=Q9 (by rw[ab,hb,List.toArray_replicate];exact aX w _)
  have ap:=h.below U
  have ak:∀x,P x->¬x=b:=fun x hx e=>by have:=h.2.2 x hx;omega
  have ac:bB A A w w1:=fun x hx hl=>⟨hx,U.block x hl⟩
  have an:Ro A (fun x=>P x\/x=b) w1:=fun x hx=>⟨aH3 (hR x hx).1 U.size,fun hp=>hp.elim (hR x hx).2 fun e=>by have:=(hR x hx).1;omega⟩
  have I:Hid (∀e w2,nK E ns P (fun x=>x=b) kb w1 k Z e w2->fJ E ns P kb w k Z (fun _=>.tuple #[]) e w2):=fun e w2 hG=>nK.ran U h.2.2 (fun x hx=>by rw[hx,hb];exact aF4 _) hG
  have s:Hid (Nu A w1 (fH A d w1) r g/\Od ns (eS ns d) r/\Ro A (fun x=>P x\/x=b) w1/\oQ A kb E ns d/\n=r.states.length/\w1.heap[g]?=some (.cells #[.slice aS n cS,vo,.int .i64 r.first,.int .i64 r.there,.bool r.idle,.bool r.leaves] 188 (0,0))/\A g):=⟨hr0.carry ac (fH.carry d ac),hk,an,ih,hn,lA ac ae hg,ae⟩
  have S1:Hid (Two E ns P (fun x=>x=b) (fun _=>False) kb b w1 k P (fun x=>x=b) w1 k (List.replicate n []) 0):=Two.start ap am ak
  have HZ:Hid (Z=(enB r back >>= fun t=>Em.dU so back >>= fun f=>Em.cA (Em.aJ d) r r.order (Em.eC t r.first f false)) k):=by rw[Hid,hZ,Tx hso]
  obtain ⟨B,hB⟩:∃B,(back != -1)=B:=⟨_,rfl⟩
  have ax:(back == -1)=!B:=by rw[<-hB,bne,Bool.not_not]
  have HB:Hid (B=true↔back≠-1):=by rw[Hid,<-hB];simp
  have bb:(n:Int)≤1000000:=by omega
  clear h hR hr0 hk hZ hso ih hg ae hS aj hst hn U am ap ak ac an
  go_enter Tryz.func233,Tryz.ntmps233
  go_upto_region 2 with fail
  rw[<-ab,<-hb]
  clear ab hb g0 ay t1
  go_upto_if 20 with fail
  clear hB ax
  go_cut [] (fun wx=>∃(t:cX) (km:Kd),Hid (Z=(Em.dU so back >>= fun f=>Em.cA (Em.aJ d) r r.order (Em.eC t r.first f false)) km/\t.length=n/\∃Pm Tm,Two E ns P (fun x=>x=b) (fun _=>False) kb b w1 k Pm Tm wx km t 1000000))
  case first=>
   cases B with
   | false=>
    have he:back=-1:=Classical.byContradiction fun h=>absurd (HB.out.2 h) (by simp)
    have ag:Hid (Z=(Em.dU so back >>= fun f=>Em.cA (Em.aJ d) r r.order (Em.eC (List.replicate n []) r.first f false)) k/\(List.replicate n ([]:List (Int×Bool))).length=n/\∃Pm Tm,Two E ns P (fun x=>x=b) (fun _=>False) kb b w1 k Pm Tm w1 k (List.replicate n []) 1000000):=⟨by rw[HZ.out];unfold enB;rw[if_pos he,s.out.2.2.2.2.1];rfl,by simp,P,_,S1.out.more (by omega)⟩
    clear he
    go_wp2_with fail
    go_meet
    case rel=>exact ⟨_,_,ag.out⟩
   | true=>
    have av:=HB.out.1 rfl
    have g3:=aA s.out.2.2.2.2.2.1 3 (u:=.int .i64 r.there) rfl
    have O:=vH back r.there S1.out.cm hE
    have e1:Hid (Z=(Em.given back r.there >>= fun was=>Em.wT was n 0 (List.replicate n []) >>= fun t=>Em.dU so back >>= fun f=>Em.cA (Em.aJ d) r r.order (Em.eC t r.first f false)) k):=by
     rw[Hid,HZ.out]
     unfold enB
     rw[if_neg av,<-s.out.2.2.2.2.1]
     simp only[pA]
    clear av
    go_upto_region 4 with (go_at_call 209;refine O.mono ?_;rintro e w2 (⟨rfl,D,y⟩|⟨x2,k2,rfl,D,y⟩);(· exact ⟨rfl,I.out _ _ (.inl ⟨rfl,e1.out.trans (aH D.out),S1.out.bad y.out⟩)⟩);obtain ⟨P2,S2⟩:∃P2,Hid (Two E ns P (fun x=>x=b) (fun _=>False) kb b w1 k P2 (fun x=>x=b) w2 k2 (List.replicate n []) (0)):=⟨_,S1.out.coder y.out⟩;have e2:Hid _:=e1.out.trans (bind_some D.out);clear D y O)
    have g0:=aA (lA (S2.out.keep s.out.2.2.1) s.out.2.2.2.2.2.2 s.out.2.2.2.2.2.1) 0 (u:=.slice aS n cS) rfl
    clear g3 S1 e1
    go_wp2_with fail
    clear g0
    go_loopg [33] n (fun f i wr=>∃(j:Nat) (kj:Kd) (J:cX),f=n-j/\j≤n/\i=.int .i64 (j:Int)/\Hid (Z=(Em.wT x2 (n-j) j J >>= fun t=>Em.dU so back >>= fun f=>Em.cA (Em.aJ d) r r.order (Em.eC t r.first f false)) kj/\J.length=n/\∃Pj Tj,Two E ns P (fun x=>x=b) (fun _=>False) kb b w1 k Pj Tj wr kj J j))
    case atStart=>exact ⟨0,k2,_,by omega,by omega,rfl,e2.out,by simp,P2,_,S2.out⟩
    case round=>
     obtain ⟨j,kj,J,rfl,hj,rfl,hr⟩:=hrel
     obtain ⟨Y,aa,Pj,Tj,hT⟩:=hr.out
     by_cases hlt:j<n
     ·have S3:Hid (Two E ns P (fun x=>x=b) (fun _=>False) kb b w1 k Pj Tj wr kj J j):=hT
      have au:=Q8 x2 j (by omega) hT.cm hE
      have e3:Hid (Z=(Em.is x2 j >>= fun x=>Em.wT x2 (n-(j+1)) (j+1) (Em.eC J j x true) >>= fun t=>Em.dU so back >>= fun f=>Em.cA (Em.aJ d) r r.order (Em.eC t r.first f false)) kj):=by
       have hy:=Gv (k:=kj) (was:=x2) (m:=n-(j+1)) (i:=j) (t:=J)
       rw[show n-(j+1)+1=n-j by omega] at hy
       exact Y.trans ((eH hy).trans zM)
      have HL:Hid (J.length=n):=aa
      clear hr Y aa hT
      go_wp2_with (first
       | (go_at_call 163;refine au.mono ?_;rintro e w4 (⟨rfl,D,y⟩|⟨x4,k4,rfl,D,y⟩);(· exact ⟨rfl,I.out _ _ (.inl ⟨rfl,e3.out.trans (aH D.out),S3.out.bad y.out⟩)⟩);obtain ⟨P4,S4⟩:∃P4,Hid (Two E ns P (fun x=>x=b) (fun _=>False) kb b w1 k P4 Tj w4 k4 J (j)):=⟨_,S3.out.coder y.out⟩;have e4:Hid _:=e3.out.trans (bind_some D.out);clear D y au;have l:=tM (i:=j) x4 true S4.out.im (by rw[HL.out];exact hlt) (by omega);rw[HL.out] at l)
       | (go_at_call 117;refine l.mono ?_;rintro e w5 ⟨rfl,h5⟩;clear l))
      have ba:Hid (Z=_/\(Em.eC J j x4 true).length=n/\∃Pj Tj,Two E ns P (fun x=>x=b) (fun _=>False) kb b w1 k Pj Tj w5 k4 (Em.eC J j x4 true) (j+1)):=⟨e4.out,by rw[nJ];exact HL.out,_,_,S4.out.into h5.out.1 h5.out.2⟩
      clear h5 S3 S4 e3 e4
      go_roundg (n-(j+1))
      case measure=>omega
      case rel=>exact ⟨j+1,k4,_,rfl,by omega,by go_num,ba.out⟩
     ·obtain rfl:j=n:=by omega
      have ag:Hid (Z=(Em.dU so back >>= fun f=>Em.cA (Em.aJ d) r r.order (Em.eC J r.first f false)) kj/\J.length=j/\∃Pm Tm,Two E ns P (fun x=>x=b) (fun _=>False) kb b w1 k Pm Tm wr kj J 1000000):=⟨by rw[Y,Nat.sub_self];rfl,aa,Pj,Tj,hT.more (by omega)⟩
      clear hr Y aa hT
      go_wp2_with fail
      go_meet
      case rel=>exact ⟨J,kj,ag.out⟩
  case rest=>
   obtain ⟨t,km,hc⟩:=hcut
   obtain ⟨ar,al,Pm,Tm,ao⟩:=hc.out
   have hdr:Below wc.heap.size wc wc.drew:=⟨rfl,rfl,rfl,aF4 _,fun _ _=>rfl⟩
   have S2:Hid (Two E ns P (fun x=>x=b) (fun _=>False) kb b w1 k Pm Tm wc.drew km t 1000000):=ao.below hdr
   have e2:Hid (Z=(Em.dU so back >>= fun f=>Em.cA (Em.aJ d) r r.order (Em.eC t r.first f false)) km):=ar
   have af:=lA (S2.out.keep s.out.2.2.1) s.out.2.2.2.2.2.2 s.out.2.2.2.2.2.1
   obtain ⟨f0,ah⟩:∃f0:Nat,r.first=(f0:Int):=⟨r.first.toNat,by have:=s.out.2.1.f.1;omega⟩
   have Q:Hid (r.first=(f0:Int)/\f0<n/\t.length=n):=⟨ah,by have:=s.out.2.1.f.2;have:=s.out.2.2.2.2.1;omega,al⟩
   rw[ah] at af
   have g2:wc.cell? ⟨g,2,none⟩=some (.int .i64 (f0:Int)):=aA af 2 rfl
   have ai:=oL so back S2.out.cm hE
   clear hc ar al ao hdr af ah S1
   go_upto_region 9 with fail
   go_region_law (first
    | (go_simp;go_at_call 204;refine ai.mono ?_;rintro e w3 (⟨rfl,D,y⟩|⟨x3,k3,rfl,D,y⟩);(· exact ⟨rfl,I.out _ _ (.inl ⟨rfl,e2.out.trans (aH D.out),S2.out.bad y.out⟩)⟩);obtain ⟨P3,S3⟩:∃P3,Hid (Two E ns P (fun x=>x=b) (fun _=>False) kb b w1 k P3 Tm w3 k3 t (1000000)):=⟨_,S2.out.coder y.out⟩;have e3:Hid _:=e2.out.trans (bind_some D.out);clear D y ai;have l:=tM (i:=f0) x3 false S3.out.im (by rw[Q.out.2.2];exact Q.out.2.1) (by omega);rw[Q.out.2.2] at l;have ad:=lA (S3.out.keep s.out.2.2.1) s.out.2.2.2.2.2.2 s.out.2.2.2.2.2.1;rw[Q.out.1] at ad;have z2:=aA ad 2 (u:=.int .i64 (f0:Int)) rfl;clear ad)
    | (go_simp;go_at_call 117;refine l.mono ?_;rintro e w5 ⟨rfl,h5⟩;clear l))
   all_goals
    obtain ⟨T5,S5⟩:∃T5,Hid (Two E ns P (fun x=>x=b) (fun _=>False) kb b w1 k P3 T5 w5 k3 (Em.eC t f0 x3 false) (1000000+1)):=⟨_,S3.out.into h5.out.1 h5.out.2⟩
    have e5:Hid (Z=Em.cA (Em.aJ d) r r.order (Em.eC t f0 x3 false) k3):=by rw[Q.out.1] at e3;exact e3
    have kp:=S5.out.keep s.out.2.2.1
    have az:=tR (n:=n) hE s.out.2.2.2.1 (s.out.1.carry kp (fH.carry d kp)) s.out.2.1 S5.out.cm S5.out.im S5.out.dis (S5.out.roU s.out.2.2.1) (by rw[nJ];exact Q.out.2.2) s.out.2.2.2.2.1 (by omega)
    clear kp h5 S2 S3 e2 e3 g2
    go_wp2_with (go_at_call 164;refine az.mono ?_;rintro e w6 h6;rcases h6 with ⟨rfl,D,y⟩|⟨k6,rfl,D,y⟩;(· exact ⟨rfl,I.out _ _ (nK.up S5.out e5.out (.inl ⟨rfl,D,y⟩))⟩))
    go_end0
    exact I.out _ _ (nK.up S5.out e5.out (.inr ⟨k6,rfl,D,y⟩))
theorem G0 (hE:E<1000000):∀d,oQ A kb E ns d
 | 0=>fun h=>h.elim
 | d+1=>fun hr hk h hR=>Gg hE (G0 hE d) hr hk h hR
end
end Ew
end
end Go.Proofs.YthieaobjdpfcoaaGreatDoor
