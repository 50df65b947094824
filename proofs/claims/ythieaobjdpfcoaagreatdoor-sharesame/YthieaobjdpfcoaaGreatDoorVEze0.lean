import Derived.Test.YthieaobjdpfcoaaGreatDoorVEz0
set_option maxRecDepth 100000
set_option maxHeartbeats 16000000
namespace Go.Proofs.YthieaobjdpfcoaaGreatDoor
open Go.Proofs.Tryz (prog)
section
namespace Px
def L0 (o:List Nat):Nat->Nat->Option Nat
 | 0,_=>none
 | p+1,k=>if o.getD p 0=k then some p else L0 o p k
theorem E4 {o:List Nat}:∀{p k q:Nat},L0 o p k=some q->q<p/\o.getD q 0=k:=by
 intro p
 induction p with
 | zero=>intro k q h;simp[L0] at h
 | succ p ih=>
  intro k q h
  rw[L0] at h
  split at h
  ·rename_i he
   injection h with h
   subst h
   exact ⟨by omega,he⟩
  ·have:=ih h
   exact ⟨by omega,this.2⟩
def Za (o:List Nat):Prop:=∀p q,p<o.length->q<o.length->o.getD p 0=o.getD q 0->p=q
theorem Wp {o:List Nat}(c:Za o):∀{p q:Nat},q<p->p≤o.length->L0 o p (o.getD q 0)=some q:=by
 intro p
 induction p with
 | zero=>intro q h _;omega
 | succ p ih=>
  intro q h j
  rw[L0]
  split
  ·rename_i he
   rw[c p q (by omega) (by omega) he]
  ·rename_i hne
   by_cases e:q=p
   ·subst e;exact absurd rfl hne
   ·exact ih (by omega) (by omega)
theorem gC (o:List Nat) (j p:Nat) (c:p<o.length):(o++[j]).getD p 0=o.getD p 0:=by
 rw[iO,iO,aR6 c]
theorem vJ (o:List Nat) (j:Nat):(o++[j]).getD o.length 0=j:=by
 rw[iO,aW8 (aO4 _)];simp
theorem tG (o:List Nat) (k:Nat):k∈o↔∃p,p<o.length/\o.getD p 0=k:=by
 constructor
 ·intro h
  obtain ⟨p,c,j⟩:=List.getElem_of_mem h
  exact ⟨p,c,by rw[iO,aN4 c];exact j⟩
 ·rintro ⟨p,c,rfl⟩
  rw[iO,aN4 c]
  exact aY3 c
theorem Na {G:List (List (Option Nat))}{T:List Bool}{j:Nat}:∀{k:Nat},rC G T j k=0->∀i,i<k->T.getD i false=false->(G.getD i []).count (some j)=0:=by
 intro k
 induction k with
 | zero=>intro _ i h;omega
 | succ k ih=>
  intro h i r c
  rw[rC] at h
  by_cases e:i=k
  ·subst e
   rw[c] at h
   simp only[Bool.false_eq_true,if_false] at h
   omega
  ·exact ih (by omega) i (by omega) c
structure aW1 (G:List (List (Option Nat))) (o:List Nat) (T:List Bool):Prop where
 once:Za o
 told:∀k,k<G.length->(T.getD k false=true↔k∈o)
 low:∀k∈o,k<G.length
 len:T.length=G.length
 ahead:∀q,q<o.length->∀k,k<G.length->some (o.getD q 0)∈G.getD k []->∃p,p<q/\o.getD p 0=k
theorem Mt {G:List (List (Option Nat))}:∀{r:Nat}{o:List Nat}{T:List Bool},pR G r=some (o,T)->aW1 G o T:=by
 intro r
 induction r with
 | zero=>
  intro o T h
  rw[pR] at h
  injection h with h
  injection h with h1 h2
  subst h1;subst h2
  exact ⟨fun p q u=>absurd u (by simp),fun k _=>by rw[qT];simp,by simp,by simp,fun q I=>absurd I (by simp)⟩
 | succ r ih=>
  intro o T h
  rw[pR] at h
  split at h
  ·exact absurd h (by simp)
  ·rename_i o' T' hr
   split at h
   ·exact absurd h (by simp)
   ·rename_i j hj
    injection h with h
    injection h with h1 h2
    subst h1;subst h2
    have F:=ih hr
    obtain ⟨Q,J,_⟩:=nY hj
    unfold mO at J
    simp only[Bool.and_eq_true,Bool.not_eq_true',decide_eq_true_eq] at J
    have D:j∉o':=fun y=>by have:=(F.told j Q).2 y;rw[J.1] at this;simp at this
    refine ⟨?_,?_,?_,by rw[aW4];exact F.len,?_⟩
    ·intro p q u I s
     rw[aO9,aX2] at u I
     by_cases e1:p<o'.length
     ·by_cases e2:q<o'.length
      ·rw[gC _ _ _ e1,gC _ _ _ e2] at s
       exact F.once p q e1 e2 s
      ·obtain rfl:q=o'.length:=by omega
       rw[gC _ _ _ e1,vJ] at s
       exact absurd ((tG _ _).2 ⟨p,e1,s⟩) D
     ·obtain rfl:p=o'.length:=by omega
      by_cases e2:q<o'.length
      ·rw[gC _ _ _ e2,vJ] at s
       exact absurd ((tG _ _).2 ⟨q,e2,s.symm⟩) D
      ·omega
    ·intro k c
     rw[rF T' j k (by rw[F.len];exact Q)]
     by_cases e:j=k
     ·subst e;simp
     ·rw[if_neg e,F.told k c]
      simp[Ne.symm e]
    ·intro k c
     rcases aR2.1 c with c|c
     ·exact F.low k c
     ·rw[aP5.1 c];exact Q
    ·intro q I k c y
     rw[aO9,aX2] at I
     by_cases e:q<o'.length
     ·rw[gC _ _ _ e] at y
      obtain ⟨p,u,s⟩:=F.ahead q e k c y
      exact ⟨p,u,by rw[gC _ _ _ (by omega)];exact s⟩
     ·obtain rfl:q=o'.length:=by omega
      rw[vJ] at y
      have O:k∈o':=by
       rw[<-F.told k c]
       cases ht:T'.getD k false with
       | true=>rfl
       | false=>
        have:=Na J.2 k c ht
        exact absurd y (List.count_eq_zero.1 this)
      obtain ⟨p,u,s⟩:=(tG _ _).1 O
      exact ⟨p,u,by rw[gC _ _ _ u];exact s⟩
theorem Mr:∀(n:Nat) (o:List Nat),o.Nodup->(∀k∈o,k<n)->o.length≤n:=by
 intro n
 induction n with
 | zero=>
  intro o _ h
  cases o with
  | nil=>simp
  | cons a r=>exact absurd (h a (by simp)) (by omega)
 | succ n ih=>
  intro o hd h
  by_cases hm:n∈o
  ·have s:=ih (o.erase n) (hd.erase n) (fun k c=>by
    have j:=(hd.mem_erase_iff).1 c
    have:=h k j.2
    have:=j.1
    omega)
   have:=List.length_erase_of_mem hm
   omega
  ·have:=ih o hd (fun k c=>by
    have:=h k c
    have:k≠n:=fun e=>hm (e▸c)
    omega)
   omega
theorem Qw:∀(n:Nat) (o:List Nat),Za o->(∀k∈o,k<n)->o.length=n->∀k,k<n->k∈o:=by
 intro n o s u J k D
 have c:o.Nodup:=by
  rw[List.nodup_iff_pairwise_ne,List.pairwise_iff_getElem]
  intro i j h r y I
  have:=s i j h r (by rw[iO,iO,aN4 h,aN4 r];exact congrArg (fun x=>(some x).getD 0) I)
  omega
 by_cases hm:k∈o
 ·exact hm
 ·have:=Mr n (k::o) (List.nodup_cons.2 ⟨hm,c⟩) (fun x hx=>by
   rcases aW5.1 hx with rfl|hx
   ·exact D
   ·exact u x hx)
  rw[aV8] at this
  omega
theorem Ep {G:List (List (Option Nat))}{o:List Nat}(h:eO G=some o):o.length=G.length/\Za o/\(∀k∈o,k<G.length)/\(∀k,k<G.length->∃p,L0 o o.length k=some p)/\∀k j,k<G.length->j<G.length->some j∈G.getD k []->∀p q,L0 o o.length k=some p->L0 o o.length j=some q->p<q:=by
 unfold eO at h
 cases hk:pR G G.length with
 | none=>rw[hk] at h;simp at h
 | some x=>
  obtain ⟨y,T⟩:=x
  rw[hk] at h
  simp at h
  subst h
  have F:=Mt hk
  have u:=(uY hk).2.1
  refine ⟨u,F.once,F.low,fun k c=>?_,fun k j c X D p q r J=>?_⟩
  ·obtain ⟨p,r,s⟩:=(tG _ _).1 (Qw _ y F.once F.low u k c)
   exact ⟨p,by rw[<-s];exact Wp F.once r (aO4 _)⟩
  ·obtain ⟨p1,p2⟩:=E4 r
   obtain ⟨Q,U⟩:=E4 J
   obtain ⟨O,I,s⟩:=F.ahead q Q k c (by rw[U];exact D)
   have:=F.once p O p1 (by omega) (by rw[p2,s])
   omega
section
variable {ρ:Type}
theorem Oh {vs:List bQ}{ns:List bE}{b:Bool}:∀{l:List Wy},lF vs ns b l=0->∀y∈l,∃i,jT ns y.to=some i:=by
 intro l
 induction l with
 | nil=>intro _ y c;simp at c
 | cons a r ih=>
  intro h y c
  rw[lF] at h
  by_cases e:nO vs ns b a=0
  ·rw[if_neg (by simp[e])] at h
   rcases aW5.1 c with rfl|c
   ·cases hf:jT ns y.to with
    | some i=>exact ⟨i,rfl⟩
    | none=>unfold nO at e;rw[hf] at e;simp at e
   ·exact ih h y c
  ·rw[if_pos e] at h
   exact absurd h e
theorem Kh {vs:List bQ}{ns:List bE}{i:Nat}{s:cF ρ}(h:jH vs ns i s=0):∀y∈s.ways,∃i,jT ns y.to=some i:=by
 unfold jH at h
 split at h
 ·simp at h
 ·unfold zO at h
  split at h
  ·simp at h
  ·split at h
   ·contradiction
   ·split at h
    ·contradiction
    ·split at h
     ·contradiction
     ·split at h
      ·simp at h
      ·exact Oh h
theorem rR {vs:List bQ}{R:List ρ->Nat->I4}{ns:List bE}:∀{l:List (cF ρ)}{i n m:Nat},gA vs R ns l i n=.ok m->∀s∈l,(∃i,jH vs ns i s=0)/\∃n m,gR R s.regions n=.ok m:=by
 intro l
 induction l with
 | nil=>intro i n m _ s c;simp at c
 | cons a r ih=>
  intro i n m h s c
  rw[gA] at h
  split at h
  ·exact absurd h (by simp)
  ·rename_i he
   split at h
   ·exact absurd h (by simp)
   ·rename_i m' hm'
    rcases aW5.1 c with rfl|c
    ·exact ⟨⟨i,by omega⟩,_,_,hm'⟩
    ·exact ih h s c
theorem mZ {R:List ρ->Nat->I4}:∀{l:List (List ρ)}{n m:Nat},gR R l n=.ok m->∀r∈l,∃n m,R r n=.ok m:=by
 intro l
 induction l with
 | nil=>intro n m _ r c;simp at c
 | cons a r ih=>
  intro n m h x hx
  rw[gR] at h
  split at h
  ·exact absurd h (by simp)
  ·rename_i m' hm'
   rcases aW5.1 hx with rfl|hx
   ·exact ⟨_,_,hm'⟩
   ·exact ih h x hx
def aO0 (l:List (cF ρ)):Prop:=∃o,eO (cQ l)=some o/\Zd (bD l)/\∀s∈l,∀y∈s.ways,∃i,jT (bD l) y.to=some i
theorem Wl {vs:List bQ}{R:List ρ->Nat->I4}{l:List (cF ρ)}{n m:Nat}(h:pE vs R l n=.ok m):aO0 l/\∀s∈l,∃n m,gR R s.regions n=.ok m:=by
 unfold pE at h
 split at h
 ·exact absurd h (by simp)
 ·rename_i m' hs
  split at h
  ·exact absurd h (by simp)
  ·rename_i c
   have c:dD l=0:=by omega
   unfold dD at c
   split at c
   ·simp at c
   ·split at c
    ·simp at c
    ·split at c
     ·simp at c
     ·rename_i ho
      cases hg:eO (cQ l) with
      | none=>rw[hg] at ho;simp at ho
      | some o=>exact ⟨⟨o,hg,Kr hs,fun s j=>by obtain ⟨⟨i,r⟩,_⟩:=rR hs s j;exact Kh r⟩,fun s j=>(rR hs s j).2⟩
end
end Px
end
section
open Go.RowKit Px
namespace Ew
open Px.Em (Kd Vr eQ eR jP Rg cX)
open Nx (Nt Sp)
theorem Xv:(prog.info? 236).map (fun i=>(i.zero,i.size,i.bytes))=some (some (.agg #[.pointer none,.slice none 0 0,.slice none 0 0,.bool false,.bool false]),5,64):=by kernel_rfl
theorem aD2 (n:Nat) (s:n≤1000000):∃cs:List Value,cs.length=n*5/\∀W,(Instr.makeSlice 186 (.int .i64 (n:Int)) (.int .i64 (n:Int))).run prog W=.ok (.slice (some ⟨W.heap.size,0,none⟩) n n) (W.alloc (.cells cs.toArray 236)):=by
 obtain ⟨i0,r,h,j,c⟩:=aZ1 Xv
 refine ⟨(madeCells (Value.cells (.agg #[.pointer none,.slice none 0 0,.slice none 0 0,.bool false,.bool false])) (n*5)).toList,by simp[madeCells],fun W=>?_⟩
 have:=run_make (P:=prog) W 186 236 i0 (.agg #[.pointer none,.slice none 0 0,.slice none 0 0,.bool false,.bool false]) Tryz.underlying186 r h .i64 .i64 (n:Int) (n:Int) (by omega) (by omega) (by rw[c];omega) (by omega)
 rw[this,j]
 simp only[aW9,Array.toArray_toList]
section
variable {A:Nat->Prop}{w:World}{d:Nat}{l:List (cF (St d))}
theorem Qr {v:Value}(h:aM A w (d+1) l v) :
    ∃ad g cap,v=.slice ad l.length cap/\(0<l.length->ad=some ⟨g,0,none⟩/\A g)/\∀(i:Nat) (s:cF (St d)),l[i]?=some s->∃ve vd vl p ay ar gy capy capr,Ns A w g i s ve vd vl p ay ar gy capy capr/\gP A w (aM A w d) s.regions (.slice ar s.regions.length capr)/\(0<s.ways.length->A gy):=by
 obtain ⟨xs,hr,hs⟩:=h
 obtain ⟨ad,g,cap,h1,h2,Q,h4⟩:=wU.open (k:=9) (fun a c ⟨e,d,l,p,y,r,hc,_⟩=>by rw[hc];rfl) hr hs
 refine ⟨ad,g,cap,h1,fun j=>⟨(Q j).1,(Q j).2.1⟩,fun i s hi=>?_⟩
 obtain ⟨c,⟨e,d,l,p,y,r,rfl,q1,q2,q3,O,J,I⟩,hx⟩:=h4 i s hi
 obtain ⟨u,rfl⟩:=O.pt'
 obtain ⟨ay,gy,capy,rfl,Y,U,Z⟩:=J.open
 obtain ⟨ar,gr,capr,rfl,_⟩:=I.len
 refine ⟨e,d,l,u,ay,ar,gy,capy,capr,⟨hx 0 _ rfl,hx 1 _ rfl,hx 2 _ rfl,hx 3 _ rfl,hx 4 _ rfl,hx 5 _ rfl,hx 6 _ rfl,hx 7 _ rfl,hx 8 _ rfl,q1,q2,q3,O,Y,U,Z⟩,I,fun j=>?_⟩
 obtain ⟨X,D,_⟩:=J
 exact D.2 gy (by rw[(U j).1];rfl)
theorem aI7 {g:Nat}(Q:0<l.length->g<w.heap.size) (j:∀(i:Nat) (s:cF (St d)),l[i]?=some s->∃ve vd vl p ay ar gy capy capr,Ns A w g i s ve vd vl p ay ar gy capy capr) (hN:∀s∈l,s.name.length≤maxLen/\s.ways.length≤1000000/\∀y∈s.ways,y.to.length≤maxLen):mH w g l:=by
 intro i s u
 obtain ⟨ve,vd,vl,p,ay,ar,gy,capy,capr,h⟩:=j i s u
 have r:=hN s (aP1 u)
 refine ⟨Q (by have:=(aO7.1 u).1;omega),h.c0,h.c1,r.1,r.2.1,ay,gy,capy,h.c7,h.hw.2.1,fun m y D=>?_⟩
 obtain ⟨Z,q',U,Y,J,O,e,X,I,m7,m8⟩:=h.hw.2.2 m y D
 obtain ⟨a,b,c,rfl⟩:=m8.sl'
 exact ⟨Z,_,U,Y,J,O,e,X,I,⟨a,b,c,rfl⟩,r.2.2 y (aP1 D)⟩
theorem Tk (c:jC l=1):∃i:Nat,Em.Ga l=(i:Int)/\vG (fun x:cF (St d)=>x.first) l=(i:Int)/\i<l.length:=by
 unfold Em.Ga vG
 cases h:l.findIdx? (fun x=>x.first) with
 | none=>
  rw[List.findIdx?_eq_none_iff] at h
  unfold jC at c
  have:l.filter (·.first)=[]:=List.filter_eq_nil_iff.2 fun x hx=>by simpa using h x hx
  rw[this] at c
  simp at c
 | some i=>exact ⟨i,rfl,rfl,(List.findIdx?_eq_some_iff_getElem.1 h).1⟩
theorem Qp:(∀i∈(eO (cQ l)).getD [],i<l.length)/\((eO (cQ l)).getD []).length≤l.length:=by
 have s:(cQ l).length=l.length:=by simp[cQ]
 cases h:eO (cQ l) with
 | none=>simp
 | some o=>
  obtain ⟨r,_,c,_⟩:=Ep h
  exact ⟨fun i j=>by have:=c i (by simpa using j);omega,by simp;omega⟩
def Vk (l:List (cF (St d))) (p:Int) (ss:List (eR (St d) (Rg d))):Em.M (jP (St d) (Rg d)):=pure ⟨ss,(eO (cQ l)).getD [],Em.Ga l,p,ss.all (·.idle),ss.any (·.leaves)⟩
theorem aD9 {k:Kd}:Em.lay (Em.aJ d) l k=(Em.fL (Em.aJ d) (bD l) l >>= Vk l k.net.places) (bF (aU k (Em.Ga l+1)) k.net.places):=by
 show (Em.kept (Em.Ga l+1) >>= fun p=>Em.fL (Em.aJ d) (bD l) l >>= Vk l p) k=_
 exact I0 (Ii k _)
theorem yV {names:List bE}{s:cF (St d)}{r:List (cF (St d))}{ss:List (eR (St d) (Rg d))}{p:Int}:(Em.fL (Em.aJ d) names (s::r) >>= fun t=>Vk l p (ss++t))=(Em.jD (Em.aJ d) names s >>= fun x=>Em.fL (Em.aJ d) names r >>= fun t=>Vk l p ((ss++[x])++t)):=by
 simp only[Em.fL,pA,pure_bind,List.append_assoc,List.singleton_append]
theorem Ws {w':World}{oo:Option (List Nat)}{e:Ending}(h:Hd w oo e w'):∃v b,e=.returned (.tuple #[v,.bool b])/\Hid (Below w.heap.size w w')/\(∃a n c,v=.slice a n c)/\nL (fun x=>w.heap.size≤x/\x<w'.heap.size) w' v (oo.getD []):=by
 obtain ⟨hb,⟨rfl,rfl⟩|⟨o,v,rfl,rfl,I,g,cap,rfl,u,y⟩⟩:=h
 ·exact ⟨_,_,rfl,hb,⟨_,_,_,rfl⟩,none,0,0,rfl,fun h=>absurd h (by simp),fun j x hx=>by simp at hx⟩
 ·exact ⟨_,_,rfl,hb,⟨_,_,_,rfl⟩,I,g,cap,rfl,fun s=>⟨(u s).1,(u s).2⟩,fun j x hx=>by
   obtain ⟨D,J⟩:=aO7.1 hx
   have r:o[j]?=some x:=hx
   rw[y j D,iO,r];rfl⟩
end
section
variable {A P Pj Rj:Nat->Prop}{w wr w':World}{ns:List bE}{kb gS g n d E:Nat}{k kj:Kd}{ss:List (eR (St d) (Rg d))}{cs:List Value}{vo:Value}{fi th:Int}{id lv:Bool}
theorem LR.keepC (hR:Ro A P w) (h:LR A ns P kb w k gS g n d E Pj Rj wr kj ss cs vo fi th id lv) (hf:bM Pj wr w') (R':Nat->Prop):bB (fun x=>A x\/Rj x) (fun x=>A x\/Rj x\/R' x) wr w':=fun x hx hl=>⟨hx.elim .inl fun h=>.inr (.inl h),hf.block x hl (hx.elim (fun hx hp=>(h.up x hp).elim (hR x hx).2 fun h=>absurd h.1 (by have:=(hR x hx).1;omega)) fun h' hp=>h.dr x hp h')⟩
theorem LR.keepG (h:LR A ns P kb w k gS g n d E Pj Rj wr kj ss cs vo fi th id lv) (hA:∀x,A x->x<w.heap.size) (j:Nat) (v:Value):bB (fun x=>A x\/Rj x) (fun x=>A x\/Rj x) wr (wr.setCell ⟨g,j,none⟩ v):=fun x hx _=>⟨hx,Below.heap_setCell _ _ _ _ (show x≠g from hx.elim (fun hx e=>by have:=hA x hx;have:=h.gl.1;omega) fun hr e=>h.gl.2.2.1 (e▸hr))⟩
theorem LR.keepS (h:LR A ns P kb w k gS g n d E Pj Rj wr kj ss cs vo fi th id lv) (hA:∀x,A x->x<w.heap.size) (hw:∀x,x≠gS->w'.heap[x]?=wr.heap[x]?):bB (fun x=>A x\/Rj x) (fun x=>A x\/Rj x) wr w':=fun x hx _=>⟨hx,hw x (hx.elim (fun hx e=>by have:=hA x hx;have:=h.sl.1;omega) fun hr e=>h.sl.2.2 (e▸hr))⟩
theorem LR.moreE {E':Nat}(h:LR A ns P kb w k gS g n d E Pj Rj wr kj ss cs vo fi th id lv) (hE:E=E'):LR A ns P kb w k gS g n d E' Pj Rj wr kj ss cs vo fi th id lv:=hE▸h
theorem LR.drew (h:LR A ns P kb w k gS g n d E Pj Rj wr kj ss cs vo fi th id lv):LR A ns P kb w k gS g n d E Pj Rj wr.drew kj ss cs vo fi th id lv:=h.below (Below.refl _ _).drew
theorem nL.drew {B:Nat->Prop}{o:List Nat}(h:nL B w vo o):nL B w.drew vo o:=h.carry fun _ hx _=>⟨hx,rfl⟩
theorem Wi {W:World}{gS o:Nat}{a b c e f:Value}(x:Nat) (hx:x≠gS):(((((W.setCell ⟨gS,o,none⟩ a).setCell ⟨gS,o+1,none⟩ b).setCell ⟨gS,o+2,none⟩ c).setCell ⟨gS,o+3,none⟩ e).setCell ⟨gS,o+4,none⟩ f).heap[x]?=W.heap[x]?:=by
 rw[Below.heap_setCell _ _ _ _ hx,Below.heap_setCell _ _ _ _ hx,Below.heap_setCell _ _ _ _ hx,Below.heap_setCell _ _ _ _ hx,Below.heap_setCell _ _ _ _ hx]
end
section
variable {A P:Nat->Prop}{w:World}{ns:List bE}{kb d E:Nat}{k:Kd}
theorem Xn (ih:zT A kb ns d) {v:Value}{l:List (cF (St d))}(hL:aM A w (d+1) l v) (df:vW (d+1) l) (bv:rO ns (d+1) l) (dw:rN (d+1) l) (h:eK E ns P w kb k) (hR:Ro A P w) (hE:E+iG (d+1) l<1000000) :
 Calls prog 116 #[.pointer (some ⟨kb,0,none⟩),v] w fun e w'=>∃g,e=.returned (.pointer (some ⟨g,0,none⟩))/\Hid (∃(r:jP (St d) (Rg d)) (k':Kd) (P' R:Nat->Prop),Em.lay (Em.aJ d) l k=some (r,k')/\Laid A ns P kb w k (d+1) (E+iG (d+1) l) r g P' R w' k'):=by
 obtain ⟨y1,y2,y3,y4,y5⟩:jC l=1/\Zd (bD l)/\(∀s∈l,∀y∈s.ways,∃t,jT (bD l) y.to=some t)/\l.length≤1000000/\(∀s∈l,s.name.length≤maxLen/\s.ways.length≤1000000/\s.regions.length≤1000000/\(∀y∈s.ways,y.to.length≤maxLen)/\∀r∈s.regions,vW d r):=df
 obtain ⟨ad,gd,cap,rfl,hg,ei⟩:=Qr hL
 obtain ⟨n,hn⟩:=gQx l.length
 obtain ⟨fi,f1,f2,f3⟩:=Tk y1
 obtain ⟨p0,cv⟩:=gQx k.net.places
 obtain ⟨oo,dc⟩:=gQx (eO (cQ l))
 rw[<-hn] at y4 hg f3 hL ⊢
 obtain ⟨Z,hZ⟩:=gQx (Em.lay (Em.aJ d) l k)
 have HZ:Hid (Z=(Em.fL (Em.aJ d) (bD l) l >>= Vk l p0) (bF (aU k ((fi:Int)+1)) p0)/\Z=Em.lay (Em.aJ d) l k):=⟨by rw[hZ,aD9,f1,cv],hZ⟩
 obtain ⟨I,dq,eq⟩:=aD2 n y4
 obtain ⟨D,bb⟩:=gQx (w.alloc (.cells #[.slice ad n cap] 174))
 obtain ⟨q3,cg⟩:=gQx w.heap.size
 have bj:Below w.heap.size w D:=by rw[bb];exact aL _ _
 have cz:D.heap.size=w.heap.size+1:=by rw[bb];simp
 have dt:D.heap[q3]?=some (.cells #[.slice ad n cap] 174 (0,0)):=by rw[bb,cg];exact aX w _
 have c3:=aF dt 0 (u:=.slice ad n cap) rfl
 have dh:bB A A w D:=fun x hx hl=>⟨hx,bj.block x hl⟩
 have cd:aM A D (d+1) l (.slice ad n cap):=hL.carry dh
 have bg:Ro A P D:=fun x hx=>⟨by have:=(hR x hx).1;omega,(hR x hx).2⟩
 have HQ:Hid (q3<D.heap.size/\¬P q3/\D.cell? ⟨q3,0,none⟩=some (.slice ad n cap)/\Below w.heap.size w D/\D.heap.size=w.heap.size+1):=⟨by omega,fun hp=>by have:=h.2.2 q3 hp;omega,c3,bj,cz⟩
 have J:Hid (aM A D (d+1) l (.slice ad n cap)/\Ro A P D/\eK E ns P D kb k/\E+iG (d+1) l<1000000/\zT A kb ns d/\(∀x,A x->x<D.heap.size)):=⟨cd,bg,h.below bj,hE,ih,fun x hx=>(bg x hx).1⟩
 have HY:Hid ((∀s∈l,∀y∈s.ways,∃t,jT (bD l) y.to=some t)/\(∀s∈l,s.name.length≤maxLen/\s.ways.length≤1000000/\s.regions.length≤1000000/\(∀y∈s.ways,y.to.length≤maxLen)/\∀r∈s.regions,vW d r)/\rO ns (d+1) l/\rN (d+1) l/\n=l.length/\fi<n/\Em.Ga l=(fi:Int)/\p0=k.net.places/\oo=eO (cQ l)/\vG (fun x:cF (St d)=>x.first) l=(fi:Int)):=⟨y3,y5,bv,dw,hn,f3,f1,cv,dc,f2⟩
 have HG:Hid (0<n->ad=some ⟨gd,0,none⟩/\A gd):=hg
 have HC:Hid (I.length=n*5):=dq
 have de:mH D gd l:=by
  obtain ⟨cu,g',dd,e',am,ab⟩:=Qr cd
  have e1:cu=ad:=by injection e' with e';exact e'.symm
  have eg:0<l.length->g'=gd:=fun hp=>by
   have h1:=(am hp).1
   rw[e1,(hg (by omega)).1] at h1
   injection h1 with h1
   injection h1 with h1
   exact h1.symm
  intro i s hi
  have hp:0<l.length:=by have:=(aO7.1 hi).1;omega
  have hh:=aI7 (A:=A) (w:=D) (g:=g') (l:=l) (fun hp=>(bg _ (am hp).2).1) (fun i s hi=>by obtain ⟨a1,a2,a3,a4,a5,a6,a7,a8,a9,hM,_⟩:=ab i s hi;exact ⟨a1,a2,a3,a4,a5,a6,a7,a8,a9,hM⟩) (fun s hs=>⟨(y5 s hs).1,(y5 s hs).2.1,(y5 s hs).2.2.2.1⟩) i s hi
  rw[eg hp] at hh
  exact hh
 have em:Hid (mH D gd l):=de
 clear hL bv dw h hR hE ih y1 y2 y3 y5 ei hn f1 f2 cv dc hZ dq dt dh cd bg de hg
 go_enter Tryz.func116,Tryz.ntmps116
 go_upto_region 1 with fail
 rw[<-bb,<-cg]
 clear bb cg bj cz
 go_upto_region 2 with fail
 obtain ⟨W5,ao⟩:=gQx ((D.alloc (.cells I.toArray 236)).alloc (.cells #[.slice (some ⟨D.heap.size,0,none⟩) n n,.slice none 0 0,.int .i64 0,.int .i64 0,.bool true,.bool false] 188))
 obtain ⟨gS,aj⟩:=gQx D.heap.size
 obtain ⟨g,co⟩:=gQx ((D.alloc (.cells I.toArray 236)).heap.size)
 have bu:g=D.heap.size+1:=by rw[co];simp
 have dm:Below D.heap.size D (D.alloc (.cells I.toArray 236)):=aL _ _
 have ax:Below (D.alloc (.cells I.toArray 236)).heap.size (D.alloc (.cells I.toArray 236)) W5:=by rw[ao];exact aL _ _
 have au:Below D.heap.size D W5:=aQ dm ax
 have k4:(D.alloc (.cells I.toArray 236)).heap[gS]?=some (.cells I.toArray 236 (0,0)):=by rw[aj];exact aX D _
 have k5:W5.heap[gS]?=some (.cells I.toArray 236 (0,0)):=aD ax k4
 have kg:W5.heap[g]?=some (.cells #[.slice (some ⟨gS,0,none⟩) n n,.slice none 0 0,.int .i64 0,.int .i64 0,.bool true,.bool false] 188 (0,0)):=by rw[ao,co,aj];exact aX _ _
 have L5:LR A ns P kb D k gS g n d E P (fun _=>False) W5 k [] I (.slice none 0 0) 0 0 true false:=
  ⟨J.out.2.2.1.below au,fun x hx=>.inl hx,fun _ _ h=>h,fun _ h=>h.elim,bM.of_below au,Int.le_refl _,kg,⟨by omega,fun hp=>by have:=J.out.2.2.1.2.2 g hp;omega,fun h=>h,by omega⟩,⟨k5,HC.out⟩,⟨by omega,fun hp=>by have:=J.out.2.2.1.2.2 gS hp;omega,fun h=>h⟩,fun i s hi=>by simp at hi⟩
 rw[<-bu,<-aj]
 rw[<-aj] at ao
 rw[<-ao]
 have c5:W5.cell? ⟨q3,0,none⟩=some (.slice ad n cap):=aN au HQ.out.2.2.1
 have cb:=Ai (cap:=cap) (oo:=oo) HY.out.2.2.2.2.2.2.2.2.1.symm HY.out.2.2.2.2.1 y4 (fun hp=>(HG.out hp).1) (em.out.below au)
 have ap:Hid (LR A ns P kb D k gS g n d E P (fun _=>False) W5 k [] I (.slice none 0 0) 0 0 true false):=L5
 clear dm ax au k4 k5 kg L5 co bu aj ao HC c3
 go_upto_region 3 with (go_at_call 155;refine cb.mono ?_;intro e w1 ho;obtain ⟨vo,bo,rfl,br,⟨a1,Q,c1,rfl⟩,da⟩:=Ws ho;have ch:=aD br.out ap.out.hg;have z1:=aF ch 1 (u:=.slice none 0 0) rfl;have ek:=aG ch 1;clear ho)
 have L6:LR A ns P kb D k gS g n d E P (fun x=>False\/(W5.heap.size≤x/\x<w1.heap.size)) w1 k [] I (.slice none 0 0) 0 0 true false:=
  LR.coder J.out.2.1 ap.out (ap.out.cm.below br.out) (fun x hx=>.inl hx) (fun x hx h'=>by have:=ap.out.cm.2.2 x hx;omega) (fun x hx=>hx) (bM.of_below br.out) (Int.le_refl _)
 obtain ⟨R1,cx⟩:∃R1:Nat->Prop,R1=fun x=>False\/(W5.heap.size≤x/\x<w1.heap.size):=⟨_,rfl⟩
 rw[<-cx] at L6
 have L7:LR A ns P kb D k gS g n d E P R1 (w1.setCell ⟨g,1,none⟩ (.slice a1 Q c1)) k [] I (.slice a1 Q c1) 0 0 true false:=L6.flag J.out.2.2.2.2.2 (j:=1) rfl
 have az:nL (fun x=>A x\/R1 x) (w1.setCell ⟨g,1,none⟩ (.slice a1 Q c1)) (.slice a1 Q c1) (oo.getD []):=(da.carry (A':=fun x=>A x\/R1 x) fun x hx _=>⟨.inr (by rw[cx];exact .inr hx),rfl⟩).carry (L6.keepG J.out.2.2.2.2.2 _ _)
 obtain ⟨W7,dp⟩:=gQx (w1.setCell ⟨g,1,none⟩ (.slice a1 Q c1))
 rw[<-dp] at L7 az ⊢
 have bc:Hid (LR A ns P kb D k gS g n d E P R1 W7 k [] I (.slice a1 Q c1) 0 0 true false/\nL (fun x=>A x\/R1 x) W7 (.slice a1 Q c1) (oo.getD [])):=⟨L7,az⟩
 have c7:W7.cell? ⟨q3,0,none⟩=some (.slice ad n cap):=L7.fr.cell HQ.out.2.2.1 HQ.out.2.1
 have cn:=Xq (J.out.1.carry (J.out.2.1.keep L7.fr))
 rw[HY.out.2.2.2.2.2.2.2.2.2] at cn
 clear cb br da ch z1 ek L6 L7 az cx dp ap c5
 go_upto_region 4 with (go_at_call 156;refine cn.mono ?_;rintro e w2 ⟨rfl,an⟩;have ct:=aD an.out bc.out.1.hg;have z2:=aF ct 2 (u:=.int .i64 0) rfl;have ee:=aG ct 2)
 have L8:LR A ns P kb D k gS g n d E P R1 (w2.setCell ⟨g,2,none⟩ (.int .i64 (fi:Int))) k [] I (.slice a1 Q c1) (fi:Int) 0 true false:=(bc.out.1.below an.out).flag J.out.2.2.2.2.2 (j:=2) rfl
 have al:nL (fun x=>A x\/R1 x) (w2.setCell ⟨g,2,none⟩ (.int .i64 (fi:Int))) (.slice a1 Q c1) (oo.getD []):=(bc.out.2.carry (A':=fun x=>A x\/R1 x) fun x hx hl=>⟨hx,an.out.block x hl⟩).carry ((bc.out.1.below an.out).keepG J.out.2.2.2.2.2 _ _)
 obtain ⟨W8,dk⟩:=gQx (w2.setCell ⟨g,2,none⟩ (.int .i64 (fi:Int)))
 rw[<-dk] at L8 al ⊢
 have af:Hid (LR A ns P kb D k gS g n d E P R1 W8 k [] I (.slice a1 Q c1) (fi:Int) 0 true false/\nL (fun x=>A x\/R1 x) W8 (.slice a1 Q c1) (oo.getD [])):=⟨L8,al⟩
 have c8:=aF L8.hg 2 (u:=.int .i64 (fi:Int)) rfl
 have dl:fi≤1000000:=by have:=HY.out.2.2.2.2.2.1;omega
 have dn:E<1000000:=by have:=J.out.2.2.2.1;omega
 have ca:=nX (w:=W8) fi dl
 have ac:=yX (x:=(fi:Int)+1) L8.cm dn ⟨by omega,by omega⟩
 rw[<-HY.out.2.2.2.2.2.2.2.1] at ac
 clear cn an ct z2 ee L8 al dk bc c7 dl dn
 go_upto_region 5 with (first|(go_at_call 158;refine ca.mono ?_;rintro e w3 ⟨rfl,ed⟩;obtain rfl:=ed.symm;clear ca)|(go_at_call 115;refine ac.mono ?_;rintro e w4 ⟨rfl,h4⟩;have cp:=h4.out.2.heap af.out.1.hg af.out.1.gl.2.1;have z4:=aF cp 3 (u:=.int .i64 0) rfl;have ec:=aG cp 3))
 have L9:LR A ns P kb D k gS g n d (E+1) (Up P W8 w4) (fun x=>R1 x\/False) w4 (bF (aU k ((fi:Int)+1)) p0) [] I (.slice a1 Q c1) (fi:Int) 0 true false:=
  LR.coder J.out.2.1 af.out.1 h4.out.1 (fun x hx=>hx) (fun _ _ h=>h) (fun _ h=>h.elim) h4.out.2 (by show k.net.places≤k.net.places+1;omega)
 have av:nL (fun x=>A x\/R1 x\/False) (w4.setCell ⟨g,3,none⟩ (.int .i64 p0)) (.slice a1 Q c1) (oo.getD []):=(af.out.2.carry (af.out.1.keepC J.out.2.1 h4.out.2 fun _=>False)).carry (L9.keepG J.out.2.2.2.2.2 _ _)
 have bq:LR A ns P kb D k gS g n d (E+1) (Up P W8 w4) (fun x=>R1 x\/False) (w4.setCell ⟨g,3,none⟩ (.int .i64 p0)) (bF (aU k ((fi:Int)+1)) p0) [] I (.slice a1 Q c1) (fi:Int) p0 true false:=L9.flag J.out.2.2.2.2.2 (j:=3) rfl
 obtain ⟨W9,ds⟩:=gQx (w4.setCell ⟨g,3,none⟩ (.int .i64 p0))
 rw[<-ds] at bq av ⊢
 have ef:Hid (∃Pj Rj,LR A ns P kb D k gS g n d (E+1) Pj Rj W9 (bF (aU k ((fi:Int)+1)) p0) [] I (.slice a1 Q c1) (fi:Int) p0 true false/\nL (fun x=>A x\/Rj x) W9 (.slice a1 Q c1) (oo.getD [])):=⟨_,_,bq,av⟩
 have c9:W9.cell? ⟨q3,0,none⟩=some (.slice ad n cap):=bq.fr.cell HQ.out.2.2.1 HQ.out.2.1
 clear ac h4 cp z4 ec L9 bq av ds af c8
 go_upto_region 7 with fail
 clear c9
 go_loopg [40] n (fun f i wr=>∃(j:Nat) (kj:Kd) (ss:List (eR (St d) (Rg d))) (cs:List Value) (id lv:Bool),f=n-j/\j≤n/\i=.int .i64 (j:Int)/\Hid (ss.length=j/\Z=(Em.fL (Em.aJ d) (bD l) (l.drop j) >>= fun t=>Vk l p0 (ss++t)) kj/\id=ss.all (·.idle)/\lv=ss.any (·.leaves)/\(∀s∈ss,B9 ns l.length (eS ns d) s)/\p0<kj.net.places/\∃Pj Rj,LR A ns P kb D k gS g n d (E+1+((l.take j).map (jG (iG d))).sum) Pj Rj wr kj ss cs (.slice a1 Q c1) (fi:Int) p0 id lv/\nL (fun x=>A x\/Rj x) wr (.slice a1 Q c1) (oo.getD [])))
 case atStart=>
  obtain ⟨Pj,Rj,L,O⟩:=ef.out
  exact ⟨0,_,[],I,true,false,by omega,by omega,rfl,rfl,HZ.out.1,rfl,rfl,fun _ h=>by simp at h,by show p0<k.net.places+1;have:=HY.out.2.2.2.2.2.2.2.1;omega,Pj,Rj,by simpa using L,O⟩
 case round=>
  obtain ⟨j,kj,ss,cs,id,lv,rfl,hj,rfl,hr⟩:=hrel
  obtain ⟨ae,bp,bi,bn,bm,bh,Pj,Rj,hS,hO⟩:=hr.out
  by_cases hlt:j<n
  ·obtain ⟨s,hs⟩:∃s:cF (St d),l[j]?=some s:=⟨_,aN4 (by rw[<-HY.out.2.2.2.2.1];exact hlt)⟩
   have ak:=aP1 hs
   have kp:bB A A D wr:=J.out.2.1.keep hS.fr
   have cr:aM A wr (d+1) l (.slice ad n cap):=J.out.1.carry kp
   have cq:wr.cell? ⟨q3,0,none⟩=some (.slice ad n cap):=hS.fr.cell HQ.out.2.2.1 HQ.out.2.1
   have nq:¬Pj q3:=fun hp=>(hS.up q3 hp).elim HQ.out.2.1 fun h=>absurd h.1 (by have:=HQ.out.1;omega)
   have dj:Ro A Pj wr:=fun x hx=>⟨aO5 (J.out.2.2.2.2.2 x hx) hS.fr.size,fun hp=>(hS.up x hp).elim (J.out.2.1 x hx).2 fun h=>absurd h.1 (by have:=J.out.2.2.2.2.2 x hx;omega)⟩
   obtain ⟨cu,g',dd,e',am,ab⟩:=Qr cr
   have e1:cu=ad:=by injection e' with e';exact e'.symm
   have eg:g'=gd:=by
    have h1:=(am (by rw[<-HY.out.2.2.2.2.1];omega)).1
    rw[e1,(HG.out (by omega)).1] at h1
    injection h1 with h1
    injection h1 with h1
    exact h1.symm
   rw[eg] at ab
   obtain ⟨ve,vd,ep,pr,ay,ar,gy,en,eo,hm,dz,dx⟩:=ab j s hs
   have cy:=Xo ad gd n cap j hlt (fun hp=>(HG.out hp).1)
   obtain ⟨o,ho⟩:=gQx (j*9)
   have cc:(E+1+((l.take j).map (jG (iG d))).sum)+jG (iG d) s<1000000:=by
    have h1:=J.out.2.2.2.1
    have h2:=mK (jG (iG d)) hs
    have h3:iG (d+1) l=1+(l.map (jG (iG d))).sum:=rfl
    omega
   have y5:=HY.out.2.1 s ak
   have ya:=HY.out.2.2.1 s ak
   have yt:=HY.out.2.2.2.1 s ak
   have du:=Q3 J.out.2.2.2.2.1 (L:=l) (s:=s) cr ⟨cq,nq⟩ (i:=j) (od:=o) ho (HG.out (by omega)).2 hm dz dx ⟨ya.1,fun r hr=>⟨ya.2 r hr,y5.2.2.2.2 r hr,yt.2.2.2 r hr⟩,fun y hy=>⟨HY.out.1 s ak y hy,y5.2.2.2.1 y hy,yt.2.2.1 y hy⟩,y5.2.1,y5.2.2.1,yt.1,yt.2.1⟩ hS.cm dj cc
   rw[<-ho] at cy
   have HJ:Hid (LR A ns P kb D k gS g n d (E+1+((l.take j).map (jG (iG d))).sum) Pj Rj wr kj ss cs (.slice a1 Q c1) (fi:Int) p0 id lv/\nL (fun x=>A x\/Rj x) wr (.slice a1 Q c1) (oo.getD [])/\l[j]?=some s/\ss.length=j/\Z=(Em.jD (Em.aJ d) (bD l) s >>= fun x=>Em.fL (Em.aJ d) (bD l) (l.drop (j+1)) >>= fun t=>Vk l p0 ((ss++[x])++t)) kj/\id=ss.all (·.idle)/\lv=ss.any (·.leaves)/\(∀s∈ss,B9 ns l.length (eS ns d) s)/\p0<kj.net.places):=⟨hS,hO,hs,ae,by rw[bp,dT hs,yV],bi,bn,bm,bh⟩
   clear hr ae bp bi bn bm bh hS hO hs ak kp cr nq dj e' am ab e1 eg hm dz dx ho cc y5 ya yt
   go_upto_region 10 with (go_at_call 161;refine du.mono ?_;rintro e w1 ⟨aw,nw,cw,ai,ni,ci,U,X,rfl,h1⟩)
   obtain ⟨Y,ce⟩:=gQx w1.heap.size
   rw[<-ce]
   obtain ⟨V,hV⟩:=gQx (w1.alloc (.cells #[.pointer (some ⟨gd,o,none⟩),.slice aw nw cw,.slice ai ni ci,.bool U,.bool X] 236))
   have cf:Below w1.heap.size w1 V:=by rw[hV];exact aL _ _
   have bk:V.heap[Y]?=some (.cells #[.pointer (some ⟨gd,o,none⟩),.slice aw nw cw,.slice ai ni ci,.bool U,.bool X] 236 (0,0)):=by rw[hV,ce];exact aX w1 _
   rw[<-hV]
   obtain ⟨st,k1,P1,Q1,hz,i1,i2,C1,u1,d1,db,r1,p1,V1,K1⟩:=h1.out
   have S1:LR A ns P kb D k gS g n d (E+1+((l.take (j+1)).map (jG (iG d))).sum) P1 (fun x=>Rj x\/Q1 x) w1 k1 ss cs (.slice a1 Q c1) (fi:Int) p0 id lv:=by
    refine LR.moreE (LR.coder J.out.2.1 HJ.out.1 C1 u1 d1 db r1 p1) ?_
    rw[mQ (jG (iG d)) HJ.out.2.2.1];omega
   have O1:nL (fun x=>A x\/Rj x\/Q1 x) w1 (.slice a1 Q c1) (oo.getD []):=HJ.out.2.1.carry (HJ.out.1.keepC J.out.2.1 r1 Q1)
   have S2:=S1.below cf
   have kV:bB (fun x=>A x\/Rj x\/Q1 x) (fun x=>A x\/Rj x\/Q1 x) w1 V:=fun x hx hl=>⟨hx,cf.block x hl⟩
   have O2:=O1.carry kV
   have V2:Vo (fun x=>A x\/Rj x\/Q1 x) V st gd o (.slice aw nw cw) (.slice ai ni ci):=(V1.carry (A':=fun x=>A x\/Rj x\/Q1 x) (w':=w1) fun x hx _=>⟨hx.elim .inl fun h=>.inr (.inr h),rfl⟩).carry kV
   have be:Y≠g/\Y≠gS/\¬(A Y\/Rj Y\/Q1 Y):=⟨fun e=>by have:=aB S1.hg;omega,fun e=>by have:=aB S1.hs.1;omega,fun h=>by
    rcases h with h|h
    ·have:=J.out.2.2.2.2.2 Y h;have:=S1.fr.size;omega
    ·have:=(S1.rn Y h).2;omega⟩
   have S3:∀b,LR A ns P kb D k gS g n d (E+1+((l.take (j+1)).map (jG (iG d))).sum) P1 (fun x=>Rj x\/Q1 x) (V.setCell ⟨g,4,none⟩ (.bool b)) k1 ss cs (.slice a1 Q c1) (fi:Int) p0 b lv:=fun b=>S2.flag J.out.2.2.2.2.2 (j:=4) rfl
   have S4:∀b c,LR A ns P kb D k gS g n d (E+1+((l.take (j+1)).map (jG (iG d))).sum) P1 (fun x=>Rj x\/Q1 x) ((V.setCell ⟨g,4,none⟩ (.bool b)).setCell ⟨g,5,none⟩ (.bool c)) k1 ss cs (.slice a1 Q c1) (fi:Int) p0 b c:=fun b c=>(S3 b).flag J.out.2.2.2.2.2 (j:=5) rfl
   have kG:∀b c,bB (fun x=>A x\/Rj x\/Q1 x) (fun x=>A x\/Rj x\/Q1 x) V ((V.setCell ⟨g,4,none⟩ (.bool b)).setCell ⟨g,5,none⟩ (.bool c)):=fun b c=>(S2.keepG J.out.2.2.2.2.2 4 (.bool b)).trans ((S3 b).keepG J.out.2.2.2.2.2 5 (.bool c)) (by simp[World.setCell])
   have kQ:∀b c,((V.setCell ⟨g,4,none⟩ (.bool b)).setCell ⟨g,5,none⟩ (.bool c)).heap[Y]?=some (.cells #[.pointer (some ⟨gd,o,none⟩),.slice aw nw cw,.slice ai ni ci,.bool U,.bool X] 236 (0,0)):=fun b c=>by rw[Below.heap_setCell _ _ _ _ be.1,Below.heap_setCell _ _ _ _ be.1];exact bk
   have dr:Hid (∀b c,LR A ns P kb D k gS g n d (E+1+((l.take (j+1)).map (jG (iG d))).sum) P1 (fun x=>Rj x\/Q1 x) ((V.setCell ⟨g,4,none⟩ (.bool b)).setCell ⟨g,5,none⟩ (.bool c)) k1 ss cs (.slice a1 Q c1) (fi:Int) p0 b c/\nL (fun x=>A x\/Rj x\/Q1 x) ((V.setCell ⟨g,4,none⟩ (.bool b)).setCell ⟨g,5,none⟩ (.bool c)) (.slice a1 Q c1) (oo.getD [])/\Vo (fun x=>A x\/Rj x\/Q1 x) ((V.setCell ⟨g,4,none⟩ (.bool b)).setCell ⟨g,5,none⟩ (.bool c)) st gd o (.slice aw nw cw) (.slice ai ni ci)/\((V.setCell ⟨g,4,none⟩ (.bool b)).setCell ⟨g,5,none⟩ (.bool c)).heap[Y]?=some (.cells #[.pointer (some ⟨gd,o,none⟩),.slice aw nw cw,.slice ai ni ci,.bool U,.bool X] 236 (0,0))):=fun b c=>⟨S4 b c,O2.carry (kG b c),V2.carry (kG b c),kQ b c⟩
   have ag:Hid (ss.length=j/\Z=(Em.fL (Em.aJ d) (bD l) (l.drop (j+1)) >>= fun t=>Vk l p0 ((ss++[st])++t)) k1/\(id&&U)=(ss++[st]).all (·.idle)/\(lv||X)=(ss++[st]).any (·.leaves)/\(∀s∈ss++[st],B9 ns l.length (eS ns d) s)/\p0<k1.net.places/\st.idle=U/\st.leaves=X):=by
    obtain ⟨_,_,_,g4,g5,g6,g7,g8,g9⟩:=HJ.out
    refine ⟨g4,by rw[g5];exact I0 hz,by rw[g6,<-i1];simp,by rw[g7,<-i2];simp,fun x hx=>?_,by omega,i1,i2⟩
    rcases aR2.1 hx with h|h
    ·exact g8 x h
    ·rw[aP5.1 h];exact K1
   have x4:V.cell? ⟨g,4,none⟩=some (.bool id):=aF S2.hg 4 rfl
   have eb:=aG S2.hg 4
   have x5:∀b,(V.setCell ⟨g,4,none⟩ (.bool b)).cell? ⟨g,5,none⟩=some (.bool lv):=fun b=>aF (S3 b).hg 5 rfl
   have eh:∀b,(V.setCell ⟨g,4,none⟩ (.bool b)).frozen? ⟨g,5,none⟩=false:=fun b=>aG (S3 b).hg 5
   have v3:V.cell? ⟨Y,3,none⟩=some (.bool U):=aF bk 3 rfl
   have v4:∀b,(V.setCell ⟨g,4,none⟩ (.bool b)).cell? ⟨Y,4,none⟩=some (.bool X):=fun b=>by
    rw[aY6 (w:=V) (a:=⟨Y,4,none⟩) (Below.heap_setCell _ _ _ _ be.1)];exact aF bk 4 rfl
   have ev:Hid (Y≠g/\Y≠gS/\¬(A Y\/Rj Y\/Q1 Y)):=be
   clear du h1 hz i1 i2 C1 u1 d1 db r1 p1 V1 K1 S1 S2 S3 S4 O1 O2 V2 kV kG kQ HJ cy ce hV cf bk cq be
   go_cut [] from 41 to 78 (fun wx=>∃b,wx=V.setCell ⟨g,4,none⟩ (.bool b)/\Hid (b=(id&&U)))
   case first=>
    cases id
    all_goals
     go_wp2_with fail
     go_meet
     case rel=>exact ⟨_,rfl,rfl⟩
   case rest=>
    obtain ⟨b,rfl,hb⟩:=hcut
    go_upto_region 11 with fail
    go_cut [] from 41 to 78 (fun wx=>∃c,wx=(V.setCell ⟨g,4,none⟩ (.bool b)).setCell ⟨g,5,none⟩ (.bool c)/\Hid (c=(lv||X)))
    case first=>
     cases lv
     all_goals
      go_wp2_with fail
      go_meet
      case rel=>exact ⟨_,rfl,rfl⟩
    case rest=>
     obtain ⟨c,rfl,hc⟩:=hcut
     go_upto_region 12 with fail
     obtain ⟨aa,bw⟩:=gQx ((V.setCell ⟨g,4,none⟩ (.bool b)).setCell ⟨g,5,none⟩ (.bool c))
     obtain ⟨T1,T2,T3,T4⟩:=dr.out b c
     rw[<-bw] at T1 T2 T3 T4 ⊢
     have ej:Hid (ss.length=j/\Z=(Em.fL (Em.aJ d) (bD l) (l.drop (j+1)) >>= fun t=>Vk l p0 ((ss++[st])++t)) k1/\b=(ss++[st]).all (·.idle)/\c=(ss++[st]).any (·.leaves)/\(∀s∈ss++[st],B9 ns l.length (eS ns d) s)/\p0<k1.net.places/\st.idle=U/\st.leaves=X):=⟨ag.out.1,ag.out.2.1,hb.out.trans ag.out.2.2.1,hc.out.trans ag.out.2.2.2.1,ag.out.2.2.2.2⟩
     have HT:Hid (LR A ns P kb D k gS g n d (E+1+((l.take (j+1)).map (jG (iG d))).sum) P1 (fun x=>Rj x\/Q1 x) aa k1 ss cs (.slice a1 Q c1) (fi:Int) p0 b c/\nL (fun x=>A x\/Rj x\/Q1 x) aa (.slice a1 Q c1) (oo.getD [])/\Vo (fun x=>A x\/Rj x\/Q1 x) aa st gd o (.slice aw nw cw) (.slice ai ni ci)):=⟨T1,T2,T3⟩
     have s0:=aF T1.hg 0 (u:=.slice (some ⟨gS,0,none⟩) n n) rfl
     have u0:=aF T4 0 (u:=.pointer (some ⟨gd,o,none⟩)) rfl
     have u1:=aF T4 1 (u:=.slice aw nw cw) rfl
     have u2:=aF T4 2 (u:=.slice ai ni ci) rfl
     have u3:=aF T4 3 (u:=.bool U) rfl
     have u4:=aF T4 4 (u:=.bool X) rfl
     obtain ⟨oS,cj⟩:=gQx (j*5)
     have eu:∀W,(Instr.indexAt 186 (.slice (some ⟨gS,0,none⟩) n n) (.int .i64 (j:Int))).run prog W=.ok (.pointer (some ⟨gS,oS,none⟩)) W:=fun W=>by rw[cj];exact Se (some ⟨gS,0,none⟩) gS n n j hlt (fun _=>rfl) W
     have ah:∀jj,jj<5->∃u,aa.cell? ⟨gS,oS+jj,none⟩=some u:=fun jj er=>by
      have hlen:=T1.hs.2
      exact ⟨_,aF T1.hs.1 (oS+jj) (by rw[List.getElem?_toArray];exact aN4 (by omega))⟩
     obtain ⟨b0,m0⟩:=ah 0 (by omega)
     obtain ⟨b1,m1⟩:=ah 1 (by omega)
     obtain ⟨b2,m2⟩:=ah 2 (by omega)
     obtain ⟨b3,m3⟩:=ah 3 (by omega)
     obtain ⟨b4,m4⟩:=ah 4 (by omega)
     rw[aY4] at m0
     have z0:=aG T1.hs.1 oS
     have z1:=aG T1.hs.1 (oS+1)
     have z2:=aG T1.hs.1 (oS+2)
     have z3:=aG T1.hs.1 (oS+3)
     have z4:=aG T1.hs.1 (oS+4)
     have HO:Hid (oS=j*5):=cj
     clear T1 T2 T3 T4 ah bw dr ag cj x4 eb x5 eh v3 v4
     go_region
     all_goals
      go_wp2_with fail
      go_roundg (n-(j+1))
      case measure=>omega
      case rel=>
       obtain ⟨j1,j2,j3,j4,j5,j6,j7,j8⟩:=ej.out
       obtain ⟨ea,bf⟩:=HT.out.1.put J.out.2.2.2.2.2 (s:=st) (gd:=gd) (od:=o) (by omega) HT.out.2.2 (i:=j) j1.symm
       rw[j7,j8,<-HO.out] at bf
       have dy:=HT.out.2.1.carry (HT.out.1.keepS J.out.2.2.2.2.2 fun x hx=>Wi (W:=aa) (gS:=gS) (o:=oS) (a:=.pointer (some ⟨gd,o,none⟩)) (b:=.slice aw nw cw) (c:=.slice ai ni ci) (e:=.bool U) (f:=.bool X) x hx)
       generalize ((((aa.setCell ⟨gS,oS,none⟩ (.pointer (some ⟨gd,o,none⟩))).setCell ⟨gS,oS+1,none⟩ (.slice aw nw cw)).setCell ⟨gS,oS+2,none⟩ (.slice ai ni ci)).setCell ⟨gS,oS+3,none⟩ (.bool U)).setCell ⟨gS,oS+4,none⟩ (.bool X)=W6 at bf dy ⊢
       exact ⟨j+1,k1,ss++[st],ea,b,c,rfl,by omega,by go_num,by rw[aO9,j1];rfl,j2,j3,j4,j5,j6,P1,_,bf.drew,dy.drew⟩
  ·have ck:j=n:=by omega
   have ba:ss.length=l.length:=by rw[ae,ck];exact HY.out.2.2.2.2.1
   have di:Z=some ((⟨ss,(eO (cQ l)).getD [],(fi:Int),p0,id,lv⟩:jP (St d) (Rg d)),kj):=by
    rw[bp,aX1 (by rw[<-ba,ae];exact aO4 _)]
    show (Vk l p0 (ss++[])) kj=_
    rw[List.append_nil,bi,bn,<-HY.out.2.2.2.2.2.2.1]
    rfl
   have hE:E+1+((l.take j).map (jG (iG d))).sum=E+iG (d+1) l:=by
    rw[List.take_of_length_le (by rw[<-ba,ae];exact aO4 _)]
    show _=E+(1+(l.map (jG (iG d))).sum)
    omega
   have bz:Laid A ns P kb w k (d+1) (E+iG (d+1) l) (⟨ss,(eO (cQ l)).getD [],(fi:Int),p0,id,lv⟩:jP (St d) (Rg d)) g Pj (fun x=>Rj x\/x=g\/x=gS) wr kj:=by
    rw[<-hE]
    refine hS.done HQ.out.2.2.2.1 (by rw[ae,ck]) (by rw[<-HY.out.2.2.2.2.2.2.2.2.1];exact hO) ⟨by show ss.length≤1000000;omega,by show 0≤(fi:Int)/\(fi:Int)<ss.length;have:=HY.out.2.2.2.2.2.1;omega,fun i hi=>?_,?_,fun s hs=>?_⟩ ⟨?_,bh⟩
    ·show i<ss.length
     rw[ba];exact Qp.1 i hi
    ·show ((eO (cQ l)).getD []).length≤1000000
     have:=(Qp (l:=l)).2;omega
    ·show B9 ns ss.length (eS ns d) s
     rw[ba];exact bm s hs
    ·rw[HY.out.2.2.2.2.2.2.2.1,J.out.2.2.1.2.1.len];omega
   have HF:Hid (Em.lay (Em.aJ d) l k=some ((⟨ss,(eO (cQ l)).getD [],(fi:Int),p0,id,lv⟩:jP (St d) (Rg d)),kj)/\Laid A ns P kb w k (d+1) (E+iG (d+1) l) (⟨ss,(eO (cQ l)).getD [],(fi:Int),p0,id,lv⟩:jP (St d) (Rg d)) g Pj (fun x=>Rj x\/x=g\/x=gS) wr kj):=⟨HZ.out.2.symm.trans di,bz⟩
   clear hr ae bp bi bn bm bh hS hO ck ba di hE bz
   go_wp2_with fail
   go_ret
   exact ⟨g,rfl,_,kj,Pj,_,HF.out⟩
theorem Rv (ih:zT A kb ns d):zT A kb ns (d+1):=fun hL hlay hall htm h hR hE=>Xn ih hL hlay hall htm h hR hE
theorem Ie:∀d,zT A kb ns d
 | 0=>fun _ hlay _ _ _ _ _=>hlay.elim
 | d+1=>Rv (Ie d)
end
section
variable {A P:Nat->Prop}{w:World}{ns:List bE}{kb E:Nat}{k:Kd}
def zeroed (k:Kd) (t:Nat):Kd:={ k with net:={ k.net with first:=k.net.first.set t 0 } }
theorem eK.zeroed (h:eK E ns P w kb k) {t:Nat}(ht:t<k.net.first.length):∃b cap,w.cell? ⟨kb,1,none⟩=some (.slice (some ⟨b,0,none⟩) k.net.first.length cap)/\P b/\(∃u,w.cell? ⟨b,t,none⟩=some u)/\w.frozen? ⟨b,t,none⟩=false/\eK E ns P (w.setCell ⟨b,t,none⟩ (.int .i64 0)) kb (zeroed k t)/\bM P w (w.setCell ⟨b,t,none⟩ (.int .i64 0)):=by
 obtain ⟨⟨c,s⟩,y,U⟩:=h
 have hr:w.ownsRow 0 2 1 (c.v 1) k.net.first.length (k.net.first.map (Value.int .i64)):=s.row 1 (by omega) (by omega)
 obtain ⟨b,cap,Q,_,ad⟩:=hr.form (by omega)
 obtain ⟨J,r⟩:=s.pr 1 b (by omega) (by omega) (by rw[Q];rfl)
 have D:=hr
 rw[Q] at D
 obtain ⟨aa,ae⟩:=D.stored t (.int .i64 0)
 have O:∀x,x≠b->(w.setCell ⟨b,t,none⟩ (.int .i64 0)).heap[x]?=w.heap[x]?:=fun x hx=>Below.heap_setCell _ _ _ _ hx
 have hz:(w.setCell ⟨b,t,none⟩ (.int .i64 0)).heap.size=w.heap.size:=by simp[World.setCell]
 have X:bM P w (w.setCell ⟨b,t,none⟩ (.int .i64 0)):=(bM.refl _ _).setCell (.inl J) _
 obtain ⟨fv,Y,ab⟩:=s.hv
 obtain ⟨fn,Z,ac⟩:=s.hn
 refine ⟨b,cap,by rw[<-Q];exact s.cell 1 rfl,J,⟨_,by rw[D.cellAt t (by omega)];exact aN4 (by simpa using ht)⟩,D.frozenAt t,⟨⟨c,?_,fun j j1 j6=>?_,⟨fv,Y.keep (O _ fun e=>?_),ab⟩,⟨fn,Z.keep (O _ fun e=>?_),ac⟩,s.p0,s.pr,s.pv,s.pn,?_,s.nn,s.mvk⟩,?_,fun x hx=>by rw[hz];exact U x hx⟩,X⟩
 ·rw[O kb fun e=>by have:=s.p0.2;rw[e,r] at this;omega];exact s.hk
 ·by_cases hj:j=1
  ·subst hj
   show World.ownsRow _ 0 2 1 (c.v 1) (k.net.first.set t 0).length ((k.net.first.set t 0).map (Value.int .i64))
   rw[Q,aW4,List.map_set]
   exact aa
  ·have e1:rB (Ew.zeroed k t).net j=rB k.net j:=by unfold rB;split<;>first|exact absurd rfl hj|rfl
   have e2:pP (Ew.zeroed k t).net j=pP k.net j:=by unfold pP;split<;>first|exact absurd rfl hj|rfl
   rw[e1,e2]
   refine eY (A:=fun x=>(c.v j).ownBlock=some x) (A':=fun _=>True) (s.row j j1 j6) (fun _ h=>h) fun x hx _=>⟨trivial,O x fun e=>?_⟩
   have:=(s.pr j x j1 j6 hx).2;rw[e,r] at this;omega
 ·have:=s.pv.2;rw[e,r] at this;omega
 ·have:=s.pn.2;rw[e,r] at this;omega
 ·show c.nv≤(k.net.first.set t 0).length
  rw[aW4];exact s.nv
 ·have I:(Ew.zeroed k t).net.first.length=k.net.first.length:=by simp[Ew.zeroed]
  refine ⟨by rw[I];exact y.len,by rw[I];exact y.pot,y.code,by rw[I];exact y.keeps,by rw[I];exact y.ins,by rw[I];exact y.outs,y.nums,y.e,fun x hx=>?_,y.nn,y.vf,y.out⟩
  rcases List.mem_or_eq_of_mem_set hx with h|h
  ·exact y.nf x h
  ·rw[h];exact ⟨by omega,by omega⟩
theorem eK.drew (h:eK E ns P w kb k):eK E ns P w.drew kb k:=h.below (Below.refl _ _).drew
theorem aL1 (b n cap t:Nat) (c:t<n) (w:World):(Instr.indexAt 22 (.slice (some ⟨b,0,none⟩) n cap) (.int .i64 (t:Int))).run prog w=.ok (.pointer (some ⟨b,t,none⟩)) w:=by
 rw[aY8 _ _ _ _ _ _ _ (by kernel_rfl),if_pos ⟨by omega,by omega⟩]
 have e:(sizeOf (prog.elem 22)).run prog w=.ok 1 w:=by kernel_rfl
 rw[e]
 simp[Result.andThen,Addr.add]
 try (intro h;exact h.symm)
theorem Dm {b:Int}{l:List (St 6)}{r:List (List (St 6))}{g:jP (St 5) (Rg 5)}{k1:Kd}{t:Nat}(h:(Em.aJ 6).lay l k=some (g,k1)) (c:g.there=(t:Int)):Em.rI b (l::r) k=((Em.aJ 6).goOn g g.there (Em.eC (List.replicate g.states.length []) g.first b false) >>= fun _=>Em.rI b r) (Ew.zeroed k1 t):=by
 have e:t=g.there.toNat:=by rw[c];rfl
 rw[e]
 exact I0 (m:=(Em.aJ 6).lay l) h
theorem Ox {wr w1 w2 w5:World}{kj k1 k2:Kd}{d g:Nat}{r:Rg d}{s J:Nat->Prop}{o:Option (Unit×Kd)}{e:Ending}(Q:∀b,P b->b<w.heap.size) (j:bM P w wr) (O:k.net.places≤kj.net.places) (c:Laid A ns (Up P w wr) kb wr kj d E r g s J w1 k1) (I:bM s w1 w2) (U:k1.net.places≤k2.net.places) (h:fJ E ns s kb w2 k2 o (fun _=>.tuple #[]) e w5) :
    (e=Vl/\Hid (o=none)/\Hid (bM P w w5))\/∃k5,e=.returned (.tuple #[])/\Hid (o=some ((),k5))/\Hid (At E ns P kb w k w5 k5):=by
 have Z:=j.size
 have X:=c.fr.size
 have Y:=I.size
 have f1:=j.up c.fr
 have f2:bM P w w2:=f1.trans I fun b hb u=>(c.up b u).elim (fun h=>h.elim id fun h=>absurd h.1 (by omega)) fun h=>absurd h.1 (by omega)
 have st:∀{w':World},bM s w2 w'->bM P w w':=fun h=>f2.trans h fun b hb u=>(c.up b u).elim (fun h=>h.elim id fun h=>absurd h.1 (by omega)) fun h=>absurd h.1 (by omega)
 rcases h with ⟨rfl,y,D⟩|⟨_,k5,rfl,y,D⟩
 ·exact .inl ⟨rfl,y,st D.out⟩
 ·obtain ⟨c1,c2,c3⟩:=D.out
  have s5:=c2.size
  refine .inr ⟨k5,rfl,y,c1.mono (fun b hb=>?_) (iI Q (st c2).size),st c2,by have:=c.pl;omega⟩
  rcases hb with hb|hb
  ·rcases c.up b hb with hb|hb
   ·exact Up.size (by omega) b hb
   ·exact .inr ⟨by omega,by omega⟩
  ·exact .inr ⟨by omega,hb.2⟩
end
end Ew
end
end Go.Proofs.YthieaobjdpfcoaaGreatDoor
