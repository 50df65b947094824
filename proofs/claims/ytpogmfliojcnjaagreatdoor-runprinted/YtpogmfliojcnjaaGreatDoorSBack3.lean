import Derived.Test.YtpogmfliojcnjaaGreatDoorSRrd
import Derived.Test.YtpogmfliojcnjaaGreatDoorSPsets
import Derived.Test.YtpogmfliojcnjaaGreatDoorSBack2
namespace Go.Proofs.YtpogmfliojcnjaaGreatDoor
section
open Go.RowKit Px
end
section
open Go.RowKit Px
theorem val_snoc (l:Str) (c:UInt8):val (l++[c])=val l*10+(c.toNat-48):=by simp[val,List.foldl_append]
end
section
namespace Px
open Go.Lib Lx
def dpE:E->Nat->Nat
 | .nil,_=>0
 | .node _ _ a l r,least=>
  if a.code=1\/a.code=2\/a.code=3 then 1
  else if a.code=4\/a.code=5 then 1+dpE l 6
  else if line a.code<least then 1+max (dpE l (line a.code)) (dpE r (line a.code+1)) else max (dpE l (line a.code)) (dpE r (line a.code+1))
section
variable {L:List Tok}
def Ats (L:List Tok) (i:Nat) (ks:List Kt):Prop:=∀(j:Nat) (x:Kt),ks[j]?=some x->kd L (i+j)=x.1/\tx L (i+j)=x.2
theorem Ats.head {i:Nat}{x:Kt}{r:List Kt}(h:Ats L i (x::r)):kd L i=x.1/\tx L i=x.2:=h 0 x rfl
theorem Ats.tail {i:Nat}{x:Kt}{r:List Kt}(h:Ats L i (x::r)):Ats L (i+1) r:=fun j y hy=>by
 have:=h (j+1) y (by simpa using hy)
 rw[show i+1+j=i+(j+1) by omega];exact this
theorem Ats.left {i:Nat}{a b:List Kt}(h:Ats L i (a++b)):Ats L i a:=fun j y hy=>h j y (by
 rw[List.getElem?_append_left (List.getElem?_eq_some_iff.1 hy).1];exact hy)
theorem Ats.right {i:Nat}{a b:List Kt}(h:Ats L i (a++b)):Ats L (i+a.length) b:=fun j y hy=>by
 have:=h (a.length+j) y (by rw[List.getElem?_append_right (by omega)];simpa using hy)
 rw[show i+a.length+j=i+(a.length+j) by omega];exact this
def Stop (L:List Tok) (m j:Nat):Prop:=∀t,m≤t+1->t<5->codeAt t (tx L j)=0
theorem Stop.mono {m m' j:Nat}(h:Stop L m j) (hm:m≤m'):Stop L m' j:=fun t h1 h2=>h t (by omega) h2
theorem sign_self:∀c:Fin 17,6≤c.val->codeAt (line c.val-1) (signT c.val)=c.val:=by decide
theorem sign_stop:∀(c:Fin 17) (t:Fin 5),6≤c.val->line c.val≤t.val->codeAt t.val (signT c.val)=0:=by decide
theorem line_range:∀c:Fin 17,6≤c.val->1≤line c.val/\line c.val≤5:=by decide
theorem rap_stop:∀t:Fin 5,codeAt t.val kRap=0:=by decide
theorem climb {k t i j:Nat}{e:E}(h:lev L (one L k) t i=.ok (e,j)) (hs:codeAt (4-t) (tx L j)=0):lev L (one L k) (t+1) i=.ok (e,j):=by
 rw[lev,chain,h]
 show chainF L _ _ L.length e j=_
 cases L.length with
 | zero=>rfl
 | succ n=>rw[chainF,if_pos hs]
theorem climbs {k i j:Nat}{e:E}(h:one L k i=.ok (e,j)):∀(m:Nat),1≤m->m≤6->Stop L m j->lev L (one L k) (6-m) i=.ok (e,j):=by
 intro m h1 h6 hs
 obtain ⟨t,rfl⟩:∃t,m=6-t:=⟨6-m,by omega⟩
 rw[show 6-(6-t)=t by omega]
 have:∀t,t≤5->Stop L (6-t) j->lev L (one L k) t i=.ok (e,j):=by
  intro t
  induction t with
  | zero=>intro _ _;exact h
  | succ t ih=>
   intro ht hs
   exact climb (ih (by omega) (hs.mono (by omega))) (hs (4-t) (by omega) (by omega))
 exact this t (by omega) hs
theorem val_dec:∀n:Nat,val (decDigits n)=n:=by
 intro n
 induction n using Nat.strongRecOn with
 | _ n ih=>
  rw[decDigits]
  split
  ·rename_i h
   have:(UInt8.ofNat (48+n)).toNat=48+n:=by rw[UInt8.toNat_ofNat'];omega
   simp only[val,List.foldl_cons,List.foldl_nil,this];omega
  ·rename_i h
   have:(UInt8.ofNat (48+n % 10)).toNat=48+n % 10:=by rw[UInt8.toNat_ofNat'];omega
   rw[val_snoc,ih (n / 10) (by omega),this];omega
theorem val_itoa {n:Int}(h:0≤n):(val (itoa n):Int)=n:=by
 unfold itoa
 rw[if_neg (by omega),val_dec];omega
theorem digits_plain {s:Str}(hne:s≠[]) (h:∀c∈s,Lx.digit c=true):codeAhead s=0/\s≠kPar/\s≠kPre:=by
 cases s with
 | nil=>exact absurd rfl hne
 | cons c r=>
  have hc:=h c (by simp)
  have n1:c≠45:=by rintro rfl;simp[Lx.digit] at hc
  have n2:c≠33:=by rintro rfl;simp[Lx.digit] at hc
  have n3:c≠40:=by rintro rfl;simp[Lx.digit] at hc
  have n4:c≠112:=by rintro rfl;simp[Lx.digit] at hc
  exact ⟨by unfold codeAhead kMinus kNot;rw[if_neg (by simp[n1]),if_neg (by simp[n2])],by simp[kPar,n3],by simp[kPre,n4]⟩
theorem name_plain {s:Str}(h:NameOk s):codeAhead s=0/\s≠kPar/\s≠kPre:=by
 obtain ⟨⟨c,r,e,hc⟩,_,hk,_⟩:=h
 have n4:s≠kPre:=by rintro rfl;simp[kw,words,kPre] at hk
 subst e
 have n1:c≠45:=by rintro rfl;simp[alpha] at hc
 have n2:c≠33:=by rintro rfl;simp[alpha] at hc
 have n3:c≠40:=by rintro rfl;simp[alpha] at hc
 exact ⟨by unfold codeAhead kMinus kNot;rw[if_neg (by simp[n1]),if_neg (by simp[n2])],by simp[kPar,n3],n4⟩
theorem nm_ok {i:Nat}{s:Str}(h:NameOk s) (hk:kd L i=1) (ht:tx L i=s):nm L i=.ok s:=by
 unfold nm
 rw[if_neg (by rw[ht,hk,h.2.2.1];simp),ht,if_neg (by have:=h.2.2.2;omega)]
theorem climbFrom {k i j t0:Nat}{e:E}(h:lev L (one L k) t0 i=.ok (e,j)):∀(t:Nat),t0≤t->t≤5->Stop L (6-t) j->lev L (one L k) t i=.ok (e,j):=by
 intro t
 induction t with
 | zero=>intro h0 _ _;obtain rfl:t0=0:=by omega
         exact h
 | succ t ih=>
  intro h0 h5 hs
  by_cases he:t0=t+1
  ·subst he;exact h
  ·exact climb (ih (by omega) (by omega) (hs.mono (by omega))) (hs (4-t) (by omega) (by omega))
theorem tx_in {i:Nat}{s:Str}(h:tx L i=s) (hs:s≠[]):i<L.length:=by
 rcases Nat.lt_or_ge i L.length with h'|h'
 ·exact h'
 ·exact absurd (by rw[<-h,tx,tok,List.getD_eq_getElem?_getD,List.getElem?_eq_none h'];rfl) hs
theorem signT_neK (c:Nat):signT c≠[]:=by unfold signT;(repeat' split)<;>simp
theorem chainF_stop {below:Nat->Except F (E×Nat)}{code:Str->Nat}{e:E}{j:Nat}(h:code (tx L j)=0):∀f,chainF L below code f e j=.ok (e,j):=by
 intro f
 cases f with
 | zero=>rfl
 | succ f=>rw[chainF,if_pos h]
theorem S_of_below {k q i j n:Nat}{e:E}(h:lev L (one L k) (5-q) i=.ok (e,j)):∃f,chain L (lev L (one L k) (5-q)) (codeAt (q-1)) i=chainF L (lev L (one L k) (5-q)) (codeAt (q-1)) f e j/\L.length≤f+n:=⟨L.length,by rw[chain,h],by omega⟩
def Draws1 (L:List Tok) (e:E):Prop:=
 (∀k m i,1≤m->m≤6->dpE e m≤k->Ats L i (exprK e m)->Stop L m (i+(exprK e m).length)->lev L (one L k) (6-m) i=.ok (e,i+(exprK e m).length))/\
 (∀k q i,1≤q->q≤5->dpE e q≤k->Ats L i (exprK e q)->Stop L (q+1) (i+(exprK e q).length)->∃f,chain L (lev L (one L k) (5-q)) (codeAt (q-1)) i=chainF L (lev L (one L k) (5-q)) (codeAt (q-1)) f e (i+(exprK e q).length)/\L.length≤f+(exprK e q).length)
theorem draws_atom {e:E}{ks:List Kt}{d:Nat}(hK:∀m,exprK e m=ks) (hD:∀m,dpE e m=d) (h:∀k i,d≤k->Ats L i ks->one L k i=.ok (e,i+ks.length)):Draws1 L e:=by
 refine ⟨fun k m i h1 h6 hd ha hs=>?_,fun k q i h1 h5 hd ha hs=>?_⟩
 ·rw[hK] at ha hs ⊢;rw[hD] at hd
  exact climbs (h k i hd ha) m h1 h6 hs
 ·rw[hK] at ha hs ⊢;rw[hD] at hd
  have:=climbs (h k i hd ha) (q+1) (by omega) (by omega) hs
  rw[show 6-(q+1)=5-q by omega] at this
  exact S_of_below this
theorem expr_back:∀{e:E},SE e->Draws1 L e:=by
 intro e
 induction e with
 | nil=>intro h;exact absurd h (by simp[SE])
 | node b o a l r ihl ihr=>
  intro h
  obtain ⟨c,n,nmx⟩:=a
  obtain ⟨rfl,rfl,h|h|h|h⟩:=h
  ·obtain ⟨h1,h2,h3,h4,rfl,rfl⟩:=h
   simp only at h1 h2 h3 h4
   subst h1;subst h4
   obtain ⟨d1,d2,d3⟩:=itoa_digits h2 h3
   obtain ⟨p1,p2,p3⟩:=digits_plain d1 d2
   refine draws_atom (ks:=[(2,itoa n)]) (d:=1) (fun m=>by simp[exprK]) (fun m=>by simp[dpE]) (fun k i hk ha=>?_)
   obtain ⟨k,rfl⟩:∃k',k=k'+1:=⟨k-1,by omega⟩
   have hh:=ha.head
   rw[one,hh.2,if_neg (by rw[p1];simp),if_neg p2,if_neg p3,if_pos hh.1,val_itoa h2]
   rfl
  ·obtain ⟨h1,h2,h3,rfl,rfl⟩:=h
   simp only at h1 h2 h3
   subst h2
   obtain ⟨p1,p2,p3⟩:=name_plain h3
   rcases h1 with rfl|rfl
   ·refine draws_atom (ks:=[(1,nmx)]) (d:=1) (fun m=>by simp[exprK]) (fun m=>by simp[dpE]) (fun k i hk ha=>?_)
    obtain ⟨k,rfl⟩:∃k',k=k'+1:=⟨k-1,by omega⟩
    have hh:=ha.head
    rw[one,nm_ok h3 hh.1 hh.2,hh.2,if_neg (by rw[p1];simp),if_neg p2,if_neg p3,if_neg (by rw[hh.1];simp)]
    rfl
   ·refine draws_atom (ks:=[(1,kPre),(3,kPar),(1,nmx),(3,kRap)]) (d:=1) (fun m=>by simp[exprK]) (fun m=>by simp[dpE]) (fun k i hk ha=>?_)
    obtain ⟨k,rfl⟩:∃k',k=k'+1:=⟨k-1,by omega⟩
    have hh:=ha.head
    have hh1:=ha.tail.head
    have hh2:=ha.tail.tail.head
    have hh3:=ha.tail.tail.tail.head
    rw[one,nm_ok h3 hh2.1 hh2.2,hh.2,if_neg (by decide),if_neg (by decide),if_pos rfl,hh1.2,if_pos rfl]
    show (if tx L (i+3)=kRap then _ else _)=_
    rw[if_pos hh3.2]
    rfl
  ·obtain ⟨h1,h2,h3,h4,rfl⟩:=h
   simp only at h1 h2 h3
   subst h2;subst h3
   have hc:c=4\/c=5:=h1
   refine draws_atom (ks:=(3,aheadT c)::exprK l 6) (d:=1+dpE l 6) (fun m=>by rcases hc with rfl|rfl<;>simp[exprK]) (fun m=>by rcases hc with rfl|rfl<;>simp[dpE]) (fun k i hk ha=>?_)
   obtain ⟨k,rfl⟩:∃k',k=k'+1:=⟨k-1,by omega⟩
   have hh:=ha.head
   have q:=(ihl h4).1 k 6 (i+1) (by omega) (by omega) (by omega) ha.tail (fun t h _=>absurd h (by omega))
   rw[show 6-6=0 from rfl,lev] at q
   have hca:codeAhead (aheadT c)=c:=by rcases hc with rfl|rfl<;>rfl
   rw[one,hh.2,hca,if_pos (by rcases hc with rfl|rfl<;>decide),q]
   simp only[List.length_cons]
   rw[show i+1+(exprK l 6).length=i+((exprK l 6).length+1) by omega]
   rfl
  ·obtain ⟨h1,h2,h3,h4,h5,h6⟩:=h
   simp only at h1 h2 h3 h4
   subst h3;subst h4
   have hl:=ihl h5
   have hr:=ihr h6
   obtain ⟨l1,l5⟩:=line_range ⟨c,by omega⟩ h1
   simp only at l1 l5
   have ss:=sign_self ⟨c,by omega⟩ h1
   simp only at ss
   obtain ⟨body,hbody⟩:∃x,x=exprK l (line c)++((3,signT c)::exprK r (line c+1)):=⟨_,rfl⟩
   obtain ⟨D,hD⟩:∃x,x=max (dpE l (line c)) (dpE r (line c+1)):=⟨_,rfl⟩
   have K1:∀m,m≤line c->exprK (.node 0 0 ⟨c,0,[]⟩ l r) m=body:=fun m hm=>by
    rw[exprK,if_neg (by show ¬c=1;omega),if_neg (by show ¬c=2;omega),if_neg (by show ¬c=3;omega),if_neg (by show ¬(c=4\/c=5);omega),brackK,hbody]
    rw[if_neg (by simp;omega)]
   have K2:∀m,line c<m->exprK (.node 0 0 ⟨c,0,[]⟩ l r) m=(3,kPar)::(body++[(3,kRap)]):=fun m hm=>by
    rw[exprK,if_neg (by show ¬c=1;omega),if_neg (by show ¬c=2;omega),if_neg (by show ¬c=3;omega),if_neg (by show ¬(c=4\/c=5);omega),brackK,hbody]
    rw[if_pos (by simp;omega)]
   have D1:∀m,m≤line c->dpE (.node 0 0 ⟨c,0,[]⟩ l r) m=D:=fun m hm=>by
    rw[dpE,if_neg (by show ¬(c=1\/c=2\/c=3);omega),if_neg (by show ¬(c=4\/c=5);omega),if_neg (by show ¬line c<m;omega),hD]
   have D2:∀m,line c<m->dpE (.node 0 0 ⟨c,0,[]⟩ l r) m=1+D:=fun m hm=>by
    rw[dpE,if_neg (by show ¬(c=1\/c=2\/c=3);omega),if_neg (by show ¬(c=4\/c=5);omega),if_pos (by show line c<m;omega),hD]
   have S0:∀k i,D≤k->Ats L i body->Stop L (line c+1) (i+body.length)->∃f,chain L (lev L (one L k) (5-line c)) (codeAt (line c-1)) i=chainF L (lev L (one L k) (5-line c)) (codeAt (line c-1)) f (.node 0 0 ⟨c,0,[]⟩ l r) (i+body.length)/\L.length≤f+body.length:=by
    intro k i hk ha hs
    rw[hbody] at ha hs ⊢
    have ar:=ha.right
    have hh:=ar.head
    have len:(exprK l (line c)++((3,signT c)::exprK r (line c+1))).length=(exprK l (line c)).length+1+(exprK r (line c+1)).length:=by simp;omega
    rw[len] at hs ⊢
    obtain ⟨f,hf,hfl⟩:=hl.2 k (line c) i l1 l5 (by omega) ha.left (fun t ht t5=>by rw[hh.2];exact sign_stop ⟨c,by omega⟩ ⟨t,t5⟩ h1 (by show line c≤t;omega))
    have hp:=tx_in hh.2 (signT_neK c)
    obtain ⟨f,rfl⟩:∃f',f=f'+1:=⟨f-1,by omega⟩
    have q:=hr.1 k (line c+1) (i+(exprK l (line c)).length+1) (by omega) (by omega) (by omega) ar.tail (by rw[show i+(exprK l (line c)).length+1+(exprK r (line c+1)).length=i+((exprK l (line c)).length+1+(exprK r (line c+1)).length) by omega];exact hs)
    rw[show 6-(line c+1)=5-line c by omega] at q
    refine ⟨f,?_,by omega⟩
    rw[hf,chainF,hh.2,ss,if_neg (by omega),q]
    rw[show i+(exprK l (line c)).length+1+(exprK r (line c+1)).length=i+((exprK l (line c)).length+1+(exprK r (line c+1)).length) by omega]
    rfl
   have M0:∀k m i,1≤m->m≤line c->D≤k->Ats L i body->Stop L m (i+body.length)->lev L (one L k) (6-m) i=.ok (.node 0 0 ⟨c,0,[]⟩ l r,i+body.length):=by
    intro k m i hm1 hm hk ha hs
    obtain ⟨f,hf,_⟩:=S0 k i hk ha (hs.mono (by omega))
    have base:lev L (one L k) (6-line c) i=.ok (.node 0 0 ⟨c,0,[]⟩ l r,i+body.length):=by
     rw[show 6-line c=(5-line c)+1 by omega,lev,show 4-(5-line c)=line c-1 by omega,hf]
     exact chainF_stop (hs (line c-1) (by omega) (by omega)) f
    exact climbFrom base (6-m) (by omega) (by omega) (by rw[show 6-(6-m)=m by omega];exact hs)
   have O:∀k i,1+D≤k->Ats L i ((3,kPar)::(body++[(3,kRap)]))->one L k i=.ok (.node 0 0 ⟨c,0,[]⟩ l r,i+((3,kPar)::(body++[(3,kRap)])).length):=by
    intro k i hk ha
    obtain ⟨k,rfl⟩:∃k',k=k'+1:=⟨k-1,by omega⟩
    have hh:=ha.head
    have hz:=ha.tail.right.head
    have q:=M0 k 1 (i+1) (by omega) l1 (by omega) ha.tail.left (fun t _ t5=>by rw[hz.2];exact rap_stop ⟨t,t5⟩)
    rw[show 6-1=5 from rfl] at q
    rw[one,hh.2,if_neg (by decide),if_pos rfl,q]
    show (if tx L (i+1+body.length)=kRap then _ else _)=_
    rw[if_pos hz.2]
    simp only[List.length_cons,List.length_append,List.length_nil]
    rw[show i+1+body.length+1=i+(body.length+(0+1)+1) by omega]
   refine ⟨fun k m i m1 m6 hd ha hs=>?_,fun k q i q1 q5 hd ha hs=>?_⟩
   ·by_cases hm:m≤line c
    ·rw[K1 m hm] at ha hs ⊢
     rw[D1 m hm] at hd
     exact M0 k m i m1 hm hd ha hs
    ·rw[K2 m (by omega)] at ha hs ⊢
     rw[D2 m (by omega)] at hd
     exact climbs (O k i hd ha) m m1 m6 hs
   ·by_cases hq:q=line c
    ·subst hq
     rw[K1 _ (Nat.le_refl _)] at ha hs ⊢
     rw[D1 _ (Nat.le_refl _)] at hd
     exact S0 k i hd ha hs
    ·by_cases hm:q<line c
     ·rw[K1 q (by omega)] at ha hs ⊢
      rw[D1 q (by omega)] at hd
      have:=M0 k (q+1) i (by omega) (by omega) hd ha hs
      rw[show 6-(q+1)=5-q by omega] at this
      exact S_of_below this
     ·rw[K2 q (by omega)] at ha hs ⊢
      rw[D2 q (by omega)] at hd
      have:=climbs (O k i hd ha) (q+1) (by omega) (by omega) hs
      rw[show 6-(q+1)=5-q by omega] at this
      exact S_of_below this
end
end Px
end
end Go.Proofs.YtpogmfliojcnjaaGreatDoor
