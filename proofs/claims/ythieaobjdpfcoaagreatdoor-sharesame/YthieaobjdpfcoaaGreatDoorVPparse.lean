import Derived.Test.YthieaobjdpfcoaaGreatDoorVCc
set_option maxRecDepth 100000
set_option maxHeartbeats 4000000
namespace Go.Proofs.YthieaobjdpfcoaaGreatDoor
open Go.Proofs.Tryz (prog)
section
namespace Px
namespace Sh
open Go.Lib
def wE:E->Nat
 | .nil=>0
 | .node _ _ _ l r=>1+wE l+wE r
def TE:E->Prop
 | .nil=>True
 | .node _ _ a l r=>1≤a.code/\a.code≤16/\(-9223372036854775808≤a.num/\a.num≤9223372036854775807)/\a.name.length≤12/\((a.code≤3->l=.nil)/\(a.code≤5->r=.nil)/\(4≤a.code->l≠.nil)/\(6≤a.code->r≠.nil))/\TE l/\TE r
section
variable {L:List Lx.fQ}
def DE (f:Nat->Except F (E×Nat)):Prop:=∀i e j,f i=.ok (e,j)->(TE e/\e≠.nil)/\i<j/\wE e≤j-i
theorem vA {i:Nat}{s:bE}(h:nm L i=.ok s):s.length≤12:=by
 unfold nm at h
 split at h
 ·exact absurd h (by simp)
 ·split at h
  ·exact absurd h (by simp)
  ·injection h with h;subst h;omega
theorem Gh (l:List (bE×Nat)) (s:bE):sE l s=0\/∃p∈l,sE l s=p.2:=by
 induction l with
 | nil=>exact .inl rfl
 | cons p r ih=>
  obtain ⟨t,c⟩:=p
  rw[sE]
  split
  ·exact .inr ⟨(t,c),by simp,rfl⟩
  ·rcases ih with h|⟨q,j,k⟩
   ·exact .inl h
   ·exact .inr ⟨q,by simp[j],k⟩
theorem r7:∀(t:Fin 5) (p:bE×Nat),p∈signs.getD t.val []->6≤p.2/\p.2≤16:=by decide
theorem U8 (t:Nat) (j:t<5) (s:bE):iP t s=0\/(6≤iP t s/\iP t s≤16):=by
 rcases Gh (signs.getD t []) s with h|⟨p,c,k⟩
 ·exact .inl h
 ·have:=r7 ⟨t,j⟩ p c
  rw[iP,k];exact .inr this
theorem Uq {below:Nat->Except F (E×Nat)}{code:bE->Nat}(hb:DE below) (I:∀s,code s=0\/(6≤code s/\code s≤16)):∀(f:Nat) (e:E) (i:Nat) (c:E) (j:Nat),lB L below code f e i=.ok (c,j)->(TE e/\e≠.nil)->(TE c/\c≠.nil)/\i≤j/\wE c≤wE e+(j-i):=by
 intro f
 induction f with
 | zero=>
  intro e i c j h k
  rw[lB] at h
  injection h with h
  injection h with h1 h2
  subst h1;subst h2
  exact ⟨k,aO4 _,by omega⟩
 | succ f ih=>
  intro e i c j h k
  rw[lB] at h
  split at h
  ·injection h with h
   injection h with h1 h2
   subst h1;subst h2
   exact ⟨k,aO4 _,by omega⟩
  ·rename_i hne
   split at h
   ·exact absurd h (by simp)
   ·rename_i r m hr
    obtain ⟨n,J,O⟩:=hb _ _ _ hr
    have u:=I (tx L i)
    have l:TE (Mw (code (tx L i)) e r):=⟨show 1≤code (tx L i) by omega,show code (tx L i)≤16 by omega,⟨show (-9223372036854775808:Int)≤0 by omega,show (0:Int)≤9223372036854775807 by omega⟩,aP6 _,⟨fun h=>absurd (show code (tx L i)≤3 from h) (by omega),fun h=>absurd (show code (tx L i)≤5 from h) (by omega),fun _=>k.2,fun _=>n.2⟩,k.1,n.1⟩
    obtain ⟨y,Q,D⟩:=ih _ _ _ _ h ⟨l,by simp[Mw]⟩
    rw[show wE (Mw (code (tx L i)) e r)=1+wE e+wE r from rfl] at D
    exact ⟨y,by omega,by omega⟩
theorem Ym {below:Nat->Except F (E×Nat)}{code:bE->Nat}(hb:DE below) (l:∀s,code s=0\/(6≤code s/\code s≤16)):DE (zI L below code):=by
 intro i e j h
 rw[zI] at h
 split at h
 ·exact absurd h (by simp)
 ·rename_i e0 m hr
  obtain ⟨c,n,r⟩:=hb _ _ _ hr
  obtain ⟨k,y,u⟩:=Uq hb l _ _ _ _ _ h c
  exact ⟨k,by omega,by omega⟩
theorem Zn {one:Nat->Except F (E×Nat)}(h:DE one):∀t,t≤5->DE (A5 L one t):=by
 intro t
 induction t with
 | zero=>intro _;exact h
 | succ t ih=>intro c;rw[A5];exact Ym (ih (by omega)) (U8 (4-t) (by omega))
theorem xB (s:bE):bP s=0\/bP s=4\/bP s=5:=by unfold bP;(repeat' split)<;>simp
theorem aJ7 (J:Wf L):∀k,DE (one L k):=by
 intro k
 induction k with
 | zero=>intro i e j h;rw[one] at h;exact absurd h (by simp)
 | succ k ih=>
  intro i e j h
  rw[one] at h
  split at h
  ·split at h
   ·exact absurd h (by simp)
   ·rename_i hne _ e0 m hr
    obtain ⟨c,r,u⟩:=ih _ _ _ hr
    injection h with h
    injection h with h1 h2
    subst h1;subst h2
    have l:=xB (tx L i)
    refine ⟨⟨⟨show 1≤bP (tx L i) by omega,show bP (tx L i)≤16 by omega,⟨show (-9223372036854775808:Int)≤0 by omega,show (0:Int)≤9223372036854775807 by omega⟩,aP6 _,⟨fun h=>absurd (show bP (tx L i)≤3 from h) (by omega),fun _=>rfl,fun _=>c.2,fun h=>absurd (show 6≤bP (tx L i) from h) (by omega)⟩,c.1,trivial⟩,by simp[Ua]⟩,by omega,?_⟩
    rw[show wE (Ua (bP (tx L i)) e0)=1+wE e0+0 from rfl]
    omega
  ·split at h
   ·split at h
    ·exact absurd h (by simp)
    ·rename_i e0 m hr
     obtain ⟨c,r,u⟩:=Zn ih 5 (aO4 _) _ _ _ hr
     split at h
     ·injection h with h
      injection h with h1 h2
      subst h1;subst h2
      exact ⟨c,by omega,by omega⟩
     ·exact absurd h (by simp)
   ·split at h
    ·split at h
     ·split at h
      ·exact absurd h (by simp)
      ·rename_i s hs
       split at h
       ·injection h with h
        injection h with h1 h2
        subst h1;subst h2
        refine ⟨⟨⟨show 1≤3 by omega,show 3≤16 by omega,⟨show (-9223372036854775808:Int)≤0 by omega,show (0:Int)≤9223372036854775807 by omega⟩,vA hs,⟨fun _=>rfl,fun _=>rfl,fun h=>absurd (show 4≤3 from h) (by omega),fun h=>absurd (show 6≤3 from h) (by omega)⟩,trivial,trivial⟩,by simp[tU]⟩,by omega,?_⟩
        rw[show wE (tU 3 s)=1+0+0 from rfl];omega
       ·exact absurd h (by simp)
     ·exact absurd h (by simp)
    ·split at h
     ·rename_i hk
      injection h with h
      injection h with h1 h2
      subst h1;subst h2
      obtain ⟨D,I,n3⟩:=J.num i hk
      have y:=(nW (tx L i) n3 D I).2
      have n:(10:Nat) ^ 18=1000000000000000000:=by decide
      rw[n] at y
      refine ⟨⟨⟨show 1≤1 by omega,show 1≤16 by omega,⟨show (-9223372036854775808:Int)≤(val (tx L i):Int) by omega,show (val (tx L i):Int)≤9223372036854775807 by omega⟩,aP6 _,⟨fun _=>rfl,fun _=>rfl,fun h=>absurd (show 4≤1 from h) (by omega),fun h=>absurd (show 6≤1 from h) (by omega)⟩,trivial,trivial⟩,by simp[Yh]⟩,by omega,?_⟩
      rw[show wE (Yh (val (tx L i)))=1+0+0 from rfl];omega
     ·split at h
      ·exact absurd h (by simp)
      ·rename_i s hs
       injection h with h
       injection h with h1 h2
       subst h1;subst h2
       refine ⟨⟨⟨show 1≤2 by omega,show 2≤16 by omega,⟨show (-9223372036854775808:Int)≤0 by omega,show (0:Int)≤9223372036854775807 by omega⟩,vA hs,⟨fun _=>rfl,fun _=>rfl,fun h=>absurd (show 4≤2 from h) (by omega),fun h=>absurd (show 6≤2 from h) (by omega)⟩,trivial,trivial⟩,by simp[tU]⟩,by omega,?_⟩
       rw[show wE (tU 2 s)=1+0+0 from rfl];omega
theorem T8 (hL:Wf L):DE (eP L):=Zn (aJ7 hL 7) 5 (aO4 _)
def wS:List iY->Nat
 | []=>0
 | a::r=>1+wE a.e+wS r
def TS (l:List iY):Prop:=∀a∈l,TE a.e/\a.name.length≤12
theorem qK (l m:List iY):wS (l++m)=wS l+wS m:=by
 induction l with
 | nil=>simp[wS]
 | cons a r ih=>rw[List.cons_append,wS,wS,ih];omega
theorem On (l:List iY):l.length≤wS l:=by
 induction l with
 | nil=>simp
 | cons a r ih=>rw[wS,aV8];omega
theorem TS.app {l m:List iY}(h:TS l) (h':TS m):TS (l++m):=fun a ha=>(aR2.1 ha).elim (h a) (h' a)
theorem J8 (y:Wf L):∀(f:Nat) (l:List iY) (i:Nat) (k:List iY) (j:Nat),sets L f l i=.ok (k,j)->TS l->TS k/\i≤j/\wS k≤wS l+(j-i):=by
 intro f
 induction f with
 | zero=>
  intro l i k j h n
  rw[sets] at h
  injection h with h
  injection h with h1 h2
  subst h1;subst h2
  exact ⟨n,aO4 _,by omega⟩
 | succ f ih=>
  intro l i k j h n
  rw[sets] at h
  split at h
  ·exact absurd h (by simp)
  ·rename_i s hs
   split at h
   ·split at h
    ·exact absurd h (by simp)
    ·rename_i e m hr
     obtain ⟨r,J,O⟩:=T8 y _ _ _ hr
     have c:TS (l++[⟨s,e⟩]):=n.app (fun a u=>by obtain rfl:=aP5.1 u;exact ⟨r.1,vA hs⟩)
     have I:wS (l++[⟨s,e⟩])=wS l+(1+wE e+0):=qK _ _
     split at h
     ·obtain ⟨D,U,Q⟩:=ih _ _ _ _ h c
      exact ⟨D,by omega,by omega⟩
     ·injection h with h
      injection h with h1 h2
      subst h1;subst h2
      exact ⟨c,by omega,by omega⟩
   ·exact absurd h (by simp)
def wW (y:Wy):Nat:=1+wE y.cond+wS y.sets
def TW (y:Wy):Prop:=y.kind≤2/\y.times≤1000/\TE y.cond/\TS y.sets/\y.to.length≤12
theorem Ow {i n:Nat}(h:times L i=.ok n):n≤1000:=by
 unfold times at h
 split at h
 ·exact absurd h (by simp)
 ·split at h
  ·exact absurd h (by simp)
  ·injection h with h;omega
theorem aF9 (k:Wf L) {i n j:Nat}{e:E}(h:cond L i=.ok (n,e,j)):n≤1000/\TE e/\i≤j/\wE e≤j-i:=by
 unfold cond at h
 split at h
 ·split at h
  ·split at h
   ·exact absurd h (by simp)
   ·rename_i n' hn
    split at h
    ·exact absurd h (by simp)
    ·rename_i e' m hr
     obtain ⟨c,l,r⟩:=T8 k _ _ _ hr
     injection h with h
     injection h with h1 h2
     injection h2 with h2 h3
     subst h1;subst h2;subst h3
     exact ⟨Ow hn,c.1,by omega,by omega⟩
  ·split at h
   ·exact absurd h (by simp)
   ·rename_i e' m hr
    obtain ⟨c,l,r⟩:=T8 k _ _ _ hr
    injection h with h
    injection h with h1 h2
    injection h2 with h2 h3
    subst h1;subst h2;subst h3
    exact ⟨by omega,c.1,by omega,by omega⟩
 ·injection h with h
  injection h with h1 h2
  injection h2 with h2 h3
  subst h1;subst h2;subst h3
  exact ⟨by omega,trivial,aO4 _,aP6 _⟩
theorem aF8 (n:Wf L) {i j:Nat}{l:List iY}(h:fR L i=.ok (l,j)):TS l/\i≤j/\wS l≤j-i:=by
 unfold fR at h
 split at h
 ·obtain ⟨r,s,k⟩:=J8 n _ _ _ _ _ h (fun a c=>absurd c (by simp))
  rw[show wS []=0 from rfl] at k
  exact ⟨r,by omega,by omega⟩
 ·injection h with h
  injection h with h1 h2
  subst h1;subst h2
  exact ⟨fun a c=>absurd c (by simp),aO4 _,aP6 _⟩
theorem rH {i:Nat}{s:bE}(h:tx L i=s) (j:s≠[]):i<L.length:=by
 rcases aY1 i L.length with c|c
 ·exact c
 ·exact absurd (by rw[<-h,tx,Jv,iO,aX5 c];rfl) j
theorem aI0 (c:Wf L) {k i j:Nat}{y:Wy}(r:k≤2) (h:uG L k i=.ok (y,j)):TW y/\i<j/\wW y≤j-i/\j≤L.length:=by
 unfold uG at h
 split at h
 ·exact absurd h (by simp)
 ·rename_i n e m hr
  obtain ⟨c1,c2,c3,c4⟩:=aF9 c hr
  split at h
  ·exact absurd h (by simp)
  ·rename_i l q hd
   obtain ⟨u,D,I⟩:=aF8 c hd
   split at h
   ·split at h
    ·exact absurd h (by simp)
    ·rename_i s hs
     split at h
     ·rename_i ht
      have:=rH ht (by simp[fE])
      have J:=pT L gB i
      have o2:=pT L iS (q+2)
      injection h with h
      injection h with h1 h2
      subst h1;subst h2
      refine ⟨⟨r,c1,c2,u,vA hs⟩,by omega,?_,by omega⟩
      show 1+wE e+wS l≤_
      omega
     ·exact absurd h (by simp)
   ·exact absurd h (by simp)
end
def fU {α:Type}(f:α->Nat):List α->Nat
 | []=>0
 | a::r=>f a+fU f r
theorem mL {α:Type}(f:α->Nat) (l m:List α):fU f (l++m)=fU f l+fU f m:=by
 induction l with
 | nil=>simp[fU]
 | cons a r ih=>rw[List.cons_append,fU,fU,ih];omega
theorem sQ {α:Type}(f:α->Nat) (a:α):fU f [a]=f a:=by simp[fU]
section
variable {ρ:Type}
def wR (f:ρ->Nat) (r:List ρ):Nat:=1+fU f r
def lG (f:ρ->Nat) (s:cF ρ):Nat:=1+wS s.enter+wS s.during+wS s.leave+wE s.rests+fU wW s.ways+fU (wR f) s.regions
def B8 (T:ρ->Prop) (s:cF ρ):Prop:=s.name.length≤12/\TS s.enter/\TS s.during/\TS s.leave/\TE s.rests/\(∀y∈s.ways,TW y)/\∀r∈s.regions,∀x∈r,T x
end
def jG:(k:Nat)->St k->Nat
 | 0=>fun _=>1
 | k+1=>fun s=>lG (jG k) s
def Yx:(k:Nat)->St k->Prop
 | 0=>fun _=>True
 | k+1=>fun s=>B8 (Yx k) s
section
variable {L:List Lx.fQ}{ρ:Type}
def DR (L:List Lx.fQ) (T:ρ->Prop) (f:ρ->Nat) (reg:Nat->Nat->Except F (List ρ×Nat×Nat)):Prop:=∀c i l c' j,reg c i=.ok (l,c',j)->(∀x∈l,T x)/\i<j/\wR f l≤j-i/\j≤L.length
theorem J9 {i m:Nat}(h:pD L i=.ok m):m=i+1/\m≤L.length:=by
 unfold pD at h
 split at h
 ·rename_i ht
  have:=rH ht (by simp[fE])
  injection h with h;omega
 ·exact absurd h (by simp)
theorem Ls {s:bE}{k:Nat}(h:cZ s=some k):k≤2:=by
 unfold cZ at h
 split at h
 ·injection h with h;omega
 ·split at h
  ·injection h with h;omega
  ·split at h
   ·injection h with h;omega
   ·exact absurd h (by simp)
variable {T:ρ->Prop}{f:ρ->Nat}{reg:Nat->Nat->Except F (List ρ×Nat×Nat)}
theorem vR:TS []:=fun a ha=>absurd ha (by simp)
theorem aB5 (Z:Wf L) (hr:DR L T f reg) {s s':cF ρ}{c i c' j:Nat}(h:eF L ρ reg s c i=.ok (some (s',c',j))) (hs:B8 T s):B8 T s'/\i<j/\lG f s'≤lG f s+(j-i)/\j≤L.length:=by
 obtain ⟨I,Q,D,J,Y,U,O⟩:=hs
 rw[eF] at h
 split at h
 ·rename_i k hk
  split at h
  ·exact absurd h (by simp)
  ·rename_i y m hy
   obtain ⟨y1,y2,y3,y4⟩:=aI0 Z (Ls hk) hy
   injection h with h;injection h with h;injection h with e1 h;injection h with e2 e3
   subst e1;subst e2;subst e3
   refine ⟨⟨I,Q,D,J,Y,fun z u=>(aR2.1 u).elim (U z) (fun u=>by rw[aP5.1 u];exact y1),O⟩,by omega,?_,y4⟩
   have:=mL wW s.ways [y]
   rw[sQ] at this
   simp only[lG]
   omega
 ·split at h
  ·split at h
   ·exact absurd h (by simp)
   ·rename_i l c1 m hy
    obtain ⟨y1,y2,y3,y4⟩:=hr _ _ _ _ _ hy
    injection h with h;injection h with h;injection h with e1 h;injection h with e2 e3
    subst e1;subst e2;subst e3
    refine ⟨⟨I,Q,D,J,Y,U,fun z u=>(aR2.1 u).elim (O z) (fun u=>by rw[aP5.1 u];exact y1)⟩,by omega,?_,y4⟩
    have:=mL (wR f) s.regions [l]
    rw[sQ] at this
    simp only[lG]
    omega
  ·split at h
   ·split at h
    ·exact absurd h (by simp)
    ·rename_i l m hy
     obtain ⟨r,q2,X⟩:=J8 Z _ _ _ _ _ hy vR
     rw[show wS []=0 from rfl] at X
     split at h
     ·exact absurd h (by simp)
     ·rename_i m2 hm
      have n:=J9 hm
      injection h with h;injection h with h;injection h with e1 h;injection h with e2 e3
      subst e1;subst e2;subst e3
      refine ⟨⟨I,Q.app r,D,J,Y,U,O⟩,by omega,?_,n.2⟩
      have:=qK s.enter l
      simp only[lG]
      omega
   ·split at h
    ·split at h
     ·exact absurd h (by simp)
     ·rename_i l m hy
      obtain ⟨r,q2,X⟩:=J8 Z _ _ _ _ _ hy vR
      rw[show wS []=0 from rfl] at X
      split at h
      ·exact absurd h (by simp)
      ·rename_i m2 hm
       have n:=J9 hm
       injection h with h;injection h with h;injection h with e1 h;injection h with e2 e3
       subst e1;subst e2;subst e3
       refine ⟨⟨I,Q,D.app r,J,Y,U,O⟩,by omega,?_,n.2⟩
       have:=qK s.during l
       simp only[lG]
       omega
    ·split at h
     ·split at h
      ·exact absurd h (by simp)
      ·rename_i l m hy
       obtain ⟨r,q2,X⟩:=J8 Z _ _ _ _ _ hy vR
       rw[show wS []=0 from rfl] at X
       split at h
       ·exact absurd h (by simp)
       ·rename_i m2 hm
        have n:=J9 hm
        injection h with h;injection h with h;injection h with e1 h;injection h with e2 e3
        subst e1;subst e2;subst e3
        refine ⟨⟨I,Q,D,J.app r,Y,U,O⟩,by omega,?_,n.2⟩
        have:=qK s.leave l
        simp only[lG]
        omega
     ·split at h
      ·split at h
       ·rename_i he
        split at h
        ·exact absurd h (by simp)
        ·rename_i e m hy
         obtain ⟨r,q2,X⟩:=T8 Z _ _ _ hy
         split at h
         ·exact absurd h (by simp)
         ·rename_i m2 hm
          have n:=J9 hm
          injection h with h;injection h with h;injection h with e1 h;injection h with e2 e3
          subst e1;subst e2;subst e3
          refine ⟨⟨I,Q,D,J,r.1,U,O⟩,by omega,?_,n.2⟩
          simp only[lG]
          omega
       ·exact absurd h (by simp)
      ·exact absurd h (by simp)
theorem Wq (D:Wf L) (y:DR L T f reg):∀(n:Nat) (s:cF ρ) (c i:Nat) (s':cF ρ) (l j:Nat),parts L ρ reg n s c i=.ok (s',l,j)->B8 T s->i≤L.length->B8 T s'/\i≤j/\lG f s'≤lG f s+(j-i)/\j≤L.length:=by
 intro n
 induction n with
 | zero=>
  intro s c i s' l j h k r
  rw[parts] at h
  injection h with h;injection h with e1 h;injection h with e2 e3
  subst e1;subst e2;subst e3
  exact ⟨k,aO4 _,by omega,r⟩
 | succ n ih=>
  intro s c i s' l j h k r
  rw[parts] at h
  split at h
  ·exact absurd h (by simp)
  ·split at h
   ·rename_i ht
    have:=rH ht (by simp[jM])
    injection h with h;injection h with e1 h;injection h with e2 e3
    subst e1;subst e2;subst e3
    exact ⟨k,by omega,by omega,by omega⟩
   ·exact absurd h (by simp)
  ·rename_i s1 c1 m hp
   obtain ⟨p1,p2,p3,p4⟩:=aB5 D y hp k
   obtain ⟨I,O,J,u⟩:=ih _ _ _ _ _ _ h p1 p4
   exact ⟨I,by omega,by omega,u⟩
theorem Wc (I:Wf L) (k:DR L T f reg) {l la:Bool}{c i O j:Nat}{s:cF ρ}(h:cP L ρ reg l la c i=.ok (s,O,j)):B8 T s/\i<j/\lG f s≤j-i/\j≤L.length:=by
 rw[cP] at h
 split at h
 ·split at h
  ·exact absurd h (by simp)
  ·split at h
   ·exact absurd h (by simp)
   ·rename_i nm' hn
    have n:B8 T (⟨nm',l,la,[],[],[],.nil,[],[]⟩:cF ρ):=⟨vA hn,vR,vR,vR,trivial,fun y D=>absurd D (by simp),fun r k=>absurd k (by simp)⟩
    have Q:lG f (⟨nm',l,la,[],[],[],.nil,[],[]⟩:cF ρ)=1:=rfl
    split at h
    ·rename_i ht
     have:=rH ht (by simp[fE])
     injection h with h;injection h with e1 h;injection h with e2 e3
     subst e1;subst e2;subst e3
     exact ⟨n,by omega,by omega,by omega⟩
    ·split at h
     ·rename_i ht
      have:=rH ht (by simp[fF])
      obtain ⟨J,X,U,u⟩:=Wq I k _ _ _ _ _ _ _ h n (by omega)
      exact ⟨J,by omega,by omega,u⟩
     ·exact absurd h (by simp)
 ·exact absurd h (by simp)
theorem Pe (J:Wf L) (I:DR L T f reg):∀(n:Nat) (l:List (cF ρ)) (c i:Nat) (k:List (cF ρ)) (u j:Nat),states L ρ reg n l c i=.ok (k,u,j)->(∀x∈l,B8 T x)->i≤L.length->(∀x∈k,B8 T x)/\i≤j/\fU (lG f) k≤fU (lG f) l+(j-i)/\j≤L.length:=by
 intro n
 induction n with
 | zero=>
  intro l c i k u j h r y
  rw[states] at h
  injection h with h;injection h with e1 h;injection h with e2 e3
  subst e1;subst e2;subst e3
  exact ⟨r,aO4 _,by omega,y⟩
 | succ n ih=>
  intro l c i k u j h r y
  rw[states] at h
  split at h
  ·split at h
   ·exact absurd h (by simp)
   ·rename_i s c1 m hs
    obtain ⟨p1,p2,p3,p4⟩:=Wc J I hs
    have X:=pT L dO i
    have o2:=pT L iC (kH L dO i)
    obtain ⟨O,U,Q,D⟩:=ih _ _ _ _ _ _ h (fun x hx=>(aR2.1 hx).elim (r x) (fun hx=>by rw[aP5.1 hx];exact p1)) p4
    rw[mL,sQ] at Q
    exact ⟨O,by omega,by omega,D⟩
  ·split at h
   ·rename_i ht
    have:=rH ht (by simp[jM])
    injection h with h;injection h with e1 h;injection h with e2 e3
    subst e1;subst e2;subst e3
    exact ⟨r,by omega,by omega,by omega⟩
   ·exact absurd h (by simp)
end
theorem Pz {L:List Lx.fQ}(u:Wf L):∀k,DR L (Yx k) (jG k) (aW L k):=by
 intro k
 induction k with
 | zero=>intro c i l r j h;rw[aW] at h;exact absurd h (by simp)
 | succ k ih=>
  intro c i l r j h
  have n:@ite (Except F (List (cF (St k))×Nat×Nat)) (tx L i=fF) _ (states L (St k) (aW L k) L.length [] c (i+1)) (.error (3,pl L i))=.ok (l,r,j):=h
  by_cases ht:tx L i=fF
  ·rw[if_pos ht] at n
   have:=rH ht (by simp[fF])
   obtain ⟨y,I,D,s⟩:=Pe u ih _ _ _ _ _ _ _ n (fun x hx=>absurd hx (by simp)) (by omega)
   refine ⟨y,by omega,?_,s⟩
   rw[show fU (lG (jG k)) []=0 from rfl] at D
   show 1+fU (lG (jG k)) l≤_
   omega
  ·rw[if_neg ht] at n
   exact absurd n (by simp)
section
variable {L:List Lx.fQ}
def TD (v:bQ):Prop:=(1≤v.kind/\v.kind≤3/\-9223372036854775808≤v.first/\v.first≤9223372036854775807)/\v.name.length≤12
theorem Al (l:Wf L) {i n:Nat}(h:bS L i=.ok n):n<1000000000000000000:=by
 unfold bS at h
 split at h
 ·rename_i hk
  obtain ⟨r,j,n3⟩:=l.num i hk
  have k:=(nW (tx L i) n3 r j).2
  have c:(10:Nat) ^ 18=1000000000000000000:=by decide
  rw[c] at k
  injection h with h
  omega
 ·exact absurd h (by simp)
theorem Yd (c:Wf L) {i j:Nat}{n:Int}(h:first L i=.ok (n,j)):-9223372036854775808≤n/\n≤9223372036854775807/\i≤j:=by
 unfold first at h
 split at h
 ·split at h
  ·split at h
   ·exact absurd h (by simp)
   ·rename_i q hq
    have:=Al c hq
    injection h with h;injection h with e1 e2
    subst e1;subst e2
    exact ⟨by omega,by omega,by omega⟩
  ·split at h
   ·exact absurd h (by simp)
   ·rename_i q hq
    have:=Al c hq
    injection h with h;injection h with e1 e2
    subst e1;subst e2
    exact ⟨by omega,by omega,by omega⟩
 ·injection h with h;injection h with e1 e2
  subst e1;subst e2
  exact ⟨by omega,by omega,by omega⟩
theorem Lv (s:bE):dY s≤3:=by unfold dY;(repeat' split)<;>omega
theorem Di (r:Wf L) {k i j:Nat}{v:bQ}(c:1≤k) (l:k≤3) (h:dC L k i=.ok (v,j)):TD v/\i<j/\j≤L.length:=by
 unfold dC at h
 split at h
 ·exact absurd h (by simp)
 ·rename_i s hs
  split at h
  ·exact absurd h (by simp)
  ·rename_i n m hf
   obtain ⟨f1,f2,u⟩:=Yd r hf
   split at h
   ·rename_i ht
    have:=rH ht (by simp[fE])
    injection h with h;injection h with e1 e2
    subst e1;subst e2
    exact ⟨⟨⟨c,l,f1,f2⟩,vA hs⟩,by omega,by omega⟩
   ·exact absurd h (by simp)
theorem Xr (U:Wf L):∀(n:Nat) (vs:List bQ) (rs:List (List (St 6))) (c i:Nat) (s:List bQ) (k:List (List (St 6))) (j:Nat),kM L n vs rs c i=.ok (s,k,j)->(∀v∈vs,TD v)->(∀r∈rs,∀x∈r,Yx 6 x)->i≤L.length->
    (∀v∈s,TD v)/\(∀r∈k,∀x∈r,Yx 6 x)/\i≤j/\s.length+fU (wR (jG 6)) k≤vs.length+fU (wR (jG 6)) rs+(j-i)/\j≤L.length:=by
 intro n
 induction n with
 | zero=>
  intro vs rs c i s k j h y u Q
  rw[kM] at h
  injection h with h;injection h with e1 h;injection h with e2 e3
  subst e1;subst e2;subst e3
  exact ⟨y,u,aO4 _,by omega,Q⟩
 | succ n ih=>
  intro vs rs c i s k j h y u Q
  rw[kM] at h
  split at h
  ·rename_i hk
   split at h
   ·exact absurd h (by simp)
   ·split at h
    ·exact absurd h (by simp)
    ·rename_i v m hd
     obtain ⟨p1,p2,p3⟩:=Di U (by omega) (Lv _) hd
     obtain ⟨I,J,X,D,O⟩:=ih _ _ _ _ _ _ _ h (fun x hx=>(aR2.1 hx).elim (y x) (fun hx=>by rw[aP5.1 hx];exact p1)) u p3
     rw[aO9,aX2] at D
     exact ⟨I,J,by omega,by omega,O⟩
  ·split at h
   ·split at h
    ·exact absurd h (by simp)
    ·rename_i l c1 m hd
     obtain ⟨p1,p2,p3,p4⟩:=Pz U 6 _ _ _ _ _ hd
     obtain ⟨I,J,X,D,O⟩:=ih _ _ _ _ _ _ _ h y (fun x hx=>(aR2.1 hx).elim (u x) (fun hx=>by rw[aP5.1 hx];exact p1)) p4
     rw[mL,sQ] at D
     exact ⟨I,J,by omega,by omega,O⟩
   ·split at h
    ·rename_i ht
     have:=rH ht (by simp[jM])
     injection h with h;injection h with e1 h;injection h with e2 e3
     subst e1;subst e2;subst e3
     exact ⟨y,u,by omega,by omega,by omega⟩
    ·exact absurd h (by simp)
theorem sR {α:Type}(g:α->Nat) (l:List α) (z:α) (c:z∈l):g z≤fU g l:=by
 induction l with
 | nil=>exact absurd c (by simp)
 | cons b q ihq=>
  rw[fU]
  rcases aW5.1 c with rfl|c
  ·omega
  ·have:=ihq c;omega
theorem V4 (k:Wf L) {c:fZ}(h:dJ L=.ok c):(∀v∈c.vars,TD v)/\(∀r∈c.regions,∀x∈r,Yx 6 x)/\c.vars.length+fU (wR (jG 6)) c.regions≤601:=by
 unfold dJ at h
 split at h
 ·split at h
  ·exact absurd h (by simp)
  ·rename_i s hs
   split at h
   ·rename_i ht
    have D:=rH ht (by simp[fF])
    split at h
    ·exact absurd h (by simp)
    ·rename_i vs rs i hi
     obtain ⟨n,u,I,l,J⟩:=Xr k _ _ _ _ _ _ _ _ hi (fun v j=>absurd j (by simp)) (fun v j=>absurd j (by simp)) (by omega)
     rw[show fU (wR (jG 6)) []=0 from rfl,aX9] at l
     have y:=k.len
     split at h
     ·injection h with h
      subst h
      exact ⟨n,u,by show vs.length+fU (wR (jG 6)) rs≤601;omega⟩
     ·exact absurd h (by simp)
   ·exact absurd h (by simp)
 ·exact absurd h (by simp)
end
end Sh
end Px
end
section
open Go.RowKit Px
theorem Tryz.isAtAny (v:Value) (w:World):(Instr.typeAssert (.iface 89 v) 20 89 true).run prog w=.ok (.tuple #[v,.bool true]) w:=by kernel_rfl
theorem Gu (c k:Addr) (w:World) :
    CallsD prog 64 #[.pointer (some c),.pointer (some k)] .returning w fun e u' w'=>e=.returned (.tuple #[])/\u'=.returning/\w'=w:=by
 refine callsD_of_wpS Tryz.func64 rfl fun j cs h=>?_
 apply wpS_seq
 apply wpS_region
 simp[wpOpsS,go_sem,recoverD,h,Tryz.ntmps64,Exit.thenS]
 apply wpS_of_wp
 go_wp2
 cases j
 simp_all [bodyPostS,results,Tryz.results64]
end
section
open Go.RowKit Px
theorem V6 (h j q:Nat) (w:World) (c:List PanicEntry) (I:w.cell? ⟨h,0,none⟩=some (.string ⟨#[]⟩)) (k1:w.cell? ⟨h,1,none⟩=some (.slice none 0 0)) (k2:w.cell? ⟨h,2,none⟩=some (.slice none 0 0)) (y:∀o,w.frozen? ⟨h,o,none⟩=false) (D:w.cell? ⟨j,0,none⟩=some .nilIface) (u:w.frozen? ⟨j,0,none⟩=false) (r:h≠j) :
    CallsD prog 64 #[.pointer (some ⟨h,0,none⟩),.pointer (some ⟨j,0,none⟩)] (.panicking ({ v:=.iface 89 (.pointer (some ⟨q,0,none⟩)),recovered:=false }::c)) w fun e u' w'=>e=.returned (.tuple #[])/\u'=.panicking ({ v:=.iface 89 (.pointer (some ⟨q,0,none⟩)),recovered:=true }::c)/\w'=(((w.setCell ⟨h,0,none⟩ (.string ⟨#[]⟩)).setCell ⟨h,1,none⟩ (.slice none 0 0)).setCell ⟨h,2,none⟩ (.slice none 0 0)).setCell ⟨j,0,none⟩ (.iface 89 (.pointer (some ⟨q,0,none⟩))):=by
 refine callsD_of_wpS Tryz.func64 rfl fun n cs s=>?_
 apply wpS_seq
 apply wpS_region
 simp[wpOpsS,go_sem,recoverD,s,Tryz.ntmps64,Exit.thenS]
 have k:∀(V a b:Value),(#[a,b]++((Array.replicate 17 undef).setIfInBounds 3 V).setIfInBounds 0 V:Array Value)=#[a,b,V,undef,undef,V,undef,undef,undef,undef,undef,undef,undef,undef,undef,undef,undef,undef,undef]:=fun _ _ _=>rfl
 rw[k]
 apply wpS_of_wp
 have l:=Tryz.isAtAny (.pointer (some ⟨q,0,none⟩))
 go_wp2
 cases n
 simp_all [bodyPostS,results,Tryz.results64]
end
section
open Go.RowKit Px
theorem Cm (L:List Lx.fQ):∀(i:Nat) (t:Lx.fQ),L[i]?=some t->(cells L)[i*3]?=some (.int .i64 t.kind)/\(cells L)[i*3+1]?=some (.string ⟨t.text.toArray⟩)/\(cells L)[i*3+2]?=some (.int .i64 t.place):=by
 induction L with
 | nil=>intro i t h;simp at h
 | cons x r ih=>
  intro i t h
  have e:cells (x::r)=.int .i64 x.kind :: .string ⟨x.text.toArray⟩ :: .int .i64 x.place::cells r:=rfl
  rw[e]
  cases i with
  | zero=>simp at h;subst h;simp
  | succ i=>
   have:=ih i t (by simpa using h)
   have c:(i+1)*3=i*3+1+1+1:=by omega
   have k:(i+1)*3+1=i*3+1+1+1+1:=by omega
   have j:(i+1)*3+2=i*3+2+1+1+1:=by omega
   rw[k,j,c]
   simpa using this
theorem Ju {w:World}{B E n:Nat}{v:Value}{L:List Lx.fQ}(Q:n=L.length) (O:0<n) (h:w.ownsRow B E 3 v n (cells L)) :
    ∃g cap,v=.slice (some ⟨g,0,none⟩) n cap/\B≤g/\g<w.heap.size/\∀i t,L[i]?=some t->w.cell? ⟨g,i*3,none⟩=some (.int .i64 t.kind)/\w.cell? ⟨g,i*3+1,none⟩=some (.string ⟨t.text.toArray⟩)/\w.cell? ⟨g,i*3+2,none⟩=some (.int .i64 t.place):=by
 have l:=fun g k=>World.ownsRow.cells h (g:=g) k
 have D:=fun g k=>World.ownsRow.lt h g k
 rcases h.2 with ⟨_,rfl⟩|⟨g,cap,y,rfl,k,_⟩
 ·omega
 ·refine ⟨g,cap,rfl,k,(D g rfl).2,fun i t I=>?_⟩
  obtain ⟨a,b,c⟩:=Cm L i t I
  have J:∀j,(⟨g,0,none⟩:Addr).add j=⟨g,j,none⟩:=fun j=>by unfold Addr.add;split<;>simp_all
  have u:=l g rfl _ _ a
  have r:=l g rfl _ _ b
  have s:=l g rfl _ _ c
  rw[J] at u r s
  exact ⟨u,r,s⟩
def fin (s:ByteArray) (l:List Lx.fQ):List Lx.fQ:=l++[⟨4,[],s.size⟩]
theorem qU (s:ByteArray) (l:List Lx.fQ):(fin s l).length=l.length+1:=by simp[fin]
theorem o8 (s:ByteArray) (l:List Lx.fQ) (N:Nat) (n:N=l.length+1) (w:World) (y:s.size≤1000000) (D:lP w) (j:Lx.Ok (bs s) l) :
 Calls prog 63 #[.string s] w fun e w'=>∃g cap,e=.returned (.tuple #[.slice (some ⟨g,0,none⟩) N cap,.nilIface])/\Below w.heap.size w w'/\w.heap.size≤g/\g<w'.heap.size/\
     ∀i t,(fin s l)[i]?=some t->w'.cell? ⟨g,i*3,none⟩=some (.int .i64 t.kind)/\w'.cell? ⟨g,i*3+1,none⟩=some (.string ⟨t.text.toArray⟩)/\w'.cell? ⟨g,i*3+2,none⟩=some (.int .i64 t.place):=by
 refine (D1 s w y D).mono ?_
 rintro e w' ⟨v,err,rfl,hb,⟨J,k,rfl,c⟩|⟨e,q,g,h,_⟩⟩
 ·obtain rfl:=Lx.aO1 j k
  rw[<-n] at c
  obtain ⟨g,cap,rfl,I,r,u⟩:=Ju (L:=fin s l) (by rw[n,qU]) (by omega) c
  exact ⟨g,cap,rfl,hb,I,r,u⟩
 ·exact (Lx.aH4 j h).elim
theorem Ki (s:ByteArray) (w:World) (y:s.size≤1000000) (n:lP w) (j:∀l,¬Lx.Ok (bs s) l) :
 Calls prog 63 #[.string s] w fun e w'=>∃ev q g:Nat,e=.returned (.tuple #[.slice none 0 0,.iface 89 (.pointer (some ⟨g,0,none⟩))])/\Below w.heap.size w w'/\Lx.Bad (bs s) ev q/\w'.heap[g]?=some (.cells #[.int .i64 ev,.int .i64 q] 91 (0,0)):=by
 refine (D1 s w y n).mono ?_
 rintro e w' ⟨v,err,rfl,hb,⟨u,c,rfl,k⟩|⟨e,q,g,h,_,rfl,rfl,_,r⟩⟩
 ·exact (j u c).elim
 ·exact ⟨e,q,g,rfl,hb,h,r⟩
theorem Rc {p:UInt8->Bool}:∀(u:List UInt8) (c:UInt8),c∈u.take (Lx.wh p u)->p c=true
 | [],c,h=>by simp at h
 | x::r,c,h=>by
  unfold Lx.wh at h
  rw[List.takeWhile_cons] at h
  split at h
  ·next hx=>
   simp only[aV8,List.take_succ_cons,aW5] at h
   rcases h with rfl|h
   ·exact hx
   ·exact Rc r c h
  ·simp at h
theorem Qb {u:List UInt8}(h:(Lx.rd u).1=2):(∀c∈u.take (Lx.rd u).2,48≤c.toNat/\c.toNat≤57)/\u.take (Lx.rd u).2≠[]:=by
 cases u with
 | nil=>simp[Lx.rd] at h
 | cons c r=>
  have j:Lx.gV c=true:=by
   rw[Lx.mN] at h
   by_cases j:Lx.gV c=true
   ·exact j
   ·rw[if_neg j] at h
    by_cases hw:Lx.pH c=true
    ·rw[if_pos hw] at h;simp at h
    ·rw[if_neg hw] at h
     by_cases hm:Lx.mk (c::r)=0
     ·rw[if_pos hm] at h;simp at h
     ·rw[if_neg hm] at h;simp at h
  have e:(Lx.rd (c::r)).2=Lx.wh Lx.gV (c::r):=by rw[Lx.mN,if_pos j]
  rw[e]
  refine ⟨fun d hd=>?_,?_⟩
  ·have:=Rc _ _ hd;simpa [Lx.gV] using this
  ·simp[Lx.wh,j]
theorem Eb {l:List Lx.fQ}:∀{u:List UInt8}{p:Nat}{u1:List UInt8}{p1:Nat},Lx.qF u p l u1 p1->∀t∈l,t.kind≤3/\t.kind≠0/\(t.kind=2->(∀c∈t.text,48≤c.toNat/\c.toNat≤57)/\t.text.length≤18/\t.text≠[]):=by
 induction l with
 | nil=>intro _ _ _ _ _ t k;simp at k
 | cons x r ih=>
  intro u p u1 p1 h t k
  obtain ⟨a,b,c,d,e⟩:=h
  rcases aW5.1 k with rfl|k
  ·subst b
   refine ⟨Lx.Hr _,c,fun s=>?_⟩
   have j:=s
   refine ⟨(Qb j).1,?_,(Qb j).2⟩
   have:(Lx.rd (u.drop (Lx.sk false u))).2≤18:=Nat.le_of_not_lt fun n=>d ⟨j,n⟩
   simp only[List.length_take];omega
  ·exact ih e t k
theorem Ir (s:ByteArray) (l:List Lx.fQ) (k:Nat):(k<l.length/\Px.Jv (fin s l) k∈l)\/(k=l.length/\Px.Jv (fin s l) k=⟨4,[],s.size⟩)\/(l.length<k/\(fin s l)[k]?=none):=by
 rcases Nat.lt_trichotomy k l.length with h|h|h
 ·refine .inl ⟨h,?_⟩
  simp[Px.Jv,fin,List.getD_eq_getElem?_getD,List.getElem?_append_left h,List.getElem?_eq_getElem h]
 ·refine .inr (.inl ⟨h,?_⟩)
  subst h;simp[Px.Jv,fin,List.getD_eq_getElem?_getD]
 ·refine .inr (.inr ⟨h,?_⟩)
  simp[fin];omega
theorem Ov {L:List Lx.fQ}{k:Nat}(h:L[k]?=none):Px.Jv L k=⟨4,[],0⟩:=by
 simp[Px.Jv,List.getD_eq_getElem?_getD,h]
theorem xN {s:ByteArray}{l:List Lx.fQ}(h:Lx.Ok (bs s) l):Wf (fin s l):=by
 obtain ⟨y,u,p,r,_⟩:=h
 have n:=Eb r
 have j:Px.Jv (fin s l) ((fin s l).length-1)=⟨4,[],s.size⟩:=by
  rcases Ir s l ((fin s l).length-1) with h|h|h
  ·have:=qU s l;omega
  ·exact h.2
  ·have:=qU s l;omega
 refine ⟨by rw[qU];omega,by rw[qU];omega,by rw[kd,j],by rw[tx,j],fun k c=>?_⟩
 rcases Ir s l k with h|h|h
 ·exact (n _ h.2).2.2 c
 ·rw[kd,h.2] at c;simp at c
 ·rw[kd,Ov h.2] at c;simp at c
end
section
open Go.RowKit Px
theorem rU (w:World):∃W,W=(w.alloc (.cells ZC 47)).alloc (.cells #[.nilIface] 33)/\Below w.heap.size w W/\W.heap.size=w.heap.size+2/\W.heap[w.heap.size]?=some (.cells ZC 47 (0,0))/\W.heap[w.heap.size+1]?=some (.cells #[.nilIface] 33 (0,0)):=by
 refine ⟨_,rfl,((Below.refl _ w).alloc (aO4 _) _).alloc (by simp) _,by simp,?_,?_⟩
 ·have:=heap_alloc_new w (.cells ZC 47)
  rw[heap_alloc_old _ _ (by simp)];exact this
 ·have:=heap_alloc_new (w.alloc (.cells ZC 47)) (.cells #[.nilIface] 33)
  simpa using this
theorem Rq {W:World}{g:Nat}{v:Value}(c:W.heap[g]?=some (.cells #[v] 33 (0,0))):(loadVar 33 ⟨g,0,none⟩).run prog W=.ok v W:=by
 have h:W.cell? ⟨g,0,none⟩=some v:=by rw[cell_of_row _ _ _ _ _ _ c];rfl
 simp[go_sem,h]
theorem pO (h:Array Value) (W:World) (c e:Nat) (j:Array Value) (v:Value) (hsz:j.size=3) (k:h[2]?.getD undef=.pointer (some ⟨c,0,none⟩)) (n:h[3]?.getD undef=.pointer (some ⟨e,0,none⟩)) (l:W.heap[c]?=some (.cells j 47 (0,0))) (r:W.heap[e]?=some (.cells #[v] 33 (0,0))) :
    (results Tryz.f36 h).run prog W=.ok (.tuple #[.agg j,v]) W:=by
 simp[results,Tryz.results36,k,n,asAddr,O9 hsz l,Rq r]
theorem yW {w2:World}{c e:Nat}{a b d v s:Value}(O:w2.heap[c]?=some (.cells ZC 47 (0,0))) (u:w2.heap[e]?=some (.cells #[s] 33 (0,0))) (h:c≠e) :
    ((((w2.setCell ⟨c,0,none⟩ a).setCell ⟨c,1,none⟩ b).setCell ⟨c,2,none⟩ d).setCell ⟨e,0,none⟩ v).heap[c]?=some (.cells #[a,b,d] 47 (0,0))/\
    ((((w2.setCell ⟨c,0,none⟩ a).setCell ⟨c,1,none⟩ b).setCell ⟨c,2,none⟩ d).setCell ⟨e,0,none⟩ v).heap[e]?=some (.cells #[v] 33 (0,0))/\
    (∀k,k≠c->k≠e->((((w2.setCell ⟨c,0,none⟩ a).setCell ⟨c,1,none⟩ b).setCell ⟨c,2,none⟩ d).setCell ⟨e,0,none⟩ v).heap[k]?=w2.heap[k]?)/\
    (∀B a0,Below B a0 w2->B≤c->B≤e->Below B a0 ((((w2.setCell ⟨c,0,none⟩ a).setCell ⟨c,1,none⟩ b).setCell ⟨c,2,none⟩ d).setCell ⟨e,0,none⟩ v)):=by
 have J:=heap_setCell_same w2 c 0 _ _ a O
 have I:=heap_setCell_same _ c 1 _ _ b J
 have y:=heap_setCell_same _ c 2 _ _ d I
 have D:(((w2.setCell ⟨c,0,none⟩ a).setCell ⟨c,1,none⟩ b).setCell ⟨c,2,none⟩ d).heap[e]?=some (.cells #[s] 33 (0,0)):=by
  rw[heap_setCell_other _ _ _ _ (by simpa using h.symm),heap_setCell_other _ _ _ _ (by simpa using h.symm),heap_setCell_other _ _ _ _ (by simpa using h.symm)];exact u
 refine ⟨?_,?_,fun k l r=>?_,fun B _ hb j n=>?_⟩
 ·rw[heap_setCell_other _ _ _ _ (by simpa using h)];exact y
 ·exact heap_setCell_same _ e 0 _ _ v D
 ·rw[heap_setCell_other _ _ _ _ (by simpa using r),heap_setCell_other _ _ _ _ (by simpa using l),heap_setCell_other _ _ _ _ (by simpa using l),heap_setCell_other _ _ _ _ (by simpa using l)]
 ·exact (((hb.setCell (by simpa using j) _).setCell (by simpa using j) _).setCell (by simpa using j) _).setCell (by simpa using n) _
theorem Ah {s:ByteArray}{l:List Lx.fQ}{w j w1:World}{g cap:Nat}(hG:11≤w.heap.size) (U:rD w) (I:Lx.Ok (bs s) l) (n:Below w.heap.size w j) (Q:j.heap.size=w.heap.size+2) (u:Below j.heap.size j w1) (Z:j.heap.size≤g) (y:g<w1.heap.size)
    (X:∀i t,(fin s l)[i]?=some t->w1.cell? ⟨g,i*3,none⟩=some (.int .i64 t.kind)/\w1.cell? ⟨g,i*3+1,none⟩=some (.string ⟨t.text.toArray⟩)/\w1.cell? ⟨g,i*3+2,none⟩=some (.int .i64 t.place))
    (c1:w1.heap[w.heap.size]?=some (.cells ZC 47 (0,0))) (e:w1.heap[w.heap.size+1]?=some (.cells #[.nilIface] 33 (0,0))) :
    ∃W2,W2=(w1.setCell ⟨w.heap.size+1,0,none⟩ .nilIface).alloc (.cells #[.slice (some ⟨g,0,none⟩) (l.length+1) cap,.int .i64 0,.int .i64 0,.int .i64 0,.int .i64 0] 121)/\
     PS ⟨w1.heap.size,g,cap,fin s l⟩ W2 0 0 0 0/\Below w.heap.size w W2/\W2.heap[w.heap.size]?=some (.cells ZC 47 (0,0))/\W2.heap[w.heap.size+1]?=some (.cells #[.nilIface] 33 (0,0))/\W2.heap.size=w1.heap.size+1:=by
 have O:=u.size
 have D:=n.trans (u.mono n.size)
 have c:Below w.heap.size w (w1.setCell ⟨w.heap.size+1,0,none⟩ .nilIface):=D.setCell (by simp) _
 have h:(w1.setCell ⟨w.heap.size+1,0,none⟩ .nilIface).heap.size=w1.heap.size:=by simp
 have old:∀k,k<w1.heap.size->k≠w.heap.size+1->((w1.setCell ⟨w.heap.size+1,0,none⟩ .nilIface).alloc (.cells #[.slice (some ⟨g,0,none⟩) (l.length+1) cap,.int .i64 0,.int .i64 0,.int .i64 0,.int .i64 0] 121)).heap[k]?=w1.heap[k]?:=fun k J Y=>by
  rw[heap_alloc_old _ _ (by rw[h];exact J),heap_setCell_other _ _ _ _ (by simpa using Y)]
 have r:=xN I
 refine ⟨_,rfl,⟨?_,fun k t J=>?_,?_,r.pos,r,y,?_⟩,c.alloc c.size _,?_,?_,by simp⟩
 ·have:=heap_alloc_new (w1.setCell ⟨w.heap.size+1,0,none⟩ .nilIface) (.cells #[.slice (some ⟨g,0,none⟩) (l.length+1) cap,.int .i64 0,.int .i64 0,.int .i64 0,.int .i64 0] 121)
  rw[h] at this
  rw[rdC,qU];exact this
 ·have hb:=old g y (by omega)
  have:=X k t J
  rw[aY6 (w:=w1) (a:=⟨g,k*3,none⟩) hb,aY6 (w:=w1) (a:=⟨g,k*3+1,none⟩) hb,aY6 (w:=w1) (a:=⟨g,k*3+2,none⟩) hb]
  exact this
 ·exact U.keep (fun b hb=>(c.alloc c.size _).block b (by omega))
 ·show 11<g;omega
 ·rw[old _ (by omega) (by omega)];exact c1
 ·rw[heap_alloc_old _ _ (by rw[h];omega)];exact heap_setCell_same w1 _ 0 _ _ .nilIface e
theorem Kz (s:ByteArray) (w:World) (hs:s.size≤1000000) (hm:lP w) (j:∀l,¬Lx.Ok (bs s) l) :
 Calls prog 36 #[.string s] w fun e w'=>∃ev q g:Nat,e=.returned (.tuple #[.agg ZC,.iface 89 (.pointer (some ⟨g,0,none⟩))])/\Lx.Bad (bs s) ev q/\w'.heap[g]?=some (.cells #[.int .i64 ev,.int .i64 q] 91 (0,0))/\Below w.heap.size w w':=by
 have HN:Hid _:=j
 clear j
 have Z:∀(fn:Fn) (first cap:Array Value) (w:World),(Instr.makeFunc fn first cap).run prog w=.ok (.func fn first cap) w:=fun _ _ _ _=>rfl
 obtain ⟨U,Q,c,Y,c0,X⟩:=rU w
 have J:=hm.below (aO4 _) c
 go_enter_defers Tryz.func36,Tryz.ntmps36
 go_upto_region 1 with fail
 rw[show (w.alloc (.cells #[.string ⟨#[]⟩,.slice none 0 0,.slice none 0 0] 47)).alloc (.cells #[.nilIface] 33)=U from Q.symm]
 clear Q
 go_wp2_with (go_at_call 63;refine (Ki s _ hs J HN.out).mono ?_;rintro e w1 ⟨ev,q,g,rfl,h,u,n⟩;have c1:=(h.block _ (by omega)).trans c0;have I:=(h.block _ (by omega)).trans X;obtain ⟨-,aa⟩:True/\w1.cell? ⟨w.heap.size+1,0,none⟩=some .nilIface:=⟨trivial,by rw[cell_of_row _ _ _ _ _ _ I];rfl⟩;have ab:w1.frozen? ⟨w.heap.size+1,0,none⟩=false:=by simp[World.frozen?,I])
 have r:Below w.heap.size w (w1.setCell ⟨w.heap.size+1,0,none⟩ (.iface 89 (.pointer (some ⟨g,0,none⟩)))):=(c.trans (h.mono c.size)).setCell (by simp) _
 have c2:(w1.setCell ⟨w.heap.size+1,0,none⟩ (.iface 89 (.pointer (some ⟨g,0,none⟩)))).heap[w.heap.size]?=some (.cells ZC 47 (0,0)):=by
  rw[heap_setCell_other w1 _ _ _ (by simp)];exact c1
 have D:=heap_setCell_same w1 (w.heap.size+1) 0 _ 33 (.iface 89 (.pointer (some ⟨g,0,none⟩))) I
 have k:g≠w.heap.size+1:=by rintro rfl;rw[I] at n;simp at n
 have y:g≠w.heap.size:=by rintro rfl;rw[c1] at n;simp[ZC] at n
 have O:(w1.setCell ⟨w.heap.size+1,0,none⟩ (.iface 89 (.pointer (some ⟨g,0,none⟩)))).heap[g]?=some (.cells #[.int .i64 ev,.int .i64 q] 91 (0,0)):=by
  rw[heap_setCell_other w1 _ _ _ k];exact n
 generalize (w1.setCell ⟨w.heap.size+1,0,none⟩ (.iface 89 (.pointer (some ⟨g,0,none⟩))))=w2 at r c2 D O ⊢
 have f0:w2.cell? ⟨w.heap.size,0,none⟩=some (.string ⟨#[]⟩):=by rw[cell_of_row _ _ _ _ _ _ c2];rfl
 have f1:w2.cell? ⟨w.heap.size,1,none⟩=some (.slice none 0 0):=by rw[cell_of_row _ _ _ _ _ _ c2];rfl
 have f2:w2.cell? ⟨w.heap.size,2,none⟩=some (.slice none 0 0):=by rw[cell_of_row _ _ _ _ _ _ c2];rfl
 have fz:∀o,w2.frozen? ⟨w.heap.size,o,none⟩=false:=fun o=>by simp[World.frozen?,c2]
 have fe:w2.cell? ⟨w.heap.size+1,0,none⟩=some (.iface 89 (.pointer (some ⟨g,0,none⟩))):=by rw[cell_of_row _ _ _ _ _ _ D];rfl
 have fy:w2.frozen? ⟨w.heap.size+1,0,none⟩=false:=by simp[World.frozen?,D]
 obtain ⟨z0,z1,z2,z3⟩:=yW (a:=.string ⟨#[]⟩) (b:=.slice none 0 0) (d:=.slice none 0 0) (v:=.iface 89 (.pointer (some ⟨g,0,none⟩))) c2 D (by omega)
 go_region
 go_wp2
 exact ⟨_,pO _ _ _ _ _ _ rfl rfl rfl z0 z1,_,_,_,rfl,u,(z2 g y k).trans O,(z3 _ _ r (aO4 _) (by omega)).drew⟩
theorem Ky (s:ByteArray) (l:List Lx.fQ) (f:F) (w:World) (hs:s.size≤1000000) (hG:11≤w.heap.size) (ht:rD w) (hm:lP w) (n:Lx.Ok (bs s) l) (r:dJ (fin s l)=.error f) :
 Calls prog 36 #[.string s] w fun e w'=>∃q:Nat,e=.returned (.tuple #[.agg ZC,.iface 89 (.pointer (some ⟨q,0,none⟩))])/\w'.heap[q]?=some (.cells #[.int .i64 f.1,.int .i64 f.2] 91 (0,0))/\Below w.heap.size w w':=by
 have HN:Hid _:=n
 have HC:Hid _:=r
 clear n r
 have ab:∀(fn:Fn) (first cap:Array Value) (w:World),(Instr.makeFunc fn first cap).run prog w=.ok (.func fn first cap) w:=fun _ _ _ _=>rfl
 obtain ⟨W0,Z,k,u,c0,e0⟩:=rU w
 have y:=hm.below (aO4 _) k
 go_enter_defers Tryz.func36,Tryz.ntmps36
 go_upto_region 1 with fail
 rw[show (w.alloc (.cells #[.string ⟨#[]⟩,.slice none 0 0,.slice none 0 0] 47)).alloc (.cells #[.nilIface] 33)=W0 from Z.symm]
 clear Z
 go_wp2_with (first
  | (go_at_call 63;refine (o8 s l _ rfl _ hs y HN.out).mono ?_;rintro e w1 ⟨g,cap,rfl,c,O,I,hg⟩;have c1:=(c.block _ (by omega)).trans c0;have U:=(c.block _ (by omega)).trans e0;obtain ⟨-,ae⟩:True/\w1.cell? ⟨w.heap.size+1,0,none⟩=some .nilIface:=⟨trivial,by rw[cell_of_row _ _ _ _ _ _ U];rfl⟩;have af:w1.frozen? ⟨w.heap.size+1,0,none⟩=false:=(by simp[World.frozen?,U]);obtain ⟨W2,j,Q,D,cW,eW,ad⟩:=Ah (cap:=cap) hG ht HN.out k u c O I hg c1 U;have J:Hid _:=j;clear j)
  | (go_at_call 65;rw[show (w1.setCell ⟨w.heap.size+1,0,none⟩ .nilIface).alloc (.cells #[.slice (some ⟨g,0,none⟩) (l.length+1) cap,.int .i64 0,.int .i64 0,.int .i64 0,.int .i64 0] 121)=W2 from J.out.symm];refine (H8 Q).mono ?_;rintro e w3 h3;rw[show dJ (⟨w1.heap.size,g,cap,fin s l⟩:dV).L=_ from HC.out] at h3;obtain ⟨q,rfl,hq,aa,h⟩:aR ⟨w1.heap.size,g,cap,fin s l⟩ W2 f e w3:=h3))
 have ac:=c.size
 have c3:=(h.block _ (by omega) (by simp;omega)).trans cW
 have X:=(h.block _ (by omega) (by simp;omega)).trans eW
 have Y:Below w.heap.size w w3:=D.trans (Fr.below (h.mono (by omega) (by simp;omega)))
 obtain ⟨z0,z1,z2,z3⟩:=yW (a:=.string ⟨#[]⟩) (b:=.slice none 0 0) (d:=.slice none 0 0) (v:=.iface 89 (.pointer (some ⟨q,0,none⟩))) c3 X (by omega)
 refine leaves_cons (f:=64) (args:=#[.pointer (some ⟨w.heap.size,0,none⟩),.pointer (some ⟨w.heap.size+1,0,none⟩)]) (by simp) (by simp[go_sem]) ?_
 refine (V6 w.heap.size (w.heap.size+1) q w3 [] (by rw[cell_of_row _ _ _ _ _ _ c3];rfl) (by rw[cell_of_row _ _ _ _ _ _ c3];rfl) (by rw[cell_of_row _ _ _ _ _ _ c3];rfl) (fun o=>by simp[World.frozen?,c3]) (by rw[cell_of_row _ _ _ _ _ _ X];rfl) (by simp[World.frozen?,X]) (by omega)).mono ?_
 rintro e u' ag ⟨rfl,rfl,rfl⟩
 exact ⟨_,pO _ _ _ _ _ _ rfl rfl rfl z0 z1,q,rfl,(z2 q (by omega) (by omega)).trans hq,z3 _ _ Y (aO4 _) (by omega)⟩
theorem Ql (s:ByteArray) (l:List Lx.fQ) (c:fZ) (w:World) (hs:s.size≤1000000) (hG:11≤w.heap.size) (ht:rD w) (hm:lP w) (n:Lx.Ok (bs s) l) (r:dJ (fin s l)=.ok c) :
 Calls prog 36 #[.string s] w fun e w'=>∃v,e=.returned (.tuple #[v,.nilIface])/\gQ (Ge w.heap.size) w' c v/\Below w.heap.size w w':=by
 have HN:Hid _:=n
 have HC:Hid _:=r
 clear n r
 have af:∀(fn:Fn) (first cap:Array Value) (w:World),(Instr.makeFunc fn first cap).run prog w=.ok (.func fn first cap) w:=fun _ _ _ _=>rfl
 obtain ⟨W0,hW,u,Q,c0,e0⟩:=rU w
 have U:=hm.below (aO4 _) u
 go_enter_defers Tryz.func36,Tryz.ntmps36
 go_upto_region 1 with fail
 rw[show (w.alloc (.cells #[.string ⟨#[]⟩,.slice none 0 0,.slice none 0 0] 47)).alloc (.cells #[.nilIface] 33)=W0 from hW.symm]
 clear hW
 go_wp2_with (first
  | (go_at_call 63;refine (o8 s l _ rfl _ hs U HN.out).mono ?_;rintro e w1 ⟨g,cap,rfl,h,D,Y,hg⟩;have c1:=(h.block _ (by omega)).trans c0;have I:=(h.block _ (by omega)).trans e0;obtain ⟨-,ag⟩:True/\w1.cell? ⟨w.heap.size+1,0,none⟩=some .nilIface:=⟨trivial,by rw[cell_of_row _ _ _ _ _ _ I];rfl⟩;have ad:w1.frozen? ⟨w.heap.size+1,0,none⟩=false:=(by simp[World.frozen?,I]);obtain ⟨W2,k,Z,X,cW,eW,ab⟩:=Ah (cap:=cap) hG ht HN.out u Q h D Y hg c1 I;have y:Hid _:=k;clear k)
  | (go_at_call 65;rw[show (w1.setCell ⟨w.heap.size+1,0,none⟩ .nilIface).alloc (.cells #[.slice (some ⟨g,0,none⟩) (l.length+1) cap,.int .i64 0,.int .i64 0,.int .i64 0,.int .i64 0] 121)=W2 from y.out.symm];refine (H8 Z).mono ?_;rintro e w3 h3;rw[show dJ (⟨w1.heap.size,g,cap,fin s l⟩:dV).L=_ from HC.out] at h3;obtain ⟨v,rfl,⟨a1,n1,m1,a2,n2,m2,rfl,d1,d2⟩,j⟩:=h3;have aa:=h.size;have c3:=(j.block w.heap.size (by omega) (by simp;omega)).trans cW;have e3:=(j.block (w.heap.size+1) (by omega) (by simp;omega)).trans eW;have f0:w3.cell? ⟨w.heap.size,0,none⟩=some (.string ⟨#[]⟩):=by rw[cell_of_row _ _ _ _ _ _ c3];rfl
     have f1:w3.cell? ⟨w.heap.size,1,none⟩=some (.slice none 0 0):=by rw[cell_of_row _ _ _ _ _ _ c3];rfl
     have f2:w3.cell? ⟨w.heap.size,2,none⟩=some (.slice none 0 0):=by rw[cell_of_row _ _ _ _ _ _ c3];rfl
     have fz:∀o,w3.frozen? ⟨w.heap.size,o,none⟩=false:=fun o=>by simp[World.frozen?,c3]
     have fe:w3.cell? ⟨w.heap.size+1,0,none⟩=some .nilIface:=by rw[cell_of_row _ _ _ _ _ _ e3];rfl
     have fy:w3.frozen? ⟨w.heap.size+1,0,none⟩=false:=by simp[World.frozen?,e3]
     rw[sv]))
 have J:Below w.heap.size w w3:=X.trans (Fr.below (j.mono (by omega) (by simp;omega)))
 obtain ⟨z0,z1,z2,z3⟩:=yW (a:=.string ⟨c.name.toArray⟩) (b:=.slice a1 n1 m1) (d:=.slice a2 n2 m2) (v:=.nilIface) c3 e3 (by omega)
 refine leaves_cons (f:=64) (args:=#[.pointer (some ⟨w.heap.size,0,none⟩),.pointer (some ⟨w.heap.size+1,0,none⟩)]) (by simp) (by simp[go_sem]) ?_
 refine (Gu ⟨w.heap.size,0,none⟩ ⟨w.heap.size+1,0,none⟩ _).mono ?_
 rintro e u' ac ⟨rfl,rfl,rfl⟩
 have O:bB (Ge W2.heap.size) (Ge w.heap.size) w3 _:=fun b hb ae=>⟨by simp[Ge] at *;omega,z2 b (by simp[Ge] at hb;omega) (by simp[Ge] at hb;omega)⟩
 exact ⟨_,pO _ _ _ _ _ _ rfl rfl rfl z0 z1,_,rfl,⟨a1,n1,m1,a2,n2,m2,rfl,d1.carry O,d2.carry O (aM.carry O 6)⟩,z3 _ _ J (aO4 _) (by omega)⟩
end
end Go.Proofs.YthieaobjdpfcoaaGreatDoor
