import Derived.Test.YthieaobjdpfcoaaGreatDoorUFo
import Derived.Test.YthieaobjdpfcoaaGreatDoorUYf
set_option maxRecDepth 100000
set_option maxHeartbeats 8000000
namespace Go.Proofs.YthieaobjdpfcoaaGreatDoor
section
namespace Nx
theorem Lp {P:Int}{N:Nat}{s:Sp}(j:eA P N s=0) {nums W W':List Int}(h:∀p∈asks s,get W p=get W' p):made nums W s=made nums W' s:=by
 have l:=Yj j
 unfold asks at h
 unfold made
 by_cases c1:s.code=1
 ·rw[if_pos c1,if_pos c1]
 ·rw[if_neg c1,if_neg c1]
  by_cases c2:s.code=2
  ·rw[if_pos c2,if_pos c2,h s.a (by rw[if_pos (.inl c2)];simp)]
  ·rw[if_neg c2,if_neg c2]
   by_cases c3:s.code=4\/s.code=5
   ·rw[if_pos c3,if_pos c3,h s.a (by rw[if_pos (.inr c3)];simp)]
   ·rw[if_neg c3,if_neg c3]
    by_cases c4:s.code=17
    ·have e:(if s.code=2\/s.code=4\/s.code=5 then [s.a] else if 6≤s.code/\s.code≤16 then [s.a,s.b] else if s.code=17 then [s.a,s.b,s.c] else [])=[s.a,s.b,s.c]:=by
      rw[if_neg (by omega),if_neg (by omega),if_pos c4]
     rw[e] at h
     rw[if_pos c4,if_pos c4,h s.a (by simp),h s.b (by simp),h s.c (by simp)]
    ·have e:(if s.code=2\/s.code=4\/s.code=5 then [s.a] else if 6≤s.code/\s.code≤16 then [s.a,s.b] else if s.code=17 then [s.a,s.b,s.c] else [])=[s.a,s.b]:=by
      rw[if_neg (by omega),if_pos (by omega)]
     rw[e] at h
     rw[if_neg c4,if_neg c4,h s.a (by simp),h s.b (by simp)]
def mD (wd:Nat->Bool) (cs:List Sp):Nat->List Sp
 | 0=>[]
 | k+1=>if wd k=true then mD wd cs k++[cs.getD k eD] else mD wd cs k
def zZ (nums:List Int) (wd:Nat->Bool) (cs:List Sp) (V:List Int):Nat->List Int
 | 0=>V
 | k+1=>if wd k=true then put (zZ nums wd cs V k) (cs.getD k eD).dst (made nums (zZ nums wd cs V k) (cs.getD k eD)) else zZ nums wd cs V k
theorem s8 (nums:List Int) (c:Nat->Bool) (cs:List Sp) (V:List Int) (k:Nat):(zZ nums c cs V k).length=V.length:=by
 induction k with
 | zero=>rfl
 | succ k ih=>
  rw[zZ]
  split
  ·rw[tB,ih]
  ·exact ih
theorem My (nums:List Int) {cs ds:List Sp}(V:List Int) (k:Nat) (h:∀i,i<k->cs.getD i eD=ds.getD i eD):iZ nums cs V k=iZ nums ds V k:=by
 induction k with
 | zero=>rfl
 | succ k ih=>rw[iZ,iZ,ih (fun i c=>h i (by omega)),h k (by omega)]
theorem Rr (nums:List Int) (c:Nat->Bool) (cs:List Sp) (V:List Int) (k:Nat):iZ nums (mD c cs k) V (mD c cs k).length=zZ nums c cs V k:=by
 induction k with
 | zero=>rfl
 | succ k ih=>
  rw[mD,zZ]
  split
  ·have e:(mD c cs k++[cs.getD k eD]).getD (mD c cs k).length eD=cs.getD k eD:=by
    rw[iO,aP1 (aF4 _),Nat.sub_self];rfl
   rw[aH7]
   show iZ nums _ V ((mD c cs k).length+1)=_
   rw[iZ,e,My (ds:=mD c cs k) nums V _ (fun i h=>by rw[iO,aO3 h];exact (iO ..).symm),ih]
  ·exact ih
theorem Rs {j:Nat->Bool}{cs:List Sp}{k:Nat}{s:Sp}(h:s∈mD j cs k):∃i,i<k/\j i=true/\s=cs.getD i eD:=by
 induction k with
 | zero=>cases h
 | succ k ih=>
  rw[mD] at h
  split at h
  ·rename_i hw
   rcases aJ6.1 h with h|h
   ·obtain ⟨i,l,c⟩:=ih h
    exact ⟨i,by omega,c⟩
   ·exact ⟨k,by omega,hw,aI1.1 h⟩
  ·obtain ⟨i,l,c⟩:=ih h
   exact ⟨i,by omega,c⟩
def Vj (L:Int->Prop) (V W:List Int):Prop:=∀p,L p->get V p=get W p
structure Vd (wd:Nat->Bool) (cs:List Sp) (L:Nat->Int->Prop):Prop where
 want:∀k,k<cs.length->wd k=true->(∀p,L (k+1) p->p≠(cs.getD k eD).dst->L k p)/\∀p∈asks (cs.getD k eD),L k p
 none:∀k,k<cs.length->wd k=false->¬L (k+1) (cs.getD k eD).dst/\∀p,L (k+1) p->L k p
theorem Kt {P:Int}{nums:List Int}{cs:List Sp}(hf:∀j,j<cs.length->eA P nums.length (cs.getD j eD)=0) {r:Nat->Bool}{L:Nat->Int->Prop}(y:Vd r cs L) {V s:List Int}(u:V.length=s.length) (D:Vj (L 0) V s) :
    ∀k,k≤cs.length->Vj (L k) (iZ nums cs V k) (zZ nums r cs s k):=by
 intro k
 induction k with
 | zero=>intro _;exact D
 | succ k ih=>
  intro I p c
  have h:=ih (by omega)
  rw[iZ,zZ]
  cases hw:r k with
  | true=>
   obtain ⟨n,l⟩:=y.want k (by omega) hw
   rw[if_pos rfl,qR,qR,qW,s8,u,Lp (hf k (by omega)) (fun p c=>h p (l p c))]
   split
   ·rfl
   ·rename_i hn
    by_cases e:(cs.getD k eD).dst=p
    ·have hd:=(sD (hf k (by omega))).1
     unfold cR at hd
     simp only[Bool.and_eq_true,decide_eq_true_eq] at hd
     rw[nE _ _ (by rw[qW,u];omega),nE _ _ (by rw[s8];omega)]
    ·exact h p (n p c (fun x=>e x.symm))
  | false=>
   obtain ⟨n,l⟩:=y.none k (by omega) hw
   rw[if_neg (by simp),qR,if_neg (by rintro ⟨x,_⟩;exact n (x▸c))]
   exact h p (l p c)
theorem Mb (keeps V:List Int) (p:Int):∀k,k≤keeps.length->get (oZ keeps V k) p=if p∈keeps.take k then get V p else 0:=by
 intro k
 induction k with
 | zero=>
  intro _
  rw[oZ,List.take_zero,if_neg (by simp)]
  unfold get
  split
  ·rw[iO,aO9]
   split<;>rfl
  ·rfl
 | succ k ih=>
  intro j
  have hg:keeps[k]?=some (keeps.getD k 0):=by rw[iO,aE5 (by omega)];rfl
  rw[oZ,qR,F8,ih (by omega),List.take_add_one,hg]
  by_cases e:keeps.getD k 0=p
  ·subst e
   by_cases hr:0≤keeps.getD k 0/\keeps.getD k 0<V.length
   ·rw[if_pos ⟨rfl,hr.1,hr.2⟩,if_pos (by simp)]
   ·have c:get V (keeps.getD k 0)=0:=by
     by_cases h0:0≤keeps.getD k 0
     ·exact nE _ _ (by omega)
     ·exact qS _ _ (by omega)
    rw[if_neg (fun h=>hr h.2),c]
    split<;>split<;>rfl
  ·rw[if_neg (fun h=>e h.1)]
   have:(p∈keeps.take k++(some (keeps.getD k 0)).toList)↔p∈keeps.take k:=by
    simp only[Option.toList,aJ6,aI1]
    exact ⟨fun h=>h.elim id (fun h=>absurd h.symm e),.inl⟩
   by_cases hm:p∈keeps.take k
   ·rw[if_pos hm,if_pos (this.2 hm)]
   ·rw[if_neg hm,if_neg (fun h=>hm (this.1 h))]
theorem I3 (n:Nt) (V ins:List Int) (p:Int):get (after n V ins) p=if p∈n.keeps then get (ran n V ins) p else 0:=by
 unfold after
 rw[Mb _ _ _ _ (aF4 _),aR5]
theorem Fx (l ins:List Int) {V j:List Int}(s:V.length=j.length) (p:Int) (h:p∉l->get V p=get j p):get (pF l ins V l.length) p=get (pF l ins j l.length) p:=by
 have key:∀k,k≤l.length->(get (pF l ins V k) p=get (pF l ins j k) p)\/(p∉l.take k/\get (pF l ins V k) p=get V p/\get (pF l ins j k) p=get j p):=by
  intro k
  induction k with
  | zero=>intro _;exact .inr ⟨by simp,rfl,rfl⟩
  | succ k ih=>
   intro u
   have hg:l[k]?=some (l.getD k 0):=by rw[iO,aE5 (by omega)];rfl
   rw[pF,pF,qR,qR,lL,lL,s]
   by_cases e:l.getD k 0=p/\0≤l.getD k 0/\l.getD k 0<(j.length:Int)
   ·rw[if_pos e,if_pos e];exact .inl rfl
   ·rw[if_neg e,if_neg e]
    rcases ih (by omega) with c|⟨c,n,r⟩
    ·exact .inl c
    ·by_cases e2:l.getD k 0=p
     ·refine .inl ?_
      have y:¬(0≤p/\p<(j.length:Int)):=fun h=>e ⟨e2,by rw[e2];exact h.1,by rw[e2];exact h.2⟩
      by_cases h0:0≤p
      ·rw[nE _ _ (by rw[lL,s];omega),nE _ _ (by rw[lL];omega)]
      ·rw[qS _ _ (by omega),qS _ _ (by omega)]
     ·refine .inr ⟨?_,n,r⟩
      rw[List.take_add_one,hg]
      simp only[Option.toList,aJ6,aI1]
      exact fun h=>h.elim c (fun h=>e2 h.symm)
 rcases key l.length (aF4 _) with c|⟨c,n,r⟩
 ·exact c
 ·rw[n,r]
  exact h (by rw[aR5] at c;exact c)
def rT (n:Nt) (wd:Nat->Bool) (keeps:List Int):Nt:=⟨n.places,n.first,n.ins,n.outs,keeps,n.nums,mD wd n.code n.code.length⟩
structure Iz (n:Nt) (wd:Nat->Bool) (keeps:List Int) (L:Nat->Int->Prop):Prop where
 live:Vd wd n.code L
 outs:∀p∈n.outs,L n.code.length p
 kept:∀p∈keeps,L n.code.length p
 sub:∀p∈keeps,p∈n.keeps
 back:∀p,L 0 p->p∉n.ins->p∈n.keeps->p∈keeps
def Y2 (n:Nt) (L:Nat->Int->Prop) (V V':List Int):Prop:=V.length=V'.length/\∀p,L 0 p->p∉n.ins->get V p=get V' p
theorem Eg {n:Nt}(hf:∀j,j<n.code.length->eA n.places n.nums.length (n.code.getD j eD)=0) {c:Nat->Bool}{keeps:List Int}{L:Nat->Int->Prop}(h:Iz n c keeps L) {V l:List Int}(u:Y2 n L V l) (ins:List Int) :
    tells (rT n c keeps) l ins=tells n V ins/\Y2 n L (after n V ins) (after (rT n c keeps) l ins):=by
 have D:Vj (L n.code.length) (ran n V ins) (ran (rT n c keeps) l ins):=by
  have e:ran (rT n c keeps) l ins=zZ n.nums c n.code (pF n.ins ins l n.ins.length) n.code.length:=by
   unfold ran
   exact Rr _ _ _ _ _
  rw[e]
  exact Kt hf h.live (by rw[lL,lL];exact u.1) (fun p s=>Fx n.ins ins u.1 p (fun y=>u.2 p s y)) n.code.length (aF4 _)
 refine ⟨?_,?_,fun p s y=>?_⟩
 ·unfold tells
  exact List.map_congr_left fun p s=>(D p (h.outs p s)).symm
 ·rw[vP,vP];exact u.1
 ·rw[I3,I3]
  show _=if p∈keeps then _ else _
  by_cases hk:p∈n.keeps
  ·have r:=h.back p s y hk
   rw[if_pos hk,if_pos r]
   exact D p (h.kept p r)
  ·rw[if_neg hk,if_neg (fun x=>hk (h.sub p x))]
theorem Ae (n:Nt) (L:Nat->Int->Prop):Y2 n L n.first n.first:=⟨rfl,fun _ _ _=>rfl⟩
end Nx
end
section
namespace Yw
open Nx (Nt Sp eD asks eA)
def sq (cs:List Sp) (s:PS) (k:Nat):List Bool×List Bool:=kJ (cM (List.replicate s.may.length false) s.places true,s.wd) (eU cs (cs.length-k))
theorem Gy (cs:List Sp) {k:Nat}(c:k<cs.length):eU cs (cs.length-k)=eU cs (cs.length-(k+1))++[Je cs k c]:=by
 obtain ⟨m,j⟩:∃m,m=cs.length-(k+1):=⟨_,rfl⟩
 have h:cs.length-k=m+1:=by omega
 have l:cs.length-1-m=k:=by omega
 rw[h,<-j,eU]
 simp only[l]
 rw[dif_pos c]
theorem Pg (cs:List Sp) (s:PS):sq cs s cs.length=(cM (List.replicate s.may.length false) s.places true,s.wd):=by
 unfold sq
 rw[Nat.sub_self]
 rfl
theorem J5 (cs:List Sp) (s:PS) {k:Nat}(c:k<cs.length):sq cs s k=lH (sq cs s (k+1)) k (cs.getD k eD):=by
 unfold sq
 rw[Gy cs c,D7]
 rfl
theorem aA8 (cs:List Sp) (s:PS) (k:Nat):(sq cs s k).1.length=s.may.length/\(sq cs s k).2.length=s.wd.length:=by
 have:=sX (cM (List.replicate s.may.length false) s.places true,s.wd) (eU cs (cs.length-k))
 exact ⟨this.1.trans (by simp[eX]),this.2⟩
theorem tC (cs:List Sp) (s:PS):iF cs s=⟨(sq cs s 0).2,cM s.may (dX (sq cs s 0).1 s.may s.may.length) false,s.keeps++dX (sq cs s 0).1 s.may s.may.length,dX (sq cs s 0).1 s.may s.may.length⟩:=rfl
theorem Z8 (a:List Bool×List Bool) (k:Nat) (t:Sp) (i:Nat) (h:i≠k):(lH a k t).2.getD i false=a.2.getD i false:=by
 unfold lH
 split
 ·split
  ·rfl
  ·rw[mF,if_neg (fun e=>h e.1.symm)]
 ·rfl
theorem Zg (cs:List Sp) (s:PS):∀(m k:Nat),k+m=cs.length->∀i,i<k->(sq cs s k).2.getD i false=s.wd.getD i false
 | 0,k,hk,i,hi=>by
  obtain rfl:k=cs.length:=by omega
  rw[Pg]
 | m+1,k,hk,i,hi=>by
  rw[J5 cs s (by omega:k<cs.length),Z8 _ _ _ _ (by omega)]
  exact Zg cs s m (k+1) (by omega) i (by omega)
theorem aA7 (cs:List Sp) (s:PS):∀(k i:Nat),k≤i->i<cs.length->(sq cs s 0).2.getD i false=(sq cs s k).2.getD i false\/k=0:=fun k i hk hi=>by
 rcases Nat.eq_zero_or_pos k with h|h
 ·exact .inr h
 ·left
  have key:∀m,m≤k->(sq cs s (k-m)).2.getD i false=(sq cs s k).2.getD i false:=fun m=>by
   induction m with
   | zero=>intro _;rfl
   | succ m ih=>
    intro hm
    rw[J5 cs s (by omega:k-(m+1)<cs.length),Z8 _ _ _ _ (by omega),show k-(m+1)+1=k-m by omega]
    exact ih (by omega)
  have:=key k (aF4 _)
  rw[Nat.sub_self] at this
  exact this
theorem Ph (cs:List Sp) (s:PS) {k:Nat}(c:k<cs.length):(iF cs s).wd.getD k false=(sq cs s k).2.getD k false:=by
 rcases aA7 cs s k k (aF4 _) c with h|h
 ·exact h
 ·rw[h];rfl
def Ak (cs:List Sp) (s:PS) (k:Nat) (p:Int):Prop:=(0≤p/\p<s.may.length)/\(sq cs s k).1.getD p.toNat false=true
theorem Uw {cs:List Sp}{s:PS}(l:∀p∈s.places,0≤p/\p<(s.may.length:Int)) {p:Int}:Ak cs s cs.length p↔p∈s.places:=by
 unfold Ak
 rw[Pg]
 constructor
 ·rintro ⟨n,c⟩
  rw[mA _ _ _ _ (by simp;omega)] at c
  by_cases h:∃y∈s.places,y.toNat=p.toNat
  ·obtain ⟨y,j,e⟩:=h
   have:=l y j
   obtain rfl:y=p:=by omega
   exact j
  ·rw[if_neg h] at c
   simp only[iO,aO9] at c
   split at c<;>cases c
 ·intro h
  have:=l p h
  exact ⟨this,by rw[mA _ _ _ _ (by simp;omega),if_pos ⟨p,h,rfl⟩]⟩
theorem Ys {cs:List Sp}{s:PS}{nn:Nat}{k:Nat}(I:k<cs.length) (Y:s.wd.length=cs.length) (hf:eA (s.may.length:Int) nn (cs.getD k eD)=0) :
    (∀p,Ak cs s (k+1) p->p≠(cs.getD k eD).dst->Ak cs s k p)/\
    (s.wd.getD k false=false->(iF cs s).wd.getD k false=true->(∀p∈asks (cs.getD k eD),Ak cs s k p)/\Ak cs s (k+1) (cs.getD k eD).dst)/\
    (Ak cs s (k+1) (cs.getD k eD).dst->(iF cs s).wd.getD k false=true)/\
    (∀p,Ak cs s k p->(Ak cs s (k+1) p/\(Ak cs s (k+1) (cs.getD k eD).dst->p≠(cs.getD k eD).dst))\/(p∈asks (cs.getD k eD)/\(iF cs s).wd.getD k false=true))/\
    (s.wd.getD k false=true->(iF cs s).wd.getD k false=true):=by
 have hd:=(Nx.iN _ _).1 (Nx.sD hf).1
 have D:∀p∈asks (cs.getD k eD),0≤p/\p<(s.may.length:Int):=fun p c=>(Nx.iN _ _).1 (aR6.1 (Nx.sD hf).2 p c)
 rw[Ph cs s I]
 unfold Ak
 have O:=aA8 cs s (k+1)
 have l:=Zg cs s (cs.length-(k+1)) (k+1) (by omega) k (by omega)
 rw[J5 cs s I]
 clear hf
 generalize sq cs s (k+1)=a at O l ⊢
 generalize cs.getD k eD=t at hd D ⊢
 have u:t.dst.toNat<a.1.length:=by omega
 unfold lH
 by_cases c1:a.1.getD t.dst.toNat false=true
 ·rw[if_pos c1]
  by_cases c2:a.2.getD k false=true
  ·rw[if_pos c2]
   rw[c2] at l
   refine ⟨fun p c n=>⟨c.1,?_⟩,fun h=>(by rw[<-l] at h;cases h),fun _=>c2,fun p c=>.inl ?_,fun _=>c2⟩
   ·show (a.1.set _ false).getD _ false=true
    rw[mF,if_neg (fun e=>n (by omega))]
    exact c.2
   ·have j:(a.1.set t.dst.toNat false).getD p.toNat false=true:=c.2
    rw[mF] at j
    by_cases e:t.dst.toNat=p.toNat/\t.dst.toNat<a.1.length
    ·rw[if_pos e] at j;cases j
    ·rw[if_neg e] at j
     exact ⟨⟨c.1,j⟩,fun _ r=>e ⟨by rw[r],u⟩⟩
  ·rw[if_neg c2]
   have w1:(a.2.set k true).getD k false=true:=by rw[mF,if_pos ⟨rfl,by rw[O.2,Y];exact I⟩]
   have Q:∀p:Int,0≤p/\p<(s.may.length:Int)->p.toNat<(a.1.set t.dst.toNat false).length:=fun p c=>by rw[aO5,O.1];omega
   have g:∀p:Int,0≤p/\p<(s.may.length:Int)->(cM (a.1.set t.dst.toNat false) (asks t) true).getD p.toNat false=if (∃y∈asks t,y.toNat=p.toNat) then true else if t.dst.toNat=p.toNat/\t.dst.toNat<a.1.length then false else a.1.getD p.toNat false:=fun p c=>by
    rw[mA _ _ _ _ (Q p c),mF]
   refine ⟨fun p c n=>⟨c.1,?_⟩,fun _ _=>⟨fun p c=>⟨D p c,?_⟩,hd,c1⟩,fun _=>w1,fun p c=>?_,fun _=>w1⟩
   ·show (cM _ _ true).getD _ false=true
    rw[g p c.1]
    split
    ·rfl
    ·rw[if_neg (fun e=>n (by omega))]
     exact c.2
   ·show (cM _ _ true).getD _ false=true
    rw[g p (D p c),if_pos ⟨p,c,rfl⟩]
   ·have j:(cM (a.1.set t.dst.toNat false) (asks t) true).getD p.toNat false=true:=c.2
    rw[g p c.1] at j
    by_cases e:∃y∈asks t,y.toNat=p.toNat
    ·obtain ⟨y,U,e⟩:=e
     have:=D y U
     obtain rfl:y=p:=by omega
     exact .inr ⟨U,w1⟩
    ·rw[if_neg e] at j
     by_cases r:t.dst.toNat=p.toNat/\t.dst.toNat<a.1.length
     ·rw[if_pos r] at j;cases j
     ·rw[if_neg r] at j
      exact .inl ⟨⟨c.1,j⟩,fun _ Z=>r ⟨by rw[Z],u⟩⟩
 ·rw[if_neg c1]
  refine ⟨fun p c _=>c,fun X j=>?_,fun h=>absurd h.2 c1,fun p c=>.inl ⟨c,fun h=>absurd h.2 c1⟩,fun h=>by rw[l];exact h⟩
  rw[l,X] at j
  cases j
end Yw
end
section
namespace Yw
open Nx (Nt Sp eD asks eA)
section
variable {cs:List Sp}{s0:PS}
theorem iS (j:Nat) (h:(aL cs s0 j).places≠[]):aL cs s0 (j+1)=iF cs (aL cs s0 j):=by rw[aL,if_neg h]
theorem mM (j:Nat) (h:(aL cs s0 j).places=[]):aL cs s0 (j+1)=aL cs s0 j:=by rw[aL,if_pos h]
theorem jY {P:Nat}(hP:P≤4000) (h:tZ P cs.length s0):∀j,tZ P cs.length (aL cs s0 j)
 | 0=>h
 | j+1=>by
  by_cases e:(aL cs s0 j).places=[]
  ·rw[mM j e];exact jY hP h j
  ·rw[iS j e];exact (nV hP (jY hP h j)).1
theorem Pf {P:Nat}(hP:P≤4000) (h:tZ P cs.length s0):∀j,(aL cs s0 j).keeps.length+sJ (aL cs s0 j).may=s0.keeps.length+sJ s0.may
 | 0=>rfl
 | j+1=>by
  have ih:=Pf hP h j
  by_cases e:(aL cs s0 j).places=[]
  ·rw[mM j e];exact ih
  ·rw[iS j e]
   have:=(nV hP (jY hP h j)).2
   have hk:(iF cs (aL cs s0 j)).keeps.length=(aL cs s0 j).keeps.length+(iF cs (aL cs s0 j)).places.length:=by rw[tC];exact aH7
   omega
def Lk (cs:List Sp) (s0:PS) (J k:Nat) (p:Int):Prop:=∃i,i<J/\(aL cs s0 i).places≠[]/\Ak cs (aL cs s0 i) k p
variable {P nn J:Nat}(hP:P≤4000) (hg:tZ P cs.length s0) (hf:∀k,k<cs.length->eA (P:Int) nn (cs.getD k eD)=0)
include hP hg hf in
theorem wC {k:Nat}(hk:k<cs.length) (i:Nat) :
    (∀p,Ak cs (aL cs s0 i) (k+1) p->p≠(cs.getD k eD).dst->Ak cs (aL cs s0 i) k p)/\
    ((aL cs s0 i).wd.getD k false=false->(iF cs (aL cs s0 i)).wd.getD k false=true->(∀p∈asks (cs.getD k eD),Ak cs (aL cs s0 i) k p)/\Ak cs (aL cs s0 i) (k+1) (cs.getD k eD).dst)/\
    (Ak cs (aL cs s0 i) (k+1) (cs.getD k eD).dst->(iF cs (aL cs s0 i)).wd.getD k false=true)/\
    (∀p,Ak cs (aL cs s0 i) k p->(Ak cs (aL cs s0 i) (k+1) p/\(Ak cs (aL cs s0 i) (k+1) (cs.getD k eD).dst->p≠(cs.getD k eD).dst))\/(p∈asks (cs.getD k eD)/\(iF cs (aL cs s0 i)).wd.getD k false=true))/\
    ((aL cs s0 i).wd.getD k false=true->(iF cs (aL cs s0 i)).wd.getD k false=true):=
 Ys hk (jY hP hg i).w (by rw[(jY hP hg i).m];exact hf k hk)
include hP hg hf in
theorem Og {k:Nat}(hk:k<cs.length) (i:Nat) (h:(aL cs s0 i).wd.getD k false=true):∀m,(aL cs s0 (i+m)).wd.getD k false=true
 | 0=>h
 | m+1=>by
  have ih:=Og hk i h m
  by_cases e:(aL cs s0 (i+m)).places=[]
  ·rw[show i+(m+1)=(i+m)+1 by omega,mM _ e];exact ih
  ·rw[show i+(m+1)=(i+m)+1 by omega,iS _ e];exact (wC hP hg hf hk (i+m)).2.2.2.2 ih
theorem sL {k:Nat}(hk:k<cs.length) (h0:s0.wd.getD k false=false):∀j,(aL cs s0 j).wd.getD k false=true->∃i,i<j/\(aL cs s0 i).places≠[]/\(aL cs s0 i).wd.getD k false=false/\(iF cs (aL cs s0 i)).wd.getD k false=true
 | 0,h=>by
  have h1:s0.wd.getD k false=true:=h
  rw[h0] at h1
  cases h1
 | j+1,h=>by
  by_cases e:(aL cs s0 j).places=[]
  ·rw[mM j e] at h
   obtain ⟨i,h1,h2⟩:=sL hk h0 j h
   exact ⟨i,by omega,h2⟩
  ·cases hw:(aL cs s0 j).wd.getD k false with
   | true=>
    obtain ⟨i,h1,h2⟩:=sL hk h0 j hw
    exact ⟨i,by omega,h2⟩
   | false=>
    rw[iS j e] at h
    exact ⟨j,by omega,e,hw,h⟩
theorem yY (i:Nat) {p:Int}(h:p∈(aL cs s0 i).keeps):∀m,p∈(aL cs s0 (i+m)).keeps
 | 0=>h
 | m+1=>by
  have ih:=yY i h m
  by_cases e:(aL cs s0 (i+m)).places=[]
  ·rw[show i+(m+1)=(i+m)+1 by omega,mM _ e];exact ih
  ·rw[show i+(m+1)=(i+m)+1 by omega,iS _ e];exact List.mem_append_left _ ih
theorem tI {p:Int}:∀j,p∈(aL cs s0 j).keeps->p∈s0.keeps\/∃i,i<j/\(aL cs s0 i).places≠[]/\p∈(aL cs s0 (i+1)).places
 | 0,h=>.inl h
 | j+1,h=>by
  by_cases e:(aL cs s0 j).places=[]
  ·rw[mM j e] at h
   exact (tI j h).imp id fun ⟨i,h1,h2⟩=>⟨i,by omega,h2⟩
  ·have h':=h
   rw[iS j e] at h'
   rcases aJ6.1 h' with h'|h'
   ·exact (tI j h').imp id fun ⟨i,h1,h2⟩=>⟨i,by omega,h2⟩
   ·exact .inr ⟨j,by omega,e,by rw[iS j e];exact h'⟩
theorem O0 {p:Int}(i:Nat) (h:(aL cs s0 i).places≠[]) (c:p∈(aL cs s0 (i+1)).places):p∈(aL cs s0 (i+1)).keeps:=by
 rw[iS i h] at c ⊢
 exact List.mem_append_right _ c
include hP hg in
theorem Ex {q:Nat}(hq:q<P):∀j,((aL cs s0 j).may.getD q false=true->s0.may.getD q false=true)/\(s0.may.getD q false=true->(aL cs s0 j).may.getD q false=true\/(q:Int)∈(aL cs s0 j).keeps)
 | 0=>⟨id,.inl⟩
 | j+1=>by
  obtain ⟨h1,h2⟩:=Ex hq j
  by_cases e:(aL cs s0 j).places=[]
  ·rw[mM j e];exact ⟨h1,h2⟩
  ·have hm:=(jY hP hg j).m
   rw[iS j e,tC]
   dsimp only
   rw[mA _ _ _ _ (by rw[hm];exact hq)]
   by_cases c:∃p∈dX (sq cs (aL cs s0 j) 0).1 (aL cs s0 j).may (aL cs s0 j).may.length,p.toNat=q
   ·rw[if_pos c]
    refine ⟨(fun h=>by cases h),fun _=>.inr (List.mem_append_right _ ?_)⟩
    obtain ⟨p,hp,e⟩:=c
    obtain ⟨i,_,rfl,_⟩:=(nD _ _ _ _).1 hp
    rw[aP2] at e
    subst e
    exact hp
   ·rw[if_neg c]
    exact ⟨h1,fun h=>(h2 h).imp id fun h=>List.mem_append_left _ h⟩
include hP hg in
theorem Ma {p:Int}(r:s0.keeps=[]) {j:Nat}(h:p∈(aL cs s0 j).keeps):0≤p/\p<P/\s0.may.getD p.toNat false=true:=by
 rcases tI j h with h|⟨i,_,e,l⟩
 ·rw[r] at h;cases h
 ·rw[iS i e,tC] at l
  obtain ⟨q,c,rfl,n,_⟩:=(nD _ _ _ _).1 l
  rw[(jY hP hg i).m] at c
  exact ⟨by omega,by omega,by rw[aP2];exact (Ex hP hg c i).1 n⟩
include hP hg hf in
theorem aD6 (D:s0.wd=List.replicate cs.length false):Nx.Vd (fun k=>(aL cs s0 J).wd.getD k false) cs (Lk cs s0 J):=by
 have z:∀k,s0.wd.getD k false=false:=fun k=>by
  rw[D,iO,aO9]
  split<;>rfl
 refine ⟨fun k h s=>⟨fun p ⟨i,l,c,j⟩ hne=>⟨i,l,c,(wC hP hg hf h i).1 p j hne⟩,fun p r=>?_⟩,fun k h s=>?_⟩
 ·obtain ⟨i,l,c,j,n⟩:=sL h (z k) J s
  exact ⟨i,l,c,((wC hP hg hf h i).2.1 j n).1 p r⟩
 ·have key:¬Lk cs s0 J (k+1) (cs.getD k eD).dst:=fun ⟨i,l,c,j⟩=>by
   have n:=(wC hP hg hf h i).2.2.1 j
   rw[<-iS i c] at n
   have y:=Og hP hg hf h (i+1) n (J-(i+1))
   rw[show i+1+(J-(i+1))=J by omega] at y
   have u:(aL cs s0 J).wd.getD k false=false:=s
   rw[y] at u
   cases u
  refine ⟨key,fun p r=>?_⟩
  obtain ⟨i,l,c,j⟩:=id r
  exact ⟨i,l,c,(wC hP hg hf h i).1 p j fun e=>key (e▸r)⟩
include hP hg hf in
theorem aC8 (u:s0.wd=List.replicate cs.length false) {k:Nat}(l:k<cs.length) :
    ((aL cs s0 J).wd.getD k false=true->Lk cs s0 J (k+1) (cs.getD k eD).dst/\∀p,Lk cs s0 J k p->(Lk cs s0 J (k+1) p/\p≠(cs.getD k eD).dst)\/p∈asks (cs.getD k eD))/\
    ((aL cs s0 J).wd.getD k false=false->∀p,Lk cs s0 J k p->Lk cs s0 J (k+1) p):=by
 have z:∀k,s0.wd.getD k false=false:=fun k=>by
  rw[u,iO,aO9]
  split<;>rfl
 refine ⟨fun r=>⟨?_,fun p ⟨i,j,h,n⟩=>?_⟩,fun r p ⟨i,j,h,n⟩=>?_⟩
 ·obtain ⟨i,j,h,n,c⟩:=sL l (z k) J r
  exact ⟨i,j,h,((wC hP hg hf l i).2.1 n c).2⟩
 ·rcases (wC hP hg hf l i).2.2.2.1 p n with ⟨c,s⟩|⟨c,_⟩
  ·by_cases e:p=(cs.getD k eD).dst
   ·exact absurd e (s (e▸c))
   ·exact .inl ⟨⟨i,j,h,c⟩,e⟩
  ·exact .inr c
 ·rcases (wC hP hg hf l i).2.2.2.1 p n with ⟨c,_⟩|⟨_,c⟩
  ·exact ⟨i,j,h,c⟩
  ·rw[<-iS i h] at c
   have s:=Og hP hg hf l (i+1) c (J-(i+1))
   rw[show i+1+(J-(i+1))=J by omega] at s
   rw[s] at r
   cases r
include hP hg in
theorem Ou (D:s0.keeps=[]) (y:(aL cs s0 J).places=[]) (p:Int):Lk cs s0 J cs.length p↔p∈s0.places\/p∈(aL cs s0 J).keeps:=by
 have s:∀i,∀p∈(aL cs s0 i).places,0≤p/\p<((aL cs s0 i).may.length:Int):=fun i=>by rw[(jY hP hg i).m];exact (jY hP hg i).r
 constructor
 ·rintro ⟨i,u,I,n⟩
  have j:=(Uw (s i)).1 n
  cases i with
  | zero=>exact .inl j
  | succ i=>
   right
   by_cases e:(aL cs s0 i).places=[]
   ·rw[mM i e,e] at j;cases j
   ·have:=yY (i+1) (O0 i e j) (J-(i+1))
    rw[show i+1+(J-(i+1))=J by omega] at this
    exact this
 ·have fin:∀i,i≤J->p∈(aL cs s0 i).places->Lk cs s0 J cs.length p:=fun i O l=>by
   have c:(aL cs s0 i).places≠[]:=fun e=>by rw[e] at l;cases l
   have:i≠J:=fun e=>c (e▸y)
   exact ⟨i,by omega,c,(Uw (s i)).2 l⟩
  rintro (h|h)
  ·exact fin 0 (aJ5 _) h
  ·rcases tI J h with h|⟨i,u,_,n⟩
   ·rw[D] at h;cases h
   ·exact fin (i+1) (by omega) n
include hP hg in
theorem aG5 {p:Int}(r:s0.may.getD p.toNat false=true) (h:Lk cs s0 J 0 p):p∈(aL cs s0 J).keeps:=by
 obtain ⟨i,s,j,⟨u,l⟩,n⟩:=h
 rw[(jY hP hg i).m] at l
 have c:p.toNat<P:=by omega
 have e:((p.toNat:Nat):Int)=p:=by omega
 have key:p∈(aL cs s0 (i+1)).keeps:=by
  rw[iS i j,tC]
  rcases (Ex hP hg c i).2 r with h|h
  ·refine List.mem_append_right _ ((nD _ _ _ _).2 ⟨p.toNat,by rw[(jY hP hg i).m];exact c,e.symm,h,n⟩)
  ·rw[e] at h
   exact List.mem_append_left _ h
 have:=yY (i+1) key (J-(i+1))
 rw[show i+1+(J-(i+1))=J by omega] at this
 exact this
end
end Yw
end
section
open Go.RowKit Go.Sort Px
namespace Yw
open Nx (Nt Sp eJ kK bH jA)
open Ew (Hb)
def nP:Nt:=⟨2,[0,0],[0],[0],[],[],[⟨4,1,0,0,0⟩]⟩
theorem Rb:Nx.fY nP=(0,-1):=by kernel_rfl
theorem Xj {s:PS}(h:∃j,s=aL nP.code (kT nP 2) j) (c:s.places=[]):(Ku nP s).code=[]/\(Ku nP s).outs=[0]:=by
 obtain ⟨j,rfl⟩:=h
 cases j with
 | zero=>exact absurd c (by decide)
 | succ j=>
  have e:=wH nP.code (kT nP 2) (j:=1) (by kernel_rfl) j
  rw[show 1+j=j+1 by omega] at e
  rw[e]
  exact ⟨by kernel_rfl,rfl⟩
theorem mk2 (w:World):(Instr.makeSlice 22 (.int .i64 2) (.int .i64 2)).run Tryz.prog w=.ok (.slice (some ⟨w.heap.size,0,none⟩) 2 2) (w.alloc (.cells #[.int .i64 0,.int .i64 0] 2)):=by kernel_rfl
theorem aD1 (w:World):∃V,V=((((w.alloc (.cells #[.int .i64 0,.int .i64 0] 2)).alloc (.cells #[.int .i64 0] 3)).alloc (.cells #[.int .i64 0] 3)).alloc (.cells #[.int .i64 4,.int .i64 1,.int .i64 0,.int .i64 0,.int .i64 0] 38)).alloc (.cells #[.int .i64 2,.slice (some ⟨w.heap.size,0,none⟩) 2 2,.slice (some ⟨w.heap.size+1,0,none⟩) 1 1,.slice (some ⟨w.heap.size+1+1,0,none⟩) 1 1,.slice none 0 0,.slice none 0 0,.slice (some ⟨w.heap.size+1+1+1,0,none⟩) 1 1] 26)/\
    Below w.heap.size w V/\eJ V.heap.size V nP (.slice (some ⟨w.heap.size,0,none⟩) 2 2) (.slice (some ⟨w.heap.size+1,0,none⟩) 1 1) (.slice (some ⟨w.heap.size+1+1,0,none⟩) 1 1) (.slice none 0 0) (.slice none 0 0) (.slice (some ⟨w.heap.size+1+1+1,0,none⟩) 1 1)/\
    V.heap[w.heap.size+1+1+1+1]?=some (.cells #[.int .i64 2,.slice (some ⟨w.heap.size,0,none⟩) 2 2,.slice (some ⟨w.heap.size+1,0,none⟩) 1 1,.slice (some ⟨w.heap.size+1+1,0,none⟩) 1 1,.slice none 0 0,.slice none 0 0,.slice (some ⟨w.heap.size+1+1+1,0,none⟩) 1 1] 26 (0,0)):=by
 obtain ⟨c,s⟩:∃c,c=w.alloc (.cells #[.int .i64 0,.int .i64 0] 2):=⟨_,rfl⟩
 obtain ⟨j,r⟩:∃j,j=c.alloc (.cells #[.int .i64 0] 3):=⟨_,rfl⟩
 obtain ⟨h,y⟩:∃h,h=j.alloc (.cells #[.int .i64 0] 3):=⟨_,rfl⟩
 obtain ⟨n,u⟩:∃n,n=h.alloc (.cells #[.int .i64 4,.int .i64 1,.int .i64 0,.int .i64 0,.int .i64 0] 38):=⟨_,rfl⟩
 have Q:c.heap.size=w.heap.size+1:=by rw[s];simp
 have U:j.heap.size=w.heap.size+1+1:=by rw[r];simp[Q]
 have I:h.heap.size=w.heap.size+1+1+1:=by rw[y];simp[U]
 have e:n.heap.size=w.heap.size+1+1+1+1:=by rw[u];simp[I]
 have Y:Below w.heap.size w c:=by rw[s];exact aC _ _
 have O:Below c.heap.size c j:=by rw[r];exact aC _ _
 have b3:Below j.heap.size j h:=by rw[y];exact aC _ _
 have b4:Below h.heap.size h n:=by rw[u];exact aC _ _
 have X:c.heap[w.heap.size]?=some (.cells #[.int .i64 0,.int .i64 0] 2 (0,0)):=by rw[s];exact aX _ _
 have k2:j.heap[w.heap.size+1]?=some (.cells #[.int .i64 0] 3 (0,0)):=by rw[<-Q,r];exact aX _ _
 have Z:h.heap[w.heap.size+1+1]?=some (.cells #[.int .i64 0] 3 (0,0)):=by rw[<-U,y];exact aX _ _
 have k4:n.heap[w.heap.size+1+1+1]?=some (.cells #[.int .i64 4,.int .i64 1,.int .i64 0,.int .i64 0,.int .i64 0] 38 (0,0)):=by rw[<-I,u];exact aX _ _
 rw[<-s,<-r,<-y,<-u]
 obtain ⟨V,D⟩:∃V,V=n.alloc (.cells #[.int .i64 2,.slice (some ⟨w.heap.size,0,none⟩) 2 2,.slice (some ⟨w.heap.size+1,0,none⟩) 1 1,.slice (some ⟨w.heap.size+1+1,0,none⟩) 1 1,.slice none 0 0,.slice none 0 0,.slice (some ⟨w.heap.size+1+1+1,0,none⟩) 1 1] 26):=⟨_,rfl⟩
 have b5:Below n.heap.size n V:=by rw[D];exact aC _ _
 refine ⟨V,D,aQ Y (aQ O (aQ b3 (aQ b4 b5))),⟨?_,?_,?_,Ew.Am,Ew.Am,?_⟩,by rw[<-e,D];exact aX _ _⟩
 ·exact Ew.yU (zs:=[0,0]) 2 (aD b5 (aD b4 (aD b3 (aD O X))))
 ·exact Ew.yU (zs:=[0]) 1 (aD b5 (aD b4 (aD b3 k2)))
 ·exact Ew.yU (zs:=[0]) 1 (aD b5 (aD b4 Z))
 ·exact Ew.Lq (l:=[⟨4,1,0,0,0⟩]) 1 (aD b5 k4)
section
theorem Ee (w:World):Calls Tryz.prog 13 #[] w fun e w'=>e=.returned (.bool true)/\Hid (Below w.heap.size w w'):=by
 have m2:=mk2
 obtain ⟨V,hV,aa,hN,hk⟩:=aD1 w
 have ab:=E3 (n:=nP) (P:=2) (aF4 _) hN (Nx.Ho Rb) rfl
 have j:Calls Tryz.prog 14 #[.agg #[.int .i64 2,.slice (some ⟨w.heap.size,0,none⟩) 2 2,.slice (some ⟨w.heap.size+1,0,none⟩) 1 1,.slice (some ⟨w.heap.size+1+1,0,none⟩) 1 1,.slice none 0 0,.slice none 0 0,.slice (some ⟨w.heap.size+1+1+1,0,none⟩) 1 1]] V fun e w'=>∃(f1 f2 D I O f6:Option Addr) (U Z u l r y g4 Y Q g6:Nat),e=.returned (.tuple #[.agg #[.int .i64 2,.slice f1 U Z,.slice f2 u l,.slice D 1 r,.slice I y g4,.slice O Y Q,.slice f6 0 g6],.nilIface])/\Hid (Below V.heap.size V w'):=by
  refine ab.mono fun e w' h=>?_
  obtain ⟨s,hs,hz,f1,f2,D,I,O,f6,U,Z,u,l,k3,r,y,g4,Y,Q,k6,g6,he,hb,hM⟩:=h
  have hl:=Xj hs hz
  have hc:=hM.c
  have ho:=hM.o
  rw[hl.1] at hc
  rw[hl.2] at ho
  obtain ⟨rfl,_⟩:=Ew.pJ hc
  obtain ⟨rfl,_⟩:=Ew.tL ho
  exact ⟨f1,f2,D,I,O,f6,U,Z,u,l,r,y,g4,Y,Q,g6,he,hb⟩
 have HB:Hid (Below w.heap.size w V):=aa
 obtain ⟨p0,p1,p2,p3,p4,p5,p6⟩:=Nx.lC hk
 clear hN ab aa hk
 go_enter Tryz.func13,Tryz.ntmps13
 go_upto_region 2 with fail
 rw[<-hV]
 clear hV m2
 go_upto_region 3 with (go_at_call 14;refine j.mono ?_;rintro e w1 ⟨f1,f2,D,I,O,f6,U,Z,u,l,r,y,g4,Y,Q,g6,rfl,h1⟩;clear j)
 obtain ⟨X,hX⟩:∃X,X=w1.alloc (.cells #[.int .i64 2,.slice f1 U Z,.slice f2 u l,.slice D 1 r,.slice I y g4,.slice O Y Q,.slice f6 0 g6] 26):=⟨_,rfl⟩
 obtain ⟨q,hq⟩:∃q,q=w1.heap.size:=⟨_,rfl⟩
 have bX:Below w1.heap.size w1 X:=by rw[hX];exact aC _ _
 have kX:X.heap[q]?=some (.cells #[.int .i64 2,.slice f1 U Z,.slice f2 u l,.slice D 1 r,.slice I y g4,.slice O Y Q,.slice f6 0 g6] 26 (0,0)):=by rw[hX,hq];exact aX _ _
 obtain ⟨-,-,-,q3,-,-,q6⟩:=Nx.lC kX
 rw[<-hX,<-hq]
 have HX:Hid (Below w.heap.size w X):=aQ HB.out (aQ h1.out bX)
 clear hX hq bX kX h1 p0 p1 p2 p3 p4 p5 p6
 go_wp2_with fail
 go_ret
 exact ⟨rfl,HX.out⟩
end
end Yw
end
end Go.Proofs.YthieaobjdpfcoaaGreatDoor
