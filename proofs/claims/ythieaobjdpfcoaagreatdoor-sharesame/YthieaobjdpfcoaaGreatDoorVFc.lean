import Derived.Test.YthieaobjdpfcoaaGreatDoorVPu
namespace Go.Proofs.YthieaobjdpfcoaaGreatDoor
section
namespace Sx
open Nx (Nt Sp eD aN3 eA cR get put made iZ qR tB Yj sD)
def bL (f:Int->Int) (s:Sp):Sp:=
 ⟨s.code,s.dst,if 1≤(aN3 s).length then f s.a else s.a,if 2≤(aN3 s).length then f s.b else s.b,if 3≤(aN3 s).length then f s.c else s.c⟩
def Lk (a b:Sp):Bool:=a.code==b.code&&a.dst==b.dst&&a.a==b.a&&a.b==b.b&&a.c==b.c
theorem nV (a b:Sp):Lk a b=true↔a=b:=by
 obtain ⟨a1,h,k,a4,l⟩:=a
 obtain ⟨c,j,b3,b4,b5⟩:=b
 simp[Lk,and_assoc]
structure Sg where
 made:Sp->Option Int
 copies:Int->List Int
 there:List Int
 things:Int
 code:List Sp
def jY (nums there:List Int) (s:Sp):Sp:=⟨s.code,0,if s.code=1 then (nums.idxOf (get nums s.a):Nat) else (bL (get there) s).a,(bL (get there) s).b,(bL (get there) s).c⟩
def dQ (nums:List Int) (g:Sg) (s:Sp):Int:=if s.code=2 then get g.there s.a else (g.made (jY nums g.there s)).getD g.things
def eX (nums:List Int) (g:Sg) (s:Sp):Sg:=
 if s.code=2 then g else if (g.made (jY nums g.there s)).isSome=true then g else ⟨fun h=>if Lk h (jY nums g.there s)=true then some g.things else g.made h,g.copies,g.there,g.things+1,g.code⟩
def kZ (c:Int->List Int) (old p:Int):Int->List Int:=fun x=>if x=old then (c old).filter (fun q=>!(q==p)) else c x
def wC (g:Sg) (p t:Int):Sg:=
 ⟨g.made,fun x=>if x=t then kZ g.copies (get g.there p) p t++[p] else kZ g.copies (get g.there p) p x,put g.there p t,g.things,g.code⟩
def kJ (g:Sg) (t:Int) (s:Sp):Sp:=if g.copies t=[] then bL (fun p=>(g.copies (get g.there p)).headD 0) s else ⟨2,s.dst,(g.copies t).headD 0,0,0⟩
def addS (nums:List Int) (g:Sg) (s:Sp):Sg:=
 if s.dst∈g.copies (dQ nums g s) then eX nums g s else
 { wC (eX nums g s) s.dst (dQ nums g s) with code:=g.code++[kJ g (dQ nums g s) s] }
def sX (P:Nat):Sg:=⟨fun _=>none,fun t=>if 0≤t/\t<P then [t] else [],(List.range P).map Int.ofNat,P,[]⟩
def sL (P:Nat) (nums:List Int) (cs:List Sp):Nat->Sg
 | 0=>sX P
 | k+1=>addS nums (sL P nums cs k) (cs.getD k eD)
def eU (n:Nt):Nt:=⟨n.places,n.first,n.ins,n.outs,n.keeps,n.nums,(sL n.places.toNat n.nums n.code n.code.length).code⟩
theorem oK (f:Int->Int) (s:Sp):aN3 (bL f s)=(aN3 s).map f:=by
 have h:(bL f s).code=s.code:=rfl
 unfold aN3
 rw[h]
 by_cases c1:s.code=2\/s.code=4\/s.code=5
 ·rw[if_pos c1,if_pos c1]
  have e:aN3 s=[s.a]:=by unfold aN3;rw[if_pos c1]
  simp[bL,e]
 ·rw[if_neg c1,if_neg c1]
  by_cases c2:6≤s.code/\s.code≤16
  ·rw[if_pos c2,if_pos c2]
   have e:aN3 s=[s.a,s.b]:=by unfold aN3;rw[if_neg c1,if_pos c2]
   simp[bL,e]
  ·rw[if_neg c2,if_neg c2]
   by_cases c3:s.code=17
   ·rw[if_pos c3,if_pos c3]
    have e:aN3 s=[s.a,s.b,s.c]:=by unfold aN3;rw[if_neg c1,if_neg c2,if_pos c3]
    simp[bL,e]
   ·rw[if_neg c3,if_neg c3];rfl
theorem E6 {f g:Int->Int}{s:Sp}(h:∀p∈aN3 s,f p=g p):bL f s=bL g s:=by
 by_cases c1:s.code=2\/s.code=4\/s.code=5
 ·have e:aN3 s=[s.a]:=by unfold aN3;rw[if_pos c1]
  rw[e] at h
  simp[bL,e,h s.a (by simp)]
 ·by_cases c2:6≤s.code/\s.code≤16
  ·have e:aN3 s=[s.a,s.b]:=by unfold aN3;rw[if_neg c1,if_pos c2]
   rw[e] at h
   simp[bL,e,h s.a (by simp),h s.b (by simp)]
  ·by_cases c3:s.code=17
   ·have e:aN3 s=[s.a,s.b,s.c]:=by unfold aN3;rw[if_neg c1,if_neg c2,if_pos c3]
    rw[e] at h
    simp[bL,e,h s.a (by simp),h s.b (by simp),h s.c (by simp)]
   ·have e:aN3 s=[]:=by unfold aN3;rw[if_neg c1,if_neg c2,if_neg c3]
    simp[bL,e]
theorem Cc (f g:Int->Int) (s:Sp):bL f (bL g s)=bL (fun p=>f (g p)) s:=by
 have e:(aN3 (bL g s)).length=(aN3 s).length:=by rw[oK];simp
 unfold bL at e ⊢
 simp only[e]
 by_cases h1:1≤(aN3 s).length
 ·by_cases h:2≤(aN3 s).length
  ·by_cases c:3≤(aN3 s).length
   ·simp[h1,h,c]
   ·simp[h1,h,c]
  ·have c:¬3≤(aN3 s).length:=by omega
   simp[h1,h,c]
 ·have h:¬2≤(aN3 s).length:=by omega
  have c:¬3≤(aN3 s).length:=by omega
  simp[h1,h,c]
theorem tC {s:Sp}(j:1≤s.code/\s.code≤17/\s.code≠3) (f:Int->Int) {nums V W:List Int}(h:∀p∈aN3 s,get W p=get V (f p)):made nums W s=made nums V (bL f s):=by
 by_cases c1:s.code=1
 ·have e:aN3 s=[]:=by unfold aN3;rw[if_neg (by omega),if_neg (by omega),if_neg (by omega)]
  simp[made,bL,e,c1]
 ·by_cases c2:s.code=2
  ·have e:aN3 s=[s.a]:=by unfold aN3;rw[if_pos (.inl c2)]
   rw[e] at h
   simp[made,bL,e,c2,h s.a (by simp)]
  ·by_cases c3:s.code=4\/s.code=5
   ·have e:aN3 s=[s.a]:=by unfold aN3;rw[if_pos (.inr c3)]
    rw[e] at h
    simp only[made,bL,e]
    rw[if_neg c1,if_neg c2,if_pos c3,if_neg c1,if_neg c2,if_pos c3]
    simp[h s.a (by simp)]
   ·by_cases c4:s.code=17
    ·have e:aN3 s=[s.a,s.b,s.c]:=by unfold aN3;rw[if_neg (by omega),if_neg (by omega),if_pos c4]
     rw[e] at h
     simp[made,bL,e,c4,h s.a (by simp),h s.b (by simp),h s.c (by simp)]
    ·have e:aN3 s=[s.a,s.b]:=by unfold aN3;rw[if_neg (by omega),if_pos (by omega)]
     rw[e] at h
     simp only[made,bL,e]
     rw[if_neg c1,if_neg c2,if_neg c3,if_neg c4,if_neg c1,if_neg c2,if_neg c3,if_neg c4]
     simp[h s.a (by simp),h s.b (by simp)]
structure Inv (P:Nat) (g:Sg):Prop where
 tl:g.there.length=P
 tr:∀p:Int,0≤p->p<P->0≤get g.there p/\get g.there p<g.things
 cp:∀t p,p∈g.copies t↔(0≤p/\p<P)/\get g.there p=t
 nd:∀t,(g.copies t).Nodup
 md:∀h t,g.made h=some t->0≤t/\t<g.things
 t0:0≤g.things
theorem qO {P:Nat}{p:Int}(c:0≤p) (h:p<P):get (sX P).there p=p:=by
 unfold Nx.get
 rw[if_pos c,iO]
 show (((List.range P).map Int.ofNat)[p.toNat]?).getD 0=p
 rw[aW6,List.getElem?_range (by omega)]
 simp
 omega
theorem aB3 (P:Nat):Inv P (sX P):=by
 refine ⟨by simp[sX],fun p k c=>?_,fun t p=>?_,fun t=>?_,fun h t e=>(by cases e),by simp[sX]⟩
 ·rw[qO k c];exact ⟨k,c⟩
 ·show p∈(if 0≤t/\t<(P:Int) then [t] else [])↔_
  split
  ·rename_i h
   rw[aP5]
   constructor
   ·rintro rfl;exact ⟨h,qO h.1 h.2⟩
   ·rintro ⟨c,j⟩;rw[qO c.1 c.2] at j;exact j
  ·rename_i h
   constructor
   ·intro e;cases e
   ·rintro ⟨c,j⟩
    rw[qO c.1 c.2] at j
    subst j
    exact absurd c h
 ·show (if 0≤t/\t<(P:Int) then [t] else []).Nodup
  split<;>simp
theorem tZ {P N:Nat}{nums:List Int}{g:Sg}{s:Sp}(h:Inv P g) (c:eA (P:Int) N s=0):0≤dQ nums g s/\dQ nums g s<(eX nums g s).things:=by
 unfold dQ eX
 have hd:=sD c
 split
 ·rename_i h2
  have:cR P s.a=true:=aX8.1 hd.2 s.a (by unfold aN3;rw[if_pos (.inl h2)];simp)
  unfold cR at this
  simp only[Bool.and_eq_true,decide_eq_true_eq] at this
  exact h.tr s.a this.1 this.2
 ·cases e:g.made (jY nums g.there s) with
  | some t=>simp only[Option.getD_some,Option.isSome_some,if_true];exact h.md _ _ e
  | none=>
   simp only[Option.getD_none,Option.isSome_none,Bool.false_eq_true,if_false]
   have:=h.t0
   exact ⟨this,by show g.things<g.things+1;omega⟩
theorem tD {P:Nat}{nums:List Int}{g:Sg}{s:Sp}(h:Inv P g):Inv P (eX nums g s):=by
 unfold eX
 split
 ·exact h
 ·split
  ·exact h
  ·refine ⟨h.tl,fun p j c=>?_,h.cp,h.nd,fun k t e=>?_,by show 0≤g.things+1;have:=h.t0;omega⟩
   ·have:=h.tr p j c
    exact ⟨this.1,by show get g.there p<g.things+1;omega⟩
   ·show 0≤t/\t<g.things+1
    have e:(if Lk k (jY nums g.there s)=true then some g.things else g.made k)=some t:=e
    split at e
    ·injection e with e
     have:=h.t0
     omega
    ·have:=h.md _ _ e
     omega
theorem iN (nums:List Int) (g:Sg) (s:Sp):(eX nums g s).there=g.there/\(eX nums g s).copies=g.copies/\(eX nums g s).code=g.code:=by
 unfold eX
 split
 ·exact ⟨rfl,rfl,rfl⟩
 ·split<;>exact ⟨rfl,rfl,rfl⟩
theorem Ph {P:Nat}{g:Sg}{p t:Int}(h:Inv P g) (k:0≤p/\p<P) (O:0≤t/\t<g.things) (I:p∉g.copies t):Inv P (wC g p t):=by
 have r:get g.there p≠t:=fun e=>I ((h.cp t p).2 ⟨k,e⟩)
 have l:∀q:Int,0≤q->q<P->get (put g.there p t) q=if p=q then t else get g.there q:=fun q n D=>by
  rw[qR]
  by_cases e:p=q
  ·rw[if_pos ⟨e,k.1,by rw[h.tl];exact k.2⟩,if_pos e]
  ·rw[if_neg (fun x=>e x.1),if_neg e]
 refine ⟨by show (put g.there p t).length=P;rw[tB];exact h.tl,fun q n D=>?_,fun x q=>?_,fun x=>?_,h.md,h.t0⟩
 ·show 0≤get (put g.there p t) q/\get (put g.there p t) q<g.things
  rw[l q n D]
  split
  ·exact O
  ·exact h.tr q n D
 ·show q∈(if x=t then kZ g.copies (get g.there p) p t++[p] else kZ g.copies (get g.there p) p x)↔(0≤q/\q<P)/\get (put g.there p t) q=x
  have key:q∈kZ g.copies (get g.there p) p x↔((0≤q/\q<P)/\get g.there q=x)/\¬q=p:=by
   unfold kZ
   split
   ·rename_i e
    rw[List.mem_filter,<-e,h.cp]
    simp
   ·rename_i e
    rw[h.cp]
    constructor
    ·intro y
     refine ⟨y,fun Q=>e ?_⟩
     rw[<-y.2,Q]
    ·exact fun y=>y.1
  by_cases e:x=t
  ·subst e
   rw[if_pos rfl,aR2,aP5,key]
   constructor
   ·rintro (⟨⟨c,j⟩,s⟩|rfl)
    ·exact ⟨c,by rw[l q c.1 c.2,if_neg (fun z=>s z.symm)];exact j⟩
    ·exact ⟨k,by rw[l q k.1 k.2,if_pos rfl]⟩
   ·rintro ⟨c,j⟩
    rw[l q c.1 c.2] at j
    by_cases e3:q=p
    ·exact .inr e3
    ·rw[if_neg (fun z=>e3 z.symm)] at j
     exact .inl ⟨⟨c,j⟩,e3⟩
  ·rw[if_neg e,key]
   constructor
   ·rintro ⟨⟨c,j⟩,s⟩
    exact ⟨c,by rw[l q c.1 c.2,if_neg (fun z=>s z.symm)];exact j⟩
   ·rintro ⟨c,j⟩
    rw[l q c.1 c.2] at j
    by_cases e3:q=p
    ·rw[if_pos e3.symm] at j
     exact absurd j.symm e
    ·rw[if_neg (fun z=>e3 z.symm)] at j
     exact ⟨⟨c,j⟩,e3⟩
 ·show (if x=t then kZ g.copies (get g.there p) p t++[p] else kZ g.copies (get g.there p) p x).Nodup
  have J:∀y,(kZ g.copies (get g.there p) p y).Nodup:=fun y=>by
   unfold kZ
   split
   ·exact (h.nd _).filter _
   ·exact h.nd y
  split
  ·rw[List.nodup_append]
   refine ⟨J t,by simp,fun a u b hb e=>?_⟩
   rw[aP5] at hb
   subst hb
   subst e
   unfold kZ at u
   rw[if_neg (fun e=>r e.symm)] at u
   exact I u
  ·exact J x
theorem Aq {P N:Nat}{nums:List Int}{g:Sg}{s:Sp}(h:Inv P g) (j:eA (P:Int) N s=0):Inv P (addS nums g s):=by
 unfold addS
 have c:=tD (nums:=nums) (s:=s) h
 split
 ·exact c
 ·rename_i hn
  have hd:=(sD j).1
  unfold cR at hd
  simp only[Bool.and_eq_true,decide_eq_true_eq] at hd
  have:=Ph c hd (tZ h j) (by rw[(iN nums g s).2.1];exact hn)
  exact ⟨this.tl,this.tr,this.cp,this.nd,this.md,this.t0⟩
def mA (g:Sg) (p:Int):Int:=(g.copies (get g.there p)).headD 0
theorem wH {l:List Int}(h:l≠[]):l.headD 0∈l:=by
 cases l with
 | nil=>exact absurd rfl h
 | cons a r=>simp
theorem Y2 {P:Nat}{g:Sg}(h:Inv P g) {p:Int}(j:0≤p/\p<P):(0≤mA g p/\mA g p<P)/\get g.there (mA g p)=get g.there p:=by
 have c:p∈g.copies (get g.there p):=(h.cp _ _).2 ⟨j,rfl⟩
 exact (h.cp _ _).1 (wH (fun e=>by rw[e] at c;cases c))
theorem Qz {P N:Nat}{g:Sg}{s:Sp}(h:Inv P g) (j:eA (P:Int) N s=0) (t:Int):eA (P:Int) N (kJ g t s)=0:=by
 have hd:=sD j
 unfold kJ
 split
 ·have u:∀p∈aN3 s,cR P (mA g p)=true:=fun p l=>by
   have:=aX8.1 hd.2 p l
   unfold cR at this ⊢
   simp only[Bool.and_eq_true,decide_eq_true_eq] at this ⊢
   exact (Y2 h this).1
  have n:(aN3 (bL (mA g) s)).all (cR P)=true:=by
   rw[oK,aX8]
   intro q D
   obtain ⟨p,l,rfl⟩:=List.mem_map.1 D
   exact u p l
  have hlen:(aN3 (bL (mA g) s)).length=(aN3 s).length:=by rw[oK];simp
  show eA (P:Int) N (bL (mA g) s)=0
  unfold eA at j ⊢
  have J:(bL (mA g) s).code=s.code:=rfl
  rw[J,hlen]
  by_cases a1:s.code<1\/17<s.code\/s.code=3
  ·rw[if_pos a1] at j;omega
  rw[if_neg a1] at j ⊢
  rw[if_neg (fun x=>x hd)] at j
  rw[if_neg (fun x=>x ⟨hd.1,n⟩)]
  by_cases a3:s.code=1/\¬(0≤s.a/\s.a<N)
  ·rw[if_pos a3] at j;omega
  rw[if_neg a3] at j
  have I:s.code=1->(bL (mA g) s).a=s.a:=fun e=>by
   have r:aN3 s=[]:=by unfold aN3;rw[if_neg (by omega),if_neg (by omega),if_neg (by omega)]
   simp[bL,r]
  rw[if_neg (fun x=>a3 ⟨x.1,by rw[<-I x.1];exact x.2⟩)]
  by_cases a4:([s.a,s.b,s.c].drop (if s.code=1 then 1 else (aN3 s).length)).any (· != 0)=true
  ·rw[if_pos a4] at j;omega
  rw[if_neg]
  intro x
  apply a4
  by_cases c1:s.code=1
  ·have r:aN3 s=[]:=by unfold aN3;rw[if_neg (by omega),if_neg (by omega),if_neg (by omega)]
   simpa [bL,r,c1] using x
  ·rw[if_neg c1] at x ⊢
   by_cases k1:1≤(aN3 s).length
   ·by_cases k2:2≤(aN3 s).length
    ·by_cases k3:3≤(aN3 s).length
     ·have:([(bL (mA g) s).a,(bL (mA g) s).b,(bL (mA g) s).c].drop (aN3 s).length)=[]:=aX1 (by simpa using k3)
      rw[this] at x
      cases x
     ·have k:(aN3 s).length=2:=by omega
      simpa [bL,k] using x
    ·have k:(aN3 s).length=1:=by omega
     simpa [bL,k] using x
   ·have k:(aN3 s).length=0:=by omega
    simpa [bL,k] using x
 ·rename_i hne
  have y:=(h.cp t _).1 (wH hne)
  have l:cR P ((g.copies t).headD 0)=true:=by
   unfold cR
   simp only[Bool.and_eq_true,decide_eq_true_eq]
   exact y.1
  unfold eA
  rw[if_neg (by simp),if_neg (fun x=>x ⟨hd.1,by unfold aN3;rw[if_pos (.inl rfl)];simpa using l⟩),if_neg (by simp),if_neg (by unfold aN3;simp)]
theorem F7 (g:Sg) (t:Int) (s:Sp):(kJ g t s).dst=s.dst:=by unfold kJ;split<;>rfl
structure Sem (P:Nat) (nums:List Int) (g:Sg) (V vals:List Int):Prop where
 vl:(vals.length:Int)=g.things
 at_:∀p:Int,0≤p->p<P->get V p=get vals (get g.there p)
 md:∀h t,g.made h=some t->made nums vals h=get vals t/\∀q∈aN3 h,0≤q/\q<g.things
 cd:∀h t,g.made h=some t->1≤h.code/\h.code≤17/\h.code≠3
theorem B5 (l m:List Int) {i:Int}(c:0≤i) (h:i<l.length):get (l++m) i=get l i:=by
 unfold Nx.get
 rw[if_pos c,if_pos c,iO,aR6 (by omega)]
 exact (iO ..).symm
theorem G1 {P:Nat}{nums:List Int}{g:Sg}{V vals:List Int}(l:Sem P nums g V vals) {s:Sp}(h:eA (P:Int) nums.length s=0):made nums V s=made nums vals (jY nums g.there s):=by
 have hd:=sD h
 by_cases c1:s.code=1
 ·have hr:0≤s.a/\s.a<nums.length:=by
   unfold eA at h
   split at h
   ·omega
   ·split at h
    ·omega
    ·split at h
     ·omega
     ·rename_i a;omega
  have j:get nums s.a∈nums:=by
   unfold Nx.get
   rw[if_pos hr.1,iO,aN4 (by omega)]
   exact aY3 _
  simp only[made,jY,c1,if_true]
  rw[Nx.Yb,iO,aN4 (List.idxOf_lt_length_of_mem j),List.getElem_idxOf]
  rfl
 ·have n:made nums V s=made nums vals (bL (get g.there) s):=tC (Yj h) _ fun p k=>by
   have:=aX8.1 hd.2 p k
   unfold cR at this
   simp only[Bool.and_eq_true,decide_eq_true_eq] at this
   exact l.at_ p this.1 this.2
  rw[n]
  have r:jY nums g.there s=⟨s.code,0,(bL (get g.there) s).a,(bL (get g.there) s).b,(bL (get g.there) s).c⟩:=by unfold jY;rw[if_neg c1]
  rw[r]
  rfl
theorem Ob {nums there:List Int}{s:Sp}(c:s.code≠1):aN3 (jY nums there s)=(aN3 s).map (get there):=by
 rw[<-oK]
 unfold jY
 rw[if_neg c]
 rfl
theorem rT {s:Sp}(h:s.code=1):aN3 s=[]:=by unfold aN3;rw[if_neg (by omega),if_neg (by omega),if_neg (by omega)]
theorem Ee {P:Nat}{nums:List Int}{g:Sg}{V vals:List Int}(h:Inv P g) (c:Sem P nums g V vals) {s:Sp}(u:eA (P:Int) nums.length s=0) :
    ∃vals',Sem P nums (eX nums g s) V vals'/\made nums V s=get vals' (dQ nums g s):=by
 have hd:=sD u
 have O:=Yj u
 unfold eX dQ
 by_cases c2:s.code=2
 ·rw[if_pos c2,if_pos c2]
  refine ⟨vals,c,?_⟩
  have:=aX8.1 hd.2 s.a (by unfold aN3;rw[if_pos (.inl c2)];simp)
  unfold cR at this
  simp only[Bool.and_eq_true,decide_eq_true_eq] at this
  rw[<-c.at_ s.a this.1 this.2]
  simp[made,c2]
 ·rw[if_neg c2,if_neg c2]
  cases e:g.made (jY nums g.there s) with
  | some t=>
   simp only[Option.isSome_some,if_true,Option.getD_some]
   exact ⟨vals,c,by rw[G1 c u];exact (c.md _ _ e).1⟩
  | none=>
   simp only[Option.isSome_none,Bool.false_eq_true,if_false,Option.getD_none]
   have n:∀q∈aN3 (jY nums g.there s),0≤q/\q<g.things:=fun q n=>by
    by_cases c1:s.code=1
    ·have:aN3 (jY nums g.there s)=[]:=rT c1
     rw[this] at n;cases n
    ·rw[Ob c1] at n
     obtain ⟨p,Q,rfl⟩:=List.mem_map.1 n
     have:=aX8.1 hd.2 p Q
     unfold cR at this
     simp only[Bool.and_eq_true,decide_eq_true_eq] at this
     exact h.tr p this.1 this.2
   have app:∀k,(1≤k.code/\k.code≤17/\k.code≠3)->(∀q∈aN3 k,0≤q/\q<g.things)->made nums (vals++[made nums V s]) k=made nums vals k:=fun k j n=>by
    have hid:bL id k=k:=by simp[bL]
    exact (tC j id fun q l=>B5 _ _ (n q l).1 (by rw[c.vl];exact (n q l).2)).trans (by rw[hid])
   have r:get (vals++[made nums V s]) g.things=made nums V s:=by
    rw[<-c.vl,Nx.Yb,iO,aW8 (aO4 _),Nat.sub_self];rfl
   refine ⟨vals++[made nums V s],⟨by show ((vals++[made nums V s]).length:Int)=g.things+1;rw[aO9];have:=c.vl;simp;omega,fun p I J=>?_,fun k t j=>?_,fun k t j=>?_⟩,r.symm⟩
   ·have:=h.tr p I J
    rw[c.at_ p I J]
    exact (B5 _ _ this.1 (by rw[c.vl];exact this.2)).symm
   ·have j:(if Lk k (jY nums g.there s)=true then some g.things else g.made k)=some t:=j
    split at j
    ·rename_i hk2
     have y:=Option.some.inj j
     obtain rfl:=(nV _ _).1 hk2
     refine ⟨?_,fun q l=>by have:=n q l;exact ⟨this.1,by show q<g.things+1;omega⟩⟩
     rw[<-y,r,app (jY nums g.there s) O n,<-G1 c u]
    ·have:=c.md _ _ j
     refine ⟨?_,fun q l=>by have:=this.2 q l;exact ⟨this.1,by show q<g.things+1;omega⟩⟩
     rw[app _ (c.cd _ _ j) this.2,this.1]
     have D:=h.md _ _ j
     exact (B5 _ _ D.1 (by rw[c.vl];exact D.2)).symm
   ·have j:(if Lk k (jY nums g.there s)=true then some g.things else g.made k)=some t:=j
    split at j
    ·rename_i hk2
     obtain rfl:=(nV _ _).1 hk2
     exact O
    ·exact c.cd _ _ j
theorem Pf {P:Nat}{nums:List Int}{g:Sg}{V vals:List Int}(h:Inv P g) (c:Sem P nums g V vals) (n:V.length=P) {p t x:Int}(j:0≤p/\p<P) (hx:x=get vals t) (cs:List Sp):Sem P nums { wC g p t with code:=cs } (put V p x) vals:=by
 refine ⟨c.vl,fun q l k=>?_,c.md,c.cd⟩
 show get (put V p x) q=get vals (get (put g.there p t) q)
 rw[qR,qR,n,h.tl]
 by_cases e:p=q
 ·rw[if_pos ⟨e,j⟩,if_pos ⟨e,j⟩,hx]
 ·rw[if_neg (fun y=>e y.1),if_neg (fun y=>e y.1)]
  exact c.at_ q l k
theorem Iz {P:Nat}{nums:List Int}{g:Sg}{V vals:List Int}(h:Inv P g) (c:Sem P nums g V vals) {s:Sp}(k:eA (P:Int) nums.length s=0) {t:Int}(n:made nums V s=get vals t):made nums V (kJ g t s)=made nums V s:=by
 have hd:=sD k
 unfold kJ
 split
 ·refine (tC (Yj k) _ fun p l=>?_).symm
  have:=aX8.1 hd.2 p l
  unfold cR at this
  simp only[Bool.and_eq_true,decide_eq_true_eq] at this
  have hr:=Y2 h this
  show get V p=get V (mA g p)
  rw[c.at_ p this.1 this.2,c.at_ _ hr.1.1 hr.1.2,hr.2]
 ·rename_i hne
  have j:=(h.cp t _).1 (wH hne)
  rw[n]
  show made nums V ⟨2,s.dst,(g.copies t).headD 0,0,0⟩=_
  unfold made
  rw[if_neg (by simp),if_pos rfl,c.at_ _ j.1.1 j.1.2,j.2]
theorem pQ {V:List Int}{p x:Int}(h:get V p=x) (c:0≤p/\p<V.length):put V p x=V:=by
 unfold put
 rw[if_pos c.1]
 unfold Nx.get at h
 rw[if_pos c.1,iO,aN4 (by omega)] at h
 apply List.ext_getElem
 ·simp
 ·intro i j k
  rw[List.getElem_set]
  split
  ·rename_i e
   subst e
   exact h.symm
  ·rfl
theorem Ae (nums:List Int) (D:List Sp) (s:Sp) (V:List Int):iZ nums (D++[s]) V (D++[s]).length=put (iZ nums D V D.length) s.dst (made nums (iZ nums D V D.length) s):=by
 have e:(D++[s]).getD D.length eD=s:=by
  rw[iO,aW8 (aO4 _),Nat.sub_self];rfl
 rw[aO9]
 show iZ nums _ V (D.length+1)=_
 rw[iZ,e,Nx.My (ds:=D) nums V _ (fun i c=>by rw[iO,aR6 c];exact (iO ..).symm)]
theorem Og (nums:List Int) (g:Sg) (s:Sp):(addS nums g s).code=if s.dst∈g.copies (dQ nums g s) then g.code else g.code++[kJ g (dQ nums g s) s]:=by
 unfold addS
 split
 ·exact (iN nums g s).2.2
 ·rfl
theorem Y3 (nums:List Int) (g:Sg) (t:Int) (s x:Sp):kJ (eX nums g x) t s=kJ g t s:=by
 unfold kJ
 rw[(iN nums g x).1,(iN nums g x).2.1]
theorem sK {P:Nat}{nums:List Int}{cs:List Sp}(hf:∀j,j<cs.length->eA (P:Int) nums.length (cs.getD j eD)=0) {V:List Int}(hV:V.length=P) :
    ∀k,k≤cs.length->Inv P (sL P nums cs k)/\(∃vals,Sem P nums (sL P nums cs k) (iZ nums cs V k) vals)/\iZ nums (sL P nums cs k).code V (sL P nums cs k).code.length=iZ nums cs V k/\(sL P nums cs k).code.length≤k/\∀j,j<(sL P nums cs k).code.length->eA (P:Int) nums.length ((sL P nums cs k).code.getD j eD)=0:=by
 intro k
 induction k with
 | zero=>
  intro _
  refine ⟨aB3 P,⟨V,⟨by show (V.length:Int)=P;rw[hV],fun p h0 c=>?_,fun h t e=>(by cases e),fun h t e=>(by cases e)⟩⟩,rfl,aO4 _,fun j X=>absurd X (by show ¬j<0;omega)⟩
  show get V p=get V (get (sX P).there p)
  rw[qO h0 c]
 | succ k ih=>
  intro hk
  obtain ⟨c,⟨vals,D⟩,O,h4,Y⟩:=ih (by omega)
  have r:=hf k (by omega)
  obtain ⟨g,Q⟩:=gQx (sL P nums cs k)
  obtain ⟨s,y⟩:=gQx (cs.getD k eD)
  obtain ⟨W,U⟩:=gQx (iZ nums cs V k)
  have l:W.length=P:=by rw[U,Nx.qW];exact hV
  show Inv P (addS nums (sL P nums cs k) (cs.getD k eD))/\(∃vals,Sem P nums (addS nums (sL P nums cs k) (cs.getD k eD)) (iZ nums cs V (k+1)) vals)/\iZ nums (addS nums (sL P nums cs k) (cs.getD k eD)).code V (addS nums (sL P nums cs k) (cs.getD k eD)).code.length=iZ nums cs V (k+1)/\(addS nums (sL P nums cs k) (cs.getD k eD)).code.length≤k+1/\∀j,j<(addS nums (sL P nums cs k) (cs.getD k eD)).code.length->eA (P:Int) nums.length ((addS nums (sL P nums cs k) (cs.getD k eD)).code.getD j eD)=0
  rw[iZ]
  rw[<-Q,<-U] at O D
  rw[<-Q] at c h4 Y
  rw[<-y] at r
  rw[<-Q,<-y,<-U]
  have hd:=(sD r).1
  unfold cR at hd
  simp only[Bool.and_eq_true,decide_eq_true_eq] at hd
  obtain ⟨n,u,I⟩:=Ee c D r
  have Z:=tD (nums:=nums) (s:=s) c
  refine ⟨Aq c r,⟨n,?_⟩,?_⟩
  ·unfold addS
   split
   ·rename_i hin
    have J:=(c.cp _ _).1 hin
    have:put W s.dst (made nums W s)=W:=pQ (by rw[D.at_ _ hd.1 hd.2,I,J.2];have:=u.at_ _ hd.1 hd.2;rw[D.at_ _ hd.1 hd.2,(iN nums g s).1,J.2] at this;exact this) ⟨hd.1,by rw[l];exact hd.2⟩
    rw[this]
    exact u
   ·exact Pf Z u l hd I _
  ·rw[Og]
   split
   ·rename_i hin
    have J:=(c.cp _ _).1 hin
    have:put W s.dst (made nums W s)=W:=pQ (by rw[I];have:=u.at_ _ hd.1 hd.2;rw[(iN nums g s).1,J.2] at this;exact this) ⟨hd.1,by rw[l];exact hd.2⟩
    rw[this]
    exact ⟨O,by omega,Y⟩
   ·refine ⟨?_,by rw[aO9,aX2];omega,fun j X=>?_⟩
    ·rw[Ae,O,F7,<-Y3 nums g _ s s,Iz Z u r I]
    ·by_cases e:j<g.code.length
     ·rw[iO,aR6 e,<-iO]
      exact Y j e
     ·obtain rfl:j=g.code.length:=by rw[aO9,aX2] at X;omega
      rw[iO,aW8 (aO4 _),Nat.sub_self]
      exact Qz c r _
open Nx (kK told)
def F6 (x y:Sp):Prop:=y.code=x.code/\y.a=x.a/\y.b=x.b/\y.c=x.c
def sB (D:List Sp) (i k:Nat):Prop:=(D.getD i eD).code≠2/\(D.getD i eD).dst∉aN3 (D.getD i eD)/\∀j,i<j->j<k->(D.getD j eD).dst≠(D.getD i eD).dst/\(D.getD j eD).dst∉aN3 (D.getD i eD)
structure Za (P:Nat) (nums:List Int) (g:Sg):Prop where
 pl:∀i,i<g.code.length->(0≤(g.code.getD i eD).dst/\(g.code.getD i eD).dst<P)/\∀p∈aN3 (g.code.getD i eD),0≤p/\p<P
 known:∀i,i<g.code.length->sB g.code i g.code.length->g.made (jY nums g.there (g.code.getD i eD))=some (get g.there (g.code.getD i eD).dst)
 once:∀i k,i<k->k<g.code.length->sB g.code i k->¬F6 (g.code.getD i eD) (g.code.getD k eD)
theorem aA7 (P:Nat) (nums:List Int):Za P nums (sX P):=⟨fun _ hi=>absurd hi (Nat.not_lt_zero _),fun _ hi=>absurd hi (Nat.not_lt_zero _),fun _ _ _ hk=>absurd hk (Nat.not_lt_zero _)⟩
theorem Fx {x y:Sp}(h:F6 x y):aN3 y=aN3 x:=by
 obtain ⟨c,k,j,l⟩:=h
 unfold aN3
 rw[c,k,j,l]
theorem Ke {nums there:List Int}{x y:Sp}(h:F6 x y):jY nums there y=jY nums there x:=by
 have e:=Fx h
 obtain ⟨c,k,j,l⟩:=h
 unfold jY bL
 simp only[e,c,k,j,l]
theorem Bs {nums a b:List Int}{s:Sp}(h:∀p∈aN3 s,get a p=get b p):jY nums a s=jY nums b s:=by
 have:=E6 (s:=s) (f:=get a) (g:=get b) h
 unfold jY
 rw[this]
theorem Ap {nums:List Int}{g:Sg}{s:Sp}{h:Sp}{t:Int}(e:g.made h=some t):(eX nums g s).made h=some t:=by
 unfold eX
 split
 ·exact e
 ·split
  ·exact e
  ·rename_i hn
   show (if Lk h (jY nums g.there s)=true then some g.things else g.made h)=some t
   split
   ·rename_i he
    obtain rfl:=(nV _ _).1 he
    rw[e] at hn
    exact absurd rfl hn
   ·exact e
theorem Y9 {nums:List Int}{g:Sg}{s:Sp}(c:s.code≠2):(eX nums g s).made (jY nums g.there s)=some (dQ nums g s):=by
 unfold eX dQ
 rw[if_neg c,if_neg c]
 cases e:g.made (jY nums g.there s) with
 | some t=>simpa using e
 | none=>
  simp only[Option.isSome_none,Bool.false_eq_true,if_false,Option.getD_none]
  rw[if_pos ((nV _ _).2 rfl)]
theorem hJ {D:List Sp}{s:Sp}{i:Nat}(h:i<D.length):(D++[s]).getD i eD=D.getD i eD:=by
 rw[iO,aR6 h];exact (iO ..).symm
theorem mM {D:List Sp}{s:Sp}:(D++[s]).getD D.length eD=s:=by
 rw[iO,aW8 (aO4 _),Nat.sub_self];rfl
theorem Ef {D:List Sp}{s:Sp}{i k:Nat}(r:i<k) (n:k≤D.length):sB (D++[s]) i k↔sB D i k:=by
 unfold sB
 rw[hJ (by omega)]
 constructor
 ·rintro ⟨h,c,l⟩
  exact ⟨h,c,fun j a b=>by have:=l j a b;rwa [hJ (by omega)] at this⟩
 ·rintro ⟨h,c,l⟩
  exact ⟨h,c,fun j a b=>by rw[hJ (by omega)];exact l j a b⟩
theorem Ar {P N:Nat}{nums:List Int}{g:Sg}{s:Sp}(h:Inv P g) (k:eA (P:Int) N s=0):jY nums g.there (bL (mA g) s)=jY nums g.there s:=by
 have hd:=sD k
 by_cases c1:s.code=1
 ·have e:aN3 s=[]:=rT c1
  have j:bL (mA g) s=s:=by simp[bL,e]
  rw[j]
 ·unfold jY
  rw[if_neg (show ¬(bL (mA g) s).code=1 from c1),if_neg c1,Cc]
  rw[E6 (s:=s) (f:=fun p=>get g.there (mA g p)) (g:=get g.there) fun p c=>by
   have:=aX8.1 hd.2 p c
   unfold cR at this
   simp only[Bool.and_eq_true,decide_eq_true_eq] at this
   exact (Y2 h this).2]
  rfl
theorem Ih {P N:Nat}{nums:List Int}{g:Sg}{s:Sp}(h:Inv P g) (Q:Za P nums g) (hs:eA (P:Int) N s=0):Za P nums (addS nums g s):=by
 have hd:=sD hs
 have O:=hd.1
 unfold cR at O
 simp only[Bool.and_eq_true,decide_eq_true_eq] at O
 obtain ⟨e1,e2,e3⟩:=iN nums g s
 unfold addS
 by_cases hin:s.dst∈g.copies (dQ nums g s)
 ·rw[if_pos hin]
  refine ⟨by rw[e3];exact Q.pl,fun i D l=>?_,by rw[e3];exact Q.once⟩
  rw[e3] at D l ⊢
  rw[e1]
  exact Ap (Q.known i D l)
 ·rw[if_neg hin]
  have u:=F7 g (dQ nums g s) s
  have hg:∀q:Int,0≤q->q<P->get (put (eX nums g s).there s.dst (dQ nums g s)) q=if s.dst=q then dQ nums g s else get g.there q:=fun q h0 h1=>by
   rw[qR,e1]
   by_cases e:s.dst=q
   ·rw[if_pos ⟨e,O.1,by rw[h.tl];exact O.2⟩,if_pos e]
   ·rw[if_neg (fun x=>e x.1),if_neg e]
  have aa:=Qz h hs (dQ nums g s)
  have X:∀p∈aN3 (kJ g (dQ nums g s) s),0≤p/\p<P:=fun p O=>by
   have:=aX8.1 (sD aa).2 p O
   unfold cR at this
   simp only[Bool.and_eq_true,decide_eq_true_eq] at this
   exact this
  -- of what is new: how it is made is how the step makes
  have U:(kJ g (dQ nums g s) s).code≠2->g.copies (dQ nums g s)=[]/\kJ g (dQ nums g s) s=bL (mA g) s:=fun hc=>by
   unfold kJ at hc ⊢
   by_cases c:g.copies (dQ nums g s)=[]
   ·rw[if_pos c];exact ⟨c,rfl⟩
   ·rw[if_neg c] at hc;exact absurd rfl hc
  refine ⟨fun i D=>?_,fun i D l=>?_,fun i k J hk l=>?_⟩
  ·show (0≤((g.code++[kJ g (dQ nums g s) s]).getD i eD).dst/\_)/\∀p∈aN3 ((g.code++[kJ g (dQ nums g s) s]).getD i eD),_
   by_cases e:i<g.code.length
   ·rw[hJ e];exact Q.pl i e
   ·obtain rfl:i=g.code.length:=by
     have D:i<(g.code++[kJ g (dQ nums g s) s]).length:=D
     rw[aO9,aX2] at D;omega
    rw[mM,u]
    exact ⟨O,X⟩
  ·have D:i<(g.code++[kJ g (dQ nums g s) s]).length:=D
   have l:sB (g.code++[kJ g (dQ nums g s) s]) i (g.code++[kJ g (dQ nums g s) s]).length:=l
   rw[aO9,aX2] at D l
   show (eX nums g s).made (jY nums (put (eX nums g s).there s.dst (dQ nums g s)) ((g.code++[kJ g (dQ nums g s) s]).getD i eD))=some (get (put (eX nums g s).there s.dst (dQ nums g s)) ((g.code++[kJ g (dQ nums g s) s]).getD i eD).dst)
   by_cases e:i<g.code.length
   ·have hl:=l.2.2 g.code.length e (by omega)
    rw[hJ e,mM,u] at hl
    have ac:sB g.code i g.code.length:=⟨by have:=l.1;rwa [hJ e] at this,by have:=l.2.1;rwa [hJ e] at this,fun j a b=>by have:=l.2.2 j a (by omega);rwa [hJ e,hJ b] at this⟩
    obtain ⟨q1,q2⟩:=Q.pl i e
    rw[hJ e,hg _ q1.1 q1.2,if_neg hl.1,Bs (b:=g.there) (fun p n=>by
     rw[hg p (q2 p n).1 (q2 p n).2,if_neg (fun x:s.dst=p=>hl.2 (by rw[x];exact n))])]
    exact Ap (Q.known i e ac)
   ·obtain rfl:i=g.code.length:=by omega
    have I:=l.1
    have r:=l.2.1
    rw[mM] at I r ⊢
    rw[u] at r ⊢
    rw[hg _ O.1 O.2,if_pos rfl,Bs (b:=g.there) (fun p n=>by
     rw[hg p (X p n).1 (X p n).2,if_neg (fun x:s.dst=p=>r (by rw[x];exact n))])]
    obtain ⟨n1,n2⟩:=U I
    rw[n2,Ar h hs]
    exact Y9 (by rw[n2] at I;exact I)
  ·have hk:k<(g.code++[kJ g (dQ nums g s) s]).length:=hk
   have l:sB (g.code++[kJ g (dQ nums g s) s]) i k:=l
   rw[aO9,aX2] at hk
   show ¬F6 ((g.code++[kJ g (dQ nums g s) s]).getD i eD) ((g.code++[kJ g (dQ nums g s) s]).getD k eD)
   have r:=(Ef J (by omega)).1 l
   rw[hJ (by omega)]
   by_cases e:k<g.code.length
   ·rw[hJ e];exact Q.once i k J e r
   ·obtain rfl:k=g.code.length:=by omega
    rw[mM]
    intro y
    have Y:(kJ g (dQ nums g s) s).code≠2:=by rw[y.1];exact r.1
    obtain ⟨n1,n2⟩:=U Y
    have Z:=Q.known i J r
    rw[<-Ke y,n2,Ar h hs] at Z
    have ab:s.code≠2:=by rw[n2] at Y;exact Y
    have ht:dQ nums g s=get g.there (g.code.getD i eD).dst:=by
     unfold dQ
     rw[if_neg ab,Z];rfl
    have:(g.code.getD i eD).dst∈g.copies (dQ nums g s):=(h.cp _ _).2 ⟨(Q.pl i J).1,ht.symm⟩
    rw[n1] at this
    cases this
theorem oO {P:Nat}{nums:List Int}{cs:List Sp}(hf:∀j,j<cs.length->eA (P:Int) nums.length (cs.getD j eD)=0):∀k,k≤cs.length->Inv P (sL P nums cs k)/\Za P nums (sL P nums cs k)
 | 0,_=>⟨aB3 P,aA7 P nums⟩
 | k+1,hk=>by
  obtain ⟨h1,h2⟩:=oO hf k (by omega)
  exact ⟨Aq h1 (hf k (by omega)),Ih h1 h2 (hf k (by omega))⟩
section
variable {N:Nt}(hr:kK N)
include hr in
theorem Ib:((N.places.toNat:Nat):Int)=N.places:=by have:=hr.p;omega
include hr in
theorem A0:∀j,j<N.code.length->eA ((N.places.toNat:Nat):Int) N.nums.length (N.code.getD j eD)=0:=fun j hj=>by rw[Ib hr];exact hr.s j hj
include hr in
theorem X3:kK (eU N):=by
 obtain ⟨-,-,-,n,h⟩:=sK (A0 hr) (V:=List.replicate N.places.toNat 0) (by simp) N.code.length (aO4 _)
 refine ⟨hr.p,hr.f,?_,hr.m,hr.l,fun k j=>?_,hr.i,hr.o,hr.k,hr.d⟩
 ·have:=hr.c
  show (sL N.places.toNat N.nums N.code N.code.length).code.length≤4000
  omega
 ·have:=h k j
  rw[Ib hr] at this
  exact this
include hr in
theorem Ec:(eU N).code.length≤N.code.length:=(sK (A0 hr) (V:=List.replicate N.places.toNat 0) (by simp) N.code.length (aO4 _)).2.2.2.1
include hr in
theorem Dv {V:List Int}(h:(V.length:Int)=N.places) (ins:List Int):Nx.ran (eU N) V ins=Nx.ran N V ins:=by
 have c:V.length=N.places.toNat:=by have:=hr.p;omega
 unfold Nx.ran
 exact (sK (A0 hr) (V:=Nx.pF N.ins ins V N.ins.length) (by rw[Nx.lL];exact c) N.code.length (aO4 _)).2.2.1
include hr in
theorem X2 (rows:List (List Int)) (k:Nat):told (eU N) (eU N).first rows k=told N N.first rows k:=
 (Nx.Z4 (n:=N) (m:=eU N) (fun V V'=>V'=V/\(V.length:Int)=N.places) ⟨rfl,hr.f⟩ (fun V V' ins hR=>by
  obtain ⟨rfl,hl⟩:=hR
  unfold Nx.tells Nx.after
  rw[Dv hr hl ins]
  exact ⟨rfl,rfl,by show ((Nx.after N V' ins).length:Int)=_;rw[Nx.vP];exact hl⟩) rows k).1
include hr in
theorem uA {i k:Nat}(hik:i<k) (hk:k<(eU N).code.length) (hq:sB (eU N).code i k):¬F6 ((eU N).code.getD i eD) ((eU N).code.getD k eD):=
 (oO (A0 hr) N.code.length (aO4 _)).2.once i k hik hk hq
end
end Sx
end
section
open Go.RowKit Px
namespace Fw
open Nx (Nt Sp)
open Ew (bM Up rS R7)
theorem Si:Maps.Keyed Tryz.prog 3:=Maps.int_keyed Tryz.underlying3
structure Fv where
 bk:Nat
 bw:Nat
 nk:Nat
 nw:Nat
 vN:Value
 vC:Value
abbrev wA (s:Sp):Value:=.agg #[.int .i64 s.code,.int .i64 s.dst,.int .i64 s.a,.int .i64 s.b,.int .i64 s.c]
theorem Rf:(Tryz.prog.info? 38).map (·.size)=some 5:=by kernel_rfl
theorem Jq {W:World}{g:Nat}{fc:Array Value}(hsz:fc.size=5) (hg:W.heap[g]?=some (.cells fc 38 (0,0))):(loadVar 38 ⟨g,0,none⟩).run Tryz.prog W=.ok (.agg fc) W:=
 run_loadVar_row (P:=Tryz.prog) W g 38 38 fc (0,0) _ hg Tryz.underlying38 rfl (by rw[hsz];exact Rf)
theorem X4 {w2:World}{c:Nat}{I b1 b2 b3 b4 a0 a1 s D a4:Value}(e:w2.heap[c]?=some (.cells #[I,b1,b2,b3,b4] 38 (0,0))) {w3:World}(J:w3=((((w2.setCell ⟨c,0,none⟩ a0).setCell ⟨c,1,none⟩ a1).setCell ⟨c,2,none⟩ s).setCell ⟨c,3,none⟩ D).setCell ⟨c,4,none⟩ a4) :
    w3.heap[c]?=some (.cells #[a0,a1,s,D,a4] 38 (0,0))/\(∀k,k≠c->w3.heap[k]?=w2.heap[k]?)/\(∀B a,Below B a w2->B≤c->Below B a w3)/\w3.heap.size=w2.heap.size:=by
 have Q:=cH (l:=[I,b1,b2,b3,b4]) e 0 a0
 have Z:=cH (l:=[a0,b1,b2,b3,b4]) Q 1 a1
 have O:=cH (l:=[a0,a1,b2,b3,b4]) Z 2 s
 have U:=cH (l:=[a0,a1,s,b3,b4]) O 3 D
 have Y:=cH (l:=[a0,a1,s,D,b4]) U 4 a4
 have y:∀(W:World) (j:Nat) (u:Value) (k:Nat),k≠c->(W.setCell ⟨c,j,none⟩ u).heap[k]?=W.heap[k]?:=fun W j u k X=>Below.heap_setCell _ _ _ _ X
 have bl:∀(B:Nat) (a W:World) (j:Nat) (u:Value),Below B a W->B≤c->Below B a (W.setCell ⟨c,j,none⟩ u):=fun B a W j u h hB=>h.setCell (p:=⟨c,j,none⟩) hB u
 have sz:∀(W:World) (j:Nat) (u:Value),(W.setCell ⟨c,j,none⟩ u).heap.size=W.heap.size:=fun W j u=>by simp[World.setCell]
 rw[J]
 refine ⟨Y,fun k r=>?_,fun B a hb n=>?_,?_⟩
 ·rw[y _ _ _ _ r,y _ _ _ _ r,y _ _ _ _ r,y _ _ _ _ r,y _ _ _ _ r]
 ·exact bl _ _ _ _ _ (bl _ _ _ _ _ (bl _ _ _ _ _ (bl _ _ _ _ _ (bl _ _ _ _ _ hb n) n) n) n) n
 ·rw[sz,sz,sz,sz,sz]
theorem Ur {W:World}{g:Nat}{T:TypeId}{f:Nat×Nat}{a0 a1 j c a4:Value}(h:W.heap[g]?=some (.cells #[a0,a1,j,c,a4] T f)):W.cell? ⟨g,0,none⟩=some a0/\W.cell? ⟨g,1,none⟩=some a1/\W.cell? ⟨g,2,none⟩=some j/\W.cell? ⟨g,3,none⟩=some c/\W.cell? ⟨g,4,none⟩=some a4:=by
 refine ⟨?_,?_,?_,?_,?_⟩<;>(rw[cell_of_row _ _ _ _ _ _ h];rfl)
end Fw
end
end Go.Proofs.YthieaobjdpfcoaaGreatDoor
