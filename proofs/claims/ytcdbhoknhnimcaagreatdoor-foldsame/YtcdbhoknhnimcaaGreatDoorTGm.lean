import Derived.Test.YtcdbhoknhnimcaaGreatDoorTNt3
import Derived.Test.YtcdbhoknhnimcaaGreatDoorTCk2
import Derived.Maps.Own
import Derived.Maps.OwnOps
import Derived.Maps.OwnSet
import Derived.Maps.Views
namespace Go.Proofs.YtcdbhoknhnimcaaGreatDoor
section
namespace Nx
def lS (kn:Int->Option Int) (s:Sp):Sp:=if s.code=17 then (match kn s.a with|none=>s|some w=>⟨2,s.dst,mI w s.b s.c,0,0⟩) else s
def qS (kn:Int->Option Int) (old:List Int) (s:Sp):Option Int:=
 if (asks s).all (fun p=>(kn p).isSome)=true then some (if s.code=1 then get old s.a else if s.code=2 then (kn s.a).getD 0 else if s.code=4\/s.code=5 then vA s.code ((kn s.a).getD 0) else vZ s.code ((kn s.a).getD 0) ((kn s.b).getD 0)) else none
def Hg (kn:Int->Option Int) (p:Int) (v:Option Int):Int->Option Int:=fun q=>if q=p then v else kn q
def sQ (nums:List Int) (v:Int):List Int:=if v∈nums then nums else nums++[v]
structure Fd where
 kn:Int->Option Int
 nums:List Int
 code:List Sp
def yL (f:Fd) (old:List Int) (s:Sp):Sp:=match qS f.kn old (lS f.kn s) with
 | some v=>⟨1,s.dst,(f.nums.idxOf v:Nat),0,0⟩
 | none=>lS f.kn s
def kD (old:List Int) (f:Fd) (s:Sp):Fd:=
 ⟨Hg f.kn s.dst (qS f.kn old (lS f.kn s)),(match qS f.kn old (lS f.kn s) with|some v=>sQ f.nums v|none=>f.nums),f.code++[yL f old s]⟩
def kE (old:List Int) (cs:List Sp):Nat->Fd
 | 0=>⟨fun _=>none,[],[]⟩
 | k+1=>kD old (kE old cs k) (cs.getD k iC)
def cV (n:Nt):Nt:=⟨n.places,n.first,n.ins,n.outs,n.keeps,(kE n.nums n.code n.code.length).nums,(kE n.nums n.code n.code.length).code⟩
theorem Gd (kn:Int->Option Int) (s:Sp):(lS kn s).dst=s.dst:=by
 unfold lS
 split
 ·split<;>rfl
 ·rfl
theorem Gf (f:Fd) (old:List Int) (s:Sp):(yL f old s).dst=s.dst:=by
 unfold yL
 split
 ·rfl
 ·exact Gd _ _
theorem nM (old:List Int) (cs:List Sp) (k:Nat):(kE old cs k).code.length=k:=by
 induction k with
 | zero=>rfl
 | succ k ih=>rw[kE,kD,List.length_append,ih];rfl
theorem Dx (old:List Int) (cs:List Sp) (k i:Nat) (h:i<k):(kE old cs k).code.getD i iC=yL (kE old cs i) old (cs.getD i iC):=by
 induction k with
 | zero=>omega
 | succ k ih=>
  rw[kE,kD]
  by_cases e:i<k
  ·rw[<-ih e,List.getD_eq_getElem?_getD,List.getElem?_append_left (by rw[nM];exact e)]
   exact (List.getD_eq_getElem?_getD ..).symm
  ·obtain rfl:i=k:=by omega
   rw[List.getD_eq_getElem?_getD,List.getElem?_append_right (by rw[nM];exact Nat.le_refl _),nM,Nat.sub_self]
   rfl
theorem Sg (l:List Int) (v:Int):l <+: sQ l v:=by
 unfold sQ
 split
 ·exact List.prefix_rfl
 ·exact List.prefix_append _ _
theorem Si (l:List Int) (v:Int):(sQ l v).length≤l.length+1:=by
 unfold sQ
 split
 ·omega
 ·rw[List.length_append];exact Nat.le_refl _
theorem Gp (l:List Int) (v:Int):(sQ l v)[l.idxOf v]?=some v:=by
 unfold sQ
 split
 ·rename_i h
  rw[List.getElem?_eq_getElem (List.idxOf_lt_length_of_mem h),List.getElem_idxOf]
 ·rename_i h
  rw[List.idxOf_eq_length h,List.getElem?_append_right (Nat.le_refl _),Nat.sub_self]
  rfl
theorem Z5 (old:List Int) (cs:List Sp) (k:Nat):(kE old cs k).nums <+: (kE old cs (k+1)).nums:=by
 simp only[kE,kD]
 split
 ·exact Sg _ _
 ·exact List.prefix_rfl
theorem Wa (old:List Int) (cs:List Sp) (k m:Nat) (h:k≤m):(kE old cs k).nums <+: (kE old cs m).nums:=by
 induction m with
 | zero=>obtain rfl:k=0:=by omega
         exact List.prefix_rfl
 | succ m ih=>
  by_cases e:k=m+1
  ·subst e;exact List.prefix_rfl
  ·exact (ih (by omega)).trans (Z5 old cs m)
theorem Qr (old:List Int) (cs:List Sp) (k:Nat):(kE old cs k).nums.length≤k:=by
 induction k with
 | zero=>exact Nat.le_refl _
 | succ k ih=>
  simp only[kE,kD]
  split
  ·exact Nat.le_trans (Si _ _) (by omega)
  ·omega
theorem Uf {l m:List Int}(h:l <+: m) {i:Nat}{x:Int}(hi:l[i]?=some x):m[i]?=some x:=by
 obtain ⟨t,rfl⟩:=h
 rw[List.getElem?_append_left (List.getElem?_eq_some_iff.1 hi).1]
 exact hi
def Ww (kn:Int->Option Int) (W:List Int):Prop:=∀p v,kn p=some v->get W p=v
theorem Yw {kn:Int->Option Int}{W:List Int}(h:Ww kn W) (nums:List Int) (s:Sp):made nums W (lS kn s)=made nums W s:=by
 unfold lS
 split
 ·rename_i h17
  split
  ·rfl
  ·rename_i w hw
   have:=h _ _ hw
   unfold made
   rw[if_neg (by simp),if_pos rfl,if_neg (by rw[h17];simp),if_neg (by rw[h17];simp),if_neg (by rw[h17];simp),if_pos h17,this]
   unfold mI
   split<;>rfl
 ·rfl
theorem Gi {P:Int}{N:Nat}{s:Sp}(h:dI P N s=0):1≤s.code/\s.code≤17/\s.code≠3:=by
 unfold dI at h
 split at h
 ·omega
 ·omega
theorem Z6 {P:Int}{N:Nat}{s:Sp}(kn:Int->Option Int) (h:dI P N s=0):1≤(lS kn s).code/\(lS kn s).code≤17/\(lS kn s).code≠3:=by
 have:=Gi h
 unfold lS
 split
 ·split
  ·exact this
  ·exact ⟨by simp,by simp,by simp⟩
 ·exact this
theorem Qu {kn:Int->Option Int}{s:Sp}(h:(lS kn s).code=17):kn (lS kn s).a=none:=by
 unfold lS at h ⊢
 split at h
 ·rename_i h17
  split at h
  ·rename_i hn;rw[if_pos h17,hn]
  ·simp at h
 ·exact absurd h ‹_›
theorem Yv {kn:Int->Option Int}{W:List Int}(h:Ww kn W) {old:List Int}{s:Sp}(hc:1≤s.code/\s.code≤17/\s.code≠3) (h17:s.code=17->kn s.a=none) {v:Int}(hn:qS kn old s=some v):made old W s=v:=by
 unfold qS at hn
 split at hn
 ·rename_i hall
  injection hn with hn
  have key:∀p∈asks s,(kn p).getD 0=get W p:=fun p hp=>by
   have h1:=List.all_eq_true.1 hall p hp
   obtain ⟨x,hx⟩:=Option.isSome_iff_exists.1 h1
   rw[hx,h p x hx]
   rfl
  rw[<-hn]
  unfold made
  unfold asks at key
  by_cases c1:s.code=1
  ·rw[if_pos c1,if_pos c1]
  ·rw[if_neg c1,if_neg c1]
   by_cases c2:s.code=2
   ·rw[if_pos c2,if_pos c2,key s.a (by rw[if_pos (.inl c2)];simp)]
   ·rw[if_neg c2,if_neg c2]
    by_cases c3:s.code=4\/s.code=5
    ·rw[if_pos c3,if_pos c3,key s.a (by rw[if_pos (.inr c3)];simp)]
    ·rw[if_neg c3,if_neg c3]
     by_cases c4:s.code=17
     ·exfalso
      have h2:=h17 c4
      have h1:=List.all_eq_true.1 hall s.a (by unfold asks;rw[if_neg (by omega),if_neg (by omega),if_pos c4];simp)
      rw[h2] at h1
      exact absurd h1 (by simp)
     ·have e:(if s.code=2\/s.code=4\/s.code=5 then [s.a] else if 6≤s.code/\s.code≤16 then [s.a,s.b] else if s.code=17 then [s.a,s.b,s.c] else [])=[s.a,s.b]:=by
       rw[if_neg (by omega),if_pos (by omega)]
      rw[e] at key
      rw[if_neg c4,key s.a (by simp),key s.b (by simp)]
 ·exact absurd hn (by simp)
theorem G7 {kn:Int->Option Int}{old:List Int}{s:Sp}(h:qS kn old s=none):s.code≠1:=fun e=>by
 unfold qS at h
 rw[if_pos (by unfold asks;rw[e,if_neg (by omega),if_neg (by omega),if_neg (by omega)];rfl)] at h
 exact absurd h (by simp)
theorem Jd {a b W:List Int}{s:Sp}(h:s.code≠1):made a W s=made b W s:=by
 unfold made
 rw[if_neg h,if_neg h]
theorem tY {P:Int}{N:Nat}{s:Sp}(h:dI P N s=0):cH P s.dst=true/\(asks s).all (cH P)=true:=by
 unfold dI at h
 split at h
 ·omega
 ·split at h
  ·omega
  ·rename_i h2;exact Decidable.of_not_not h2
theorem Qg {P:Int}{old:List Int}{cs:List Sp}(hf:∀j,j<cs.length->dI P old.length (cs.getD j iC)=0) {V:List Int}(hV:(V.length:Int)=P) {nums:List Int}{code:List Sp} :
    ∀k,k≤cs.length->(kE old cs k).nums <+: nums->(∀i,i<k->code.getD i iC=yL (kE old cs i) old (cs.getD i iC))->iH nums code V k=iH old cs V k/\Ww (kE old cs k).kn (iH old cs V k):=by
 intro k
 induction k with
 | zero=>intro _ _ _;exact ⟨rfl,fun p v h=>by cases h⟩
 | succ k ih=>
  intro hk hp hc
  obtain ⟨h1,h2⟩:=ih (by omega) ((Z5 old cs k).trans hp) (fun i hi=>hc i (by omega))
  have hs:=hf k (by omega)
  obtain ⟨s,hse⟩:∃s,s=cs.getD k iC:=⟨_,rfl⟩
  obtain ⟨f,hfe⟩:∃f,f=kE old cs k:=⟨_,rfl⟩
  obtain ⟨W,hW⟩:∃W,W=iH old cs V k:=⟨_,rfl⟩
  rw[<-hse] at hs
  have hlen:(W.length:Int)=P:=by rw[hW,uB];exact hV
  have hm:made nums W (yL f old s)=made old W s/\(∀v,qS f.kn old (lS f.kn s)=some v->made old W s=v):=by
   have hkn:Ww f.kn W:=by rw[hfe,hW];exact h2
   rw[<-Yw hkn old s]
   have hv:∀v,qS f.kn old (lS f.kn s)=some v->made old W (lS f.kn s)=v:=fun v hv=>Yv hkn (Z6 f.kn hs) Qu hv
   refine ⟨?_,hv⟩
   unfold yL
   split
   ·rename_i v hn
    rw[hv v hn]
    unfold made
    rw[if_pos rfl,Ga,List.getD_eq_getElem?_getD]
    have hp':(kE old cs (k+1)).nums <+: nums:=hp
    rw[kE,kD,<-hfe,<-hse] at hp'
    simp only[hn] at hp'
    rw[Uf hp' (Gp f.nums v)]
    rfl
   ·rename_i hn
    exact Jd (G7 hn)
  have e1:iH nums code V (k+1)=iH old cs V (k+1):=by
   rw[iH,iH,h1,hc k (by omega),<-hse,<-hfe,<-hW,Gf,hm.1]
  refine ⟨e1,fun p v hpv=>?_⟩
  rw[iH,<-hW,<-hse,Vu]
  rw[kE,kD,<-hfe,<-hse] at hpv
  have hpv':Hg f.kn s.dst (qS f.kn old (lS f.kn s)) p=some v:=hpv
  unfold Hg at hpv'
  split at hpv'
  ·rename_i e
   have hd:=(tY hs).1
   unfold cH at hd
   simp only[Bool.and_eq_true,decide_eq_true_eq] at hd
   rw[if_pos ⟨e.symm,hd.1,by rw[hlen];exact hd.2⟩]
   exact hm.2 v hpv'
  ·rename_i e
   rw[if_neg (fun h=>e h.1.symm)]
   have:=h2 p v (by rw[<-hfe];exact hpv')
   rw[<-hW] at this
   exact this
theorem Qh {n:Nt}(hf:∀j,j<n.code.length->dI n.places n.nums.length (n.code.getD j iC)=0) {V:List Int}(hV:(V.length:Int)=n.places) (ins:List Int):ran (cV n) V ins=ran n V ins:=by
 unfold ran
 show iH (kE n.nums n.code n.code.length).nums (kE n.nums n.code n.code.length).code (yS n.ins ins V n.ins.length) (kE n.nums n.code n.code.length).code.length=_
 rw[nM]
 exact (Qg hf (by rw[xQ];exact hV) n.code.length (Nat.le_refl _) List.prefix_rfl (fun i hi=>Dx _ _ _ i hi)).1
theorem Du {n:Nt}(hf:∀j,j<n.code.length->dI n.places n.nums.length (n.code.getD j iC)=0) {V:List Int}(hV:(V.length:Int)=n.places) (ins:List Int):tells (cV n) V ins=tells n V ins/\after (cV n) V ins=after n V ins:=by
 unfold tells after
 rw[Qh hf hV ins]
 exact ⟨rfl,rfl⟩
theorem Ju {P w b c:Int}(hb:cH P b=true) (hc:cH P c=true):cH P (mI w b c)=true:=by
 unfold mI
 split
 ·exact hc
 ·exact hb
theorem Qs {P:Int}{N M:Nat}{s:Sp}(kn:Int->Option Int) (h:dI P N s=0) (h1:(lS kn s).code≠1):dI P M (lS kn s)=0:=by
 have hd:=tY h
 unfold lS at h1 ⊢
 by_cases h17:s.code=17
 ·rw[if_pos h17] at h1 ⊢
  cases hk:kn s.a with
  | none=>
   rw[hk] at h1
   unfold dI at h ⊢
   simp only[h17] at h ⊢
   simpa using h
  | some w=>
   have ha:cH P s.b=true/\cH P s.c=true:=by
    have:=hd.2
    unfold asks at this
    rw[if_neg (by omega),if_neg (by omega),if_pos h17] at this
    simp at this
    exact ⟨this.2.1,this.2.2⟩
   have hp:=Ju (w:=w) ha.1 ha.2
   unfold dI
   rw[if_neg (by simp),if_neg (fun hn=>hn ⟨hd.1,by unfold asks;rw[if_pos (.inl rfl)];simp[hp]⟩),if_neg (by simp),if_neg (by unfold asks;simp)]
 ·rw[if_neg h17] at h1 ⊢
  unfold dI at h ⊢
  by_cases a1:s.code<1\/17<s.code\/s.code=3
  ·rw[if_pos a1] at h;omega
  ·rw[if_neg a1] at h ⊢
   by_cases a2:¬(cH P s.dst=true/\(asks s).all (cH P)=true)
   ·rw[if_pos a2] at h;omega
   ·rw[if_neg a2,if_neg (fun x=>h1 x.1)] at h ⊢
    exact h
theorem Zh (l:List Int) (v:Int):l.idxOf v<(sQ l v).length:=(List.getElem?_eq_some_iff.1 (Gp l v)).1
theorem Ka {P:Int}{old:List Int}{cs:List Sp}(hf:∀j,j<cs.length->dI P old.length (cs.getD j iC)=0) {N:Nat}(k:Nat) (hk:k<cs.length) (hN:(kE old cs (k+1)).nums.length≤N):dI P N (yL (kE old cs k) old (cs.getD k iC))=0:=by
 have hs:=hf k hk
 have hd:=tY hs
 unfold yL
 split
 ·rename_i v hn
  have hl:(kE old cs k).nums.idxOf v<N:=by
   simp only[kE,kD,hn] at hN
   exact Nat.lt_of_lt_of_le (Zh _ _) hN
  have ea:asks ⟨1,(cs.getD k iC).dst,((kE old cs k).nums.idxOf v:Nat),0,0⟩=[]:=by unfold asks;rw[if_neg (by simp),if_neg (by simp),if_neg (by simp)]
  unfold dI
  rw[ea,if_neg (by simp),if_neg (fun h=>h ⟨hd.1,rfl⟩),if_neg (fun h=>h.2 ⟨Int.natCast_nonneg _,by show ((kE old cs k).nums.idxOf v:Int)<_;omega⟩),if_neg (by simp)]
 ·rename_i hn
  exact Qs _ hs (G7 hn)
theorem Dt {n:Nt}(h:cN n=0):cN (cV n)=0:=by
 have hl:(cV n).code.length=n.code.length:=nM _ _ _
 have hn:(cV n).nums.length≤n.code.length:=Qr _ _ _
 unfold cN at h ⊢
 split at h
 ·omega
 ·rename_i a
  rw[if_neg (by rw[hl];show ¬(n.places<0\/4000<n.places\/_\/_\/4000<n.ins.length+n.outs.length+n.keeps.length);omega)]
  exact h
theorem Kc {n:Nt}(hf:∀j,j<n.code.length->dI n.places n.nums.length (n.code.getD j iC)=0):∀j,j<(cV n).code.length->dI (cV n).places (cV n).nums.length ((cV n).code.getD j iC)=0:=fun j hj=>by
 have hl:(cV n).code.length=n.code.length:=nM _ _ _
 rw[hl] at hj
 show dI n.places _ ((kE n.nums n.code n.code.length).code.getD j iC)=0
 rw[Dx _ _ _ j hj]
 exact Ka hf j hj (Wa n.nums n.code (j+1) n.code.length hj).length_le
def V9 (cs:List Sp):Nat->Int->Int
 | 0,_=>0
 | k+1,p=>if p=(cs.getD k iC).dst then (if (cs.getD k iC).code=1 then 1 else 0) else V9 cs k p
theorem Vv {old:List Int}{cs code:List Sp}:∀k,(∀i,i<k->code.getD i iC=yL (kE old cs i) old (cs.getD i iC))->∀p,V9 code k p=if ((kE old cs k).kn p).isSome=true then 1 else 0:=by
 intro k
 induction k with
 | zero=>intro _ p;rfl
 | succ k ih=>
  intro hc p
  rw[V9,hc k (by omega),Gf,ih (fun i hi=>hc i (by omega)) p]
  show _=if (Hg (kE old cs k).kn (cs.getD k iC).dst (qS (kE old cs k).kn old (lS (kE old cs k).kn (cs.getD k iC))) p).isSome=true then (1:Int) else 0
  unfold Hg
  by_cases e:p=(cs.getD k iC).dst
  ·rw[if_pos e,if_pos e]
   unfold yL
   cases hn:qS (kE old cs k).kn old (lS (kE old cs k).kn (cs.getD k iC)) with
   | some v=>rfl
   | none=>rw[if_neg (G7 hn)];rfl
  ·rw[if_neg e,if_neg e]
theorem Kb {old:List Int}{cs code:List Sp}(k:Nat) (hc:∀i,i<k+1->code.getD i iC=yL (kE old cs i) old (cs.getD i iC)):asks (code.getD k iC)=[]\/∃p∈asks (code.getD k iC),V9 code k p=0:=by
 rw[hc k (by omega)]
 unfold yL
 cases hn:qS (kE old cs k).kn old (lS (kE old cs k).kn (cs.getD k iC)) with
 | some v=>exact .inl (by show asks ⟨1,_,_,0,0⟩=[];unfold asks;rw[if_neg (by simp),if_neg (by simp),if_neg (by simp)])
 | none=>
  refine .inr ?_
  show ∃p∈asks (lS (kE old cs k).kn (cs.getD k iC)),_
  unfold qS at hn
  split at hn
  ·exact absurd hn (by simp)
  ·rename_i ha
   have hex:∃p∈asks (lS (kE old cs k).kn (cs.getD k iC)),¬((kE old cs k).kn p).isSome=true:=Classical.byContradiction fun hne=>ha (List.all_eq_true.2 fun p hp=>Classical.byContradiction fun hq=>hne ⟨p,hp,hq⟩)
   obtain ⟨p,hp,hq⟩:=hex
   refine ⟨p,hp,?_⟩
   rw[Vv k (fun i hi=>hc i (by omega)) p,if_neg hq]
end Nx
end
section
namespace Px
open Go.Deep (BT)
namespace Em
open Nx (Nt Sp)
structure Vr where
 now:Int
 was:Int
 first:Int
structure Kd where
 net:Nt
 vars:bB->Vr
 nums:Int->Option Int
abbrev M:=StateT Kd Option
def thrown {α:Type}:M α:=fun _=>none
def place (x:Int):M Int:=fun k=>some (k.net.places,{ k with net:={ k.net with first:=k.net.first++[x],places:=k.net.places+1 } })
def kept (x:Int):M Int:=do
 let p <-place x
 modify fun k=>{ k with net:={ k.net with keeps:=k.net.keeps++[p] } }
 pure p
def add (s:Sp):M Unit:=fun k=>if 4000≤k.net.code.length then none else some ((),{ k with net:={ k.net with code:=k.net.code++[s] } })
def made (c a b d:Int):M Int:=do
 let p <-place 0
 add ⟨c,p,a,b,d⟩
 pure p
def bM (n:Int):M Int:=do
 let k <-get
 match k.nums n with
 | some p=>pure p
 | none=>do
  let p <-made 1 k.net.nums.length 0 0
  modify fun k=>{ k with net:={ k.net with nums:=k.net.nums++[n] },nums:=fun m=>if m=n then some p else k.nums m }
  pure p
def sP (a b:Int):M Int:=if a=-1\/b=-1 then pure (-1) else made 15 a b 0
def tN (a b:Int):M Int:=if a=-1 then pure b else if b=-1 then pure a else made 16 a b 0
def dS (a b:Int):M Int:=if b=-1 then pure a else if a=-1\/a=b then pure (-1) else made 13 b a 0
def given (so p:Int):M Int:=do
 let z <-bM 0
 made 17 so p z
def put (dst so from_:Int):M Unit:=add ⟨17,dst,so,from_,dst⟩
def rO (s:bB):M Int:=do
 let k <-get
 let v:=k.vars s
 if v.was=-1 then do
  let p <-kept v.first
  modify fun k=>{ k with vars:=fun t=>if t=s then ⟨v.now,p,v.first⟩ else k.vars t }
  pure p
 else pure v.was
def Xg (s:bB):M Int:=do
 let k <-get
 pure (k.vars s).now
def eK:E->M Int
 | .nil=>bM 0
 | .node _ _ a l r=>
  if a.code=1 then bM a.num
  else if a.code=2 then Xg a.name
  else if a.code=3 then rO a.name
  else if a.code=4\/a.code=5 then do
   let x <-eK l
   made a.code x 0 0
  else if a.code<6\/16<a.code then bM 0
  else do
   let x <-eK l
   let y <-eK r
   made a.code x y 0
def Av (so:Int):List iQ->M Unit
 | []=>pure ()
 | s::r=>do
  let p <-Xg s.name
  let x <-eK s.e
  put p so x
  Av so r
def uA (so:Int) (l:List iQ):M Unit:=if so=-1 then pure () else Av so l
def is (p:Int) (i:Nat):M Int:=do
 let x <-bM ((i:Int)+1)
 made 11 p x 0
structure eL where
 drawn:Wy
 «to»:Int
 left:Int
structure eM (σ ρ:Type) where
 drawn:cC σ
 ways:List eL
 inside:List ρ
 idle:Bool
 leaves:Bool
structure jG (σ ρ:Type) where
 states:List (eM σ ρ)
 order:List Nat
 first:Int
 there:Int
 idle:Bool
 leaves:Bool
def Rg:Nat->Type
 | 0=>Unit
 | k+1=>jG (St k) (Rg k)
abbrev cR:=List (List (Int×Bool))
def dZ (t:cR) (i:Int) (so:Int) (back:Bool):cR:=t.set i.toNat (t.getD i.toNat []++[(so,back)])
structure vT (σ ρ:Type) where
 lay:List σ->M ρ
 size:ρ->Nat
 there:ρ->Int
 idle:ρ->Bool
 leaves:ρ->Bool
 over:ρ->M Int
 leave:ρ->Int->M Unit
 enter:ρ->Int->Int->M Unit
 goOn:ρ->Int->cR->M Unit
def Cj:E->Bool
 | .nil=>true
 | .node _ _ _ _ _=>false
section
variable {σ ρ:Type}
def Dm (l:List (cC σ)):Int:=match l.findIdx? (·.first) with|some i=>(i:Int)|none=>-1
def jP (names:List bB):List Wy->M (List eL)
 | []=>pure []
 | y::r=>do
  let p <-if 1<y.times then kept 0 else pure (-1)
  let t <-jP names r
  pure (⟨y,eB names y.to,p⟩::t)
def pC (O:vT σ ρ):List (List σ)->M (List ρ)
 | []=>pure []
 | g::r=>do
  let x <-O.lay g
  let t <-pC O r
  pure (x::t)
def iU (O:vT σ ρ) (names:List bB) (s:cC σ):M (eM σ ρ):=do
 let ins <-pC O s.regions
 let ws <-jP names s.ways
 pure ⟨s,ws,ins,decide (s.during.length+s.ways.length=0)&&ins.all O.idle,decide (0<s.leave.length)||ins.any O.leaves⟩
def fE (O:vT σ ρ) (names:List bB):List (cC σ)->M (List (eM σ ρ))
 | []=>pure []
 | s::r=>do
  let x <-iU O names s
  let t <-fE O names r
  pure (x::t)
def lay (O:vT σ ρ) (l:List (cC σ)):M (jG σ ρ):=do
 let f:=Dm l
 let p <-kept (f+1)
 let ss <-fE O (bA l) l
 pure ⟨ss,(eJ (cL l)).getD [],f,p,ss.all (·.idle),ss.any (·.leaves)⟩
def nZ (p:Int):List (eM σ ρ)->Nat->Int->M Int
 | [],_,o=>pure o
 | s::r,i,o=>if s.drawn.last then do
    let x <-is p i
    let o' <-tN o x
    nZ p r (i+1) o'
  else nZ p r (i+1) o
def over (g:jG σ ρ):M Int:=nZ g.there g.states 0 (-1)
def uU (O:vT σ ρ):List ρ->Int->M Int
 | [],so=>pure so
 | g::r,so=>do
  let x <-O.over g
  let so' <-sP so x
  uU O r so'
def pD (O:vT σ ρ) (s:eM σ ρ) (y:eL) (so0:Int):M Int:=do
 let so1 <-if y.drawn.kind=2 then uU O s.inside so0 else pure so0
 if so1=-1 then pure (-1) else do
 let so2 <-if Cj y.drawn.cond then pure so1 else do
  let x <-eK y.drawn.cond
  sP so1 x
 if y.left=-1 then pure so2 else do
 add ⟨7,y.left,y.left,so2,0⟩
 made 13 y.left so2 0
def fY (O:vT σ ρ) (s:eM σ ρ) (so:Int) (asked:Wy->Bool):List eL->Int->Int->Int->List (eL×Int)->M (List (eL×Int)×Int)
 | [],_,_,taken,l=>pure (l,taken)
 | y::r,rest,ahead,taken,l=>
  if so=-1\/asked y.drawn=false then fY O s so asked r rest ahead taken l else do
  let rest' <-dS rest ahead
  let ahead' <-pD O s y rest'
  if ahead'=rest' then pure (l++[(y,ahead')],so) else do
  let taken' <-tN taken ahead'
  fY O s so asked r rest' ahead' taken' (l++[(y,ahead')])
def choose (O:vT σ ρ) (s:eM σ ρ) (so:Int) (asked:Wy->Bool):M (List (eL×Int)×Int):=fY O s so asked s.ways so (-1) (-1) []
def take:List (eL×Int)->cR->M cR
 | [],t=>pure t
 | c::r,t=>do
  uA c.2 c.1.drawn.sets
  take r (dZ t c.1.to c.2 c.1.drawn.back)
def dG (O:vT σ ρ):List ρ->Int->M Unit
 | [],_=>pure ()
 | g::r,so=>do
  O.leave g so
  dG O r so
def iZ (O:vT σ ρ) (here:Int):List (eM σ ρ)->Nat->M Unit
 | [],_=>pure ()
 | s::r,i=>if s.leaves then do
    let gone <-is here i
    dG O s.inside gone
    uA gone s.drawn.leave
    iZ O here r (i+1)
  else iZ O here r (i+1)
def leave (O:vT σ ρ) (g:jG σ ρ) (so:Int):M Unit:=if so=-1\/g.leaves=false then pure () else do
 let here <-given so g.there
 iZ O here g.states 0
def fO (so:Int):List eL->M Unit
 | []=>pure ()
 | y::r=>if y.left=-1 then fO so r else do
  let x <-bM y.drawn.times
  put y.left so x
  fO so r
def mD (O:vT σ ρ) (on back:Int):List ρ->M Unit
 | []=>pure ()
 | g::r=>do
  O.enter g on back
  mD O on back r
def eU (O:vT σ ρ) (s:eM σ ρ) (so back:Int) (t:cR):M cR:=do
 fO so s.ways
 uA so s.drawn.enter
 let c1 <-choose O s so fun y=>y.now&&decide (y.kind=1)
 let on <-dS so c1.2
 let back' <-if on=so then pure back else sP on back
 mD O on back' s.inside
 let c2 <-choose O s on fun y=>y.now && !decide (y.kind=1)
 if s.leaves then do
  dG O s.inside c2.2
  let e <-tN c1.2 c2.2
  uA e s.drawn.leave
 let t' <-take c1.1 t
 take c2.1 t'
def D2:List (Int×Bool)->Int->M Int
 | [],so=>pure so
 | a::r,so=>do
  let so' <-tN so a.1
  D2 r so'
def iJ (has:Bool):List (Int×Bool)->Int->M Int
 | [],b=>pure b
 | a::r,b=>if a.2&&has then do
    let b' <-tN b a.1
    iJ has r b'
  else iJ has r b
def bS (O:vT σ ρ) (g:jG σ ρ):List Nat->cR->M Unit
 | [],_=>pure ()
 | i::r,t=>do
  let so <-D2 (t.getD i []) (-1)
  if so=-1 then bS O g r t else
  match g.states[i]? with
  | none=>thrown
  | some s=>do
   let x <-bM ((i:Int)+1)
   put g.there so x
   let b <-iJ (decide (0<s.inside.length)) (t.getD i []) (-1)
   let t' <-eU O s so b t
   bS O g r t'
def uW (was:Int):Nat->Nat->cR->M cR
 | 0,_,t=>pure t
 | n+1,i,t=>do
  let x <-is was i
  uW was n (i+1) (dZ t i x true)
def enter (O:vT σ ρ) (g:jG σ ρ) (so back:Int):M Unit:=if so=-1 then pure () else do
 let t <-if back=-1 then pure (List.replicate g.states.length []) else do
  let w <-given back g.there
  uW w g.states.length 0 (List.replicate g.states.length [])
 let f <-dS so back
 bS O g g.order (dZ t g.first f false)
def pF (O:vT σ ρ) (on:Int):List ρ->M Unit
 | []=>pure ()
 | g::r=>if on=-1\/O.idle g=true then pF O on r else do
  let h <-given on (O.there g)
  O.goOn g h (List.replicate (O.size g) [])
  pF O on r
def eO (O:vT σ ρ) (s:eM σ ρ) (so:Int) (t:cR):M cR:=do
 let c1 <-choose O s so fun y=>decide (y.kind=1)
 let on0 <-dS so c1.2
 let on <-if Cj s.drawn.rests\/on0=-1 then pure on0 else do
  let x <-eK s.drawn.rests
  let z <-bM 0
  made 17 x z on0
 uA on s.drawn.during
 pF O on s.inside
 let c2 <-choose O s on fun y=>!decide (y.kind=1)
 if s.leaves then do
  let gone <-tN c1.2 c2.2
  dG O s.inside gone
  uA gone s.drawn.leave
 let t' <-take c1.1 t
 take c2.1 t'
def Do (O:vT σ ρ) (here:Int):List (eM σ ρ)->Nat->cR->M cR
 | [],_,t=>pure t
 | s::r,i,t=>if s.idle then Do O here r (i+1) t else do
  let so <-is here i
  let t' <-eO O s so t
  Do O here r (i+1) t'
def goOn (O:vT σ ρ) (g:jG σ ρ) (here:Int) (t:cR):M Unit:=do
 let t' <-Do O here g.states 0 t
 bS O g g.order t'
def aP4 (O:vT σ ρ):vT (cC σ) (jG σ ρ):=⟨lay O,fun g=>g.states.length,(·.there),(·.idle),(·.leaves),over,leave O,enter O,goOn O⟩
end
def aG:(k:Nat)->vT (St k) (Rg k)
 | 0=>⟨fun _=>pure (),fun _=>0,fun _=>0,fun _=>true,fun _=>false,fun _=>pure (-1),fun _ _=>pure (),fun _ _ _=>pure (),fun _ _ _=>pure ()⟩
 | k+1=>aP4 (aG k)
def dP:List bJ->M Unit
 | []=>pure ()
 | v::r=>do
  let p <-if v.kind=1 then do
      let p <-place v.first
      modify fun k=>{ k with net:={ k.net with ins:=k.net.ins++[p] } }
      pure p
   else kept v.first
  if v.kind=2 then modify fun k=>{ k with net:={ k.net with outs:=k.net.outs++[p] } }
  modify fun k=>{ k with vars:=fun t=>if t=v.name then ⟨p,-1,v.first⟩ else k.vars t }
  dP r
def qO (begin_:Int):List (List (St 6))->M Unit
 | []=>pure ()
 | l::r=>do
  let g <-(aG 6).lay l
  let g':jG (St 5) (Rg 5):=g
  modify fun k=>{ k with net:={ k.net with first:=k.net.first.set g'.there.toNat 0 } }
  (aG 6).goOn g g'.there (dZ (List.replicate g'.states.length []) g'.first begin_ false)
  qO begin_ r
def tick (l:List (List (St 6))):M Unit:=do
 let b <-place 1
 qO b l
def dN:List bJ->M Unit
 | []=>pure ()
 | v::r=>do
  let k <-get
  if (k.vars v.name).was=-1 then dN r else do
  add ⟨2,(k.vars v.name).was,(k.vars v.name).now,0,0⟩
  dN r
def kd0:Kd:=⟨⟨0,[],[],[],[],[],[]⟩,fun _=>⟨0,0,0⟩,fun _=>none⟩
def Xw (c:fU):M Unit:=do
 dP c.vars
 tick c.regions
 dN c.vars
def sV (c:fU):Option Nt:=(Xw c kd0).map (·.2.net)
end Em
end Px
end
section
open Go.Maps Go.WideMaps
namespace Gm
def Mt (v:Value):Option (DataW Value×List MemPlace):=some (.held v,[])
def told (f:Lit->Option Value) (l:Lit) (zd:DataW Value):DataW Value:=
 match f l with
 | none=>zd
 | some v=>.held v
def Mp (P:Program) (k:TypeId) (w:World) (b n:Nat) (f:Lit->Option Value):Prop:=
 ∃D:DataW Value,w.ownsMap P k Mt b n D/\Maps.size D=n/\∀l,WideAt.IsKeyLit l->∀zd,D.atKey l zd=told f l zd
def put (f:Lit->Option Value) (l:Lit) (v:Value):Lit->Option Value:=fun m=>if m.sameKey l then some v else f m
def del (f:Lit->Option Value) (l:Lit):Lit->Option Value:=fun m=>if m.sameKey l then none else f m
theorem lQ (f:Lit->Option Value) {l:Lit}(hl:WideAt.IsKeyLit l) (v:Value):put f l v l=some v:=if_pos (WideAt.sameKey_self hl)
theorem kB (f:Lit->Option Value) {l m:Lit}(v:Value) (h:m≠l):put f l v m=f m:=if_neg (by rw[Maps.sameKey_ne h];simp)
theorem o9 (f:Lit->Option Value) {l:Lit}(hl:WideAt.IsKeyLit l):del f l l=none:=if_pos (WideAt.sameKey_self hl)
theorem zZ (f:Lit->Option Value) {l m:Lit}(h:m≠l):del f l m=f m:=if_neg (by rw[Maps.sameKey_ne h];simp)
section
variable {P:Program}{k t e:TypeId}{w w':World}{b n:Nat}{f:Lit->Option Value}
theorem Mp.lt (h:Mp P k w b n f):b<w.heap.size:=by obtain ⟨D,h,_⟩:=h;exact h.lt
theorem Mp.keep (h:Mp P k w b n f) (hb:w'.heap[b]?=w.heap[b]?):Mp P k w' b n f:=by
 obtain ⟨D,⟨es,clock,h1,h2⟩,h3⟩:=h
 exact ⟨D,⟨es,clock,by rw[hb];exact h1,h2⟩,h3⟩
theorem Mp.made (P:Program) (k:TypeId) (w:World):Mp P k (w.alloc (.map #[] 0)) w.heap.size 0 (fun _=>none):=
 ⟨.map [],World.ownsMap_made _ _ _ _,rfl,fun _ _ _=>rfl⟩
theorem V5 {D:DataW Value}{m:Nat}(h:w.ownsMap P k Mt b m D):w.ownsMap P k Mt b (Maps.size D) D:=by
 obtain ⟨es,clock,h1,h2,h3,rfl⟩:=h
 refine ⟨es,clock,h1,h2,?_,rfl⟩
 show es.size≤((es.toList.map _).foldr DataW.insert []).length
 rw[length_sorted];simp
theorem Mp.has {D:DataW Value}(h3:∀l,WideAt.IsKeyLit l->∀zd,D.atKey l zd=told f l zd) {l:Lit}(hl:WideAt.IsKeyLit l):Maps.has D l=(f l).isSome:=by
 cases hf:f l with
 | none=>exact Maps.has_false_of_atKey fun z=>by rw[h3 l hl z];unfold told;rw[hf]
 | some v=>exact Maps.has_true_of_atKey (y:=.held v) fun z=>by rw[h3 l hl z];unfold told;rw[hf]
theorem Y7 {v u:Value}{ps:List MemPlace}{d:DataW Value}(h:Mt v=some (d,ps)) (hd:d=.held u):v=u:=by
 unfold Mt at h
 injection h with h
 injection h with h _
 rw[<-h] at hd
 injection hd
theorem Mp.look (h:Mp P k w b n f) (K:Keyed P k) (ht:P.underlying t=some (.map k e)) {z:Value}(hz:(zeroValue e).run P w=.ok z w) {key:Value}{l:Lit}(hkey:keyOf P k key=some l) :
    (Instr.lookup t (.map (some b)) key false).run P w=.ok ((f l).getD z) w:=by
 obtain ⟨D,h1,_,h3⟩:=h
 obtain ⟨v,ps,hr,hv⟩:=h1.lookup K ht hz (zd:=.held z) (zp:=[]) rfl hkey
 rw[hr]
 have:=Y7 hv (u:=(f l).getD z) (by rw[h3 l (K.key hkey)];unfold told;cases f l<;>rfl)
 rw[this]
theorem Mp.look_ok (h:Mp P k w b n f) (K:Keyed P k) (ht:P.underlying t=some (.map k e)) {z:Value}(hz:(zeroValue e).run P w=.ok z w) {key:Value}{l:Lit}(hkey:keyOf P k key=some l) :
    (Instr.lookup t (.map (some b)) key true).run P w=.ok (.tuple #[(f l).getD z,.bool (f l).isSome]) w:=by
 obtain ⟨D,h1,_,h3⟩:=h
 obtain ⟨v,ps,hr,hv⟩:=h1.look_ok K ht hz (zd:=.held z) (zp:=[]) rfl hkey
 rw[hr,Mp.has h3 (K.key hkey)]
 have:=Y7 hv (u:=(f l).getD z) (by rw[h3 l (K.key hkey)];unfold told;cases f l<;>rfl)
 rw[this]
theorem Mp.put (h:Mp P k w b n f) (K:Keyed P k) (ht:P.underlying t=some (.map k e)) (hn:n<maxLen) {key:Value}{l:Lit}(hkey:keyOf P k key=some l) (v:Value) :
    ∃w',(Instr.mapUpdate t (.map (some b)) key v).run P w=.ok () w'/\Mp P k w' b (if (f l).isSome then n else n+1) (put f l v)/\w.grownBy w' (some b):=by
 obtain ⟨D,h1,h2,h3⟩:=h
 obtain ⟨w',hr,h4,h5⟩:=h1.update K ht hn hkey (val:=v) (d:=.held v) (ps:=[]) rfl
 have hsz:Maps.size (D.put l (.held v))=if (f l).isSome then n else n+1:=by rw[Maps.size_put (h1.tidy K),Mp.has h3 (K.key hkey),h2]
 refine ⟨w',hr,⟨_,by rw[<-hsz];exact V5 h4,hsz,fun m hm zd=>?_⟩,h5⟩
 by_cases hml:m=l
 ·subst hml;rw[atKey_put_same h1.isMap hm];unfold told;rw[lQ _ hm]
 ·rw[atKey_put_other hml,h3 m hm];unfold told;rw[kB _ _ hml]
theorem Mp.del (h:Mp P k w b n f) (K:Keyed P k) (ht:P.underlying t=some (.map k e)) {key:Value}{l:Lit}(hkey:keyOf P k key=some l) (ty:TypeId) :
    ∃w' n',(Builtin.delete_ #[t,k] ty #[.map (some b),key]).run P w=.ok (.tuple #[]) w'/\Mp P k w' b n' (del f l)/\n'≤n/\w.grownBy w' (some b):=by
 obtain ⟨D,h1,h2,h3⟩:=h
 obtain ⟨w',hr,h4,h5⟩:=h1.drop K ht hkey ty
 refine ⟨w',_,hr,⟨_,V5 h4,rfl,fun m hm zd=>?_⟩,h4.size_le,h5.grown⟩
 by_cases hml:m=l
 ·subst hml;rw[atKey_del_same];unfold told;rw[o9 _ hm]
 ·rw[atKey_del_other hml,h3 m hm];unfold told;rw[zZ _ hml]
end
end Gm
end
end Go.Proofs.YtcdbhoknhnimcaaGreatDoor
