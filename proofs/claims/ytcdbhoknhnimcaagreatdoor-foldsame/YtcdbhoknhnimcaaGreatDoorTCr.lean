import Derived.Deep.Trees
import Derived.Below
import Derived.Laws.OwnMore
import Derived.Deep.Draws
import Derived.Test.YtcdbhoknhnimcaaGreatDoorProg
import Derived.WalkKit
import Derived.WalkSpells
import Derived.WalkLawsBesides
import Derived.Laws.EntriesVeiled
namespace Go.Proofs.YtcdbhoknhnimcaaGreatDoor
section
namespace Lx
def sN (c:UInt8):Bool:=c==32||c==9||c==10
def gQ (c:UInt8):Bool:=decide (48≤c.toNat)&&decide (c.toNat≤57)
def Ao (c:UInt8):Bool:=(decide (97≤c.toNat)&&decide (c.toNat≤122))||(decide (65≤c.toNat)&&decide (c.toNat≤90))||c==95
def oK (c:UInt8):Bool:=Ao c||gQ c
def inl (c:UInt8):Bool:=c != 10
def sk:Bool->List UInt8->Nat
 | _,[]=>0
 | true,c::r=>if c==10 then 1+sk false r else 1+sk true r
 | false,c::r=>if sN c then 1+sk false r else if c==35 then 1+sk true r else 0
def wh (p:UInt8->Bool) (u:List UInt8):Nat:=(u.takeWhile p).length
def marks:List (List UInt8):=[[45,45,62],[58,61],[61,61],[33,61],[60,61],[38,38],[124,124],[60],[43],[45],[42],[47],[37],[33],[40],[41],[123],[125],[59],[58],[44]]
def nJ:List (List UInt8)->List UInt8->Nat
 | [],_=>0
 | m::r,u=>if m.isPrefixOf u then m.length else nJ r u
def mk (u:List UInt8):Nat:=nJ marks u
def rd:List UInt8->Nat×Nat
 | []=>(0,0)
 | c::r=>if gQ c then (2,wh gQ (c::r)) else if oK c then (1,wh oK (c::r)) else if mk (c::r)=0 then (0,0) else (3,mk (c::r))
def Kf (kind len n:Nat):Nat:=if kind=0 then 3 else if kind=2/\18<len then 4 else if 600≤n then 4 else 0
structure fK where
 kind:Nat
 text:List UInt8
 place:Nat
def pM (u:List UInt8) (p:Nat):List fK->List UInt8->Nat->Prop
 | [],u',p'=>u'=u/\p'=p
 | t::r,u',p'=>u.drop (sk false u)≠[]/\t=⟨(rd (u.drop (sk false u))).1,(u.drop (sk false u)).take (rd (u.drop (sk false u))).2,p+sk false u⟩/\
    (rd (u.drop (sk false u))).1≠0/\¬((rd (u.drop (sk false u))).1=2/\18<(rd (u.drop (sk false u))).2)/\
    pM ((u.drop (sk false u)).drop (rd (u.drop (sk false u))).2) (p+sk false u+(rd (u.drop (sk false u))).2) r u' p'
theorem J9 {l m:List fK}:∀{u:List UInt8}{p:Nat}{u1:List UInt8}{p1:Nat}{u2:List UInt8}{p2:Nat},pM u p l u1 p1->pM u1 p1 m u2 p2->pM u p (l++m) u2 p2:=by
 induction l with
 | nil=>intro u p u1 p1 u2 p2 h1 h2;obtain ⟨rfl,rfl⟩:=h1;exact h2
 | cons t r ih=>
  intro u p u1 p1 u2 p2 h1 h2
  obtain ⟨a,b,c,d,e⟩:=h1
  exact ⟨a,b,c,d,ih e h2⟩
theorem uH {l:List fK}:∀{l':List fK}{u:List UInt8}{p:Nat}{u1:List UInt8}{p1:Nat}{u2:List UInt8}{p2:Nat},pM u p l u1 p1->pM u p l' u2 p2->l.length≤l'.length->∃m,l'=l++m/\pM u1 p1 m u2 p2:=by
 induction l with
 | nil=>intro l' u p u1 p1 u2 p2 h1 h2 _;obtain ⟨rfl,rfl⟩:=h1;exact ⟨l',rfl,h2⟩
 | cons t r ih=>
  intro l' u p u1 p1 u2 p2 h1 h2 hl
  cases l' with
  | nil=>simp at hl
  | cons t' r'=>
   obtain ⟨_,b,_,_,e⟩:=h1
   obtain ⟨_,b',_,_,e'⟩:=h2
   obtain ⟨m,rfl,hm⟩:=ih e e' (by simpa using hl)
   exact ⟨m,by rw[b,b'];rfl,hm⟩
def Ok (s:List UInt8) (l:List fK):Prop:=l.length≤600/\∃u p,pM s 0 l u p/\u.drop (sk false u)=[]
def Bad (s:List UInt8) (e q:Nat):Prop:=∃l u p,pM s 0 l u p/\l.length≤600/\u.drop (sk false u)≠[]/\q=p+sk false u/\e=Kf (rd (u.drop (sk false u))).1 (rd (u.drop (sk false u))).2 l.length/\e≠0
theorem aH6 {s:List UInt8}{l l':List fK}(h:Ok s l) (h':Ok s l'):l=l':=by
 have key:∀{l l':List fK},Ok s l->Ok s l'->l.length≤l'.length->l=l':=by
  intro l l' h h' hl
  obtain ⟨_,u,p,r,e⟩:=h
  obtain ⟨_,u',p',r',e'⟩:=h'
  obtain ⟨m,rfl,hm⟩:=uH r r' hl
  cases m with
  | nil=>simp
  | cons t m=>exact absurd e hm.1
 rcases Nat.le_total l.length l'.length with hl|hl
 ·exact key h h' hl
 ·exact (key h' h hl).symm
theorem Zp {k len n:Nat}(h0:k≠0) (h1:¬(k=2/\18<len)) (he:Kf k len n≠0):600≤n:=by
 unfold Kf at he
 rw[if_neg h0,if_neg h1] at he
 by_cases h:600≤n
 ·exact h
 ·rw[if_neg h] at he;exact absurd rfl he
theorem aA7 {s:List UInt8}{l:List fK}{e q:Nat}(h:Ok s l) (h':Bad s e q):False:=by
 obtain ⟨hn,u,p,r,hu⟩:=h
 obtain ⟨l',u',p',r',hn',hu',hq,he,he0⟩:=h'
 rcases Nat.le_total l.length l'.length with hl|hl
 ·obtain ⟨m,rfl,hm⟩:=uH r r' hl
  cases m with
  | nil=>obtain ⟨rfl,rfl⟩:=hm;exact hu' hu
  | cons t m=>exact hm.1 hu
 ·obtain ⟨m,rfl,hm⟩:=uH r' r hl
  cases m with
  | nil=>obtain ⟨rfl,rfl⟩:=hm;exact hu' hu
  | cons t m=>
   have:=Zp hm.2.2.1 hm.2.2.2.1 (by rw[<-he];exact he0)
   simp at hn;omega
theorem aC4:∀(b:Bool) (u:List UInt8),sk b u≤u.length:=by
 intro b u
 induction u generalizing b with
 | nil=>cases b<;>simp[sk]
 | cons c r ih=>
  have h1:=ih true;have h2:=ih false
  cases b<;>simp only[sk,List.length_cons]<;>repeat' split
  all_goals omega
theorem Lu (p:UInt8->Bool) (u:List UInt8):wh p u≤u.length:=List.Sublist.length_le (List.takeWhile_sublist p)
theorem mX (p:UInt8->Bool) (c:UInt8) (r:List UInt8):wh p (c::r)=if p c then 1+wh p r else 0:=by
 unfold wh;rw[List.takeWhile_cons];split<;>simp[Nat.add_comm]
theorem Tt (u:List UInt8):sk true u=wh inl u+sk false (u.drop (wh inl u)):=by
 induction u with
 | nil=>simp[sk,wh]
 | cons c r ih=>
  rw[mX]
  by_cases h:c=10
  ·subst h;simp[sk,inl,sN]
  ·have hi:inl c=true:=by simp[inl,h]
   rw[if_pos hi]
   have hd:List.drop (1+wh inl r) (c::r)=r.drop (wh inl r):=by rw[Nat.add_comm,List.drop_succ_cons]
   rw[hd]
   simp only[sk,beq_iff_eq,h,if_false]
   rw[ih];omega
theorem Ja (M:List (List UInt8)) (u:List UInt8):nJ M u≤u.length:=by
 induction M with
 | nil=>simp[nJ]
 | cons m r ih=>
  unfold nJ;split
  ·exact List.IsPrefix.length_le (List.isPrefixOf_iff_prefix.1 ‹_›)
  ·exact ih
theorem aD7 (u:List UInt8):mk u≤u.length:=Ja marks u
theorem mB (c:UInt8) (r:List UInt8):rd (c::r)=if gQ c then (2,wh gQ (c::r)) else if oK c then (1,wh oK (c::r)) else if mk (c::r)=0 then (0,0) else (3,mk (c::r)):=rfl
theorem Nh (u:List UInt8):(rd u).2≤u.length:=by
 cases u with
 | nil=>simp[rd]
 | cons c r=>
  rw[mB]
  split
  ·exact Lu _ _
  ·split
   ·exact Lu _ _
   ·split
    ·simp
    ·exact aD7 _
theorem Yd (u:List UInt8) (h:(rd u).1≠0):0<(rd u).2:=by
 cases u with
 | nil=>simp[rd] at h
 | cons c r=>
  rw[mB] at h ⊢
  split
  ·rw[mX,if_pos ‹_›];show 0<1+_;omega
  ·rename_i h1
   rw[if_neg h1] at h
   split
   ·rw[mX,if_pos ‹_›];show 0<1+_;omega
   ·rename_i h2
    rw[if_neg h2] at h
    split
    ·rename_i h3;rw[if_pos h3] at h;exact absurd rfl h
    ·show 0<mk _;omega
theorem Fc (u:List UInt8):(rd u).1≤3:=by
 cases u with
 | nil=>simp[rd]
 | cons c r=>
  rw[mB]
  split
  ·simp
  ·split
   ·simp
   ·split<;>simp
def fH (s:List UInt8) (k:Nat):Nat:=k+sk false (s.drop k)
def gZ (p:UInt8->Bool) (s:List UInt8) (k:Nat):Nat:=k+wh p (s.drop k)
theorem tH {p:UInt8->Bool}{s:List UInt8}{k:Nat}{c:UInt8}(h:s[k]?=some c) (hp:p c=true):gZ p s k=gZ p s (k+1):=by
 obtain ⟨hk,hc⟩:=List.getElem?_eq_some_iff.1 h
 unfold gZ;rw[List.drop_eq_getElem_cons hk,mX,hc,if_pos hp];omega
theorem wT {p:UInt8->Bool}{s:List UInt8}{k:Nat}{c:UInt8}(h:s[k]?=some c) (hp:p c=false):gZ p s k=k:=by
 obtain ⟨hk,hc⟩:=List.getElem?_eq_some_iff.1 h
 unfold gZ;rw[List.drop_eq_getElem_cons hk,mX,hc,hp];rfl
theorem tI {p:UInt8->Bool}{s:List UInt8}{k:Nat}(h:s.length≤k):gZ p s k=k:=by
 unfold gZ;rw[List.drop_eq_nil_of_le h];rfl
theorem My {p:UInt8->Bool}{s:List UInt8}{k:Nat}(h:k≤s.length):k≤gZ p s k/\gZ p s k≤s.length:=by
 have:=Lu p (s.drop k);simp only[List.length_drop] at this;unfold gZ;omega
theorem D3 {s:List UInt8}{k:Nat}{c:UInt8}(h:s[k]?=some c) (hp:sN c=true):fH s k=fH s (k+1):=by
 obtain ⟨hk,hc⟩:=List.getElem?_eq_some_iff.1 h
 unfold fH;rw[List.drop_eq_getElem_cons hk,hc,sk,if_pos hp];omega
theorem yP {s:List UInt8}{k:Nat}(h:s[k]?=some 35):fH s k=fH s (gZ inl s k):=by
 obtain ⟨hk,hc⟩:=List.getElem?_eq_some_iff.1 h
 have e:gZ inl s k=k+1+wh inl (s.drop (k+1)):=by
  unfold gZ;rw[List.drop_eq_getElem_cons hk,mX,hc,if_pos (by decide)];omega
 rw[e]
 unfold fH;rw[List.drop_eq_getElem_cons hk,hc,sk,if_neg (by decide),if_pos (by decide),Tt,List.drop_drop];omega
theorem Hy {s:List UInt8}{k:Nat}{c:UInt8}(h:s[k]?=some c) (hp:sN c=false) (hq:c≠35):fH s k=k:=by
 obtain ⟨hk,hc⟩:=List.getElem?_eq_some_iff.1 h
 unfold fH;rw[List.drop_eq_getElem_cons hk,hc,sk,hp,if_neg (by simp),if_neg (by simpa using hq)];rfl
theorem Bt {s:List UInt8}{k:Nat}(h:s.length≤k):fH s k=k:=by
 unfold fH;rw[List.drop_eq_nil_of_le h];rfl
theorem zJ {s:List UInt8}{k:Nat}(h:k≤s.length):k≤fH s k/\fH s k≤s.length:=by
 have:=aC4 false (s.drop k);simp only[List.length_drop] at this;unfold fH;omega
theorem vB {s:List UInt8}{k:Nat}(h:s[k]?=some 35):k<gZ inl s k:=by
 obtain ⟨hk,hc⟩:=List.getElem?_eq_some_iff.1 h
 unfold gZ;rw[List.drop_eq_getElem_cons hk,mX,hc,if_pos (by decide)];omega
def To (s:List UInt8) (l:List fK) (k:Nat):Prop:=k≤s.length/\pM s 0 l (s.drop k) k
theorem Wp (s:List UInt8):To s [] 0:=⟨Nat.zero_le _,rfl,rfl⟩
theorem Wq {s:List UInt8}{l:List fK}{k a:Nat}(h:To s l k) (ha:a=fH s k) (hl:a<s.length) (h0:(rd (s.drop a)).1≠0) (h1:¬((rd (s.drop a)).1=2/\18<(rd (s.drop a)).2)) :
    To s (l++[⟨(rd (s.drop a)).1,(s.drop a).take (rd (s.drop a)).2,a⟩]) (a+(rd (s.drop a)).2):=by
 have hd:(s.drop k).drop (sk false (s.drop k))=s.drop a:=by rw[List.drop_drop,ha];rfl
 have hr:=Nh (s.drop a);rw[List.length_drop] at hr
 refine ⟨by omega,J9 h.2 ?_⟩
 refine ⟨?_,?_,?_,?_,?_⟩
 ·rw[hd];intro e;have:=congrArg List.length e;simp at this;omega
 ·rw[hd,ha];rfl
 ·rw[hd];exact h0
 ·rw[hd];exact h1
 ·rw[hd,List.drop_drop];exact ⟨rfl,by rw[ha];rfl⟩
theorem aH0 {s:List UInt8}{l:List fK}{k:Nat}(h:To s l k) (hn:l.length≤600) (ha:s.length≤fH s k):Ok s l:=
 ⟨hn,_,_,h.2,by rw[List.drop_drop];exact List.drop_eq_nil_of_le ha⟩
theorem aA4 {s:List UInt8}{l:List fK}{k a e:Nat}(h:To s l k) (hn:l.length≤600) (ha:a=fH s k) (hl:a<s.length) (he:e=Kf (rd (s.drop a)).1 (rd (s.drop a)).2 l.length) (h0:e≠0):Bad s e a:=by
 have hd:(s.drop k).drop (sk false (s.drop k))=s.drop a:=by rw[List.drop_drop,ha];rfl
 refine ⟨l,_,_,h.2,hn,?_,ha,?_,h0⟩
 ·rw[hd];intro e;have:=congrArg List.length e;simp at this;omega
 ·rw[hd];exact he
end Lx
end
section
namespace Px
open Go.Deep (BT)
abbrev bB:=List UInt8
structure Nd where
 code:Nat
 num:Int
 name:bB
abbrev E:=BT Nd
def Wc (n:Int):E:=.node 0 0 ⟨1,n,[]⟩ .nil .nil
def sM (c:Nat) (s:bB):E:=.node 0 0 ⟨c,0,s⟩ .nil .nil
def Ri (c:Nat) (e:E):E:=.node 0 0 ⟨c,0,[]⟩ e .nil
def Kn (c:Nat) (l r:E):E:=.node 0 0 ⟨c,0,[]⟩ l r
structure iQ where
 name:bB
 e:E
structure Wy where
 kind:Nat
 now:Bool
 cond:E
 times:Nat
 sets:List iQ
 to:bB
 back:Bool
structure cC (ρ:Type) where
 name:bB
 first:Bool
 last:Bool
 enter:List iQ
 during:List iQ
 leave:List iQ
 rests:E
 ways:List Wy
 regions:List (List ρ)
def St:Nat->Type
 | 0=>Unit
 | k+1=>cC (St k)
structure bJ where
 kind:Nat
 name:bB
 first:Int
structure fU where
 name:bB
 vars:List bJ
 regions:List (List (St 6))
def G0:bB:=[99,104,97,114,116]
def eT:bB:=[123]
def jD:bB:=[125]
def eS:bB:=[59]
def rG:bB:=[58,61]
def tQ:bB:=[45]
def aE3:bB:=[33]
def F8:bB:=[40]
def Dc:bB:=[41]
def Pe:bB:=[44]
def lR:bB:=[45,45,62]
def dL:bB:=[114,101,103,105,111,110]
def dO:bB:=[105,110,105,116,105,97,108]
def gX:bB:=[102,105,110,97,108]
def gV:bB:=[115,116,97,116,101]
def fR:bB:=[101,110,116,114,121]
def eI:bB:=[100,117,114,105,110,103]
def jE:bB:=[101,120,105,116]
def cY:bB:=[115,117,115,112,101,110,100]
def kGo:bB:=[103,111]
def Pf:bB:=[97,98,111,114,116]
def Xj:bB:=[106,111,105,110]
def fW:bB:=[105,109,109,101,100,105,97,116,101]
def kIf:bB:=[105,102]
def F9:bB:=[99,111,117,110,116]
def kDo:bB:=[100,111]
def fS:bB:=[104,105,115,116,111,114,121]
def Pb:bB:=[112,114,101]
def Pd:bB:=[105,110,112,117,116]
def Ft:bB:=[111,117,116,112,117,116]
def aE2:bB:=[118,97,114]
def words:List bB:=[[97,98,111,114,116],[99,104,97,114,116],[99,111,117,110,116],[100,111],[100,117,114,105,110,103],[101,110,116,114,121],[101,120,105,116],[102,105,110,97,108],[103,111],[104,105,115,116,111,114,121],[105,109,109,101,100,105,97,116,101],[105,102],[105,110,105,116,105,97,108],[105,110,112,117,116],[106,111,105,110],[111,117,116,112,117,116],[112,114,101],[114,101,103,105,111,110],[115,116,97,116,101],[115,117,115,112,101,110,100],[118,97,114]]
def kw (s:bB):Bool:=words.any (· == s)
def signs:List (List (bB×Nat)):=[[([124,124],16)],[([38,38],15)],[([61,61],11),([33,61],12),([60],13),([60,61],14)],[([43],6),([45],7)],[([42],8),([47],9),([37],10)]]
def rJ:List (bB×Nat)->bB->Nat
 | [],_=>0
 | (t,c)::r,s=>if t=s then c else rJ r s
def iI (tight:Nat) (s:bB):Nat:=rJ (signs.getD tight []) s
def bG (s:bB):Nat:=if s=tQ then 4 else if s=aE3 then 5 else 0
def dV (s:bB):Nat:=if s=Pd then 1 else if s=Ft then 2 else if s=aE2 then 3 else 0
def cX (s:bB):Option Nat:=if s=kGo then some 0 else if s=Pf then some 1 else if s=Xj then some 2 else none
def val (s:bB):Nat:=s.foldl (fun n c=>n*10+(c.toNat-48)) 0
abbrev F:=Nat×Nat
section
variable (L:List Lx.fK)
def Hk (i:Nat):Lx.fK:=L.getD i ⟨4,[],0⟩
def tx (i:Nat):bB:=(Hk L i).text
def kd (i:Nat):Nat:=(Hk L i).kind
def pl (i:Nat):Nat:=(Hk L i).place
def nm (i:Nat):Except F bB:=if kd L i≠1\/kw (tx L i)=true then .error (3,pl L i) else if 12<(tx L i).length then .error (4,pl L i) else .ok (tx L i)
def vD (s:bB) (i:Nat):Except F Unit:=if tx L i=s then .ok () else .error (3,pl L i)
def bM (i:Nat):Except F Nat:=if kd L i=2 then .ok (val (tx L i)) else .error (3,pl L i)
def kH (below:Nat->Except F (E×Nat)) (code:bB->Nat):Nat->E->Nat->Except F (E×Nat)
 | 0,e,i=>.ok (e,i)
 | f+1,e,i=>
  if code (tx L i)=0 then .ok (e,i)
  else match below (i+1) with
   | .error x=>.error x
   | .ok (r,j)=>kH below code f (Kn (code (tx L i)) e r) j
def yA (below:Nat->Except F (E×Nat)) (code:bB->Nat) (i:Nat):Except F (E×Nat):=
 match below i with
 | .error x=>.error x
 | .ok (e,j)=>kH L below code L.length e j
def yQ (one:Nat->Except F (E×Nat)):Nat->Nat->Except F (E×Nat)
 | 0=>one
 | t+1=>yA L (yQ one t) (iI (4-t))
def one:Nat->Nat->Except F (E×Nat)
 | 0,i=>.error (4,pl L i)
 | k+1,i=>
  if bG (tx L i)≠0 then
   match one k (i+1) with
   | .error x=>.error x
   | .ok (e,j)=>.ok (Ri (bG (tx L i)) e,j)
  else if tx L i=F8 then
   match yQ L (one k) 5 (i+1) with
   | .error x=>.error x
   | .ok (e,j)=>if tx L j=Dc then .ok (e,j+1) else .error (3,pl L j)
  else if tx L i=Pb then
   if tx L (i+1)=F8 then
    match nm L (i+2) with
    | .error x=>.error x
    | .ok s=>if tx L (i+3)=Dc then .ok (sM 3 s,i+4) else .error (3,pl L (i+3))
   else .error (3,pl L (i+1))
  else if kd L i=2 then .ok (Wc (val (tx L i)),i+1)
  else match nm L i with
   | .error x=>.error x
   | .ok s=>.ok (sM 2 s,i+1)
def eK (i:Nat):Except F (E×Nat):=yQ L (one L 7) 5 i
def sets:Nat->List iQ->Nat->Except F (List iQ×Nat)
 | 0,l,i=>.ok (l,i)
 | f+1,l,i=>
  match nm L i with
  | .error x=>.error x
  | .ok s=>
   if tx L (i+1)=rG then
    match eK L (i+2) with
    | .error x=>.error x
    | .ok (e,j)=>if tx L j=Pe then sets f (l++[⟨s,e⟩]) (j+1) else .ok (l++[⟨s,e⟩],j)
   else .error (3,pl L (i+1))
def times (i:Nat):Except F Nat:=
 match bM L i with
 | .error x=>.error x
 | .ok n=>if n<1\/1000<n then .error (4,pl L i) else .ok n
def cond (i:Nat):Except F (Nat×E×Nat):=
 if tx L i=kIf then
  if tx L (i+1)=F9 then
   match times L (i+2) with
   | .error x=>.error x
   | .ok n=>
    match eK L (i+3) with
    | .error x=>.error x
    | .ok (e,j)=>.ok (n,e,j)
  else
   match eK L (i+1) with
   | .error x=>.error x
   | .ok (e,j)=>.ok (1,e,j)
 else .ok (1,.nil,i)
def fN (i:Nat):Except F (List iQ×Nat):=if tx L i=kDo then sets L L.length [] (i+1) else .ok ([],i)
def jU (s:bB) (i:Nat):Nat:=if tx L i=s then i+1 else i
def sX (kind i:Nat):Except F (Wy×Nat):=
 match cond L (jU L fW i) with
 | .error x=>.error x
 | .ok (n,e,j)=>
  match fN L j with
  | .error x=>.error x
  | .ok (l,m)=>
   if tx L m=lR then
    match nm L (m+1) with
    | .error x=>.error x
    | .ok s=>
     if tx L (jU L fS (m+2))=eS then .ok (⟨kind,decide (tx L i=fW),e,n,l,s,decide (tx L (m+2)=fS)⟩,jU L fS (m+2)+1)
     else .error (3,pl L (jU L fS (m+2)))
   else .error (3,pl L m)
def oH (i:Nat):Except F Nat:=if tx L i=eS then .ok (i+1) else .error (3,pl L i)
section
variable (ρ:Type) (aU:Nat->Nat->Except F (List ρ×Nat×Nat))
def eA (s:cC ρ) (c i:Nat):Except F (Option (cC ρ×Nat×Nat)):=
 match cX (tx L i) with
 | some k=>
  match sX L k (i+1) with
  | .error x=>.error x
  | .ok (y,j)=>.ok (some ({ s with ways:=s.ways++[y] },c,j))
 | none=>
  if tx L i=dL then
   match aU c (i+1) with
   | .error x=>.error x
   | .ok (l,c',j)=>.ok (some ({ s with regions:=s.regions++[l] },c',j))
  else if tx L i=fR then
   match sets L L.length [] (i+1) with
   | .error x=>.error x
   | .ok (l,j)=>match oH L j with
    | .error x=>.error x
    | .ok m=>.ok (some ({ s with enter:=s.enter++l },c,m))
  else if tx L i=eI then
   match sets L L.length [] (i+1) with
   | .error x=>.error x
   | .ok (l,j)=>match oH L j with
    | .error x=>.error x
    | .ok m=>.ok (some ({ s with during:=s.during++l },c,m))
  else if tx L i=jE then
   match sets L L.length [] (i+1) with
   | .error x=>.error x
   | .ok (l,j)=>match oH L j with
    | .error x=>.error x
    | .ok m=>.ok (some ({ s with leave:=s.leave++l },c,m))
  else if tx L i=cY then
   match s.rests with
   | .nil=>
    match eK L (i+1) with
    | .error x=>.error x
    | .ok (e,j)=>match oH L j with
     | .error x=>.error x
     | .ok m=>.ok (some ({ s with rests:=e },c,m))
   | .node _ _ _ _ _=>.error (9,pl L (i+1))
  else .ok none
def parts:Nat->cC ρ->Nat->Nat->Except F (cC ρ×Nat×Nat)
 | 0,s,c,i=>.ok (s,c,i)
 | f+1,s,c,i=>
  match eA L ρ aU s c i with
  | .error x=>.error x
  | .ok none=>if tx L i=jD then .ok (s,c,i+1) else .error (3,pl L i)
  | .ok (some (s',c',j))=>parts f s' c' j
def cJ (fi la:Bool) (c i:Nat):Except F (cC ρ×Nat×Nat):=
 if tx L i=gV then
  if 24≤c then .error (4,pl L (i+1))
  else match nm L (i+1) with
   | .error x=>.error x
   | .ok s=>
    if tx L (i+2)=eS then .ok (⟨s,fi,la,[],[],[],.nil,[],[]⟩,c+1,i+3)
    else if tx L (i+2)=eT then parts L ρ aU L.length ⟨s,fi,la,[],[],[],.nil,[],[]⟩ (c+1) (i+3)
    else .error (3,pl L (i+2))
 else .error (3,pl L i)
def states:Nat->List (cC ρ)->Nat->Nat->Except F (List (cC ρ)×Nat×Nat)
 | 0,l,c,i=>.ok (l,c,i)
 | f+1,l,c,i=>
  if tx L i=dO\/tx L i=gX\/tx L i=gV then
   match cJ L ρ aU (decide (tx L i=dO)) (decide (tx L (jU L dO i)=gX)) c (jU L gX (jU L dO i)) with
   | .error x=>.error x
   | .ok (s,c',j)=>states f (l++[s]) c' j
  else if tx L i=jD then .ok (l,c,i+1)
  else .error (3,pl L i)
end
def aU:(k:Nat)->Nat->Nat->Except F (List (St k)×Nat×Nat)
 | 0,_,i=>.error (4,pl L i)
 | k+1,c,i=>if tx L i=eT then states L (St k) (aU k) L.length [] c (i+1) else .error (3,pl L i)
def first (i:Nat):Except F (Int×Nat):=
 if tx L i=rG then
  if tx L (i+1)=tQ then
   match bM L (i+2) with
   | .error x=>.error x
   | .ok n=>.ok (-(n:Int),i+3)
  else
   match bM L (i+1) with
   | .error x=>.error x
   | .ok n=>.ok ((n:Int),i+2)
 else .ok (0,i)
def cZ (kind i:Nat):Except F (bJ×Nat):=
 match nm L i with
 | .error x=>.error x
 | .ok s=>
  match first L (i+1) with
  | .error x=>.error x
  | .ok (n,j)=>if tx L j=eS then .ok (⟨kind,s,n⟩,j+1) else .error (3,pl L j)
def jW:Nat->List bJ->List (List (St 6))->Nat->Nat->Except F (List bJ×List (List (St 6))×Nat)
 | 0,vs,rs,_,i=>.ok (vs,rs,i)
 | f+1,vs,rs,c,i=>
  if dV (tx L i)≠0 then
   if 20≤vs.length then .error (4,pl L (i+1))
   else match cZ L (dV (tx L i)) (i+1) with
    | .error x=>.error x
    | .ok (v,j)=>jW f (vs++[v]) rs c j
  else if tx L i=dL then
   match aU L 6 c (i+1) with
   | .error x=>.error x
   | .ok (l,c',j)=>jW f vs (rs++[l]) c' j
  else if tx L i=jD then .ok (vs,rs,i+1)
  else .error (3,pl L i)
def dH:Except F fU:=
 if tx L 0=G0 then
  match nm L 1 with
  | .error x=>.error x
  | .ok s=>
   if tx L 2=eT then
    match jW L L.length [] [] 0 3 with
    | .error x=>.error x
    | .ok (vs,rs,i)=>if kd L i=4 then .ok ⟨s,vs,rs⟩ else .error (3,pl L i)
   else .error (3,pl L 2)
 else .error (3,pl L 0)
end
end Px
end
section
open Go.RowKit Go.Deep Px
def sv (s:bB):Value:=.string ⟨s.toArray⟩
def aX (A A':Nat->Prop) (w w':World):Prop:=∀b,A b->b<w.heap.size->A' b/\w'.heap[b]?=w.heap[b]?
theorem aX.trans {A A' A'':Nat->Prop}{w w' w'':World}(h:aX A A' w w') (k:aX A' A'' w' w'') (hs:w.heap.size≤w'.heap.size):aX A A'' w w'':=fun b ha hb=>
 ⟨(k b (h b ha hb).1 (by omega)).1,(k b (h b ha hb).1 (by omega)).2.trans (h b ha hb).2⟩
theorem aB {w:World}{b:Nat}{o:Obj}(h:w.heap[b]?=some o):b<w.heap.size:=(Array.getElem?_eq_some_iff.1 h).1
def uX (A:Nat->Prop) (w:World) (e size:Nat) (v:Value) (n:Nat) (xs:List Value):Prop:=w.ownsRow 0 e size v n xs/\∀g,v.ownBlock=some g->A g
theorem dK {A A':Nat->Prop}{w w':World}{B e size n:Nat}{v:Value}{xs:List Value}(h:w.ownsRow B e size v n xs) (ha:∀g,v.ownBlock=some g->A g) (k:aX A A' w w'):w'.ownsRow B e size v n xs:=by
 refine ⟨h.1,?_⟩
 rcases h.2 with hn|⟨g,cap,cur,rfl,hb,hgg,rest⟩
 ·exact .inl hn
 ·exact .inr ⟨g,cap,cur,rfl,hb,by rw[(k g (ha g rfl) (aB hgg)).2];exact hgg,rest⟩
theorem uX.carry {A A':Nat->Prop}{w w':World}{e size n:Nat}{v:Value}{xs:List Value}(h:uX A w e size v n xs) (k:aX A A' w w'):uX A' w' e size v n xs:=
 ⟨dK h.1 h.2 k,fun g hg=>(k g (h.2 g hg) (h.1.lt g hg).2).1⟩
theorem pW {w:World}{B e size n:Nat}{v:Value}{xs:List Value}(h:w.ownsRow B e size v n xs):w.ownsRow 0 e size v n xs:=by
 refine ⟨h.1,?_⟩
 rcases h.2 with hn|⟨g,cap,cur,rfl,_,rest⟩
 ·exact .inl hn
 ·exact .inr ⟨g,cap,cur,rfl,Nat.zero_le _,rest⟩
def Rows {α:Type}(R:α->List Value->Prop):List α->List Value->Prop
 | [],xs=>xs=[]
 | a::r,xs=>∃c ys,xs=c++ys/\R a c/\Rows R r ys
theorem Rows.append {α:Type}{R:α->List Value->Prop}:∀{l m:List α}{xs ys:List Value},Rows R l xs->Rows R m ys->Rows R (l++m) (xs++ys):=by
 intro l
 induction l with
 | nil=>intro m xs ys h k;obtain rfl:xs=[]:=h;exact k
 | cons a r ih=>
  intro m xs ys h k
  obtain ⟨c,zs,rfl,hc,hr⟩:=h
  exact ⟨c,zs++ys,by rw[List.append_assoc],hc,ih hr k⟩
theorem Rows.one {α:Type}{R:α->List Value->Prop}{a:α}{c:List Value}(h:R a c):Rows R [a] c:=⟨c,[],by simp,h,rfl⟩
theorem Rows.map {α:Type}{R R':α->List Value->Prop}(hR:∀a c,R a c->R' a c):∀{l:List α}{xs:List Value},Rows R l xs->Rows R' l xs:=by
 intro l
 induction l with
 | nil=>intro xs h;exact h
 | cons a r ih=>intro xs h;obtain ⟨c,ys,rfl,hc,hr⟩:=h;exact ⟨c,ys,rfl,hR _ _ hc,ih hr⟩
theorem Rows.get {α:Type}{R:α->List Value->Prop}{k:Nat}(hk:∀a c,R a c->c.length=k):∀{l:List α}{xs:List Value},Rows R l xs->∀(i:Nat) (a:α),l[i]?=some a->∃c,R a c/\∀(j:Nat) (u:Value),c[j]?=some u->xs[i*k+j]?=some u:=by
 intro l
 induction l with
 | nil=>intro xs _ i a h;simp at h
 | cons x r ih=>
  intro xs h i a hi
  obtain ⟨c,ys,rfl,hc,hr⟩:=h
  have hl:=hk _ _ hc
  cases i with
  | zero=>
   obtain rfl:x=a:=by simpa using hi
   refine ⟨c,hc,fun j u hj=>?_⟩
   have hlt:=(List.getElem?_eq_some_iff.1 hj).1
   rw[Nat.zero_mul,Nat.zero_add,List.getElem?_append_left hlt];exact hj
  | succ i=>
   obtain ⟨d,hd,hg⟩:=ih hr i a (by simpa using hi)
   refine ⟨d,hd,fun j u hj=>?_⟩
   have e:(i+1)*k+j=c.length+(i*k+j):=by rw[Nat.add_mul,hl];omega
   rw[e,List.getElem?_append_right (by omega),Nat.add_sub_cancel_left];exact hg j u hj
def jI (A:Nat->Prop) (w:World):E->Value->Prop
 | .nil,v=>v=.pointer none
 | .node _ _ a l r,v=>∃g lv rv,v=.pointer (some ⟨g,0,none⟩)/\A g/\w.heap[g]?=some (.cells #[.int .i64 a.code,.int .i64 a.num,sv a.name,lv,rv] 335 (0,0))/\jI A w l lv/\jI A w r rv
theorem jI.carry {A A':Nat->Prop}{w w':World}(k:aX A A' w w'):∀{e:E}{v:Value},jI A w e v->jI A' w' e v:=by
 intro e
 induction e with
 | nil=>intro v h;exact h
 | node b o a l r ihl ihr=>
  intro v h
  obtain ⟨g,lv,rv,rfl,ha,hg,hl,hr⟩:=h
  obtain ⟨ha',hg'⟩:=k g ha (aB hg)
  exact ⟨g,lv,rv,rfl,ha',by rw[hg'];exact hg,ihl hl,ihr hr⟩
def mG (A:Nat->Prop) (w:World) (a:iQ) (c:List Value):Prop:=∃p,c=[sv a.name,p]/\jI A w a.e p
def cE (A:Nat->Prop) (w:World) (l:List iQ) (v:Value):Prop:=∃xs,uX A w 325 2 v l.length xs/\Rows (mG A w) l xs
def yY (A:Nat->Prop) (w:World) (a:Wy) (c:List Value):Prop:=
 ∃p q,c=[.int .i64 a.kind,.bool a.now,p,.int .i64 a.times,q,sv a.to,.bool a.back]/\jI A w a.cond p/\cE A w a.sets q
def pO (A:Nat->Prop) (w:World) (l:List Wy) (v:Value):Prop:=∃xs,uX A w 301 7 v l.length xs/\Rows (yY A w) l xs
def Wt {ρ:Type}(IsReg:List ρ->Value->Prop) (r:List ρ) (c:List Value):Prop:=∃u,c=[u]/\IsReg r u
def gI {ρ:Type}(A:Nat->Prop) (w:World) (IsReg:List ρ->Value->Prop) (l:List (List ρ)) (v:Value):Prop:=∃xs,uX A w 210 1 v l.length xs/\Rows (Wt IsReg) l xs
def Ax {ρ:Type}(A:Nat->Prop) (w:World) (IsReg:List ρ->Value->Prop) (s:cC ρ) (c:List Value):Prop:=
 ∃e d l p y r,c=[sv s.name,.bool s.first,.bool s.last,e,d,l,p,y,r]/\cE A w s.enter e/\cE A w s.during d/\cE A w s.leave l/\jI A w s.rests p/\pO A w s.ways y/\gI A w IsReg s.regions r
def aL (A:Nat->Prop) (w:World):(k:Nat)->List (St k)->Value->Prop
 | 0=>fun l v=>l=[]/\v=.slice none 0 0
 | k+1=>fun l v=>∃xs,uX A w 256 9 v l.length xs/\Rows (Ax A w (aL A w k)) l xs
def Gs (a:bJ) (c:List Value):Prop:=c=[.int .i64 a.kind,sv a.name,.int .i64 a.first]
def lY (A:Nat->Prop) (w:World) (l:List bJ) (v:Value):Prop:=∃xs,uX A w 160 3 v l.length xs/\Rows Gs l xs
section
variable {A A':Nat->Prop}{w w':World}
theorem mG.carry (k:aX A A' w w') (a:iQ) (c:List Value) (h:mG A w a c):mG A' w' a c:=by
 obtain ⟨p,rfl,hp⟩:=h;exact ⟨p,rfl,hp.carry k⟩
theorem cE.carry (k:aX A A' w w') {l:List iQ}{v:Value}(h:cE A w l v):cE A' w' l v:=by
 obtain ⟨xs,hr,hs⟩:=h;exact ⟨xs,hr.carry k,hs.map (mG.carry k)⟩
theorem yY.carry (k:aX A A' w w') (a:Wy) (c:List Value) (h:yY A w a c):yY A' w' a c:=by
 obtain ⟨p,q,rfl,hp,hq⟩:=h;exact ⟨p,q,rfl,hp.carry k,hq.carry k⟩
theorem pO.carry (k:aX A A' w w') {l:List Wy}{v:Value}(h:pO A w l v):pO A' w' l v:=by
 obtain ⟨xs,hr,hs⟩:=h;exact ⟨xs,hr.carry k,hs.map (yY.carry k)⟩
theorem gI.carry {ρ:Type}{I I':List ρ->Value->Prop}(k:aX A A' w w') (hI:∀l v,I l v->I' l v) {l:List (List ρ)}{v:Value}(h:gI A w I l v):gI A' w' I' l v:=by
 obtain ⟨xs,hr,hs⟩:=h;exact ⟨xs,hr.carry k,hs.map (fun a c ⟨u,hc,hu⟩=>⟨u,hc,hI _ _ hu⟩)⟩
theorem Ax.carry {ρ:Type}{I I':List ρ->Value->Prop}(k:aX A A' w w') (hI:∀l v,I l v->I' l v) (s:cC ρ) (c:List Value) (h:Ax A w I s c):Ax A' w' I' s c:=by
 obtain ⟨e,d,l,p,y,r,rfl,h1,h2,h3,h4,h5,h6⟩:=h
 exact ⟨e,d,l,p,y,r,rfl,h1.carry k,h2.carry k,h3.carry k,h4.carry k,h5.carry k,h6.carry k hI⟩
theorem aL.carry (k:aX A A' w w'):∀(n:Nat) (l:List (St n)) (v:Value),aL A w n l v->aL A' w' n l v:=by
 intro n
 induction n with
 | zero=>intro l v h;exact h
 | succ n ih=>intro l v h;obtain ⟨xs,hr,hs⟩:=h;exact ⟨xs,hr.carry k,hs.map (Ax.carry k ih)⟩
theorem lY.carry (k:aX A A' w w') {l:List bJ}{v:Value}(h:lY A w l v):lY A' w' l v:=by
 obtain ⟨xs,hr,hs⟩:=h;exact ⟨xs,hr.carry k,hs⟩
end
structure Fr (B:Nat) (X:List Nat) (w w':World):Prop where
 os:w'.os=w.os
 tape:w'.tape=w.tape
 output:w'.output=w.output
 size:w.heap.size≤w'.heap.size
 block:∀k,k<B->k∉X->w'.heap[k]?=w.heap[k]?
theorem Fr.refl (B:Nat) (X:List Nat) (w:World):Fr B X w w:=⟨rfl,rfl,rfl,Nat.le_refl _,fun _ _ _=>rfl⟩
theorem Fr.trans {B:Nat}{X:List Nat}{a b c:World}(h:Fr B X a b) (k:Fr B X b c):Fr B X a c:=
 ⟨k.os.trans h.os,k.tape.trans h.tape,k.output.trans h.output,Nat.le_trans h.size k.size,fun i hi hx=>(k.block i hi hx).trans (h.block i hi hx)⟩
theorem Fr.mono {B B':Nat}{X X':List Nat}{w w':World}(h:Fr B X w w') (hB:B'≤B) (hX:∀x∈X,x<B'->x∈X'):Fr B' X' w w':=
 ⟨h.os,h.tape,h.output,h.size,fun k hk hx=>h.block k (by omega) (fun hm=>hx (hX k hm hk))⟩
theorem Fr.of_below {B:Nat}{w w':World}(h:Below B w w') (X:List Nat):Fr B X w w':=⟨h.os,h.tape,h.output,h.size,fun k hk _=>h.block k hk⟩
theorem Fr.below {B:Nat}{w w':World}(h:Fr B [] w w'):Below B w w':=⟨h.os,h.tape,h.output,h.size,fun k hk=>h.block k hk (by simp)⟩
theorem Fr.alloc {B:Nat}{X:List Nat}{a w:World}(h:Fr B X a w) (hB:B≤w.heap.size) (o:Obj):Fr B X a (w.alloc o):=
 h.trans ⟨rfl,rfl,rfl,by simp,fun k hk _=>Below.heap_alloc _ _ _ (by omega)⟩
theorem Fr.setCell {B:Nat}{X:List Nat}{a w:World}(h:Fr B X a w) {p:Addr}(hp:B≤p.block\/p.block∈X) (u:Value):Fr B X a (w.setCell p u):=
 h.trans ⟨rfl,rfl,rfl,by simp[World.setCell],fun k hk hx=>Below.heap_setCell _ _ _ _ (fun e=>by rcases hp with hp|hp;omega;exact hx (e▸hp))⟩
theorem Fr.drew {B:Nat}{X:List Nat}{a w:World}(h:Fr B X a w):Fr B X a w.drew:=⟨h.os,h.tape,h.output,h.size,h.block⟩
theorem Fr.drewN {B:Nat}{X:List Nat}{a w:World}(h:Fr B X a w) (n:Nat):Fr B X a (w.drewN n):=h.trans ⟨rfl,rfl,rfl,Nat.le_refl _,fun _ _ _=>rfl⟩
theorem Fr.grown {B:Nat}{X:List Nat}{a w w':World}{row:Option Nat}(h:Fr B X a w) (hg:w.grownBy w' row) (hB:B≤w.heap.size) (hr:∀k,row=some k->B≤k\/k∈X):Fr B X a w':=
 h.trans ⟨hg.os,hg.tape,hg.output,hg.size,fun k hk hx=>hg.block k (by omega) (fun e=>by rcases hr k e.symm with h|h;omega;exact hx h)⟩
theorem Fr.cell {B:Nat}{X:List Nat}{w w':World}(h:Fr B X w w') {p:Addr}(hp:p.block<B) (hx:p.block∉X):w'.cell? p=w.cell? p:=World.cell?_of_block (w:=w) (h.block p.block hp hx)
theorem Fr.keep {X:List Nat}{w w':World}{A:Nat->Prop}(h:Fr w.heap.size X w w') (hA:∀b,A b->b∉X):aX A A w w':=fun b ha hb=>⟨ha,h.block b hb (hA b ha)⟩
end
section
open Go.RowKit Px
theorem aA {w:World}{g T:Nat}{cs:Array Value}(h:w.heap[g]?=some (.cells cs T (0,0))) (j:Nat) {u:Value}(hj:cs[j]?=some u):w.cell? ⟨g,j,none⟩=some u:=by
 simp[World.cell?,h,hj]
theorem bE (w:World) (o:Obj):(w.alloc o).heap[w.heap.size]?=some o:=heap_alloc_new w o
theorem dW {w:World}{b:Nat}{o o':Obj}(h:w.heap[b]?=some o):(w.alloc o').heap[b]?=some o:=by
 rw[Below.heap_alloc _ _ _ (aB h)];exact h
theorem aC (w:World) (o:Obj):Below w.heap.size w (w.alloc o):=(Below.refl _ _).alloc (Nat.le_refl _) _
theorem aN {w w' w'':World}(h:Below w.heap.size w w') (k:Below w'.heap.size w' w''):Below w.heap.size w w'':=h.trans (k.mono h.size)
theorem aM {w w':World}(h:Below w.heap.size w w') {a:Addr}{v:Value}(hc:w.cell? a=some v):w'.cell? a=some v:=by
 rw[h.cell (World.block_lt_of_cell? w a hc)];exact hc
theorem aH {w w':World}(h:Below w.heap.size w w') {b:Nat}{o:Obj}(hb:w.heap[b]?=some o):w'.heap[b]?=some o:=by
 rw[h.block b (aB hb)];exact hb
theorem uX.open {α:Type}{R:α->List Value->Prop}{A:Nat->Prop}{w:World}{e k:Nat}{v:Value}{l:List α}{xs:List Value}(hk:∀a c,R a c->c.length=k) (hr:uX A w e k v l.length xs) (hs:Rows R l xs) :
    ∃ad g cap,v=.slice ad l.length cap/\l.length≤maxLen/\(0<l.length->ad=some ⟨g,0,none⟩/\A g/\g<w.heap.size)/\∀(i:Nat) (a:α),l[i]?=some a->∃c,R a c/\∀(j:Nat) (u:Value),c[j]?=some u->w.cell? ⟨g,i*k+j,none⟩=some u:=by
 have hc:=fun g hg=>World.ownsRow.cells hr.1 (g:=g) hg
 have hl:=fun g hg=>World.ownsRow.lt hr.1 g hg
 have hA:=hr.2
 rcases hr.1.2 with ⟨rfl,h0⟩|⟨g,cap,cur,rfl,_,_,h2,h3,_⟩
 ·have:l=[]:=List.length_eq_zero_iff.1 h0
  subst this
  exact ⟨none,0,0,rfl,Nat.zero_le _,fun h=>absurd h (by simp),fun i a h=>absurd h (by simp)⟩
 ·refine ⟨_,g,cap,rfl,by omega,fun _=>⟨rfl,hA g rfl,(hl g rfl).2⟩,fun i a hi=>?_⟩
  obtain ⟨c,hc',hx⟩:=Rows.get hk hs i a hi
  refine ⟨c,hc',fun j u hj=>?_⟩
  have h1:=hc g rfl _ u (hx j u hj)
  have ad:(⟨g,0,none⟩:Addr).add (i*k+j)=⟨g,i*k+j,none⟩:=by unfold Addr.add;split<;>simp_all
  rw[ad] at h1
  exact h1
theorem ixV (ad:Option Addr) (g n cap k:Nat) (hk:k<n) (ha:0<n->ad=some ⟨g,0,none⟩) (w:World):(Instr.indexAt 49 (.slice ad n cap) (.int .i64 (k:Int))).run Tryz.prog w=.ok (.pointer (some ⟨g,k*3,none⟩)) w:=by
 obtain rfl:=ha (by omega)
 rw[run_indexAt_slice _ _ _ _ _ _ _ (by kernel_rfl),if_pos ⟨by omega,by omega⟩]
 have e:(sizeOf (Tryz.prog.elem 49)).run Tryz.prog w=.ok 3 w:=by kernel_rfl
 rw[e]
 simp[Result.andThen,Addr.add]
 try (intro h;exact h.symm)
theorem Ve (ad:Option Addr) (g n cap k:Nat) (hk:k<n) (ha:0<n->ad=some ⟨g,0,none⟩) (w:World):(Instr.indexAt 210 (.slice ad n cap) (.int .i64 (k:Int))).run Tryz.prog w=.ok (.pointer (some ⟨g,k*9,none⟩)) w:=by
 obtain rfl:=ha (by omega)
 rw[run_indexAt_slice _ _ _ _ _ _ _ (by kernel_rfl),if_pos ⟨by omega,by omega⟩]
 have e:(sizeOf (Tryz.prog.elem 210)).run Tryz.prog w=.ok 9 w:=by kernel_rfl
 rw[e]
 simp[Result.andThen,Addr.add]
 try (intro h;exact h.symm)
theorem ixS (ad:Option Addr) (g n cap k:Nat) (hk:k<n) (ha:0<n->ad=some ⟨g,0,none⟩) (w:World):(Instr.indexAt 252 (.slice ad n cap) (.int .i64 (k:Int))).run Tryz.prog w=.ok (.pointer (some ⟨g,k*2,none⟩)) w:=by
 obtain rfl:=ha (by omega)
 rw[run_indexAt_slice _ _ _ _ _ _ _ (by kernel_rfl),if_pos ⟨by omega,by omega⟩]
 have e:(sizeOf (Tryz.prog.elem 252)).run Tryz.prog w=.ok 2 w:=by kernel_rfl
 rw[e]
 simp[Result.andThen,Addr.add]
 try (intro h;exact h.symm)
theorem ixW (ad:Option Addr) (g n cap k:Nat) (hk:k<n) (ha:0<n->ad=some ⟨g,0,none⟩) (w:World):(Instr.indexAt 254 (.slice ad n cap) (.int .i64 (k:Int))).run Tryz.prog w=.ok (.pointer (some ⟨g,k*7,none⟩)) w:=by
 obtain rfl:=ha (by omega)
 rw[run_indexAt_slice _ _ _ _ _ _ _ (by kernel_rfl),if_pos ⟨by omega,by omega⟩]
 have e:(sizeOf (Tryz.prog.elem 254)).run Tryz.prog w=.ok 7 w:=by kernel_rfl
 rw[e]
 simp[Result.andThen,Addr.add]
 try (intro h;exact h.symm)
theorem ixR (ad:Option Addr) (g n cap k:Nat) (hk:k<n) (ha:0<n->ad=some ⟨g,0,none⟩) (w:World):(Instr.indexAt 50 (.slice ad n cap) (.int .i64 (k:Int))).run Tryz.prog w=.ok (.pointer (some ⟨g,k,none⟩)) w:=by
 obtain rfl:=ha (by omega)
 rw[run_indexAt_slice _ _ _ _ _ _ _ (by kernel_rfl),if_pos ⟨by omega,by omega⟩]
 have e:(sizeOf (Tryz.prog.elem 50)).run Tryz.prog w=.ok 1 w:=by kernel_rfl
 rw[e]
 simp[Result.andThen,Addr.add]
 try (intro h;exact h.symm)
theorem ixI (ad:Option Addr) (g n cap k:Nat) (hk:k<n) (ha:0<n->ad=some ⟨g,0,none⟩) (w:World):(Instr.indexAt 23 (.slice ad n cap) (.int .i64 (k:Int))).run Tryz.prog w=.ok (.pointer (some ⟨g,k,none⟩)) w:=by
 obtain rfl:=ha (by omega)
 rw[run_indexAt_slice _ _ _ _ _ _ _ (by kernel_rfl),if_pos ⟨by omega,by omega⟩]
 have e:(sizeOf (Tryz.prog.elem 23)).run Tryz.prog w=.ok 1 w:=by kernel_rfl
 rw[e]
 simp[Result.andThen,Addr.add]
 try (intro h;exact h.symm)
end
end Go.Proofs.YtcdbhoknhnimcaaGreatDoor
