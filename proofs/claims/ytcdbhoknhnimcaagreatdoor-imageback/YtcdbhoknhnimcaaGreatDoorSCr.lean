import Derived.Deep.Trees
import Derived.Below
import Derived.Laws.OwnMore
import Derived.Deep.Draws
import Derived.Test.YtcdbhoknhnimcaaGreatDoorProg
import Derived.WalkKit
import Derived.WalkSpells
import Derived.WalkLawsBesides
import Derived.Laws.EntriesVeiled
namespace Go.Proofs.YtcdbhoknhnimcaaGreatDoor
section
namespace Lx
def rV (c:UInt8):Bool:=c==32||c==9||c==10
def gA (c:UInt8):Bool:=decide (48≤c.toNat)&&decide (c.toNat≤57)
def aA3 (c:UInt8):Bool:=(decide (97≤c.toNat)&&decide (c.toNat≤122))||(decide (65≤c.toNat)&&decide (c.toNat≤90))||c==95
def nJ (c:UInt8):Bool:=aA3 c||gA c
def inl (c:UInt8):Bool:=c != 10
def sk:Bool->List UInt8->Nat
 | _,[]=>0
 | true,c::r=>if c==10 then 1+sk false r else 1+sk true r
 | false,c::r=>if rV c then 1+sk false r else if c==35 then 1+sk true r else 0
def wh (p:UInt8->Bool) (u:List UInt8):Nat:=(u.takeWhile p).length
def marks:List (List UInt8):=[[45,45,62],[58,61],[61,61],[33,61],[60,61],[38,38],[124,124],[60],[43],[45],[42],[47],[37],[33],[40],[41],[123],[125],[59],[58],[44]]
def mO:List (List UInt8)->List UInt8->Nat
 | [],_=>0
 | m::r,u=>if m.isPrefixOf u then m.length else mO r u
def mk (u:List UInt8):Nat:=mO marks u
def rd:List UInt8->Nat×Nat
 | []=>(0,0)
 | c::r=>if gA c then (2,wh gA (c::r)) else if nJ c then (1,wh nJ (c::r)) else if mk (c::r)=0 then (0,0) else (3,mk (c::r))
def Ax (kind len n:Nat):Nat:=if kind=0 then 3 else if kind=2/\18<len then 4 else if 600≤n then 4 else 0
structure fJ where
 kind:Nat
 text:List UInt8
 place:Nat
def oI (u:List UInt8) (p:Nat):List fJ->List UInt8->Nat->Prop
 | [],u',p'=>u'=u/\p'=p
 | t::r,u',p'=>u.drop (sk false u)≠[]/\t=⟨(rd (u.drop (sk false u))).1,(u.drop (sk false u)).take (rd (u.drop (sk false u))).2,p+sk false u⟩/\
    (rd (u.drop (sk false u))).1≠0/\¬((rd (u.drop (sk false u))).1=2/\18<(rd (u.drop (sk false u))).2)/\
    oI ((u.drop (sk false u)).drop (rd (u.drop (sk false u))).2) (p+sk false u+(rd (u.drop (sk false u))).2) r u' p'
theorem I6 {l m:List fJ}:∀{u:List UInt8}{p:Nat}{u1:List UInt8}{p1:Nat}{u2:List UInt8}{p2:Nat},oI u p l u1 p1->oI u1 p1 m u2 p2->oI u p (l++m) u2 p2:=by
 induction l with
 | nil=>intro u p u1 p1 u2 p2 h1 h2;obtain ⟨rfl,rfl⟩:=h1;exact h2
 | cons t r ih=>
  intro u p u1 p1 u2 p2 h1 h2
  obtain ⟨a,b,c,d,e⟩:=h1
  exact ⟨a,b,c,d,ih e h2⟩
theorem tH {l:List fJ}:∀{l':List fJ}{u:List UInt8}{p:Nat}{u1:List UInt8}{p1:Nat}{u2:List UInt8}{p2:Nat},oI u p l u1 p1->oI u p l' u2 p2->l.length≤l'.length->∃m,l'=l++m/\oI u1 p1 m u2 p2:=by
 induction l with
 | nil=>intro l' u p u1 p1 u2 p2 h1 h2 _;obtain ⟨rfl,rfl⟩:=h1;exact ⟨l',rfl,h2⟩
 | cons t r ih=>
  intro l' u p u1 p1 u2 p2 h1 h2 hl
  cases l' with
  | nil=>simp at hl
  | cons t' r'=>
   obtain ⟨_,b,_,_,e⟩:=h1
   obtain ⟨_,b',_,_,e'⟩:=h2
   obtain ⟨m,rfl,hm⟩:=ih e e' (by simpa using hl)
   exact ⟨m,by rw[b,b'];rfl,hm⟩
def Ok (s:List UInt8) (l:List fJ):Prop:=l.length≤600/\∃u p,oI s 0 l u p/\u.drop (sk false u)=[]
def Cp (s:List UInt8) (e q:Nat):Prop:=∃l u p,oI s 0 l u p/\l.length≤600/\u.drop (sk false u)≠[]/\q=p+sk false u/\e=Ax (rd (u.drop (sk false u))).1 (rd (u.drop (sk false u))).2 l.length/\e≠0
theorem cN4 {s:List UInt8}{l l':List fJ}(h:Ok s l) (h':Ok s l'):l=l':=by
 have key:∀{l l':List fJ},Ok s l->Ok s l'->l.length≤l'.length->l=l':=by
  intro l l' h h' hl
  obtain ⟨_,u,p,r,e⟩:=h
  obtain ⟨_,u',p',r',e'⟩:=h'
  obtain ⟨m,rfl,hm⟩:=tH r r' hl
  cases m with
  | nil=>simp
  | cons t m=>exact absurd e hm.1
 rcases Nat.le_total l.length l'.length with hl|hl
 ·exact key h h' hl
 ·exact (key h' h hl).symm
theorem cF1 {k len n:Nat}(h0:k≠0) (h1:¬(k=2/\18<len)) (he:Ax k len n≠0):600≤n:=by
 unfold Ax at he
 rw[if_neg h0,if_neg h1] at he
 by_cases h:600≤n
 ·exact h
 ·rw[if_neg h] at he;exact absurd rfl he
theorem cH2 {s:List UInt8}{l:List fJ}{e q:Nat}(h:Ok s l) (h':Cp s e q):False:=by
 obtain ⟨hn,u,p,r,hu⟩:=h
 obtain ⟨l',u',p',r',hn',hu',hq,he,he0⟩:=h'
 rcases Nat.le_total l.length l'.length with hl|hl
 ·obtain ⟨m,rfl,hm⟩:=tH r r' hl
  cases m with
  | nil=>obtain ⟨rfl,rfl⟩:=hm;exact hu' hu
  | cons t m=>exact hm.1 hu
 ·obtain ⟨m,rfl,hm⟩:=tH r' r hl
  cases m with
  | nil=>obtain ⟨rfl,rfl⟩:=hm;exact hu' hu
  | cons t m=>
   have:=cF1 hm.2.2.1 hm.2.2.2.1 (by rw[<-he];exact he0)
   simp at hn;omega
theorem cI6:∀(b:Bool) (u:List UInt8),sk b u≤u.length:=by
 intro b u
 induction u generalizing b with
 | nil=>cases b<;>simp[sk]
 | cons c r ih=>
  have h1:=ih true;have h2:=ih false
  cases b<;>simp only[sk,List.length_cons]<;>repeat' split
  all_goals omega
theorem aZ8 (p:UInt8->Bool) (u:List UInt8):wh p u≤u.length:=List.Sublist.length_le (List.takeWhile_sublist p)
theorem mD (p:UInt8->Bool) (c:UInt8) (r:List UInt8):wh p (c::r)=if p c then 1+wh p r else 0:=by
 unfold wh;rw[List.takeWhile_cons];split<;>simp[Nat.add_comm]
theorem bQ6 (u:List UInt8):sk true u=wh inl u+sk false (u.drop (wh inl u)):=by
 induction u with
 | nil=>simp[sk,wh]
 | cons c r ih=>
  rw[mD]
  by_cases h:c=10
  ·subst h;simp[sk,inl,rV]
  ·have hi:inl c=true:=by simp[inl,h]
   rw[if_pos hi]
   have hd:List.drop (1+wh inl r) (c::r)=r.drop (wh inl r):=by rw[Nat.add_comm,List.drop_succ_cons]
   rw[hd]
   simp only[sk,beq_iff_eq,h,if_false]
   rw[ih];omega
theorem aT5 (M:List (List UInt8)) (u:List UInt8):mO M u≤u.length:=by
 induction M with
 | nil=>simp[mO]
 | cons m r ih=>
  unfold mO;split
  ·exact List.IsPrefix.length_le (List.isPrefixOf_iff_prefix.1 ‹_›)
  ·exact ih
theorem cK0 (u:List UInt8):mk u≤u.length:=aT5 marks u
theorem lE (c:UInt8) (r:List UInt8):rd (c::r)=if gA c then (2,wh gA (c::r)) else if nJ c then (1,wh nJ (c::r)) else if mk (c::r)=0 then (0,0) else (3,mk (c::r)):=rfl
theorem bD5 (u:List UInt8):(rd u).2≤u.length:=by
 cases u with
 | nil=>simp[rd]
 | cons c r=>
  rw[lE]
  split
  ·exact aZ8 _ _
  ·split
   ·exact aZ8 _ _
   ·split
    ·simp
    ·exact cK0 _
theorem cB3 (u:List UInt8) (h:(rd u).1≠0):0<(rd u).2:=by
 cases u with
 | nil=>simp[rd] at h
 | cons c r=>
  rw[lE] at h ⊢
  split
  ·rw[mD,if_pos ‹_›];show 0<1+_;omega
  ·rename_i h1
   rw[if_neg h1] at h
   split
   ·rw[mD,if_pos ‹_›];show 0<1+_;omega
   ·rename_i h2
    rw[if_neg h2] at h
    split
    ·rename_i h3;rw[if_pos h3] at h;exact absurd rfl h
    ·show 0<mk _;omega
theorem aL3 (u:List UInt8):(rd u).1≤3:=by
 cases u with
 | nil=>simp[rd]
 | cons c r=>
  rw[lE]
  split
  ·simp
  ·split
   ·simp
   ·split<;>simp
def fG (s:List UInt8) (k:Nat):Nat:=k+sk false (s.drop k)
def aB3 (p:UInt8->Bool) (s:List UInt8) (k:Nat):Nat:=k+wh p (s.drop k)
theorem sL {p:UInt8->Bool}{s:List UInt8}{k:Nat}{c:UInt8}(h:s[k]?=some c) (hp:p c=true):aB3 p s k=aB3 p s (k+1):=by
 obtain ⟨hk,hc⟩:=List.getElem?_eq_some_iff.1 h
 unfold aB3;rw[List.drop_eq_getElem_cons hk,mD,hc,if_pos hp];omega
theorem vU {p:UInt8->Bool}{s:List UInt8}{k:Nat}{c:UInt8}(h:s[k]?=some c) (hp:p c=false):aB3 p s k=k:=by
 obtain ⟨hk,hc⟩:=List.getElem?_eq_some_iff.1 h
 unfold aB3;rw[List.drop_eq_getElem_cons hk,mD,hc,hp];rfl
theorem sM {p:UInt8->Bool}{s:List UInt8}{k:Nat}(h:s.length≤k):aB3 p s k=k:=by
 unfold aB3;rw[List.drop_eq_nil_of_le h];rfl
theorem bC7 {p:UInt8->Bool}{s:List UInt8}{k:Nat}(h:k≤s.length):k≤aB3 p s k/\aB3 p s k≤s.length:=by
 have:=aZ8 p (s.drop k);simp only[List.length_drop] at this;unfold aB3;omega
theorem A5 {s:List UInt8}{k:Nat}{c:UInt8}(h:s[k]?=some c) (hp:rV c=true):fG s k=fG s (k+1):=by
 obtain ⟨hk,hc⟩:=List.getElem?_eq_some_iff.1 h
 unfold fG;rw[List.drop_eq_getElem_cons hk,hc,sk,if_pos hp];omega
theorem xQ {s:List UInt8}{k:Nat}(h:s[k]?=some 35):fG s k=fG s (aB3 inl s k):=by
 obtain ⟨hk,hc⟩:=List.getElem?_eq_some_iff.1 h
 have e:aB3 inl s k=k+1+wh inl (s.drop (k+1)):=by
  unfold aB3;rw[List.drop_eq_getElem_cons hk,mD,hc,if_pos (by decide)];omega
 rw[e]
 unfold fG;rw[List.drop_eq_getElem_cons hk,hc,sk,if_neg (by decide),if_pos (by decide),bQ6,List.drop_drop];omega
theorem aQ9 {s:List UInt8}{k:Nat}{c:UInt8}(h:s[k]?=some c) (hp:rV c=false) (hq:c≠35):fG s k=k:=by
 obtain ⟨hk,hc⟩:=List.getElem?_eq_some_iff.1 h
 unfold fG;rw[List.drop_eq_getElem_cons hk,hc,sk,hp,if_neg (by simp),if_neg (by simpa using hq)];rfl
theorem aD7 {s:List UInt8}{k:Nat}(h:s.length≤k):fG s k=k:=by
 unfold fG;rw[List.drop_eq_nil_of_le h];rfl
theorem yM {s:List UInt8}{k:Nat}(h:k≤s.length):k≤fG s k/\fG s k≤s.length:=by
 have:=cI6 false (s.drop k);simp only[List.length_drop] at this;unfold fG;omega
theorem uC {s:List UInt8}{k:Nat}(h:s[k]?=some 35):k<aB3 inl s k:=by
 obtain ⟨hk,hc⟩:=List.getElem?_eq_some_iff.1 h
 unfold aB3;rw[List.drop_eq_getElem_cons hk,mD,hc,if_pos (by decide)];omega
def To (s:List UInt8) (l:List fJ) (k:Nat):Prop:=k≤s.length/\oI s 0 l (s.drop k) k
theorem bX1 (s:List UInt8):To s [] 0:=⟨Nat.zero_le _,rfl,rfl⟩
theorem bX2 {s:List UInt8}{l:List fJ}{k a:Nat}(h:To s l k) (ha:a=fG s k) (hl:a<s.length) (h0:(rd (s.drop a)).1≠0) (h1:¬((rd (s.drop a)).1=2/\18<(rd (s.drop a)).2)) :
    To s (l++[⟨(rd (s.drop a)).1,(s.drop a).take (rd (s.drop a)).2,a⟩]) (a+(rd (s.drop a)).2):=by
 have hd:(s.drop k).drop (sk false (s.drop k))=s.drop a:=by rw[List.drop_drop,ha];rfl
 have hr:=bD5 (s.drop a);rw[List.length_drop] at hr
 refine ⟨by omega,I6 h.2 ?_⟩
 refine ⟨?_,?_,?_,?_,?_⟩
 ·rw[hd];intro e;have:=congrArg List.length e;simp at this;omega
 ·rw[hd,ha];rfl
 ·rw[hd];exact h0
 ·rw[hd];exact h1
 ·rw[hd,List.drop_drop];exact ⟨rfl,by rw[ha];rfl⟩
theorem cM8 {s:List UInt8}{l:List fJ}{k:Nat}(h:To s l k) (hn:l.length≤600) (ha:s.length≤fG s k):Ok s l:=
 ⟨hn,_,_,h.2,by rw[List.drop_drop];exact List.drop_eq_nil_of_le ha⟩
theorem cG9 {s:List UInt8}{l:List fJ}{k a e:Nat}(h:To s l k) (hn:l.length≤600) (ha:a=fG s k) (hl:a<s.length) (he:e=Ax (rd (s.drop a)).1 (rd (s.drop a)).2 l.length) (h0:e≠0):Cp s e a:=by
 have hd:(s.drop k).drop (sk false (s.drop k))=s.drop a:=by rw[List.drop_drop,ha];rfl
 refine ⟨l,_,_,h.2,hn,?_,ha,?_,h0⟩
 ·rw[hd];intro e;have:=congrArg List.length e;simp at this;omega
 ·rw[hd];exact he
end Lx
end
section
namespace Px
open Go.Deep (BT)
abbrev bA:=List UInt8
structure Nd where
 code:Nat
 num:Int
 name:bA
abbrev E:=BT Nd
def bV8 (n:Int):E:=.node 0 0 ⟨1,n,[]⟩ .nil .nil
def rT (c:Nat) (s:bA):E:=.node 0 0 ⟨c,0,s⟩ .nil .nil
def bL6 (c:Nat) (e:E):E:=.node 0 0 ⟨c,0,[]⟩ e .nil
def aW7 (c:Nat) (l r:E):E:=.node 0 0 ⟨c,0,[]⟩ l r
structure gX where
 name:bA
 e:E
structure Wy where
 kind:Nat
 now:Bool
 cond:E
 times:Nat
 sets:List gX
 to:bA
 back:Bool
structure bM (ρ:Type) where
 name:bA
 first:Bool
 last:Bool
 enter:List gX
 during:List gX
 leave:List gX
 rests:E
 ways:List Wy
 regions:List (List ρ)
def St:Nat->Type
 | 0=>Unit
 | k+1=>bM (St k)
structure bH where
 kind:Nat
 name:bA
 first:Int
structure fQ where
 name:bA
 vars:List bH
 regions:List (List (St 6))
def D8:bA:=[99,104,97,114,116]
def eQ:bA:=[123]
def iJ:bA:=[125]
def eP:bA:=[59]
def qE:bA:=[58,61]
def sV:bA:=[45]
def cK6:bA:=[33]
def D6:bA:=[40]
def aH1:bA:=[41]
def bH5:bA:=[44]
def kU:bA:=[45,45,62]
def dC:bA:=[114,101,103,105,111,110]
def dG:bA:=[105,110,105,116,105,97,108]
def aB2:bA:=[102,105,110,97,108]
def aB1:bA:=[115,116,97,116,101]
def fN:bA:=[101,110,116,114,121]
def eC:bA:=[100,117,114,105,110,103]
def iK:bA:=[101,120,105,116]
def cL:bA:=[115,117,115,112,101,110,100]
def Di:bA:=[103,111]
def bH6:bA:=[97,98,111,114,116]
def bZ0:bA:=[106,111,105,110]
def fS:bA:=[105,109,109,101,100,105,97,116,101]
def Cl:bA:=[105,102]
def D7:bA:=[99,111,117,110,116]
def Cu:bA:=[100,111]
def fP:bA:=[104,105,115,116,111,114,121]
def bH3:bA:=[112,114,101]
def bH4:bA:=[105,110,112,117,116]
def aM5:bA:=[111,117,116,112,117,116]
def cK5:bA:=[118,97,114]
def words:List bA:=[[97,98,111,114,116],[99,104,97,114,116],[99,111,117,110,116],[100,111],[100,117,114,105,110,103],[101,110,116,114,121],[101,120,105,116],[102,105,110,97,108],[103,111],[104,105,115,116,111,114,121],[105,109,109,101,100,105,97,116,101],[105,102],[105,110,105,116,105,97,108],[105,110,112,117,116],[106,111,105,110],[111,117,116,112,117,116],[112,114,101],[114,101,103,105,111,110],[115,116,97,116,101],[115,117,115,112,101,110,100],[118,97,114]]
def kw (s:bA):Bool:=words.any (· == s)
def signs:List (List (bA×Nat)):=[[([124,124],16)],[([38,38],15)],[([61,61],11),([33,61],12),([60],13),([60,61],14)],[([43],6),([45],7)],[([42],8),([47],9),([37],10)]]
def qH:List (bA×Nat)->bA->Nat
 | [],_=>0
 | (t,c)::r,s=>if t=s then c else qH r s
def aK3 (tight:Nat) (s:bA):Nat:=qH (signs.getD tight []) s
def bG (s:bA):Nat:=if s=sV then 4 else if s=cK6 then 5 else 0
def dO (s:bA):Nat:=if s=bH4 then 1 else if s=aM5 then 2 else if s=cK5 then 3 else 0
def cG (s:bA):Option Nat:=if s=Di then some 0 else if s=bH6 then some 1 else if s=bZ0 then some 2 else none
def val (s:bA):Nat:=s.foldl (fun n c=>n*10+(c.toNat-48)) 0
abbrev F:=Nat×Nat
section
variable (L:List Lx.fJ)
def Aw (i:Nat):Lx.fJ:=L.getD i ⟨4,[],0⟩
def tx (i:Nat):bA:=(Aw L i).text
def kd (i:Nat):Nat:=(Aw L i).kind
def pl (i:Nat):Nat:=(Aw L i).place
def nm (i:Nat):Except F bA:=if kd L i≠1\/kw (tx L i)=true then .error (3,pl L i) else if 12<(tx L i).length then .error (4,pl L i) else .ok (tx L i)
def uD (s:bA) (i:Nat):Except F Unit:=if tx L i=s then .ok () else .error (3,pl L i)
def number (i:Nat):Except F Nat:=if kd L i=2 then .ok (val (tx L i)) else .error (3,pl L i)
def jM (below:Nat->Except F (E×Nat)) (code:bA->Nat):Nat->E->Nat->Except F (E×Nat)
 | 0,e,i=>.ok (e,i)
 | f+1,e,i=>
  if code (tx L i)=0 then .ok (e,i)
  else match below (i+1) with
   | .error x=>.error x
   | .ok (r,j)=>jM below code f (aW7 (code (tx L i)) e r) j
def xC (below:Nat->Except F (E×Nat)) (code:bA->Nat) (i:Nat):Except F (E×Nat):=
 match below i with
 | .error x=>.error x
 | .ok (e,j)=>jM L below code L.length e j
def xR (one:Nat->Except F (E×Nat)):Nat->Nat->Except F (E×Nat)
 | 0=>one
 | t+1=>xC L (xR one t) (aK3 (4-t))
def one:Nat->Nat->Except F (E×Nat)
 | 0,i=>.error (4,pl L i)
 | k+1,i=>
  if bG (tx L i)≠0 then
   match one k (i+1) with
   | .error x=>.error x
   | .ok (e,j)=>.ok (bL6 (bG (tx L i)) e,j)
  else if tx L i=D6 then
   match xR L (one k) 5 (i+1) with
   | .error x=>.error x
   | .ok (e,j)=>if tx L j=aH1 then .ok (e,j+1) else .error (3,pl L j)
  else if tx L i=bH3 then
   if tx L (i+1)=D6 then
    match nm L (i+2) with
    | .error x=>.error x
    | .ok s=>if tx L (i+3)=aH1 then .ok (rT 3 s,i+4) else .error (3,pl L (i+3))
   else .error (3,pl L (i+1))
  else if kd L i=2 then .ok (bV8 (val (tx L i)),i+1)
  else match nm L i with
   | .error x=>.error x
   | .ok s=>.ok (rT 2 s,i+1)
def eF (i:Nat):Except F (E×Nat):=xR L (one L 7) 5 i
def sets:Nat->List gX->Nat->Except F (List gX×Nat)
 | 0,l,i=>.ok (l,i)
 | f+1,l,i=>
  match nm L i with
  | .error x=>.error x
  | .ok s=>
   if tx L (i+1)=qE then
    match eF L (i+2) with
    | .error x=>.error x
    | .ok (e,j)=>if tx L j=bH5 then sets f (l++[⟨s,e⟩]) (j+1) else .ok (l++[⟨s,e⟩],j)
   else .error (3,pl L (i+1))
def times (i:Nat):Except F Nat:=
 match number L i with
 | .error x=>.error x
 | .ok n=>if n<1\/1000<n then .error (4,pl L i) else .ok n
def cond (i:Nat):Except F (Nat×E×Nat):=
 if tx L i=Cl then
  if tx L (i+1)=D7 then
   match times L (i+2) with
   | .error x=>.error x
   | .ok n=>
    match eF L (i+3) with
    | .error x=>.error x
    | .ok (e,j)=>.ok (n,e,j)
  else
   match eF L (i+1) with
   | .error x=>.error x
   | .ok (e,j)=>.ok (1,e,j)
 else .ok (1,.nil,i)
def fO (i:Nat):Except F (List gX×Nat):=if tx L i=Cu then sets L L.length [] (i+1) else .ok ([],i)
def jE (s:bA) (i:Nat):Nat:=if tx L i=s then i+1 else i
def sF (kind i:Nat):Except F (Wy×Nat):=
 match cond L (jE L fS i) with
 | .error x=>.error x
 | .ok (n,e,j)=>
  match fO L j with
  | .error x=>.error x
  | .ok (l,m)=>
   if tx L m=kU then
    match nm L (m+1) with
    | .error x=>.error x
    | .ok s=>
     if tx L (jE L fP (m+2))=eP then .ok (⟨kind,decide (tx L i=fS),e,n,l,s,decide (tx L (m+2)=fP)⟩,jE L fP (m+2)+1)
     else .error (3,pl L (jE L fP (m+2)))
   else .error (3,pl L m)
def nF (i:Nat):Except F Nat:=if tx L i=eP then .ok (i+1) else .error (3,pl L i)
section
variable (ρ:Type) (region:Nat->Nat->Except F (List ρ×Nat×Nat))
def dP (s:bM ρ) (c i:Nat):Except F (Option (bM ρ×Nat×Nat)):=
 match cG (tx L i) with
 | some k=>
  match sF L k (i+1) with
  | .error x=>.error x
  | .ok (y,j)=>.ok (some ({ s with ways:=s.ways++[y] },c,j))
 | none=>
  if tx L i=dC then
   match region c (i+1) with
   | .error x=>.error x
   | .ok (l,c',j)=>.ok (some ({ s with regions:=s.regions++[l] },c',j))
  else if tx L i=fN then
   match sets L L.length [] (i+1) with
   | .error x=>.error x
   | .ok (l,j)=>match nF L j with
    | .error x=>.error x
    | .ok m=>.ok (some ({ s with enter:=s.enter++l },c,m))
  else if tx L i=eC then
   match sets L L.length [] (i+1) with
   | .error x=>.error x
   | .ok (l,j)=>match nF L j with
    | .error x=>.error x
    | .ok m=>.ok (some ({ s with during:=s.during++l },c,m))
  else if tx L i=iK then
   match sets L L.length [] (i+1) with
   | .error x=>.error x
   | .ok (l,j)=>match nF L j with
    | .error x=>.error x
    | .ok m=>.ok (some ({ s with leave:=s.leave++l },c,m))
  else if tx L i=cL then
   match s.rests with
   | .nil=>
    match eF L (i+1) with
    | .error x=>.error x
    | .ok (e,j)=>match nF L j with
     | .error x=>.error x
     | .ok m=>.ok (some ({ s with rests:=e },c,m))
   | .node _ _ _ _ _=>.error (9,pl L (i+1))
  else .ok none
def parts:Nat->bM ρ->Nat->Nat->Except F (bM ρ×Nat×Nat)
 | 0,s,c,i=>.ok (s,c,i)
 | f+1,s,c,i=>
  match dP L ρ region s c i with
  | .error x=>.error x
  | .ok none=>if tx L i=iJ then .ok (s,c,i+1) else .error (3,pl L i)
  | .ok (some (s',c',j))=>parts f s' c' j
def bT (fi la:Bool) (c i:Nat):Except F (bM ρ×Nat×Nat):=
 if tx L i=aB1 then
  if 24≤c then .error (4,pl L (i+1))
  else match nm L (i+1) with
   | .error x=>.error x
   | .ok s=>
    if tx L (i+2)=eP then .ok (⟨s,fi,la,[],[],[],.nil,[],[]⟩,c+1,i+3)
    else if tx L (i+2)=eQ then parts L ρ region L.length ⟨s,fi,la,[],[],[],.nil,[],[]⟩ (c+1) (i+3)
    else .error (3,pl L (i+2))
 else .error (3,pl L i)
def states:Nat->List (bM ρ)->Nat->Nat->Except F (List (bM ρ)×Nat×Nat)
 | 0,l,c,i=>.ok (l,c,i)
 | f+1,l,c,i=>
  if tx L i=dG\/tx L i=aB2\/tx L i=aB1 then
   match bT L ρ region (decide (tx L i=dG)) (decide (tx L (jE L dG i)=aB2)) c (jE L aB2 (jE L dG i)) with
   | .error x=>.error x
   | .ok (s,c',j)=>states f (l++[s]) c' j
  else if tx L i=iJ then .ok (l,c,i+1)
  else .error (3,pl L i)
end
def region:(k:Nat)->Nat->Nat->Except F (List (St k)×Nat×Nat)
 | 0,_,i=>.error (4,pl L i)
 | k+1,c,i=>if tx L i=eQ then states L (St k) (region k) L.length [] c (i+1) else .error (3,pl L i)
def first (i:Nat):Except F (Int×Nat):=
 if tx L i=qE then
  if tx L (i+1)=sV then
   match number L (i+2) with
   | .error x=>.error x
   | .ok n=>.ok (-(n:Int),i+3)
  else
   match number L (i+1) with
   | .error x=>.error x
   | .ok n=>.ok ((n:Int),i+2)
 else .ok (0,i)
def cM (kind i:Nat):Except F (bH×Nat):=
 match nm L i with
 | .error x=>.error x
 | .ok s=>
  match first L (i+1) with
  | .error x=>.error x
  | .ok (n,j)=>if tx L j=eP then .ok (⟨kind,s,n⟩,j+1) else .error (3,pl L j)
def jG:Nat->List bH->List (List (St 6))->Nat->Nat->Except F (List bH×List (List (St 6))×Nat)
 | 0,vs,rs,_,i=>.ok (vs,rs,i)
 | f+1,vs,rs,c,i=>
  if dO (tx L i)≠0 then
   if 20≤vs.length then .error (4,pl L (i+1))
   else match cM L (dO (tx L i)) (i+1) with
    | .error x=>.error x
    | .ok (v,j)=>jG f (vs++[v]) rs c j
  else if tx L i=dC then
   match region L 6 c (i+1) with
   | .error x=>.error x
   | .ok (l,c',j)=>jG f vs (rs++[l]) c' j
  else if tx L i=iJ then .ok (vs,rs,i+1)
  else .error (3,pl L i)
def cX:Except F fQ:=
 if tx L 0=D8 then
  match nm L 1 with
  | .error x=>.error x
  | .ok s=>
   if tx L 2=eQ then
    match jG L L.length [] [] 0 3 with
    | .error x=>.error x
    | .ok (vs,rs,i)=>if kd L i=4 then .ok ⟨s,vs,rs⟩ else .error (3,pl L i)
   else .error (3,pl L 2)
 else .error (3,pl L 0)
end
end Px
end
section
open Go.RowKit Go.Deep Px
def sv (s:bA):Value:=.string ⟨s.toArray⟩
def bD (A A':Nat->Prop) (w w':World):Prop:=∀b,A b->b<w.heap.size->A' b/\w'.heap[b]?=w.heap[b]?
theorem bD.trans {A A' A'':Nat->Prop}{w w' w'':World}(h:bD A A' w w') (k:bD A' A'' w' w'') (hs:w.heap.size≤w'.heap.size):bD A A'' w w'':=fun b ha hb=>
 ⟨(k b (h b ha hb).1 (by omega)).1,(k b (h b ha hb).1 (by omega)).2.trans (h b ha hb).2⟩
theorem aB {w:World}{b:Nat}{o:Obj}(h:w.heap[b]?=some o):b<w.heap.size:=(Array.getElem?_eq_some_iff.1 h).1
def tZ (A:Nat->Prop) (w:World) (e size:Nat) (v:Value) (n:Nat) (xs:List Value):Prop:=w.ownsRow 0 e size v n xs/\∀g,v.ownBlock=some g->A g
theorem fF {A A':Nat->Prop}{w w':World}{B e size n:Nat}{v:Value}{xs:List Value}(h:w.ownsRow B e size v n xs) (ha:∀g,v.ownBlock=some g->A g) (k:bD A A' w w'):w'.ownsRow B e size v n xs:=by
 refine ⟨h.1,?_⟩
 rcases h.2 with hn|⟨g,cap,cur,rfl,hb,hgg,rest⟩
 ·exact .inl hn
 ·exact .inr ⟨g,cap,cur,rfl,hb,by rw[(k g (ha g rfl) (aB hgg)).2];exact hgg,rest⟩
theorem tZ.carry {A A':Nat->Prop}{w w':World}{e size n:Nat}{v:Value}{xs:List Value}(h:tZ A w e size v n xs) (k:bD A A' w w'):tZ A' w' e size v n xs:=
 ⟨fF h.1 h.2 k,fun g hg=>(k g (h.2 g hg) (h.1.lt g hg).2).1⟩
theorem aZ1 {w:World}{B e size n:Nat}{v:Value}{xs:List Value}(h:w.ownsRow B e size v n xs):w.ownsRow 0 e size v n xs:=by
 refine ⟨h.1,?_⟩
 rcases h.2 with hn|⟨g,cap,cur,rfl,_,rest⟩
 ·exact .inl hn
 ·exact .inr ⟨g,cap,cur,rfl,Nat.zero_le _,rest⟩
def Rows {α:Type}(R:α->List Value->Prop):List α->List Value->Prop
 | [],xs=>xs=[]
 | a::r,xs=>∃c ys,xs=c++ys/\R a c/\Rows R r ys
theorem Rows.append {α:Type}{R:α->List Value->Prop}:∀{l m:List α}{xs ys:List Value},Rows R l xs->Rows R m ys->Rows R (l++m) (xs++ys):=by
 intro l
 induction l with
 | nil=>intro m xs ys h k;obtain rfl:xs=[]:=h;exact k
 | cons a r ih=>
  intro m xs ys h k
  obtain ⟨c,zs,rfl,hc,hr⟩:=h
  exact ⟨c,zs++ys,by rw[List.append_assoc],hc,ih hr k⟩
theorem Rows.one {α:Type}{R:α->List Value->Prop}{a:α}{c:List Value}(h:R a c):Rows R [a] c:=⟨c,[],by simp,h,rfl⟩
theorem Rows.map {α:Type}{R R':α->List Value->Prop}(hR:∀a c,R a c->R' a c):∀{l:List α}{xs:List Value},Rows R l xs->Rows R' l xs:=by
 intro l
 induction l with
 | nil=>intro xs h;exact h
 | cons a r ih=>intro xs h;obtain ⟨c,ys,rfl,hc,hr⟩:=h;exact ⟨c,ys,rfl,hR _ _ hc,ih hr⟩
theorem Rows.get {α:Type}{R:α->List Value->Prop}{k:Nat}(hk:∀a c,R a c->c.length=k):∀{l:List α}{xs:List Value},Rows R l xs->∀(i:Nat) (a:α),l[i]?=some a->∃c,R a c/\∀(j:Nat) (u:Value),c[j]?=some u->xs[i*k+j]?=some u:=by
 intro l
 induction l with
 | nil=>intro xs _ i a h;simp at h
 | cons x r ih=>
  intro xs h i a hi
  obtain ⟨c,ys,rfl,hc,hr⟩:=h
  have hl:=hk _ _ hc
  cases i with
  | zero=>
   obtain rfl:x=a:=by simpa using hi
   refine ⟨c,hc,fun j u hj=>?_⟩
   have hlt:=(List.getElem?_eq_some_iff.1 hj).1
   rw[Nat.zero_mul,Nat.zero_add,List.getElem?_append_left hlt];exact hj
  | succ i=>
   obtain ⟨d,hd,hg⟩:=ih hr i a (by simpa using hi)
   refine ⟨d,hd,fun j u hj=>?_⟩
   have e:(i+1)*k+j=c.length+(i*k+j):=by rw[Nat.add_mul,hl];omega
   rw[e,List.getElem?_append_right (by omega),Nat.add_sub_cancel_left];exact hg j u hj
def iR (A:Nat->Prop) (w:World):E->Value->Prop
 | .nil,v=>v=.pointer none
 | .node _ _ a l r,v=>∃g lv rv,v=.pointer (some ⟨g,0,none⟩)/\A g/\w.heap[g]?=some (.cells #[.int .i64 a.code,.int .i64 a.num,sv a.name,lv,rv] 335 (0,0))/\iR A w l lv/\iR A w r rv
theorem iR.carry {A A':Nat->Prop}{w w':World}(k:bD A A' w w'):∀{e:E}{v:Value},iR A w e v->iR A' w' e v:=by
 intro e
 induction e with
 | nil=>intro v h;exact h
 | node b o a l r ihl ihr=>
  intro v h
  obtain ⟨g,lv,rv,rfl,ha,hg,hl,hr⟩:=h
  obtain ⟨ha',hg'⟩:=k g ha (aB hg)
  exact ⟨g,lv,rv,rfl,ha',by rw[hg'];exact hg,ihl hl,ihr hr⟩
def lK (A:Nat->Prop) (w:World) (a:gX) (c:List Value):Prop:=∃p,c=[sv a.name,p]/\iR A w a.e p
def bP (A:Nat->Prop) (w:World) (l:List gX) (v:Value):Prop:=∃xs,tZ A w 325 2 v l.length xs/\Rows (lK A w) l xs
def yA (A:Nat->Prop) (w:World) (a:Wy) (c:List Value):Prop:=
 ∃p q,c=[.int .i64 a.kind,.bool a.now,p,.int .i64 a.times,q,sv a.to,.bool a.back]/\iR A w a.cond p/\bP A w a.sets q
def oK (A:Nat->Prop) (w:World) (l:List Wy) (v:Value):Prop:=∃xs,tZ A w 301 7 v l.length xs/\Rows (yA A w) l xs
def bX5 {ρ:Type}(IsReg:List ρ->Value->Prop) (r:List ρ) (c:List Value):Prop:=∃u,c=[u]/\IsReg r u
def fX {ρ:Type}(A:Nat->Prop) (w:World) (IsReg:List ρ->Value->Prop) (l:List (List ρ)) (v:Value):Prop:=∃xs,tZ A w 210 1 v l.length xs/\Rows (bX5 IsReg) l xs
def An {ρ:Type}(A:Nat->Prop) (w:World) (IsReg:List ρ->Value->Prop) (s:bM ρ) (c:List Value):Prop:=
 ∃e d l p y r,c=[sv s.name,.bool s.first,.bool s.last,e,d,l,p,y,r]/\bP A w s.enter e/\bP A w s.during d/\bP A w s.leave l/\iR A w s.rests p/\oK A w s.ways y/\fX A w IsReg s.regions r
def aJ (A:Nat->Prop) (w:World):(k:Nat)->List (St k)->Value->Prop
 | 0=>fun l v=>l=[]/\v=.slice none 0 0
 | k+1=>fun l v=>∃xs,tZ A w 256 9 v l.length xs/\Rows (An A w (aJ A w k)) l xs
def aN9 (a:bH) (c:List Value):Prop:=c=[.int .i64 a.kind,sv a.name,.int .i64 a.first]
def kZ (A:Nat->Prop) (w:World) (l:List bH) (v:Value):Prop:=∃xs,tZ A w 160 3 v l.length xs/\Rows aN9 l xs
section
variable {A A':Nat->Prop}{w w':World}
theorem lK.carry (k:bD A A' w w') (a:gX) (c:List Value) (h:lK A w a c):lK A' w' a c:=by
 obtain ⟨p,rfl,hp⟩:=h;exact ⟨p,rfl,hp.carry k⟩
theorem bP.carry (k:bD A A' w w') {l:List gX}{v:Value}(h:bP A w l v):bP A' w' l v:=by
 obtain ⟨xs,hr,hs⟩:=h;exact ⟨xs,hr.carry k,hs.map (lK.carry k)⟩
theorem yA.carry (k:bD A A' w w') (a:Wy) (c:List Value) (h:yA A w a c):yA A' w' a c:=by
 obtain ⟨p,q,rfl,hp,hq⟩:=h;exact ⟨p,q,rfl,hp.carry k,hq.carry k⟩
theorem oK.carry (k:bD A A' w w') {l:List Wy}{v:Value}(h:oK A w l v):oK A' w' l v:=by
 obtain ⟨xs,hr,hs⟩:=h;exact ⟨xs,hr.carry k,hs.map (yA.carry k)⟩
theorem fX.carry {ρ:Type}{I I':List ρ->Value->Prop}(k:bD A A' w w') (hI:∀l v,I l v->I' l v) {l:List (List ρ)}{v:Value}(h:fX A w I l v):fX A' w' I' l v:=by
 obtain ⟨xs,hr,hs⟩:=h;exact ⟨xs,hr.carry k,hs.map (fun a c ⟨u,hc,hu⟩=>⟨u,hc,hI _ _ hu⟩)⟩
theorem An.carry {ρ:Type}{I I':List ρ->Value->Prop}(k:bD A A' w w') (hI:∀l v,I l v->I' l v) (s:bM ρ) (c:List Value) (h:An A w I s c):An A' w' I' s c:=by
 obtain ⟨e,d,l,p,y,r,rfl,h1,h2,h3,h4,h5,h6⟩:=h
 exact ⟨e,d,l,p,y,r,rfl,h1.carry k,h2.carry k,h3.carry k,h4.carry k,h5.carry k,h6.carry k hI⟩
theorem aJ.carry (k:bD A A' w w'):∀(n:Nat) (l:List (St n)) (v:Value),aJ A w n l v->aJ A' w' n l v:=by
 intro n
 induction n with
 | zero=>intro l v h;exact h
 | succ n ih=>intro l v h;obtain ⟨xs,hr,hs⟩:=h;exact ⟨xs,hr.carry k,hs.map (An.carry k ih)⟩
theorem kZ.carry (k:bD A A' w w') {l:List bH}{v:Value}(h:kZ A w l v):kZ A' w' l v:=by
 obtain ⟨xs,hr,hs⟩:=h;exact ⟨xs,hr.carry k,hs⟩
end
structure Fr (B:Nat) (X:List Nat) (w w':World):Prop where
 os:w'.os=w.os
 tape:w'.tape=w.tape
 output:w'.output=w.output
 size:w.heap.size≤w'.heap.size
 block:∀k,k<B->k∉X->w'.heap[k]?=w.heap[k]?
theorem Fr.refl (B:Nat) (X:List Nat) (w:World):Fr B X w w:=⟨rfl,rfl,rfl,Nat.le_refl _,fun _ _ _=>rfl⟩
theorem Fr.trans {B:Nat}{X:List Nat}{a b c:World}(h:Fr B X a b) (k:Fr B X b c):Fr B X a c:=
 ⟨k.os.trans h.os,k.tape.trans h.tape,k.output.trans h.output,Nat.le_trans h.size k.size,fun i hi hx=>(k.block i hi hx).trans (h.block i hi hx)⟩
theorem Fr.mono {B B':Nat}{X X':List Nat}{w w':World}(h:Fr B X w w') (hB:B'≤B) (hX:∀x∈X,x<B'->x∈X'):Fr B' X' w w':=
 ⟨h.os,h.tape,h.output,h.size,fun k hk hx=>h.block k (by omega) (fun hm=>hx (hX k hm hk))⟩
theorem Fr.of_below {B:Nat}{w w':World}(h:Below B w w') (X:List Nat):Fr B X w w':=⟨h.os,h.tape,h.output,h.size,fun k hk _=>h.block k hk⟩
theorem Fr.below {B:Nat}{w w':World}(h:Fr B [] w w'):Below B w w':=⟨h.os,h.tape,h.output,h.size,fun k hk=>h.block k hk (by simp)⟩
theorem Fr.alloc {B:Nat}{X:List Nat}{a w:World}(h:Fr B X a w) (hB:B≤w.heap.size) (o:Obj):Fr B X a (w.alloc o):=
 h.trans ⟨rfl,rfl,rfl,by simp,fun k hk _=>Below.heap_alloc _ _ _ (by omega)⟩
theorem Fr.setCell {B:Nat}{X:List Nat}{a w:World}(h:Fr B X a w) {p:Addr}(hp:B≤p.block\/p.block∈X) (u:Value):Fr B X a (w.setCell p u):=
 h.trans ⟨rfl,rfl,rfl,by simp[World.setCell],fun k hk hx=>Below.heap_setCell _ _ _ _ (fun e=>by rcases hp with hp|hp;omega;exact hx (e▸hp))⟩
theorem Fr.drew {B:Nat}{X:List Nat}{a w:World}(h:Fr B X a w):Fr B X a w.drew:=⟨h.os,h.tape,h.output,h.size,h.block⟩
theorem Fr.drewN {B:Nat}{X:List Nat}{a w:World}(h:Fr B X a w) (n:Nat):Fr B X a (w.drewN n):=h.trans ⟨rfl,rfl,rfl,Nat.le_refl _,fun _ _ _=>rfl⟩
theorem Fr.grown {B:Nat}{X:List Nat}{a w w':World}{row:Option Nat}(h:Fr B X a w) (hg:w.grownBy w' row) (hB:B≤w.heap.size) (hr:∀k,row=some k->B≤k\/k∈X):Fr B X a w':=
 h.trans ⟨hg.os,hg.tape,hg.output,hg.size,fun k hk hx=>hg.block k (by omega) (fun e=>by rcases hr k e.symm with h|h;omega;exact hx h)⟩
theorem Fr.cell {B:Nat}{X:List Nat}{w w':World}(h:Fr B X w w') {p:Addr}(hp:p.block<B) (hx:p.block∉X):w'.cell? p=w.cell? p:=World.cell?_of_block (w:=w) (h.block p.block hp hx)
theorem Fr.keep {X:List Nat}{w w':World}{A:Nat->Prop}(h:Fr w.heap.size X w w') (hA:∀b,A b->b∉X):bD A A w w':=fun b ha hb=>⟨ha,h.block b hb (hA b ha)⟩
end
section
open Go.RowKit Px
theorem aA {w:World}{g T:Nat}{cs:Array Value}(h:w.heap[g]?=some (.cells cs T (0,0))) (j:Nat) {u:Value}(hj:cs[j]?=some u):w.cell? ⟨g,j,none⟩=some u:=by
 simp[World.cell?,h,hj]
theorem bF (w:World) (o:Obj):(w.alloc o).heap[w.heap.size]?=some o:=heap_alloc_new w o
theorem dR {w:World}{b:Nat}{o o':Obj}(h:w.heap[b]?=some o):(w.alloc o').heap[b]?=some o:=by
 rw[Below.heap_alloc _ _ _ (aB h)];exact h
theorem aD (w:World) (o:Obj):Below w.heap.size w (w.alloc o):=(Below.refl _ _).alloc (Nat.le_refl _) _
theorem aW {w w' w'':World}(h:Below w.heap.size w w') (k:Below w'.heap.size w' w''):Below w.heap.size w w'':=h.trans (k.mono h.size)
theorem aV {w w':World}(h:Below w.heap.size w w') {a:Addr}{v:Value}(hc:w.cell? a=some v):w'.cell? a=some v:=by
 rw[h.cell (World.block_lt_of_cell? w a hc)];exact hc
theorem aR {w w':World}(h:Below w.heap.size w w') {b:Nat}{o:Obj}(hb:w.heap[b]?=some o):w'.heap[b]?=some o:=by
 rw[h.block b (aB hb)];exact hb
theorem tZ.open {α:Type}{R:α->List Value->Prop}{A:Nat->Prop}{w:World}{e k:Nat}{v:Value}{l:List α}{xs:List Value}(hk:∀a c,R a c->c.length=k) (hr:tZ A w e k v l.length xs) (hs:Rows R l xs) :
    ∃ad g cap,v=.slice ad l.length cap/\l.length≤maxLen/\(0<l.length->ad=some ⟨g,0,none⟩/\A g/\g<w.heap.size)/\∀(i:Nat) (a:α),l[i]?=some a->∃c,R a c/\∀(j:Nat) (u:Value),c[j]?=some u->w.cell? ⟨g,i*k+j,none⟩=some u:=by
 have hc:=fun g hg=>World.ownsRow.cells hr.1 (g:=g) hg
 have hl:=fun g hg=>World.ownsRow.lt hr.1 g hg
 have hA:=hr.2
 rcases hr.1.2 with ⟨rfl,h0⟩|⟨g,cap,cur,rfl,_,_,h2,h3,_⟩
 ·have:l=[]:=List.length_eq_zero_iff.1 h0
  subst this
  exact ⟨none,0,0,rfl,Nat.zero_le _,fun h=>absurd h (by simp),fun i a h=>absurd h (by simp)⟩
 ·refine ⟨_,g,cap,rfl,by omega,fun _=>⟨rfl,hA g rfl,(hl g rfl).2⟩,fun i a hi=>?_⟩
  obtain ⟨c,hc',hx⟩:=Rows.get hk hs i a hi
  refine ⟨c,hc',fun j u hj=>?_⟩
  have h1:=hc g rfl _ u (hx j u hj)
  have ad:(⟨g,0,none⟩:Addr).add (i*k+j)=⟨g,i*k+j,none⟩:=by unfold Addr.add;split<;>simp_all
  rw[ad] at h1
  exact h1
theorem Cm (ad:Option Addr) (g n cap k:Nat) (hk:k<n) (ha:0<n->ad=some ⟨g,0,none⟩) (w:World):(Instr.indexAt 49 (.slice ad n cap) (.int .i64 (k:Int))).run Tryz.prog w=.ok (.pointer (some ⟨g,k*3,none⟩)) w:=by
 obtain rfl:=ha (by omega)
 rw[run_indexAt_slice _ _ _ _ _ _ _ (by kernel_rfl),if_pos ⟨by omega,by omega⟩]
 have e:(sizeOf (Tryz.prog.elem 49)).run Tryz.prog w=.ok 3 w:=by kernel_rfl
 rw[e]
 simp[Result.andThen,Addr.add]
 try (intro h;exact h.symm)
theorem Bp (ad:Option Addr) (g n cap k:Nat) (hk:k<n) (ha:0<n->ad=some ⟨g,0,none⟩) (w:World):(Instr.indexAt 210 (.slice ad n cap) (.int .i64 (k:Int))).run Tryz.prog w=.ok (.pointer (some ⟨g,k*9,none⟩)) w:=by
 obtain rfl:=ha (by omega)
 rw[run_indexAt_slice _ _ _ _ _ _ _ (by kernel_rfl),if_pos ⟨by omega,by omega⟩]
 have e:(sizeOf (Tryz.prog.elem 210)).run Tryz.prog w=.ok 9 w:=by kernel_rfl
 rw[e]
 simp[Result.andThen,Addr.add]
 try (intro h;exact h.symm)
theorem Dj (ad:Option Addr) (g n cap k:Nat) (hk:k<n) (ha:0<n->ad=some ⟨g,0,none⟩) (w:World):(Instr.indexAt 252 (.slice ad n cap) (.int .i64 (k:Int))).run Tryz.prog w=.ok (.pointer (some ⟨g,k*2,none⟩)) w:=by
 obtain rfl:=ha (by omega)
 rw[run_indexAt_slice _ _ _ _ _ _ _ (by kernel_rfl),if_pos ⟨by omega,by omega⟩]
 have e:(sizeOf (Tryz.prog.elem 252)).run Tryz.prog w=.ok 2 w:=by kernel_rfl
 rw[e]
 simp[Result.andThen,Addr.add]
 try (intro h;exact h.symm)
theorem Dd (ad:Option Addr) (g n cap k:Nat) (hk:k<n) (ha:0<n->ad=some ⟨g,0,none⟩) (w:World):(Instr.indexAt 254 (.slice ad n cap) (.int .i64 (k:Int))).run Tryz.prog w=.ok (.pointer (some ⟨g,k*7,none⟩)) w:=by
 obtain rfl:=ha (by omega)
 rw[run_indexAt_slice _ _ _ _ _ _ _ (by kernel_rfl),if_pos ⟨by omega,by omega⟩]
 have e:(sizeOf (Tryz.prog.elem 254)).run Tryz.prog w=.ok 7 w:=by kernel_rfl
 rw[e]
 simp[Result.andThen,Addr.add]
 try (intro h;exact h.symm)
theorem De (ad:Option Addr) (g n cap k:Nat) (hk:k<n) (ha:0<n->ad=some ⟨g,0,none⟩) (w:World):(Instr.indexAt 50 (.slice ad n cap) (.int .i64 (k:Int))).run Tryz.prog w=.ok (.pointer (some ⟨g,k,none⟩)) w:=by
 obtain rfl:=ha (by omega)
 rw[run_indexAt_slice _ _ _ _ _ _ _ (by kernel_rfl),if_pos ⟨by omega,by omega⟩]
 have e:(sizeOf (Tryz.prog.elem 50)).run Tryz.prog w=.ok 1 w:=by kernel_rfl
 rw[e]
 simp[Result.andThen,Addr.add]
 try (intro h;exact h.symm)
theorem Cw (ad:Option Addr) (g n cap k:Nat) (hk:k<n) (ha:0<n->ad=some ⟨g,0,none⟩) (w:World):(Instr.indexAt 23 (.slice ad n cap) (.int .i64 (k:Int))).run Tryz.prog w=.ok (.pointer (some ⟨g,k,none⟩)) w:=by
 obtain rfl:=ha (by omega)
 rw[run_indexAt_slice _ _ _ _ _ _ _ (by kernel_rfl),if_pos ⟨by omega,by omega⟩]
 have e:(sizeOf (Tryz.prog.elem 23)).run Tryz.prog w=.ok 1 w:=by kernel_rfl
 rw[e]
 simp[Result.andThen,Addr.add]
 try (intro h;exact h.symm)
end
end Go.Proofs.YtcdbhoknhnimcaaGreatDoor
