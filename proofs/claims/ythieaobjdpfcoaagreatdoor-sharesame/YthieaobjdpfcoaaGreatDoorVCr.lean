import Derived.Deep.Trees
import Derived.Test.YthieaobjdpfcoaaGreatDoorProg
import Derived.WalkSpells
import Derived.WalkLawsBesides
import Derived.Laws.EntriesVeiled
namespace Go.Proofs.YthieaobjdpfcoaaGreatDoor
open Tryz (prog)
section
theorem gQx{α:Sort _}(e:α):∃x,x=e:=⟨_,rfl⟩
set_option linter.defProp false
def iO:=@List.getD_eq_getElem?_getD
def aN4:=@List.getElem?_eq_getElem
def aO4:=@Nat.le_refl
def aO5:=@Nat.lt_of_lt_of_le
def aO6:=@Nat.le_trans
def aO7:=@List.getElem?_eq_some_iff
def aO9:=@List.length_append
def aP1:=@List.mem_of_getElem?
def aP4:=@List.drop_eq_getElem_cons
def aP5:=@List.mem_singleton
def aP6:=@Nat.zero_le
def aR2:=@List.mem_append
def aR4:=@List.drop_length
def aR5:=@List.length_eq_zero_iff
def aR6:=@List.getElem?_append_left
def aV8:=@List.length_cons
def aW4:=@List.length_set
def aW5:=@List.mem_cons
def aW6:=@List.getElem?_map
def aW7:=@List.getElem?_replicate
def aW8:=@List.getElem?_append_right
def aW9:=@Int.toNat_natCast
def aX1:=@List.drop_eq_nil_of_le
def aX2:=@List.length_singleton
def aX3:=@Nat.zero_add
def aX4:=@List.getElem?_set
def aX5:=@List.getElem?_eq_none
def aX6:=@List.getElem?_set_ne
def aX7:=@List.take_length
def aX8:=@List.all_eq_true
def aX9:=@List.length_nil
def aY1:=@Nat.lt_or_ge
def aY2:=@Int.le_trans
def aY3:=@List.getElem_mem
def aY4:=@Nat.add_zero
def aY5:=@World.block_lt_of_cell?
def aY6:=@World.cell?_of_block
def aY7:=@World.ownsRow_nil
def aY8:=@run_indexAt_slice
def aY9:=@bodyPost_ret
def aZ1:=@info_parts
namespace Lx
def tV (c:UInt8):Bool:=c==32||c==9||c==10
def gV (c:UInt8):Bool:=decide (48≤c.toNat)&&decide (c.toNat≤57)
def Cs (c:UInt8):Bool:=(decide (97≤c.toNat)&&decide (c.toNat≤122))||(decide (65≤c.toNat)&&decide (c.toNat≤90))||c==95
def pH (c:UInt8):Bool:=Cs c||gV c
def inl (c:UInt8):Bool:=c != 10
def sk:Bool->List UInt8->Nat
 | _,[]=>0
 | true,c::r=>if c==10 then 1+sk false r else 1+sk true r
 | false,c::r=>if tV c then 1+sk false r else if c==35 then 1+sk true r else 0
def wh (p:UInt8->Bool) (u:List UInt8):Nat:=(u.takeWhile p).length
def marks:List (List UInt8):=[[45,45,62],[58,61],[61,61],[33,61],[60,61],[38,38],[124,124],[60],[43],[45],[42],[47],[37],[33],[40],[41],[123],[125],[59],[58],[44]]
def oD:List (List UInt8)->List UInt8->Nat
 | [],_=>0
 | m::r,u=>if m.isPrefixOf u then m.length else oD r u
def mk (u:List UInt8):Nat:=oD marks u
def rd:List UInt8->Nat×Nat
 | []=>(0,0)
 | c::r=>if gV c then (2,wh gV (c::r)) else if pH c then (1,wh pH (c::r)) else if mk (c::r)=0 then (0,0) else (3,mk (c::r))
def Mn (kind len n:Nat):Nat:=if kind=0 then 3 else if kind=2/\18<len then 4 else if 600≤n then 4 else 0
structure fQ where
 kind:Nat
 text:List UInt8
 place:Nat
def qF (u:List UInt8) (p:Nat):List fQ->List UInt8->Nat->Prop
 | [],u',p'=>u'=u/\p'=p
 | t::r,u',p'=>u.drop (sk false u)≠[]/\t=⟨(rd (u.drop (sk false u))).1,(u.drop (sk false u)).take (rd (u.drop (sk false u))).2,p+sk false u⟩/\
    (rd (u.drop (sk false u))).1≠0/\¬((rd (u.drop (sk false u))).1=2/\18<(rd (u.drop (sk false u))).2)/\
    qF ((u.drop (sk false u)).drop (rd (u.drop (sk false u))).2) (p+sk false u+(rd (u.drop (sk false u))).2) r u' p'
theorem Y0 {l m:List fQ}:∀{u:List UInt8}{p:Nat}{u1:List UInt8}{p1:Nat}{u2:List UInt8}{p2:Nat},qF u p l u1 p1->qF u1 p1 m u2 p2->qF u p (l++m) u2 p2:=by
 induction l with
 | nil=>intro u p u1 p1 u2 p2 j h;obtain ⟨rfl,rfl⟩:=j;exact h
 | cons t r ih=>
  intro u p u1 p1 u2 p2 j h
  obtain ⟨a,b,c,d,e⟩:=j
  exact ⟨a,b,c,d,ih e h⟩
theorem tL {l:List fQ}:∀{c:List fQ}{u:List UInt8}{p:Nat}{u1:List UInt8}{p1:Nat}{u2:List UInt8}{p2:Nat},qF u p l u1 p1->qF u p c u2 p2->l.length≤c.length->∃m,c=l++m/\qF u1 p1 m u2 p2:=by
 induction l with
 | nil=>intro c u p u1 p1 u2 p2 j h _;obtain ⟨rfl,rfl⟩:=j;exact ⟨c,rfl,h⟩
 | cons t r ih=>
  intro c u p u1 p1 u2 p2 j h k
  cases c with
  | nil=>simp at k
  | cons t' r'=>
   obtain ⟨_,b,_,_,e⟩:=j
   obtain ⟨_,n,_,_,y⟩:=h
   obtain ⟨m,rfl,s⟩:=ih e y (by simpa using k)
   exact ⟨m,by rw[b,n];rfl,s⟩
def Ok (s:List UInt8) (l:List fQ):Prop:=l.length≤600/\∃u p,qF s 0 l u p/\u.drop (sk false u)=[]
def Bad (s:List UInt8) (e q:Nat):Prop:=∃l u p,qF s 0 l u p/\l.length≤600/\u.drop (sk false u)≠[]/\q=p+sk false u/\e=Mn (rd (u.drop (sk false u))).1 (rd (u.drop (sk false u))).2 l.length/\e≠0
theorem aO1 {s:List UInt8}{l c:List fQ}(h:Ok s l) (k:Ok s c):l=c:=by
 have key:∀{l c:List fQ},Ok s l->Ok s c->l.length≤c.length->l=c:=by
  intro l c h k j
  obtain ⟨_,u,p,r,e⟩:=h
  obtain ⟨_,J,D,n,I⟩:=k
  obtain ⟨m,rfl,y⟩:=tL r n j
  cases m with
  | nil=>simp
  | cons t m=>exact absurd e y.1
 rcases Nat.le_total l.length c.length with j|j
 ·exact key h k j
 ·exact (key k h j).symm
theorem aF2 {k len n:Nat}(l:k≠0) (j:¬(k=2/\18<len)) (c:Mn k len n≠0):600≤n:=by
 unfold Mn at c
 rw[if_neg l,if_neg j] at c
 by_cases h:600≤n
 ·exact h
 ·rw[if_neg h] at c;exact absurd rfl c
theorem aH4 {s:List UInt8}{l:List fQ}{e q:Nat}(h:Ok s l) (O:Bad s e q):False:=by
 obtain ⟨J,u,p,r,y⟩:=h
 obtain ⟨U,Z,Y,D,I,j,X,Q,n⟩:=O
 rcases Nat.le_total l.length U.length with k|k
 ·obtain ⟨m,rfl,c⟩:=tL r D k
  cases m with
  | nil=>obtain ⟨rfl,rfl⟩:=c;exact j y
  | cons t m=>exact c.1 y
 ·obtain ⟨m,rfl,c⟩:=tL D r k
  cases m with
  | nil=>obtain ⟨rfl,rfl⟩:=c;exact j y
  | cons t m=>
   have:=aF2 c.2.2.1 c.2.2.2.1 (by rw[<-Q];exact n)
   simp at J;omega
theorem aI9:∀(b:Bool) (u:List UInt8),sk b u≤u.length:=by
 intro b u
 induction u generalizing b with
 | nil=>cases b<;>simp[sk]
 | cons c r ih=>
  have h:=ih true;have j:=ih false
  cases b<;>simp only[sk,aV8]<;>repeat' split
  all_goals omega
theorem Of (p:UInt8->Bool) (u:List UInt8):wh p u≤u.length:=List.Sublist.length_le (List.takeWhile_sublist p)
theorem nN (p:UInt8->Bool) (c:UInt8) (r:List UInt8):wh p (c::r)=if p c then 1+wh p r else 0:=by
 unfold wh;rw[List.takeWhile_cons];split<;>simp[Nat.add_comm]
theorem Wd (u:List UInt8):sk true u=wh inl u+sk false (u.drop (wh inl u)):=by
 induction u with
 | nil=>simp[sk,wh]
 | cons c r ih=>
  rw[nN]
  by_cases h:c=10
  ·subst h;simp[sk,inl,tV]
  ·have j:inl c=true:=by simp[inl,h]
   rw[if_pos j]
   have hd:List.drop (1+wh inl r) (c::r)=r.drop (wh inl r):=by rw[Nat.add_comm,List.drop_succ_cons]
   rw[hd]
   simp only[sk,beq_iff_eq,h,if_false]
   rw[ih];omega
theorem Lm (M:List (List UInt8)) (u:List UInt8):oD M u≤u.length:=by
 induction M with
 | nil=>simp[oD]
 | cons m r ih=>
  unfold oD;split
  ·exact List.IsPrefix.length_le (List.isPrefixOf_iff_prefix.1 ‹_›)
  ·exact ih
theorem aK1 (u:List UInt8):mk u≤u.length:=Lm marks u
theorem mN (c:UInt8) (r:List UInt8):rd (c::r)=if gV c then (2,wh gV (c::r)) else if pH c then (1,wh pH (c::r)) else if mk (c::r)=0 then (0,0) else (3,mk (c::r)):=rfl
theorem Qc (u:List UInt8):(rd u).2≤u.length:=by
 cases u with
 | nil=>simp[rd]
 | cons c r=>
  rw[mN]
  split
  ·exact Of _ _
  ·split
   ·exact Of _ _
   ·split
    ·simp
    ·exact aK1 _
theorem aB1 (u:List UInt8) (h:(rd u).1≠0):0<(rd u).2:=by
 cases u with
 | nil=>simp[rd] at h
 | cons c r=>
  rw[mN] at h ⊢
  split
  ·rw[nN,if_pos ‹_›];show 0<1+_;omega
  ·rename_i h1
   rw[if_neg h1] at h
   split
   ·rw[nN,if_pos ‹_›];show 0<1+_;omega
   ·rename_i h2
    rw[if_neg h2] at h
    split
    ·rename_i h3;rw[if_pos h3] at h;exact absurd rfl h
    ·show 0<mk _;omega
theorem Hr (u:List UInt8):(rd u).1≤3:=by
 cases u with
 | nil=>simp[rd]
 | cons c r=>
  rw[mN]
  split
  ·simp
  ·split
   ·simp
   ·split<;>simp
def fO (s:List UInt8) (k:Nat):Nat:=k+sk false (s.drop k)
def iE (p:UInt8->Bool) (s:List UInt8) (k:Nat):Nat:=k+wh p (s.drop k)
theorem uS {p:UInt8->Bool}{s:List UInt8}{k:Nat}{c:UInt8}(h:s[k]?=some c) (j:p c=true):iE p s k=iE p s (k+1):=by
 obtain ⟨n,l⟩:=aO7.1 h
 unfold iE;rw[aP4 n,nN,l,if_pos j];omega
theorem yG {p:UInt8->Bool}{s:List UInt8}{k:Nat}{c:UInt8}(h:s[k]?=some c) (j:p c=false):iE p s k=k:=by
 obtain ⟨n,l⟩:=aO7.1 h
 unfold iE;rw[aP4 n,nN,l,j];rfl
theorem uT {p:UInt8->Bool}{s:List UInt8}{k:Nat}(h:s.length≤k):iE p s k=k:=by
 unfold iE;rw[aX1 h];rfl
theorem Pt {p:UInt8->Bool}{s:List UInt8}{k:Nat}(h:k≤s.length):k≤iE p s k/\iE p s k≤s.length:=by
 have:=Of p (s.drop k);simp only[List.length_drop] at this;unfold iE;omega
theorem J7 {s:List UInt8}{k:Nat}{c:UInt8}(h:s[k]?=some c) (j:tV c=true):fO s k=fO s (k+1):=by
 obtain ⟨n,l⟩:=aO7.1 h
 unfold fO;rw[aP4 n,l,sk,if_pos j];omega
theorem zY {s:List UInt8}{k:Nat}(h:s[k]?=some 35):fO s k=fO s (iE inl s k):=by
 obtain ⟨j,c⟩:=aO7.1 h
 have e:iE inl s k=k+1+wh inl (s.drop (k+1)):=by
  unfold iE;rw[aP4 j,nN,c,if_pos (by decide)];omega
 rw[e]
 unfold fO;rw[aP4 j,c,sk,if_neg (by decide),if_pos (by decide),Wd,List.drop_drop];omega
theorem Kk {s:List UInt8}{k:Nat}{c:UInt8}(h:s[k]?=some c) (j:tV c=false) (n:c≠35):fO s k=k:=by
 obtain ⟨l,r⟩:=aO7.1 h
 unfold fO;rw[aP4 l,r,sk,j,if_neg (by simp),if_neg (by simpa using n)];rfl
theorem Dw {s:List UInt8}{k:Nat}(h:s.length≤k):fO s k=k:=by
 unfold fO;rw[aX1 h];rfl
theorem D3 {s:List UInt8}{k:Nat}(h:k≤s.length):k≤fO s k/\fO s k≤s.length:=by
 have:=aI9 false (s.drop k);simp only[List.length_drop] at this;unfold fO;omega
theorem wY {s:List UInt8}{k:Nat}(h:s[k]?=some 35):k<iE inl s k:=by
 obtain ⟨j,c⟩:=aO7.1 h
 unfold iE;rw[aP4 j,nN,c,if_pos (by decide)];omega
def To (s:List UInt8) (l:List fQ) (k:Nat):Prop:=k≤s.length/\qF s 0 l (s.drop k) k
theorem Yu (s:List UInt8):To s [] 0:=⟨aP6 _,rfl,rfl⟩
theorem Yv {s:List UInt8}{l:List fQ}{k a:Nat}(h:To s l k) (c:a=fO s k) (u:a<s.length) (r:(rd (s.drop a)).1≠0) (n:¬((rd (s.drop a)).1=2/\18<(rd (s.drop a)).2)) :
    To s (l++[⟨(rd (s.drop a)).1,(s.drop a).take (rd (s.drop a)).2,a⟩]) (a+(rd (s.drop a)).2):=by
 have hd:(s.drop k).drop (sk false (s.drop k))=s.drop a:=by rw[List.drop_drop,c];rfl
 have j:=Qc (s.drop a);rw[List.length_drop] at j
 refine ⟨by omega,Y0 h.2 ?_⟩
 refine ⟨?_,?_,?_,?_,?_⟩
 ·rw[hd];intro e;have:=congrArg List.length e;simp at this;omega
 ·rw[hd,c];rfl
 ·rw[hd];exact r
 ·rw[hd];exact n
 ·rw[hd,List.drop_drop];exact ⟨rfl,by rw[c];rfl⟩
theorem aN5 {s:List UInt8}{l:List fQ}{k:Nat}(h:To s l k) (hn:l.length≤600) (ha:s.length≤fO s k):Ok s l:=
 ⟨hn,_,_,h.2,by rw[List.drop_drop];exact aX1 ha⟩
theorem aH0 {s:List UInt8}{l:List fQ}{k a e:Nat}(h:To s l k) (r:l.length≤600) (c:a=fO s k) (u:a<s.length) (j:e=Mn (rd (s.drop a)).1 (rd (s.drop a)).2 l.length) (n:e≠0):Bad s e a:=by
 have hd:(s.drop k).drop (sk false (s.drop k))=s.drop a:=by rw[List.drop_drop,c];rfl
 refine ⟨l,_,_,h.2,r,?_,c,?_,n⟩
 ·rw[hd];intro e;have:=congrArg List.length e;simp at this;omega
 ·rw[hd];exact j
end Lx
end
section
namespace Px
open Go.Deep (BT)
abbrev bE:=List UInt8
structure Nd where
 code:Nat
 num:Int
 name:bE
abbrev E:=BT Nd
def Yh (n:Int):E:=.node 0 0 ⟨1,n,[]⟩ .nil .nil
def tU (c:Nat) (s:bE):E:=.node 0 0 ⟨c,0,s⟩ .nil .nil
def Ua (c:Nat) (e:E):E:=.node 0 0 ⟨c,0,[]⟩ e .nil
def Mw (c:Nat) (l r:E):E:=.node 0 0 ⟨c,0,[]⟩ l r
structure iY where
 name:bE
 e:E
structure Wy where
 kind:Nat
 now:Bool
 cond:E
 times:Nat
 sets:List iY
 to:bE
 back:Bool
structure cF (ρ:Type) where
 name:bE
 first:Bool
 last:Bool
 enter:List iY
 during:List iY
 leave:List iY
 rests:E
 ways:List Wy
 regions:List (List ρ)
def St:Nat->Type
 | 0=>Unit
 | k+1=>cF (St k)
structure bQ where
 kind:Nat
 name:bE
 first:Int
structure fZ where
 name:bE
 vars:List bQ
 regions:List (List (St 6))
def Q6:bE:=[99,104,97,114,116]
def fF:bE:=[123]
def jM:bE:=[125]
def fE:bE:=[59]
def rZ:bE:=[58,61]
def vE:bE:=[45]
def aK7:bE:=[33]
def Q4:bE:=[40]
def Fj:bE:=[41]
def Sb:bE:=[44]
def mE:bE:=[45,45,62]
def dL:bE:=[114,101,103,105,111,110]
def dO:bE:=[105,110,105,116,105,97,108]
def iC:bE:=[102,105,110,97,108]
def gZ:bE:=[115,116,97,116,101]
def fW:bE:=[101,110,116,114,121]
def eM:bE:=[100,117,114,105,110,103]
def jN:bE:=[101,120,105,116]
def dB:bE:=[115,117,115,112,101,110,100]
def G0:bE:=[103,111]
def Sc:bE:=[97,98,111,114,116]
def Zp:bE:=[106,111,105,110]
def gB:bE:=[105,109,109,101,100,105,97,116,101]
def kIf:bE:=[105,102]
def Q5:bE:=[99,111,117,110,116]
def kDo:bE:=[100,111]
def iS:bE:=[104,105,115,116,111,114,121]
def Rz:bE:=[112,114,101]
def Sa:bE:=[105,110,112,117,116]
def Ij:bE:=[111,117,116,112,117,116]
def aK6:bE:=[118,97,114]
def words:List bE:=[[97,98,111,114,116],[99,104,97,114,116],[99,111,117,110,116],[100,111],[100,117,114,105,110,103],[101,110,116,114,121],[101,120,105,116],[102,105,110,97,108],[103,111],[104,105,115,116,111,114,121],[105,109,109,101,100,105,97,116,101],[105,102],[105,110,105,116,105,97,108],[105,110,112,117,116],[106,111,105,110],[111,117,116,112,117,116],[112,114,101],[114,101,103,105,111,110],[115,116,97,116,101],[115,117,115,112,101,110,100],[118,97,114]]
def kw (s:bE):Bool:=words.any (· == s)
def signs:List (List (bE×Nat)):=[[([124,124],16)],[([38,38],15)],[([61,61],11),([33,61],12),([60],13),([60,61],14)],[([43],6),([45],7)],[([42],8),([47],9),([37],10)]]
def sE:List (bE×Nat)->bE->Nat
 | [],_=>0
 | (t,c)::r,s=>if t=s then c else sE r s
def iP (tight:Nat) (s:bE):Nat:=sE (signs.getD tight []) s
def bP (s:bE):Nat:=if s=vE then 4 else if s=aK7 then 5 else 0
def dY (s:bE):Nat:=if s=Sa then 1 else if s=Ij then 2 else if s=aK6 then 3 else 0
def cZ (s:bE):Option Nat:=if s=G0 then some 0 else if s=Sc then some 1 else if s=Zp then some 2 else none
def val (s:bE):Nat:=s.foldl (fun n c=>n*10+(c.toNat-48)) 0
abbrev F:=Nat×Nat
section
variable (L:List Lx.fQ)
def Jv (i:Nat):Lx.fQ:=L.getD i ⟨4,[],0⟩
def tx (i:Nat):bE:=(Jv L i).text
def kd (i:Nat):Nat:=(Jv L i).kind
def pl (i:Nat):Nat:=(Jv L i).place
def nm (i:Nat):Except F bE:=if kd L i≠1\/kw (tx L i)=true then .error (3,pl L i) else if 12<(tx L i).length then .error (4,pl L i) else .ok (tx L i)
def wZ (s:bE) (i:Nat):Except F Unit:=if tx L i=s then .ok () else .error (3,pl L i)
def bS (i:Nat):Except F Nat:=if kd L i=2 then .ok (val (tx L i)) else .error (3,pl L i)
def lB (below:Nat->Except F (E×Nat)) (code:bE->Nat):Nat->E->Nat->Except F (E×Nat)
 | 0,e,i=>.ok (e,i)
 | f+1,e,i=>
  if code (tx L i)=0 then .ok (e,i)
  else match below (i+1) with
   | .error x=>.error x
   | .ok (r,j)=>lB below code f (Mw (code (tx L i)) e r) j
def zI (below:Nat->Except F (E×Nat)) (code:bE->Nat) (i:Nat):Except F (E×Nat):=
 match below i with
 | .error x=>.error x
 | .ok (e,j)=>lB L below code L.length e j
def A5 (one:Nat->Except F (E×Nat)):Nat->Nat->Except F (E×Nat)
 | 0=>one
 | t+1=>zI L (A5 one t) (iP (4-t))
def one:Nat->Nat->Except F (E×Nat)
 | 0,i=>.error (4,pl L i)
 | k+1,i=>
  if bP (tx L i)≠0 then
   match one k (i+1) with
   | .error x=>.error x
   | .ok (e,j)=>.ok (Ua (bP (tx L i)) e,j)
  else if tx L i=Q4 then
   match A5 L (one k) 5 (i+1) with
   | .error x=>.error x
   | .ok (e,j)=>if tx L j=Fj then .ok (e,j+1) else .error (3,pl L j)
  else if tx L i=Rz then
   if tx L (i+1)=Q4 then
    match nm L (i+2) with
    | .error x=>.error x
    | .ok s=>if tx L (i+3)=Fj then .ok (tU 3 s,i+4) else .error (3,pl L (i+3))
   else .error (3,pl L (i+1))
  else if kd L i=2 then .ok (Yh (val (tx L i)),i+1)
  else match nm L i with
   | .error x=>.error x
   | .ok s=>.ok (tU 2 s,i+1)
def eP (i:Nat):Except F (E×Nat):=A5 L (one L 7) 5 i
def sets:Nat->List iY->Nat->Except F (List iY×Nat)
 | 0,l,i=>.ok (l,i)
 | f+1,l,i=>
  match nm L i with
  | .error x=>.error x
  | .ok s=>
   if tx L (i+1)=rZ then
    match eP L (i+2) with
    | .error x=>.error x
    | .ok (e,j)=>if tx L j=Sb then sets f (l++[⟨s,e⟩]) (j+1) else .ok (l++[⟨s,e⟩],j)
   else .error (3,pl L (i+1))
def times (i:Nat):Except F Nat:=
 match bS L i with
 | .error x=>.error x
 | .ok n=>if n<1\/1000<n then .error (4,pl L i) else .ok n
def cond (i:Nat):Except F (Nat×E×Nat):=
 if tx L i=kIf then
  if tx L (i+1)=Q5 then
   match times L (i+2) with
   | .error x=>.error x
   | .ok n=>
    match eP L (i+3) with
    | .error x=>.error x
    | .ok (e,j)=>.ok (n,e,j)
  else
   match eP L (i+1) with
   | .error x=>.error x
   | .ok (e,j)=>.ok (1,e,j)
 else .ok (1,.nil,i)
def fR (i:Nat):Except F (List iY×Nat):=if tx L i=kDo then sets L L.length [] (i+1) else .ok ([],i)
def kH (s:bE) (i:Nat):Nat:=if tx L i=s then i+1 else i
def uG (kind i:Nat):Except F (Wy×Nat):=
 match cond L (kH L gB i) with
 | .error x=>.error x
 | .ok (n,e,j)=>
  match fR L j with
  | .error x=>.error x
  | .ok (l,m)=>
   if tx L m=mE then
    match nm L (m+1) with
    | .error x=>.error x
    | .ok s=>
     if tx L (kH L iS (m+2))=fE then .ok (⟨kind,decide (tx L i=gB),e,n,l,s,decide (tx L (m+2)=iS)⟩,kH L iS (m+2)+1)
     else .error (3,pl L (kH L iS (m+2)))
   else .error (3,pl L m)
def pD (i:Nat):Except F Nat:=if tx L i=fE then .ok (i+1) else .error (3,pl L i)
section
variable (ρ:Type) (aW:Nat->Nat->Except F (List ρ×Nat×Nat))
def eF (s:cF ρ) (c i:Nat):Except F (Option (cF ρ×Nat×Nat)):=
 match cZ (tx L i) with
 | some k=>
  match uG L k (i+1) with
  | .error x=>.error x
  | .ok (y,j)=>.ok (some ({ s with ways:=s.ways++[y] },c,j))
 | none=>
  if tx L i=dL then
   match aW c (i+1) with
   | .error x=>.error x
   | .ok (l,c',j)=>.ok (some ({ s with regions:=s.regions++[l] },c',j))
  else if tx L i=fW then
   match sets L L.length [] (i+1) with
   | .error x=>.error x
   | .ok (l,j)=>match pD L j with
    | .error x=>.error x
    | .ok m=>.ok (some ({ s with enter:=s.enter++l },c,m))
  else if tx L i=eM then
   match sets L L.length [] (i+1) with
   | .error x=>.error x
   | .ok (l,j)=>match pD L j with
    | .error x=>.error x
    | .ok m=>.ok (some ({ s with during:=s.during++l },c,m))
  else if tx L i=jN then
   match sets L L.length [] (i+1) with
   | .error x=>.error x
   | .ok (l,j)=>match pD L j with
    | .error x=>.error x
    | .ok m=>.ok (some ({ s with leave:=s.leave++l },c,m))
  else if tx L i=dB then
   match s.rests with
   | .nil=>
    match eP L (i+1) with
    | .error x=>.error x
    | .ok (e,j)=>match pD L j with
     | .error x=>.error x
     | .ok m=>.ok (some ({ s with rests:=e },c,m))
   | .node _ _ _ _ _=>.error (9,pl L (i+1))
  else .ok none
def parts:Nat->cF ρ->Nat->Nat->Except F (cF ρ×Nat×Nat)
 | 0,s,c,i=>.ok (s,c,i)
 | f+1,s,c,i=>
  match eF L ρ aW s c i with
  | .error x=>.error x
  | .ok none=>if tx L i=jM then .ok (s,c,i+1) else .error (3,pl L i)
  | .ok (some (s',c',j))=>parts f s' c' j
def cP (fi la:Bool) (c i:Nat):Except F (cF ρ×Nat×Nat):=
 if tx L i=gZ then
  if 24≤c then .error (4,pl L (i+1))
  else match nm L (i+1) with
   | .error x=>.error x
   | .ok s=>
    if tx L (i+2)=fE then .ok (⟨s,fi,la,[],[],[],.nil,[],[]⟩,c+1,i+3)
    else if tx L (i+2)=fF then parts L ρ aW L.length ⟨s,fi,la,[],[],[],.nil,[],[]⟩ (c+1) (i+3)
    else .error (3,pl L (i+2))
 else .error (3,pl L i)
def states:Nat->List (cF ρ)->Nat->Nat->Except F (List (cF ρ)×Nat×Nat)
 | 0,l,c,i=>.ok (l,c,i)
 | f+1,l,c,i=>
  if tx L i=dO\/tx L i=iC\/tx L i=gZ then
   match cP L ρ aW (decide (tx L i=dO)) (decide (tx L (kH L dO i)=iC)) c (kH L iC (kH L dO i)) with
   | .error x=>.error x
   | .ok (s,c',j)=>states f (l++[s]) c' j
  else if tx L i=jM then .ok (l,c,i+1)
  else .error (3,pl L i)
end
def aW:(k:Nat)->Nat->Nat->Except F (List (St k)×Nat×Nat)
 | 0,_,i=>.error (4,pl L i)
 | k+1,c,i=>if tx L i=fF then states L (St k) (aW k) L.length [] c (i+1) else .error (3,pl L i)
def first (i:Nat):Except F (Int×Nat):=
 if tx L i=rZ then
  if tx L (i+1)=vE then
   match bS L (i+2) with
   | .error x=>.error x
   | .ok n=>.ok (-(n:Int),i+3)
  else
   match bS L (i+1) with
   | .error x=>.error x
   | .ok n=>.ok ((n:Int),i+2)
 else .ok (0,i)
def dC (kind i:Nat):Except F (bQ×Nat):=
 match nm L i with
 | .error x=>.error x
 | .ok s=>
  match first L (i+1) with
  | .error x=>.error x
  | .ok (n,j)=>if tx L j=fE then .ok (⟨kind,s,n⟩,j+1) else .error (3,pl L j)
def kM:Nat->List bQ->List (List (St 6))->Nat->Nat->Except F (List bQ×List (List (St 6))×Nat)
 | 0,vs,rs,_,i=>.ok (vs,rs,i)
 | f+1,vs,rs,c,i=>
  if dY (tx L i)≠0 then
   if 20≤vs.length then .error (4,pl L (i+1))
   else match dC L (dY (tx L i)) (i+1) with
    | .error x=>.error x
    | .ok (v,j)=>kM f (vs++[v]) rs c j
  else if tx L i=dL then
   match aW L 6 c (i+1) with
   | .error x=>.error x
   | .ok (l,c',j)=>kM f vs (rs++[l]) c' j
  else if tx L i=jM then .ok (vs,rs,i+1)
  else .error (3,pl L i)
def dJ:Except F fZ:=
 if tx L 0=Q6 then
  match nm L 1 with
  | .error x=>.error x
  | .ok s=>
   if tx L 2=fF then
    match kM L L.length [] [] 0 3 with
    | .error x=>.error x
    | .ok (vs,rs,i)=>if kd L i=4 then .ok ⟨s,vs,rs⟩ else .error (3,pl L i)
   else .error (3,pl L 2)
 else .error (3,pl L 0)
end
end Px
end
section
open Go.RowKit Go.Deep Px
def sv (s:bE):Value:=.string ⟨s.toArray⟩
def bB (A A':Nat->Prop) (w w':World):Prop:=∀b,A b->b<w.heap.size->A' b/\w'.heap[b]?=w.heap[b]?
theorem bB.trans {A A' A'':Nat->Prop}{w w' w'':World}(h:bB A A' w w') (k:bB A' A'' w' w'') (hs:w.heap.size≤w'.heap.size):bB A A'' w w'':=fun b ha hb=>
 ⟨(k b (h b ha hb).1 (by omega)).1,(k b (h b ha hb).1 (by omega)).2.trans (h b ha hb).2⟩
theorem aB {w:World}{b:Nat}{o:Obj}(h:w.heap[b]?=some o):b<w.heap.size:=(Array.getElem?_eq_some_iff.1 h).1
def wU (A:Nat->Prop) (w:World) (e size:Nat) (v:Value) (n:Nat) (xs:List Value):Prop:=w.ownsRow 0 e size v n xs/\∀g,v.ownBlock=some g->A g
theorem eY {A A':Nat->Prop}{w w':World}{B e size n:Nat}{v:Value}{xs:List Value}(h:w.ownsRow B e size v n xs) (l:∀g,v.ownBlock=some g->A g) (k:bB A A' w w'):w'.ownsRow B e size v n xs:=by
 refine ⟨h.1,?_⟩
 rcases h.2 with r|⟨g,cap,j,rfl,hb,c,rest⟩
 ·exact .inl r
 ·exact .inr ⟨g,cap,j,rfl,hb,by rw[(k g (l g rfl) (aB c)).2];exact c,rest⟩
theorem wU.carry {A A':Nat->Prop}{w w':World}{e size n:Nat}{v:Value}{xs:List Value}(h:wU A w e size v n xs) (k:bB A A' w w'):wU A' w' e size v n xs:=
 ⟨eY h.1 h.2 k,fun g hg=>(k g (h.2 g hg) (h.1.lt g hg).2).1⟩
theorem qN {w:World}{B e size n:Nat}{v:Value}{xs:List Value}(h:w.ownsRow B e size v n xs):w.ownsRow 0 e size v n xs:=by
 refine ⟨h.1,?_⟩
 rcases h.2 with j|⟨g,cap,c,rfl,_,rest⟩
 ·exact .inl j
 ·exact .inr ⟨g,cap,c,rfl,aP6 _,rest⟩
def Rows {α:Type}(R:α->List Value->Prop):List α->List Value->Prop
 | [],xs=>xs=[]
 | a::r,xs=>∃c ys,xs=c++ys/\R a c/\Rows R r ys
theorem Rows.append {α:Type}{R:α->List Value->Prop}:∀{l m:List α}{xs j:List Value},Rows R l xs->Rows R m j->Rows R (l++m) (xs++j):=by
 intro l
 induction l with
 | nil=>intro m xs j h k;obtain rfl:xs=[]:=h;exact k
 | cons a r ih=>
  intro m xs j h k
  obtain ⟨c,zs,rfl,s,n⟩:=h
  exact ⟨c,zs++j,by rw[List.append_assoc],s,ih n k⟩
theorem Rows.one {α:Type}{R:α->List Value->Prop}{a:α}{c:List Value}(h:R a c):Rows R [a] c:=⟨c,[],by simp,h,rfl⟩
theorem Rows.map {α:Type}{R R':α->List Value->Prop}(k:∀a c,R a c->R' a c):∀{l:List α}{xs:List Value},Rows R l xs->Rows R' l xs:=by
 intro l
 induction l with
 | nil=>intro xs h;exact h
 | cons a r ih=>intro xs h;obtain ⟨c,j,rfl,s,n⟩:=h;exact ⟨c,j,rfl,k _ _ s,ih n⟩
theorem Rows.get {α:Type}{R:α->List Value->Prop}{k:Nat}(Q:∀a c,R a c->c.length=k):∀{l:List α}{xs:List Value},Rows R l xs->∀(i:Nat) (a:α),l[i]?=some a->∃c,R a c/\∀(j:Nat) (u:Value),c[j]?=some u->xs[i*k+j]?=some u:=by
 intro l
 induction l with
 | nil=>intro xs _ i a h;simp at h
 | cons x r ih=>
  intro xs h i a y
  obtain ⟨c,U,rfl,D,J⟩:=h
  have I:=Q _ _ D
  cases i with
  | zero=>
   obtain rfl:x=a:=by simpa using y
   refine ⟨c,D,fun j u n=>?_⟩
   have s:=(aO7.1 n).1
   rw[Nat.zero_mul,aX3,aR6 s];exact n
  | succ i=>
   obtain ⟨d,hd,O⟩:=ih J i a (by simpa using y)
   refine ⟨d,hd,fun j u n=>?_⟩
   have e:(i+1)*k+j=c.length+(i*k+j):=by rw[Nat.add_mul,I];omega
   rw[e,aW8 (by omega),Nat.add_sub_cancel_left];exact O j u n
def jR (A:Nat->Prop) (w:World):E->Value->Prop
 | .nil,v=>v=.pointer none
 | .node _ _ a l r,v=>∃g lv rv,v=.pointer (some ⟨g,0,none⟩)/\A g/\w.heap[g]?=some (.cells #[.int .i64 a.code,.int .i64 a.num,sv a.name,lv,rv] 307 (0,0))/\jR A w l lv/\jR A w r rv
theorem jR.carry {A A':Nat->Prop}{w w':World}(k:bB A A' w w'):∀{e:E}{v:Value},jR A w e v->jR A' w' e v:=by
 intro e
 induction e with
 | nil=>intro v h;exact h
 | node b o a l r ihl ihr=>
  intro v h
  obtain ⟨g,D,rv,rfl,s,n,u,y⟩:=h
  obtain ⟨c,j⟩:=k g s (aB n)
  exact ⟨g,D,rv,rfl,c,by rw[j];exact n,ihl u,ihr y⟩
def mT (A:Nat->Prop) (w:World) (a:iY) (c:List Value):Prop:=∃p,c=[sv a.name,p]/\jR A w a.e p
def cJ (A:Nat->Prop) (w:World) (l:List iY) (v:Value):Prop:=∃xs,wU A w 297 2 v l.length xs/\Rows (mT A w) l xs
def B7 (A:Nat->Prop) (w:World) (a:Wy) (c:List Value):Prop:=
 ∃p q,c=[.int .i64 a.kind,.bool a.now,p,.int .i64 a.times,q,sv a.to,.bool a.back]/\jR A w a.cond p/\cJ A w a.sets q
def qH (A:Nat->Prop) (w:World) (l:List Wy) (v:Value):Prop:=∃xs,wU A w 273 7 v l.length xs/\Rows (B7 A w) l xs
def Yz {ρ:Type}(IsReg:List ρ->Value->Prop) (r:List ρ) (c:List Value):Prop:=∃u,c=[u]/\IsReg r u
def gP {ρ:Type}(A:Nat->Prop) (w:World) (IsReg:List ρ->Value->Prop) (l:List (List ρ)) (v:Value):Prop:=∃xs,wU A w 174 1 v l.length xs/\Rows (Yz IsReg) l xs
def Da {ρ:Type}(A:Nat->Prop) (w:World) (IsReg:List ρ->Value->Prop) (s:cF ρ) (c:List Value):Prop:=
 ∃e d l p y r,c=[sv s.name,.bool s.first,.bool s.last,e,d,l,p,y,r]/\cJ A w s.enter e/\cJ A w s.during d/\cJ A w s.leave l/\jR A w s.rests p/\qH A w s.ways y/\gP A w IsReg s.regions r
def aM (A:Nat->Prop) (w:World):(k:Nat)->List (St k)->Value->Prop
 | 0=>fun l v=>l=[]/\v=.slice none 0 0
 | k+1=>fun l v=>∃xs,wU A w 223 9 v l.length xs/\Rows (Da A w (aM A w k)) l xs
def Jb (a:bQ) (c:List Value):Prop:=c=[.int .i64 a.kind,sv a.name,.int .i64 a.first]
def mJ (A:Nat->Prop) (w:World) (l:List bQ) (v:Value):Prop:=∃xs,wU A w 126 3 v l.length xs/\Rows Jb l xs
section
variable {A A':Nat->Prop}{w w':World}
theorem mT.carry (k:bB A A' w w') (a:iY) (c:List Value) (h:mT A w a c):mT A' w' a c:=by
 obtain ⟨p,rfl,j⟩:=h;exact ⟨p,rfl,j.carry k⟩
theorem cJ.carry (k:bB A A' w w') {l:List iY}{v:Value}(h:cJ A w l v):cJ A' w' l v:=by
 obtain ⟨j,n,c⟩:=h;exact ⟨j,n.carry k,c.map (mT.carry k)⟩
theorem B7.carry (k:bB A A' w w') (a:Wy) (c:List Value) (h:B7 A w a c):B7 A' w' a c:=by
 obtain ⟨p,q,rfl,j,l⟩:=h;exact ⟨p,q,rfl,j.carry k,l.carry k⟩
theorem qH.carry (k:bB A A' w w') {l:List Wy}{v:Value}(h:qH A w l v):qH A' w' l v:=by
 obtain ⟨j,n,c⟩:=h;exact ⟨j,n.carry k,c.map (B7.carry k)⟩
theorem gP.carry {ρ:Type}{I j:List ρ->Value->Prop}(k:bB A A' w w') (r:∀l v,I l v->j l v) {l:List (List ρ)}{v:Value}(h:gP A w I l v):gP A' w' j l v:=by
 obtain ⟨n,y,s⟩:=h;exact ⟨n,y.carry k,s.map (fun a c ⟨u,hc,hu⟩=>⟨u,hc,r _ _ hu⟩)⟩
theorem Da.carry {ρ:Type}{I j:List ρ->Value->Prop}(k:bB A A' w w') (u:∀l v,I l v->j l v) (s:cF ρ) (c:List Value) (h:Da A w I s c):Da A' w' j s c:=by
 obtain ⟨e,d,l,p,y,r,rfl,O,D,U,J,Q,n⟩:=h
 exact ⟨e,d,l,p,y,r,rfl,O.carry k,D.carry k,U.carry k,J.carry k,Q.carry k,n.carry k u⟩
theorem aM.carry (k:bB A A' w w'):∀(n:Nat) (l:List (St n)) (v:Value),aM A w n l v->aM A' w' n l v:=by
 intro n
 induction n with
 | zero=>intro l v h;exact h
 | succ n ih=>intro l v h;obtain ⟨c,r,j⟩:=h;exact ⟨c,r.carry k,j.map (Da.carry k ih)⟩
theorem mJ.carry (k:bB A A' w w') {l:List bQ}{v:Value}(h:mJ A w l v):mJ A' w' l v:=by
 obtain ⟨j,n,c⟩:=h;exact ⟨j,n.carry k,c⟩
end
structure Fr (B:Nat) (X:List Nat) (w w':World):Prop where
 os:w'.os=w.os
 tape:w'.tape=w.tape
 output:w'.output=w.output
 size:w.heap.size≤w'.heap.size
 block:∀k,k<B->k∉X->w'.heap[k]?=w.heap[k]?
theorem Fr.refl (B:Nat) (X:List Nat) (w:World):Fr B X w w:=⟨rfl,rfl,rfl,aO4 _,fun _ _ _=>rfl⟩
theorem Fr.trans {B:Nat}{X:List Nat}{a b c:World}(h:Fr B X a b) (k:Fr B X b c):Fr B X a c:=
 ⟨k.os.trans h.os,k.tape.trans h.tape,k.output.trans h.output,aO6 h.size k.size,fun i hi hx=>(k.block i hi hx).trans (h.block i hi hx)⟩
theorem Fr.mono {B B':Nat}{X X':List Nat}{w w':World}(h:Fr B X w w') (hB:B'≤B) (hX:∀x∈X,x<B'->x∈X'):Fr B' X' w w':=
 ⟨h.os,h.tape,h.output,h.size,fun k hk hx=>h.block k (by omega) (fun hm=>hx (hX k hm hk))⟩
theorem Fr.of_below {B:Nat}{w w':World}(h:Below B w w') (X:List Nat):Fr B X w w':=⟨h.os,h.tape,h.output,h.size,fun k hk _=>h.block k hk⟩
theorem Fr.below {B:Nat}{w w':World}(h:Fr B [] w w'):Below B w w':=⟨h.os,h.tape,h.output,h.size,fun k hk=>h.block k hk (by simp)⟩
theorem Fr.alloc {B:Nat}{X:List Nat}{a w:World}(h:Fr B X a w) (hB:B≤w.heap.size) (o:Obj):Fr B X a (w.alloc o):=
 h.trans ⟨rfl,rfl,rfl,by simp,fun k hk _=>Below.heap_alloc _ _ _ (by omega)⟩
theorem Fr.setCell {B:Nat}{X:List Nat}{a w:World}(h:Fr B X a w) {p:Addr}(hp:B≤p.block\/p.block∈X) (u:Value):Fr B X a (w.setCell p u):=
 h.trans ⟨rfl,rfl,rfl,by simp[World.setCell],fun k hk hx=>Below.heap_setCell _ _ _ _ (fun e=>by rcases hp with hp|hp;omega;exact hx (e▸hp))⟩
theorem Fr.drew {B:Nat}{X:List Nat}{a w:World}(h:Fr B X a w):Fr B X a w.drew:=⟨h.os,h.tape,h.output,h.size,h.block⟩
theorem Fr.drewN {B:Nat}{X:List Nat}{a w:World}(h:Fr B X a w) (n:Nat):Fr B X a (w.drewN n):=h.trans ⟨rfl,rfl,rfl,aO4 _,fun _ _ _=>rfl⟩
theorem Fr.grown {B:Nat}{X:List Nat}{a w w':World}{row:Option Nat}(h:Fr B X a w) (hg:w.grownBy w' row) (hB:B≤w.heap.size) (hr:∀k,row=some k->B≤k\/k∈X):Fr B X a w':=
 h.trans ⟨hg.os,hg.tape,hg.output,hg.size,fun k hk hx=>hg.block k (by omega) (fun e=>by rcases hr k e.symm with h|h;omega;exact hx h)⟩
theorem Fr.cell {B:Nat}{X:List Nat}{w w':World}(h:Fr B X w w') {p:Addr}(hp:p.block<B) (hx:p.block∉X):w'.cell? p=w.cell? p:=aY6 (w:=w) (h.block p.block hp hx)
theorem Fr.keep {X:List Nat}{w w':World}{A:Nat->Prop}(h:Fr w.heap.size X w w') (hA:∀b,A b->b∉X):bB A A w w':=fun b ha hb=>⟨ha,h.block b hb (hA b ha)⟩
end
section
open Go.RowKit Px
theorem aF {w:World}{g T:Nat}{cs:Array Value}(h:w.heap[g]?=some (.cells cs T (0,0))) (j:Nat) {u:Value}(c:cs[j]?=some u):w.cell? ⟨g,j,none⟩=some u:=by
 simp[World.cell?,h,c]
theorem aX (w:World) (o:Obj):(w.alloc o).heap[w.heap.size]?=some o:=heap_alloc_new w o
theorem eB {w:World}{b:Nat}{o o':Obj}(h:w.heap[b]?=some o):(w.alloc o').heap[b]?=some o:=by
 rw[Below.heap_alloc _ _ _ (aB h)];exact h
theorem aL (w:World) (o:Obj):Below w.heap.size w (w.alloc o):=(Below.refl _ _).alloc (aO4 _) _
theorem aQ {w w' w'':World}(h:Below w.heap.size w w') (k:Below w'.heap.size w' w''):Below w.heap.size w w'':=h.trans (k.mono h.size)
theorem aN {w w':World}(h:Below w.heap.size w w') {a:Addr}{v:Value}(c:w.cell? a=some v):w'.cell? a=some v:=by
 rw[h.cell (aY5 w a c)];exact c
theorem aD {w w':World}(h:Below w.heap.size w w') {b:Nat}{o:Obj}(hb:w.heap[b]?=some o):w'.heap[b]?=some o:=by
 rw[h.block b (aB hb)];exact hb
theorem wU.open {α:Type}{R:α->List Value->Prop}{A:Nat->Prop}{w:World}{e k:Nat}{v:Value}{l:List α}{xs:List Value}(U:∀a c,R a c->c.length=k) (n:wU A w e k v l.length xs) (Q:Rows R l xs) :
    ∃ad g cap,v=.slice ad l.length cap/\l.length≤maxLen/\(0<l.length->ad=some ⟨g,0,none⟩/\A g/\g<w.heap.size)/\∀(i:Nat) (a:α),l[i]?=some a->∃c,R a c/\∀(j:Nat) (u:Value),c[j]?=some u->w.cell? ⟨g,i*k+j,none⟩=some u:=by
 have Y:=fun g r=>World.ownsRow.cells n.1 (g:=g) r
 have I:=fun g r=>World.ownsRow.lt n.1 g r
 have hA:=n.2
 rcases n.1.2 with ⟨rfl,J⟩|⟨g,cap,D,rfl,_,_,Z,h3,_⟩
 ·have:l=[]:=aR5.1 J
  subst this
  exact ⟨none,0,0,rfl,aP6 _,fun h=>absurd h (by simp),fun i a h=>absurd h (by simp)⟩
 ·refine ⟨_,g,cap,rfl,by omega,fun _=>⟨rfl,hA g rfl,(I g rfl).2⟩,fun i a O=>?_⟩
  obtain ⟨c,s,hx⟩:=Rows.get U Q i a O
  refine ⟨c,s,fun j u X=>?_⟩
  have y:=Y g rfl _ u (hx j u X)
  have ad:(⟨g,0,none⟩:Addr).add (i*k+j)=⟨g,i*k+j,none⟩:=by unfold Addr.add;split<;>simp_all
  rw[ad] at y
  exact y
theorem ixV (ad:Option Addr) (g n cap k:Nat) (j:k<n) (c:0<n->ad=some ⟨g,0,none⟩) (w:World):(Instr.indexAt 44 (.slice ad n cap) (.int .i64 (k:Int))).run prog w=.ok (.pointer (some ⟨g,k*3,none⟩)) w:=by
 obtain rfl:=c (by omega)
 rw[aY8 _ _ _ _ _ _ _ (by kernel_rfl),if_pos ⟨by omega,by omega⟩]
 have e:(sizeOf (prog.elem 44)).run prog w=.ok 3 w:=by kernel_rfl
 rw[e]
 simp[Result.andThen,Addr.add]
 try (intro h;exact h.symm)
theorem Xo (ad:Option Addr) (g n cap k:Nat) (j:k<n) (c:0<n->ad=some ⟨g,0,none⟩) (w:World):(Instr.indexAt 174 (.slice ad n cap) (.int .i64 (k:Int))).run prog w=.ok (.pointer (some ⟨g,k*9,none⟩)) w:=by
 obtain rfl:=c (by omega)
 rw[aY8 _ _ _ _ _ _ _ (by kernel_rfl),if_pos ⟨by omega,by omega⟩]
 have e:(sizeOf (prog.elem 174)).run prog w=.ok 9 w:=by kernel_rfl
 rw[e]
 simp[Result.andThen,Addr.add]
 try (intro h;exact h.symm)
theorem ixS (ad:Option Addr) (g n cap k:Nat) (j:k<n) (c:0<n->ad=some ⟨g,0,none⟩) (w:World):(Instr.indexAt 219 (.slice ad n cap) (.int .i64 (k:Int))).run prog w=.ok (.pointer (some ⟨g,k*2,none⟩)) w:=by
 obtain rfl:=c (by omega)
 rw[aY8 _ _ _ _ _ _ _ (by kernel_rfl),if_pos ⟨by omega,by omega⟩]
 have e:(sizeOf (prog.elem 219)).run prog w=.ok 2 w:=by kernel_rfl
 rw[e]
 simp[Result.andThen,Addr.add]
 try (intro h;exact h.symm)
theorem wO (ad:Option Addr) (g n cap k:Nat) (j:k<n) (c:0<n->ad=some ⟨g,0,none⟩) (w:World):(Instr.indexAt 221 (.slice ad n cap) (.int .i64 (k:Int))).run prog w=.ok (.pointer (some ⟨g,k*7,none⟩)) w:=by
 obtain rfl:=c (by omega)
 rw[aY8 _ _ _ _ _ _ _ (by kernel_rfl),if_pos ⟨by omega,by omega⟩]
 have e:(sizeOf (prog.elem 221)).run prog w=.ok 7 w:=by kernel_rfl
 rw[e]
 simp[Result.andThen,Addr.add]
 try (intro h;exact h.symm)
theorem K8 (ad:Option Addr) (g n cap k:Nat) (j:k<n) (c:0<n->ad=some ⟨g,0,none⟩) (w:World):(Instr.indexAt 45 (.slice ad n cap) (.int .i64 (k:Int))).run prog w=.ok (.pointer (some ⟨g,k,none⟩)) w:=by
 obtain rfl:=c (by omega)
 rw[aY8 _ _ _ _ _ _ _ (by kernel_rfl),if_pos ⟨by omega,by omega⟩]
 have e:(sizeOf (prog.elem 45)).run prog w=.ok 1 w:=by kernel_rfl
 rw[e]
 simp[Result.andThen,Addr.add]
 try (intro h;exact h.symm)
theorem zE (ad:Option Addr) (g n cap k:Nat) (j:k<n) (c:0<n->ad=some ⟨g,0,none⟩) (w:World):(Instr.indexAt 23 (.slice ad n cap) (.int .i64 (k:Int))).run prog w=.ok (.pointer (some ⟨g,k,none⟩)) w:=by
 obtain rfl:=c (by omega)
 rw[aY8 _ _ _ _ _ _ _ (by kernel_rfl),if_pos ⟨by omega,by omega⟩]
 have e:(sizeOf (prog.elem 23)).run prog w=.ok 1 w:=by kernel_rfl
 rw[e]
 simp[Result.andThen,Addr.add]
 try (intro h;exact h.symm)
end
end Go.Proofs.YthieaobjdpfcoaaGreatDoor
