import Derived.Test.YthieaobjdpfcoaaGreatDoorVPparse
import Derived.Test.YthieaobjdpfcoaaGreatDoorRows
import Derived.ProofKit
import Derived.LaidMore
import Derived.OpenShut
import Derived.ShutString
import Derived.Stop.Joined
import Derived.Lib.LaidTab
import Derived.Lib.QuietBelow
set_option maxHeartbeats 1000000
namespace Go.Proofs.YthieaobjdpfcoaaGreatDoor
open Go.Proofs.Tryz (prog)
section
open Go.RowKit Px
namespace Kx
theorem vL {e:E}(h:Sh.TE e):C0 e:=by
 induction e with
 | nil=>trivial
 | node b o a l r ihl ihr=>
  obtain ⟨k,u,n,y,_,c,j⟩:=h
  exact ⟨by unfold maxLen;omega,ihl c,ihr j⟩
theorem nmS {l:List iY}(h:Sh.TS l):mD l:=fun a ha=>⟨by have:=(h a ha).2;unfold maxLen;omega,vL (h a ha).1⟩
theorem aI6 {α:Type}(f:α->Nat) (c:∀a,1≤f a) (l:List α):l.length≤Sh.fU f l:=by
 induction l with
 | nil=>simp
 | cons a r ih=>rw[Sh.fU,aV8];have:=c a;omega
theorem aR1:∀(k:Nat) (x:St k),Sh.Yx k x->Sh.jG k x≤601->He k x:=by
 intro k
 induction k with
 | zero=>intro x _ _;trivial
 | succ k ih=>
  intro x h u
  obtain ⟨X,Q,D,I,O,l,J⟩:=h
  have j:Sh.lG (Sh.jG k) x≤601:=u
  unfold Sh.lG at j
  have U:=aI6 Sh.wW (fun y=>by unfold Sh.wW;omega) (cF.ways x)
  refine ⟨⟨by unfold maxLen;omega,nmS Q,nmS D,nmS I,vL O,fun y c=>⟨by have:=(l y c).2.2.2.2;unfold maxLen;omega,vL (l y c).2.2.1,nmS (l y c).2.2.2.1⟩,by omega⟩,fun r n y c=>ih y (J r n y c) ?_⟩
  have a1:1+Sh.fU (Sh.jG k) r≤Sh.fU (Sh.wR (Sh.jG k)) (cF.regions x):=Sh.sR (Sh.wR (Sh.jG k)) (cF.regions x) r n
  have Y:=Sh.sR (Sh.jG k) r y c
  omega
theorem Hm {α:Type}{f g:α->Nat}(l:List α) (h:∀a∈l,f a≤g a):gY f l≤Sh.fU g l:=by
 induction l with
 | nil=>simp[gY,Sh.fU]
 | cons a r ih=>rw[gY,Sh.fU];have:=h a (by simp);have:=ih (fun b hb=>h b (by simp[hb]));omega
theorem aT2:∀(k:Nat) (x:St k),1+Cz k x≤Sh.jG k x:=by
 intro k
 induction k with
 | zero=>intro x;exact aO4 _
 | succ k ih=>
  intro x
  show 1+gY (gY fun y=>1+Cz k y) (cF.regions x)≤Sh.lG (Sh.jG k) x
  unfold Sh.lG
  have:=Hm (f:=gY fun y=>1+Cz k y) (g:=Sh.wR (Sh.jG k)) (cF.regions x) (fun r _=>by
   have:=Hm (f:=fun y=>1+Cz k y) (g:=Sh.jG k) r (fun y _=>ih y)
   unfold Sh.wR;omega)
  omega
theorem O6 {L:List Lx.fQ}(D:Wf L) {c:fZ}(h:dJ L=.ok c):qZ c:=by
 obtain ⟨u,n,J⟩:=Sh.V4 D h
 have hx:∀r∈c.regions,∀x∈r,Sh.jG 6 x≤601:=fun r k x hx=>by
  have a1:1+Sh.fU (Sh.jG 6) r≤Sh.fU (Sh.wR (Sh.jG 6)) c.regions:=Sh.sR (Sh.wR (Sh.jG 6)) c.regions r k
  have I:=Sh.sR (Sh.jG 6) r x hx
  omega
 refine ⟨by omega,fun v l=>by have:=(u v l).2;unfold maxLen;omega,fun r k x j=>aR1 6 x (n r k x j) (hx r k x j),?_⟩
 have:=Hm (f:=Y4 6) (g:=Sh.wR (Sh.jG 6)) c.regions (fun r _=>by
  have:=Hm (f:=fun y=>1+Cz 6 y) (g:=Sh.jG 6) r (fun y _=>aT2 6 y)
  unfold Y4 Sh.wR;omega)
 omega
structure rP (w:World):Prop where
 tabs:rD w
 marks:lP w
 big:11≤w.heap.size
theorem rP.up {w W:World}(h:rP w) (hb:Below w.heap.size w W):rP W:=
 ⟨h.tabs.keep (fun b hb'=>hb.block b (aO5 hb' h.big)),h.marks.below (aO4 _) hb,aO6 h.big hb.size⟩
theorem Ix {A:Nat->Prop}{c:fZ}{W W':World}{v:Value}(h:gQ A W c v) (hb:Below W.heap.size W W'):gQ A W' c v:=by
 have j:bB A A W W':=fun b y k=>⟨y,hb.block b k⟩
 obtain ⟨a,n,m,r,I,l,rfl,u,D⟩:=h
 exact ⟨a,n,m,r,I,l,rfl,u.carry j,D.carry j (aM.carry j 6)⟩
theorem pN (c:Array Value) (W:World) (e:Nat) (j:Array Value) (h:j.size=3) (k:c[2]?.getD undef=.pointer (some ⟨e,0,none⟩)) (l:W.heap[e]?=some (.cells j 47 (0,0))) :
    (results Tryz.f18 c).run prog W=.ok (.tuple #[.agg j,c.getD 3 undef]) W:=by
 simp[results,Tryz.results18,k,asAddr,O9 h l]
end Kx
end
section
open Go.ChangeShapes Go.WideShapes Go.ChangeAt Go.RowKit Px
theorem aJ2:ownKnob prog.godebug=none:=by kernel_rfl
theorem Ig:laidOutB prog=true:=by kernel_rfl
def Cx:DataW Unit->List Value
 | .lit (.string s)=>[.string ⟨s.toArray⟩]
 | .lit (.int k n)=>[.int k n]
 | _=>[]
def Mo (f:DataW Unit->List Value):DataW Unit->List Value
 | .agg ps=>ps.flatMap f
 | _=>[]
def lO (W:World) (t k:Nat) (f:DataW Unit->List Value):Prop:=
 ∀fuel cs d p,DataW.trod (fun _=>()) prog W 0 (fun _=>true) false fuel t cs=some (d,p)->cs=f d/\cs.length=k
theorem O4 {W:World}{t:Nat}(j:prog.underlying t=some .string):lO W t 1 Cx:=by
 intro fuel cs d p h
 cases fuel with
 | zero=>simp[DataW.trod] at h
 | succ fuel=>
  rcases cs with _|⟨c,_|⟨k,r⟩⟩
  ·simp[DataW.trod,j] at h
  ·cases c with
   | string s=>
    simp only[DataW.trod,j] at h
    split at h
    ·have hb:=congrArg Prod.fst (Option.some.inj h)
     simp only at hb
     subst hb
     exact ⟨rfl,rfl⟩
    ·cases h
   | _=>simp[DataW.trod,j] at h
  ·simp[DataW.trod,j] at h
theorem Lg {W:World}{t:Nat}{k:IntKind}(j:prog.underlying t=some (.int k)):lO W t 1 Cx:=by
 intro fuel cs d p h
 cases fuel with
 | zero=>simp[DataW.trod] at h
 | succ fuel=>
  rcases cs with _|⟨c,_|⟨l,r⟩⟩
  ·simp[DataW.trod,j] at h
  ·cases c with
   | int k' n=>
    simp only[DataW.trod,j] at h
    split at h
    ·rename_i hk
     have hb:=congrArg Prod.fst (Option.some.inj h)
     simp only at hb
     subst hb
     rw[hk.1]
     exact ⟨rfl,rfl⟩
    ·cases h
   | _=>simp[DataW.trod,j] at h
  ·simp[DataW.trod,j] at h
theorem aG1 {k:Nat}{f:DataW Unit->List Value}:∀(ds:List (DataW Unit)) (cs:List Value),cs.length=ds.length*k->(∀i d,ds[i]?=some d->(cs.drop (i*k)).take k=f d)->cs=ds.flatMap f:=by
 intro ds
 induction ds with
 | nil=>intro cs c _;simp at c;simp[c]
 | cons d r ih=>
  intro cs c h
  have j:=h 0 d rfl
  rw[Nat.zero_mul,List.drop_zero] at j
  have l:=ih (cs.drop k) (by rw[List.length_drop,c,aV8,Nat.add_mul];omega) (fun i d n=>by
   have:=h (i+1) d (by simpa using n)
   rw[Nat.add_mul,Nat.one_mul,Nat.add_comm,<-List.drop_drop] at this
   exact this)
  rw[List.flatMap_cons,<-j,<-l,List.take_append_drop]
theorem jK {W:World}{t e n k:Nat}{f:DataW Unit->List Value}(O:prog.underlying t=some (.array n e)) (j:prog.cellsOf e=k) (u:prog.cellsOf t=n*k) (U:lO W e k f):lO W t (n*k) (Mo f):=by
 intro fuel cs d p h
 cases fuel with
 | zero=>simp[DataW.trod] at h
 | succ fuel=>
  simp only[DataW.trod,O,j,u] at h
  split at h
  ·rename_i hl
   obtain ⟨y,I,hx⟩:=Option.map_eq_some_iff.1 h
   have hd:=congrArg Prod.fst hx
   simp only at hd
   subst hd
   have c:y.length=n:=by simpa using Lib.mapM_length I
   refine ⟨?_,hl⟩
   show cs=(y.map (·.1)).flatMap f
   refine aG1 (k:=k) _ cs (by rw[List.length_map,c];exact hl) (fun i d D=>?_)
   rw[aW6,Option.map_eq_some_iff] at D
   obtain ⟨b,hb,rfl⟩:=D
   have l:i<n:=by rw[<-c];exact (aO7.1 hb).1
   obtain ⟨Q,r,J⟩:=Lib.mapM_at I i i (by simp[l])
   obtain rfl:b=Q:=Option.some.inj (hb.symm.trans r)
   exact (U fuel _ b.1 b.2 J).1
  ·cases h
theorem aA5 {α:Type}:∀(l:List α),l.length=2->∃x y,l=[x,y]
 | [x,y],_=>⟨x,y,rfl⟩
theorem Lf {W:World}{t a b:Nat}{f g:Field}(Q:prog.underlying t=some (.struct #[f,g])) (D:f.type=a/\f.offset=0) (I:g.type=b/\g.offset=1) (u:prog.cellsOf t=2) (l:prog.cellsOf a=1) (j:prog.cellsOf b=1) (X:lO W a 1 Cx) (hb:lO W b 1 Cx):lO W t 2 (Mo Cx):=by
 intro fuel cs d p h
 cases fuel with
 | zero=>simp[DataW.trod] at h
 | succ fuel=>
  simp only[DataW.trod,Q,u] at h
  split at h
  ·rename_i hl
   obtain ⟨Z,J,hx⟩:=Option.map_eq_some_iff.1 h
   obtain ⟨x,y,rfl⟩:∃x y,cs=[x,y]:=aA5 cs hl
   have hd:=congrArg Prod.fst hx
   simp only at hd
   subst hd
   simp only[List.mapM_cons,List.mapM_nil,Option.bind_eq_bind,Option.bind_eq_some_iff,Option.pure_def,Option.some.injEq,D.1,D.2,I.1,I.2,l,j] at J
   obtain ⟨n,c,e,⟨k,r,Y,rfl,rfl⟩,rfl⟩:=J
   have O:=(X fuel _ n.1 n.2 c).1
   have U:=(hb fuel _ k.1 k.2 r).1
   refine ⟨?_,rfl⟩
   show [x,y]=Cx n.1++(Cx k.1++[])
   rw[<-O,<-U];rfl
  ·cases h
theorem Ax {W:World}:∀{l:List (String×DataW Unit)}{ps:List MemPlace},DataW.LaidVars prog W l ps->∀x∈l,∃g t cs f p,prog.globalNamed x.1=some g/\(prog.globals[g]?).map (·.type)=some t/\W.var? prog x.1=some cs/\DataW.trod (fun _=>()) prog W 0 (fun _=>true) false f t cs.toList=some (x.2,p):=by
 intro l
 induction l with
 | nil=>intro ps _ x hx;cases hx
 | cons y r ih=>
  intro ps h x hx
  obtain ⟨g,t,cs,f,p,q,n,c,j,k,u,_⟩:=h
  rcases aW5.1 hx with rfl|hx
  ·exact ⟨g,t,cs,f,p,n,c,j,k⟩
  ·exact ih u x hx
theorem uP {W:World}{l:List (String×DataW Unit)}{ps:List MemPlace}(j:DataW.LaidVars prog W l ps) {n:String}{d:DataW Unit}(D:(n,d)∈l) {g t k:Nat}{f:DataW Unit->List Value}(c:prog.globalNamed n=some g) (u:(prog.globals[g]?).map (·.type)=some t) (h:lO W t k f):qD W g (f d):=by
 obtain ⟨X,U,cs,O,p,Q,r,y,J⟩:=Ax j _ D
 obtain rfl:=Option.some.inj (c.symm.trans Q)
 obtain rfl:=Option.some.inj (u.symm.trans r)
 have e:=(h O _ _ _ J).1
 intro i v I
 rw[World.var?_cell c y i,<-Array.getElem?_toList,e]
 exact I
theorem aG4 {W:World}{l:List (String×DataW Unit)}{ps:List MemPlace}(j:DataW.LaidVars prog W l ps) {n:String}{d:DataW Unit}(h:(n,d)∈l) {g:Nat}(k:prog.globalNamed n=some g):g<W.heap.size:=by
 obtain ⟨J,D,cs,y,p,I,r,c,u⟩:=Ax j _ h
 rw[World.var?,k,Option.bind_some] at c
 by_cases hlt:g<W.heap.size
 ·exact hlt
 ·rw[show W.heap[g]?=none from Array.getElem?_eq_none (by omega)] at c
  simp at c
theorem O5 {W:World}:lO W 9 1 Cx:=O4 Tryz.underlying9
theorem aB8 {W:World}:lO W 3 1 Cx:=Lg Tryz.underlying3
theorem Hv {W:World}:lO W 328 2 (Mo Cx):=Lf Tryz.underlying328 ⟨rfl,rfl⟩ ⟨rfl,rfl⟩ (by kernel_rfl) (by kernel_rfl) (by kernel_rfl) O5 aB8
theorem Zk {W:World}:lO W 215 (21*1) (Mo Cx):=jK Tryz.underlying215 (by kernel_rfl) (by kernel_rfl) O5
theorem aQ9 {W:World}:lO W 217 (4*1) (Mo Cx):=jK Tryz.underlying217 (by kernel_rfl) (by kernel_rfl) O5
theorem aR0 {W:World}:lO W 316 (3*1) (Mo Cx):=jK Tryz.underlying316 (by kernel_rfl) (by kernel_rfl) O5
theorem aJ4 {W:World}:lO W 332 (2*2) (Mo (Mo Cx)):=jK Tryz.underlying332 (by kernel_rfl) (by kernel_rfl) Hv
theorem aJ3 {W:World}:lO W 329 (4*2) (Mo (Mo Cx)):=jK Tryz.underlying329 (by kernel_rfl) (by kernel_rfl) Hv
theorem aB9 {W:World}:lO W 330 (5*(4*2)) (Mo (Mo (Mo Cx))):=jK Tryz.underlying330 (by kernel_rfl) (by kernel_rfl) aJ3
theorem aE8:prog.globalNamed "clepsydra/lex.marks"=some 0:=by kernel_rfl
theorem aE7:prog.globalNamed "clepsydra/parse.words"=some 2:=by kernel_rfl
theorem aF0:prog.globalNamed "clepsydra/parse.kinds"=some 1:=by kernel_rfl
theorem aE9:prog.globalNamed "clepsydra/parse.leads"=some 3:=by kernel_rfl
theorem aF1:prog.globalNamed "clepsydra/parse.ahead"=some 7:=by kernel_rfl
theorem Td:prog.globalNamed "clepsydra/parse.between"=some 6:=by kernel_rfl
theorem Re {W:World}(h:qD W 0 (Lx.marks.map fV)):lP W:=by
 intro i j
 have c:=j
 refine h i _ ?_
 rw[aW6,aN4 c,iO,aN4 c]
 rfl
theorem aL9:prog.globalNamed "math/bits.deBruijn64tab"=some 10:=by kernel_rfl
theorem Jp {W:World}{l:List (String×DataW Unit)}{ps:List MemPlace}(hl:DataW.LaidVars prog W l ps)
    (h1:("clepsydra/lex.marks",Rows.laid_clepsydra_lex_marks)∈l) (h2:("clepsydra/parse.between",Rows.laid_clepsydra_parse_between)∈l) (h3:("clepsydra/parse.ahead",Rows.laid_clepsydra_parse_ahead)∈l) (h4:("clepsydra/parse.kinds",Rows.laid_clepsydra_parse_kinds)∈l) (h5:("clepsydra/parse.leads",Rows.laid_clepsydra_parse_leads)∈l) (h6:("clepsydra/parse.words",Rows.laid_clepsydra_parse_words)∈l) (h7:("math/bits.deBruijn64tab",Rows.laid_math_bits_deBruijn64tab)∈l):Kx.rP W:=
 ⟨⟨uP hl h6 aE7 (by kernel_rfl) Zk,uP hl h4 aF0 (by kernel_rfl) aQ9,uP hl h5 aE9 (by kernel_rfl) aR0,uP hl h3 aF1 (by kernel_rfl) aJ4,uP hl h2 Td (by kernel_rfl) aB9⟩,Re (uP hl h1 aE8 (by kernel_rfl) Zk),aG4 hl h7 aL9⟩
theorem Pr {W:World}(h:laidMet prog [("math/bits.deBruijn32tab",Rows.laid_math_bits_deBruijn32tab),("math/bits.deBruijn64tab",Rows.laid_math_bits_deBruijn64tab),("internal/strconv.uint64pow10",Rows.laid_internal_strconv_uint64pow10),("strconv.ErrRange",Rows.laid_strconv_ErrRange),("strconv.ErrSyntax",Rows.laid_strconv_ErrSyntax),("clepsydra/lex.marks",Rows.laid_clepsydra_lex_marks),("clepsydra/parse.between",Rows.laid_clepsydra_parse_between),("clepsydra/parse.ahead",Rows.laid_clepsydra_parse_ahead),("clepsydra/parse.kinds",Rows.laid_clepsydra_parse_kinds),("clepsydra/parse.leads",Rows.laid_clepsydra_parse_leads),("clepsydra/parse.words",Rows.laid_clepsydra_parse_words)] W):Kx.rP W:=by
 obtain ⟨k,j,_⟩:=h
 have c:∀(a:String×DataW Unit) (r:List (String×DataW Unit)),a∈a::r:=fun a r=>List.mem_cons_self
 exact Jp j (.tail _ (.tail _ (.tail _ (.tail _ (.tail _ (c _ _)))))) (.tail _ (.tail _ (.tail _ (.tail _ (.tail _ (.tail _ (c _ _))))))) (.tail _ (.tail _ (.tail _ (.tail _ (.tail _ (.tail _ (.tail _ (c _ _)))))))) (.tail _ (.tail _ (.tail _ (.tail _ (.tail _ (.tail _ (.tail _ (.tail _ (c _ _))))))))) (.tail _ (.tail _ (.tail _ (.tail _ (.tail _ (.tail _ (.tail _ (.tail _ (.tail _ (c _ _)))))))))) (.tail _ (.tail _ (.tail _ (.tail _ (.tail _ (.tail _ (.tail _ (.tail _ (.tail _ (.tail _ (c _ _))))))))))) (.tail _ (c _ _))
end
section
namespace Nx
structure Sp where
 code:Int
 dst:Int
 a:Int
 b:Int
 c:Int
structure Nt where
 places:Int
 first:List Int
 ins:List Int
 outs:List Int
 keeps:List Int
 nums:List Int
 code:List Sp
def eD:Sp:=⟨0,0,0,0,0⟩
def get (l:List Int) (i:Int):Int:=if 0≤i then l.getD i.toNat 0 else 0
def put (l:List Int) (i x:Int):List Int:=if 0≤i then l.set i.toNat x else l
theorem tB (l:List Int) (i x:Int):(put l i x).length=l.length:=by unfold put;split<;>simp
theorem Yb (l:List Int) (k:Nat):get l k=l.getD k 0:=by unfold get;simp
theorem qS (l:List Int) (i:Int) (h:i<0):get l i=0:=by unfold get;rw[if_neg (by omega)]
theorem nE (l:List Int) (i:Int) (h:(l.length:Int)≤i):get l i=0:=by
 unfold get
 split
 ·rw[iO,aX5 (by omega)];rfl
 ·rfl
theorem Gc (l:List Int) (i:Int) (h0:0≤i):get l i=l.getD i.toNat 0:=by unfold get;rw[if_pos h0]
theorem Qe (l:List Int) (i x:Int) (h0:0≤i):put l i x=l.set i.toNat x:=by unfold put;rw[if_pos h0]
theorem Ht (l:List Int) (i x:Int) (h:i<0\/(l.length:Int)≤i):put l i x=l:=by
 unfold put
 split
 ·rw[List.set_eq_of_length_le (by omega)]
 ·rfl
theorem qR (l:List Int) (i j x:Int):get (put l i x) j=if i=j/\0≤i/\i<l.length then x else get l j:=by
 by_cases hj:0≤j
 ·rw[Gc _ _ hj,Gc _ _ hj]
  by_cases hi:0≤i
  ·rw[Qe _ _ _ hi]
   simp only[iO,aX4]
   by_cases e:i=j
   ·subst e
    by_cases hl:i<l.length
    ·rw[if_pos rfl,if_pos (by omega),if_pos ⟨rfl,hi,hl⟩];rfl
    ·rw[if_pos rfl,if_neg (by omega),if_neg (by omega),aX5 (by omega)]
   ·rw[if_neg (by omega),if_neg (by omega)]
  ·rw[Ht _ _ _ (.inl (by omega)),if_neg (by omega)]
 ·rw[qS _ _ (by omega),qS _ _ (by omega)]
  split
  ·omega
  ·rfl
def aN3 (s:Sp):List Int:=
 if s.code=2\/s.code=4\/s.code=5 then [s.a] else if 6≤s.code/\s.code≤16 then [s.a,s.b] else if s.code=17 then [s.a,s.b,s.c] else []
def cR (P p:Int):Bool:=decide (0≤p)&&decide (p<P)
def eA (P:Int) (nums:Nat) (s:Sp):Nat:=
 if s.code<1\/17<s.code\/s.code=3 then 3
 else if ¬(cR P s.dst=true/\(aN3 s).all (cR P)=true) then 2
 else if s.code=1/\¬(0≤s.a/\s.a<nums) then 2
 else if ([s.a,s.b,s.c].drop (if s.code=1 then 1 else (aN3 s).length)).any (· != 0) then 1 else 0
def dD (n:Nt):Nat:=
 if n.places<0\/4000<n.places\/4000<n.code.length\/4000<n.nums.length\/4000<n.ins.length+n.outs.length+n.keeps.length then 4
 else if (n.first.length:Int)≠n.places then 3
 else if ¬(n.ins.all (cR n.places)=true/\n.outs.all (cR n.places)=true/\n.keeps.all (cR n.places)=true) then 2
 else if ¬n.ins.Nodup then 9 else 0
def lQ (P:Int) (nums:Nat):List Sp->Nat->Nat×Int
 | [],_=>(0,-1)
 | s::r,i=>if eA P nums s=0 then lQ P nums r (i+1) else (eA P nums s,i)
def fY (n:Nt):Nat×Int:=if dD n=0 then lQ n.places n.nums.length n.code 0 else (dD n,-1)
theorem vZ (P:Int) (nums:Nat) (l:List Sp) (i k:Nat) (h:∀j,j<k->eA P nums (l.getD j eD)=0) (c:k≤l.length):lQ P nums l i=lQ P nums (l.drop k) (i+k):=by
 induction k generalizing l i with
 | zero=>simp
 | succ k ih=>
  cases l with
  | nil=>simp at c
  | cons s r=>
   have n:eA P nums s=0:=by simpa using h 0 (by omega)
   rw[lQ,if_pos n,ih r (i+1) (fun j u=>by simpa using h (j+1) (by omega)) (by simpa using c)]
   simp only[List.drop_succ_cons]
   congr 1;omega
theorem uR (P:Int) (nums:Nat) (l:List Sp) (k:Nat) (h:∀j,j<k->eA P nums (l.getD j eD)=0) (c:k<l.length) (hb:eA P nums (l.getD k eD)≠0):lQ P nums l 0=(eA P nums (l.getD k eD),(k:Int)):=by
 rw[vZ P nums l 0 k h (by omega)]
 have e:l.drop k=l.getD k eD::l.drop (k+1):=by
  rw[aP4 c]
  simp[List.getD_eq_getElem?_getD,c]
 rw[e,lQ,if_neg hb];simp
theorem vY (P:Int) (nums:Nat) (l:List Sp) (h:∀j,j<l.length->eA P nums (l.getD j eD)=0):lQ P nums l 0=(0,-1):=by
 rw[vZ P nums l 0 l.length h (by omega)];simp[lQ]
def pF (l ins V:List Int):Nat->List Int
 | 0=>V
 | k+1=>put (pF l ins V k) (l.getD k 0) (ins.getD k 0)
def made (nums V:List Int) (s:Sp):Int:=
 if s.code=1 then get nums s.a else if s.code=2 then get V s.a else if s.code=4\/s.code=5 then Js s.code (get V s.a)
 else if s.code=17 then C4 (get V s.a) (get V s.b) (get V s.c) else Jr s.code (get V s.a) (get V s.b)
def iZ (nums:List Int) (cs:List Sp) (V:List Int):Nat->List Int
 | 0=>V
 | k+1=>put (iZ nums cs V k) (cs.getD k eD).dst (made nums (iZ nums cs V k) (cs.getD k eD))
def oZ (keeps V:List Int):Nat->List Int
 | 0=>List.replicate V.length 0
 | k+1=>put (oZ keeps V k) (keeps.getD k 0) (get V (keeps.getD k 0))
def ran (n:Nt) (V ins:List Int):List Int:=iZ n.nums n.code (pF n.ins ins V n.ins.length) n.code.length
def tells (n:Nt) (V ins:List Int):List Int:=n.outs.map (get (ran n V ins))
def after (n:Nt) (V ins:List Int):List Int:=oZ n.keeps (ran n V ins) n.keeps.length
theorem lL (l ins V:List Int) (k:Nat):(pF l ins V k).length=V.length:=by
 induction k with
 | zero=>rfl
 | succ k ih=>rw[pF,tB,ih]
theorem qW (nums:List Int) (cs:List Sp) (V:List Int) (k:Nat):(iZ nums cs V k).length=V.length:=by
 induction k with
 | zero=>rfl
 | succ k ih=>rw[iZ,tB,ih]
theorem F8 (keeps V:List Int) (k:Nat):(oZ keeps V k).length=V.length:=by
 induction k with
 | zero=>simp[oZ]
 | succ k ih=>rw[oZ,tB,ih]
theorem Wm (n:Nt) (V ins:List Int):(ran n V ins).length=V.length:=by unfold ran;rw[qW,lL]
theorem vP (n:Nt) (V ins:List Int):(after n V ins).length=V.length:=by unfold after;rw[F8,Wm]
theorem uM (n:Nt) (V ins:List Int):(tells n V ins).length=n.outs.length:=by unfold tells;simp
theorem Oy (n:Nt) (V ins:List Int) (k:Nat) (h:k<n.outs.length):(n.outs.take (k+1)).map (get (ran n V ins))=(n.outs.take k).map (get (ran n V ins))++[get (ran n V ins) (n.outs.getD k 0)]:=by
 rw[List.take_succ_eq_append_getElem h,List.map_append];simp[List.getD_eq_getElem?_getD,h]
end Nx
end
section
open Go.RowKit
namespace Nx
structure Fr (B:Nat) (X:List Nat) (w w':World):Prop where
 os:w'.os=w.os
 tape:w'.tape=w.tape
 output:w'.output=w.output
 size:w.heap.size≤w'.heap.size
 block:∀k,k<B->k∉X->w'.heap[k]?=w.heap[k]?
theorem Fr.refl (B:Nat) (X:List Nat) (w:World):Fr B X w w:=⟨rfl,rfl,rfl,aO4 _,fun _ _ _=>rfl⟩
theorem Fr.trans {B:Nat}{X:List Nat}{a b c:World}(h:Fr B X a b) (k:Fr B X b c):Fr B X a c:=
 ⟨k.os.trans h.os,k.tape.trans h.tape,k.output.trans h.output,aO6 h.size k.size,fun i hi hx=>(k.block i hi hx).trans (h.block i hi hx)⟩
theorem Fr.mono {B B':Nat}{X X':List Nat}{w w':World}(h:Fr B X w w') (hB:B'≤B) (hX:∀x∈X,x<B'->x∈X'):Fr B' X' w w':=
 ⟨h.os,h.tape,h.output,h.size,fun k hk hx=>h.block k (by omega) (fun hm=>hx (hX k hm hk))⟩
theorem Fr.of_below {B:Nat}{w w':World}(h:Below B w w') (X:List Nat):Fr B X w w':=⟨h.os,h.tape,h.output,h.size,fun k hk _=>h.block k hk⟩
theorem Fr.alloc {B:Nat}{X:List Nat}{a w:World}(h:Fr B X a w) (hB:B≤w.heap.size) (o:Obj):Fr B X a (w.alloc o):=
 h.trans ⟨rfl,rfl,rfl,by simp,fun k hk _=>Below.heap_alloc _ _ _ (by omega)⟩
theorem Fr.setCell {B:Nat}{X:List Nat}{a w:World}(h:Fr B X a w) {p:Addr}(hp:B≤p.block\/p.block∈X) (u:Value):Fr B X a (w.setCell p u):=
 h.trans ⟨rfl,rfl,rfl,by simp[World.setCell],fun k hk hx=>Below.heap_setCell _ _ _ _ (fun e=>by rcases hp with hp|hp;omega;exact hx (e▸hp))⟩
theorem Fr.drew {B:Nat}{X:List Nat}{a w:World}(h:Fr B X a w):Fr B X a w.drew:=⟨h.os,h.tape,h.output,h.size,h.block⟩
theorem aB {w:World}{b:Nat}{o:Obj}(h:w.heap[b]?=some o):b<w.heap.size:=(Array.getElem?_eq_some_iff.1 h).1
theorem aY {w w':World}{b:Nat}(h:w'.heap[b]?=w.heap[b]?) (o:Nat):w'.cell? ⟨b,o,none⟩=w.cell? ⟨b,o,none⟩:=by
 simp only[World.cell?,h]
theorem cC {w:World}{b o:Nat}{v:Value}(h:w.cell? ⟨b,o,none⟩=some v):b<w.heap.size:=by
 rcases aY1 b w.heap.size with c|c
 ·exact c
 ·simp[World.cell?,Array.getElem?_eq_none c] at h
def bB (A A':Nat->Prop) (w w':World):Prop:=∀b,A b->b<w.heap.size->A' b/\w'.heap[b]?=w.heap[b]?
def bH (A:Nat->Prop) (w:World) (v:Value) (zs:List Int):Prop:=
 ∃ad b off cap,v=.slice ad zs.length cap/\(0<zs.length->ad=some ⟨b,off,none⟩/\A b)/\∀k,k<zs.length->w.cell? ⟨b,off+k,none⟩=some (.int .i64 (zs.getD k 0))
theorem bH.carry {A A':Nat->Prop}{w w':World}{v:Value}{zs:List Int}(h:bH A w v zs) (k:bB A A' w w'):bH A' w' v zs:=by
 obtain ⟨D,b,c,cap,rfl,y,n⟩:=h
 refine ⟨D,b,c,cap,rfl,fun r=>?_,fun j u=>?_⟩
 ·obtain ⟨e,l⟩:=y r
  exact ⟨e,(k b l (cC (n 0 r))).1⟩
 ·obtain ⟨e,l⟩:=y (by omega)
  rw[aY (k b l (cC (n j u))).2];exact n j u
def jA (A:Nat->Prop) (w:World) (v:Value) (l:List Sp):Prop:=
 ∃ad b off cap,v=.slice ad l.length cap/\(0<l.length->ad=some ⟨b,off,none⟩/\A b)/\
  ∀k,k<l.length->w.cell? ⟨b,off+k*5,none⟩=some (.int .i64 (l.getD k eD).code)/\w.cell? ⟨b,off+k*5+1,none⟩=some (.int .i64 (l.getD k eD).dst)/\
   w.cell? ⟨b,off+k*5+2,none⟩=some (.int .i64 (l.getD k eD).a)/\w.cell? ⟨b,off+k*5+3,none⟩=some (.int .i64 (l.getD k eD).b)/\w.cell? ⟨b,off+k*5+4,none⟩=some (.int .i64 (l.getD k eD).c)
theorem jA.carry {A A':Nat->Prop}{w w':World}{v:Value}{l:List Sp}(h:jA A w v l) (k:bB A A' w w'):jA A' w' v l:=by
 obtain ⟨I,b,c,cap,rfl,D,r⟩:=h
 refine ⟨I,b,c,cap,rfl,fun u=>?_,fun j y=>?_⟩
 ·obtain ⟨e,n⟩:=D u
  exact ⟨e,(k b n (cC (r 0 u).1)).1⟩
 ·obtain ⟨e,n⟩:=D (by omega)
  have hb:=(k b n (cC (r j y).1)).2
  rw[aY hb,aY hb,aY hb,aY hb,aY hb];exact r j y
def Own (w:World) (v:Value) (V:List Int) (g:Nat):Prop:=
 ∃ad cap,v=.slice ad V.length cap/\(0<V.length->ad=some ⟨g,0,none⟩/\∃rest T,w.heap[g]?=some (.cells (V.map (Value.int .i64)++rest).toArray T (0,0)))
theorem Own.keep {w w':World}{v:Value}{V:List Int}{g:Nat}(h:Own w v V g) (k:w'.heap[g]?=w.heap[g]?):Own w' v V g:=by
 obtain ⟨l,cap,rfl,j⟩:=h
 exact ⟨l,cap,rfl,fun c=>by obtain ⟨e,rest,T,hb⟩:=j c;exact ⟨e,rest,T,by rw[k];exact hb⟩⟩
theorem mR {w:World}{g:Nat}{l:List Value}{T:TypeId}{f:Nat×Nat}(h:w.heap[g]?=some (.cells l.toArray T f)) (k:Nat):w.cell? ⟨g,k,none⟩=l[k]?:=by
 simp only[World.cell?,h]
 simp
theorem Own.cell {w:World}{v:Value}{V:List Int}{g:Nat}(h:Own w v V g) (k:Nat) (c:k<V.length):w.cell? ⟨g,k,none⟩=some (.int .i64 (V.getD k 0)):=by
 obtain ⟨l,cap,rfl,j⟩:=h
 obtain ⟨e,rest,T,hb⟩:=j (by omega)
 rw[mR hb,aR6 (by simpa using c),aW6,iO,aN4 c];rfl
theorem Own.ints {w:World}{v:Value}{V:List Int}{g:Nat}(h:Own w v V g) {A:Nat->Prop}(l:0<V.length->A g):bH A w v V:=by
 have r:=h.cell
 obtain ⟨u,cap,rfl,n⟩:=h
 exact ⟨u,g,0,cap,rfl,fun c=>⟨(n c).1,l c⟩,fun k j=>by rw[aX3];exact r k j⟩
theorem aG6 (ad:Option Addr) (n cap:Nat) (i:Int) (w:World) (h:i<0\/(n:Int)≤i) :
 Calls prog 81 #[.slice ad n cap,.int .i64 i] w fun e w'=>e=.returned (.int .i64 0)/\w'=w:=by
 by_cases h0:i<0
 ·go_enter Tryz.func81,Tryz.ntmps81
  go_wp2
  go_ret
  exact ⟨rfl,rfl⟩
 ·have c:(n:Int)≤i:=by omega
  clear h
  go_enter Tryz.func81,Tryz.ntmps81
  go_wp2
  go_ret
  exact ⟨rfl,rfl⟩
theorem aM5 (b c n cap:Nat) (i x:Int) (w:World) (j:0≤i) (h:i<n) (k:w.cell? ⟨b,c+i.toNat,none⟩=some (.int .i64 x)) :
 Calls prog 81 #[.slice (some ⟨b,c,none⟩) n cap,.int .i64 i] w fun e w'=>e=.returned (.int .i64 x)/\w'=w:=by
 go_enter Tryz.func81,Tryz.ntmps81
 go_wp2
 go_ret
 exact ⟨rfl,rfl⟩
theorem X5 {A:Nat->Prop}(v:Value) (zs:List Int) (i:Int) (w:World) (h:bH A w v zs) :
 Calls prog 81 #[v,.int .i64 i] w fun e w'=>e=.returned (.int .i64 (get zs i))/\w'=w:=by
 obtain ⟨n,b,j,cap,rfl,l,k⟩:=h
 by_cases c:i<0\/(zs.length:Int)≤i
 ·have e:get zs i=0:=by rcases c with c|c;exact qS _ _ c;exact nE _ _ c
  rw[e];exact aG6 n zs.length cap i w c
 ·obtain ⟨rfl,_⟩:=l (by omega)
  rw[Gc _ _ (by omega)]
  exact aM5 b j zs.length cap i _ w (by omega) (by omega) (k i.toNat (by omega))
theorem Qd (ad:Option Addr) (n cap:Nat) (i x:Int) (w:World) (h:i<0\/(n:Int)≤i) :
 Calls prog 82 #[.slice ad n cap,.int .i64 i,.int .i64 x] w fun e w'=>e=.returned (.tuple #[])/\w'=w:=by
 by_cases h0:i<0
 ·go_enter Tryz.func82,Tryz.ntmps82
  go_wp2
  go_end0
  exact ⟨rfl,rfl⟩
 ·have c:(n:Int)≤i:=by omega
  have j:0≤i:=by omega
  clear h
  go_enter Tryz.func82,Tryz.ntmps82
  go_wp2
  go_end0
  exact ⟨rfl,rfl⟩
theorem Wn (b c n cap:Nat) (i x y:Int) (w:World) (k:0≤i) (h:i<n) (l:w.cell? ⟨b,c+i.toNat,none⟩=some (.int .i64 y)) (j:w.frozen? ⟨b,c+i.toNat,none⟩=false) :
 Calls prog 82 #[.slice (some ⟨b,c,none⟩) n cap,.int .i64 i,.int .i64 x] w fun e w'=>e=.returned (.tuple #[])/\w'=w.setCell ⟨b,c+i.toNat,none⟩ (.int .i64 x):=by
 go_enter Tryz.func82,Tryz.ntmps82
 go_wp2
 go_end0
 exact ⟨rfl,rfl⟩
theorem D6 {w:World}{g:Nat}{l:List Value}{T:TypeId}{f:Nat×Nat}(h:w.heap[g]?=some (.cells l.toArray T f)) (k:Nat) (x:Value):(w.setCell ⟨g,k,none⟩ x).heap[g]?=some (.cells (l.set k x).toArray T f):=by
 have c:=aB h
 have e:w.heap[g]=.cells l.toArray T f:=by rw[Array.getElem?_eq_getElem c] at h;exact Option.some.inj h
 simp only[World.setCell]
 rw[Array.getElem?_eq_getElem (by simpa using c),Array.getElem_modify]
 simp[e]
theorem tO {w:World}{g:Nat}{l:Array Value}{T:TypeId}(h:w.heap[g]?=some (.cells l T (0,0))) (k:Nat):w.frozen? ⟨g,k,none⟩=false:=by
 simp[World.frozen?,h]
theorem nU (v:Value) (V:List Int) (g:Nat) (i x:Int) (w:World) (h:Own w v V g) :
 Calls prog 82 #[v,.int .i64 i,.int .i64 x] w fun e w'=>e=.returned (.tuple #[])/\Own w' v (put V i x) g/\Fr w.heap.size [g] w w':=by
 have c:=h.cell
 have k:=h
 obtain ⟨n,cap,rfl,l⟩:=h
 by_cases hi:i<0\/(V.length:Int)≤i
 ·rw[Ht _ _ _ hi]
  exact (Qd n V.length cap i x w hi).mono fun e w' ⟨he,hw⟩=>⟨he,by rw[hw];exact k,by rw[hw];exact Fr.refl _ _ _⟩
 ·obtain ⟨rfl,rest,T,hb⟩:=l (by omega)
  have j:i.toNat<V.length:=by omega
  refine (Wn g 0 V.length cap i x _ w (by omega) (by omega) (by rw[aX3];exact c i.toNat j) (tO hb _)).mono fun e w' ⟨he,hw⟩=>⟨he,?_,?_⟩
  ·rw[hw,aX3]
   refine ⟨some ⟨g,0,none⟩,cap,by rw[tB],fun _=>⟨rfl,rest,T,?_⟩⟩
   rw[D6 hb,Qe _ _ _ (by omega)]
   rw[List.set_append_left _ _ (by simpa using j),List.map_set]
  ·rw[hw,aX3]
   exact (Fr.refl _ _ _).setCell (.inr (by simp)) _
theorem xI (q bm:Nat) (vp:Value) (V:List Int) (g:Nat) (i:Int) (w:World) (l:w.cell? ⟨q,0,none⟩=some (.pointer (some ⟨bm,0,none⟩))) (k:w.cell? ⟨bm,7,none⟩=some vp) (h:Own w vp V g) :
 Calls prog 80 #[.int .i64 i,.pointer (some ⟨q,0,none⟩)] w fun e w'=>e=.returned (.int .i64 (get V i))/\w'=w:=by
 have c:=X5 (A:=fun _=>True) vp V i w (h.ints fun _=>trivial)
 obtain ⟨n,cap,rfl,j⟩:=h
 clear j
 go_enter Tryz.func80,Tryz.ntmps80
 go_wp2_with (go_at_call 81;refine c.mono ?_;rintro e w' ⟨rfl,rfl⟩)
 go_ret
 exact ⟨rfl,rfl⟩
end Nx
end
section
open Go.RowKit Go.Sort
namespace Nx
theorem iF {w w' w'':World}(h:Below w.heap.size w w') (k:Below w'.heap.size w' w''):Below w.heap.size w w'':=h.trans (k.mono h.size)
theorem bG {w w':World}(h:Below w.heap.size w w') {b o:Nat}{v:Value}(c:w.cell? ⟨b,o,none⟩=some v):w'.cell? ⟨b,o,none⟩=some v:=by
 rw[aY (h.block b (cC c))];exact c
theorem aE (w:World) (o:Obj):Below w.heap.size w (w.alloc o):=(Below.refl _ _).alloc (aO4 _) _
structure MV (A:Nat->Prop) (w:World) (q bm g:Nat) (vp vN:Value) (V nums:List Int):Prop where
 q:w.cell? ⟨q,0,none⟩=some (.pointer (some ⟨bm,0,none⟩))
 p:w.cell? ⟨bm,7,none⟩=some vp
 own:Own w vp V g
 gl:0<V.length->g<w.heap.size
 nums:bH A w vN nums
theorem MV.below {A:Nat->Prop}{w w':World}{q bm g:Nat}{vp vN:Value}{V nums:List Int}(h:MV A w q bm g vp vN V nums) (hb:Below w.heap.size w w'):MV A w' q bm g vp vN V nums:=by
 refine ⟨?_,?_,?_,fun c=>aO5 (h.gl c) hb.size,?_⟩
 ·rw[aY (hb.block q (cC h.q))];exact h.q
 ·rw[aY (hb.block bm (cC h.p))];exact h.p
 ·by_cases c:0<V.length
  ·exact h.own.keep (hb.block g (h.gl c))
  ·obtain ⟨n,cap,rfl,_⟩:=h.own
   exact ⟨n,cap,rfl,fun j=>absurd j c⟩
 ·exact h.nums.carry fun b k l=>⟨k,hb.block b l⟩
theorem MV.ask {A:Nat->Prop}{w:World}{q bm g:Nat}{vp vN:Value}{V nums:List Int}(h:MV A w q bm g vp vN V nums) (i:Int) :
 Calls prog 80 #[.int .i64 i,.pointer (some ⟨q,0,none⟩)] w fun e w'=>e=.returned (.int .i64 (get V i))/\w'=w:=
 xI q bm vp V g i w h.q h.p h.own
section
variable {A:Nat->Prop}(w:World) (q bm g:Nat) (vp vN:Value) (V nums:List Int) (s:Sp)
theorem Rm (h:MV A w q bm g vp vN V nums) (k:s.code=1) :
 Calls prog 83 #[.agg #[.int .i64 s.code,.int .i64 s.dst,.int .i64 s.a,.int .i64 s.b,.int .i64 s.c],vN,.func (.func 80) #[] #[.pointer (some ⟨q,0,none⟩)]] w fun e w'=>e=.returned (.int .i64 (get nums s.a))/\Below w.heap.size w w':=by
 have j:=fun o=>X5 vN nums s.a (w.alloc o) (h.below (aE w o)).nums
 clear h
 obtain ⟨code,dst,a,b,c⟩:=s
 subst k
 go_enter Tryz.func83,Tryz.ntmps83
 go_wp2_with (go_at_call 81;refine (j _).mono ?_;rintro e w' ⟨rfl,rfl⟩)
 go_ret
 exact ⟨rfl,aE w _⟩
theorem Ri (h:MV A w q bm g vp vN V nums) (k:s.code=2) :
 Calls prog 83 #[.agg #[.int .i64 s.code,.int .i64 s.dst,.int .i64 s.a,.int .i64 s.b,.int .i64 s.c],vN,.func (.func 80) #[] #[.pointer (some ⟨q,0,none⟩)]] w fun e w'=>e=.returned (.int .i64 (get V s.a))/\Below w.heap.size w w':=by
 have j:=fun o=>(h.below (aE w o)).ask s.a
 clear h
 obtain ⟨code,dst,a,b,c⟩:=s
 subst k
 go_enter Tryz.func83,Tryz.ntmps83
 go_wp2_with (go_at_call 80;refine (j _).mono ?_;rintro e w' ⟨rfl,rfl⟩)
 go_ret
 exact ⟨rfl,aE w _⟩
theorem aJ8 (c a:Int) (w:World) (d:Nat) (os:Array Obj) :
 Calls prog 123 #[.int .i64 c,.int .i64 a] (grow (redrawn w d) os) fun e w''=>e=.returned (.int .i64 (Js c a))/\∃p:Regrown,w''=grow (redrawn w p.d) p.os:=
 Calls.regrown_of ((Hw c a _).mono fun _ _ ⟨he,hw⟩=>⟨he,by rw[hw];exact Below.refl _ _⟩)
theorem aB4 (a b c:Int) (w:World) (d:Nat) (os:Array Obj) :
 Calls prog 124 #[.int .i64 a,.int .i64 b,.int .i64 c] (grow (redrawn w d) os) fun e w''=>e=.returned (.int .i64 (C4 a b c))/\∃p:Regrown,w''=grow (redrawn w p.d) p.os:=
 Calls.regrown_of ((Qg a b c _).mono fun _ _ ⟨he,hw⟩=>⟨he,by rw[hw];exact Below.refl _ _⟩)
theorem aI4 (c a b:Int) (w:World) (d:Nat) (os:Array Obj) :
 Calls prog 125 #[.int .i64 c,.int .i64 a,.int .i64 b] (grow (redrawn w d) os) fun e w''=>e=.returned (.int .i64 (Jr c a b))/\∃p:Regrown,w''=grow (redrawn w p.d) p.os:=
 Calls.regrown_of ((Hk c a b _).mono fun _ _ ⟨he,hw⟩=>⟨he,by rw[hw];exact aE _ _⟩)
theorem Rl (h:MV A w q bm g vp vN V nums) (y:s.code=4\/s.code=5) :
 Calls prog 83 #[.agg #[.int .i64 s.code,.int .i64 s.dst,.int .i64 s.a,.int .i64 s.b,.int .i64 s.c],vN,.func (.func 80) #[] #[.pointer (some ⟨q,0,none⟩)]] w fun e w'=>e=.returned (.int .i64 (Js s.code (get V s.a)))/\Below w.heap.size w w':=by
 have l:=fun o d n i=>Calls.regrown_of (((h.below (iF (aE w o) (below_regrown (w.alloc o) d n))).ask i).mono fun _ _ ⟨he,hw⟩=>⟨he,by rw[hw];exact Below.refl _ _⟩)
 have k:=aJ8
 clear h
 obtain ⟨code,dst,a,b,c⟩:=s
 simp only at y
 have I:=fun d n=>cell_regrown (show (w.alloc (.cells #[.int .i64 code,.int .i64 dst,.int .i64 a,.int .i64 b,.int .i64 c] 38)).cell? ⟨w.heap.size,0,none⟩=some (.int .i64 code) by simp) d n
 have D:=fun d n=>cell_regrown (show (w.alloc (.cells #[.int .i64 code,.int .i64 dst,.int .i64 a,.int .i64 b,.int .i64 c] 38)).cell? ⟨w.heap.size,2,none⟩=some (.int .i64 a) by simp) d n
 rcases y with rfl|rfl
 all_goals
  go_enter Tryz.func83,Tryz.ntmps83
  go_wp2_with fail
  refine wp_region_quiet_below (by kernel_rfl) (by kernel_rfl) ?_
  repeat (quiet_step (first|exact l _ _ _ _|exact k _ _ _ _ _))
  refine wpQuiet_nil ?_
  intro _ r
  obtain ⟨⟨J,u⟩,j⟩:=r
  subst j
  go_wp2_with fail
  go_ret
  exact ⟨rfl,iF (aE w _) (below_regrown _ J u)⟩
theorem Lo (h:MV A w q bm g vp vN V nums) (y:s.code=17) :
 Calls prog 83 #[.agg #[.int .i64 s.code,.int .i64 s.dst,.int .i64 s.a,.int .i64 s.b,.int .i64 s.c],vN,.func (.func 80) #[] #[.pointer (some ⟨q,0,none⟩)]] w fun e w'=>e=.returned (.int .i64 (C4 (get V s.a) (get V s.b) (get V s.c)))/\Below w.heap.size w w':=by
 have n:=fun o d j i=>Calls.regrown_of (((h.below (iF (aE w o) (below_regrown (w.alloc o) d j))).ask i).mono fun _ _ ⟨he,hw⟩=>⟨he,by rw[hw];exact Below.refl _ _⟩)
 have l:=aB4
 clear h
 obtain ⟨code,dst,a,b,c⟩:=s
 simp only at y
 subst y
 have J:=fun d j=>cell_regrown (show (w.alloc (.cells #[.int .i64 17,.int .i64 dst,.int .i64 a,.int .i64 b,.int .i64 c] 38)).cell? ⟨w.heap.size,2,none⟩=some (.int .i64 a) by simp) d j
 have I:=fun d j=>cell_regrown (show (w.alloc (.cells #[.int .i64 17,.int .i64 dst,.int .i64 a,.int .i64 b,.int .i64 c] 38)).cell? ⟨w.heap.size,3,none⟩=some (.int .i64 b) by simp) d j
 have D:=fun d j=>cell_regrown (show (w.alloc (.cells #[.int .i64 17,.int .i64 dst,.int .i64 a,.int .i64 b,.int .i64 c] 38)).cell? ⟨w.heap.size,4,none⟩=some (.int .i64 c) by simp) d j
 go_enter Tryz.func83,Tryz.ntmps83
 go_wp2_with fail
 refine wp_region_quiet_below (by kernel_rfl) (by kernel_rfl) ?_
 repeat (quiet_step (first|exact n _ _ _ _|exact l _ _ _ _ _ _))
 refine wpQuiet_nil ?_
 intro _ r
 obtain ⟨⟨O,u⟩,k⟩:=r
 subst k
 go_wp2_with fail
 go_ret
 exact ⟨rfl,iF (aE w _) (below_regrown _ O u)⟩
theorem Rk (h:MV A w q bm g vp vN V nums) (J:s.code≠1) (D:s.code≠2) (I:s.code≠4) (O:s.code≠5) (n:s.code≠17) :
 Calls prog 83 #[.agg #[.int .i64 s.code,.int .i64 s.dst,.int .i64 s.a,.int .i64 s.b,.int .i64 s.c],vN,.func (.func 80) #[] #[.pointer (some ⟨q,0,none⟩)]] w fun e w'=>e=.returned (.int .i64 (Jr s.code (get V s.a) (get V s.b)))/\Below w.heap.size w w':=by
 have r:=fun o d j i=>Calls.regrown_of (((h.below (iF (aE w o) (below_regrown (w.alloc o) d j))).ask i).mono fun _ _ ⟨he,hw⟩=>⟨he,by rw[hw];exact Below.refl _ _⟩)
 have l:=aI4
 clear h
 obtain ⟨code,dst,a,b,c⟩:=s
 have t1:(code==1)=false:=by simpa using J
 have t2:(code==2)=false:=by simpa using D
 have t4:(code==4)=false:=by simpa using I
 have t5:(code==5)=false:=by simpa using O
 have U:(code==17)=false:=by simpa using n
 clear J D I O n
 have Y:=fun d j=>cell_regrown (show (w.alloc (.cells #[.int .i64 code,.int .i64 dst,.int .i64 a,.int .i64 b,.int .i64 c] 38)).cell? ⟨w.heap.size,0,none⟩=some (.int .i64 code) by simp) d j
 have X:=fun d j=>cell_regrown (show (w.alloc (.cells #[.int .i64 code,.int .i64 dst,.int .i64 a,.int .i64 b,.int .i64 c] 38)).cell? ⟨w.heap.size,2,none⟩=some (.int .i64 a) by simp) d j
 have Q:=fun d j=>cell_regrown (show (w.alloc (.cells #[.int .i64 code,.int .i64 dst,.int .i64 a,.int .i64 b,.int .i64 c] 38)).cell? ⟨w.heap.size,3,none⟩=some (.int .i64 b) by simp) d j
 go_enter Tryz.func83,Tryz.ntmps83
 go_wp2_with fail
 refine wp_region_quiet_below (by kernel_rfl) (by kernel_rfl) ?_
 repeat (quiet_step (first|exact r _ _ _ _|exact l _ _ _ _ _ _))
 refine wpQuiet_nil ?_
 intro _ u
 obtain ⟨⟨Z,y⟩,k⟩:=u
 subst k
 go_wp2_with fail
 go_ret
 exact ⟨rfl,iF (aE w _) (below_regrown _ Z y)⟩
theorem gU (h:MV A w q bm g vp vN V nums) :
 Calls prog 83 #[.agg #[.int .i64 s.code,.int .i64 s.dst,.int .i64 s.a,.int .i64 s.b,.int .i64 s.c],vN,.func (.func 80) #[] #[.pointer (some ⟨q,0,none⟩)]] w fun e w'=>e=.returned (.int .i64 (made nums V s))/\Below w.heap.size w w':=by
 unfold made
 by_cases h1:s.code=1
 ·rw[if_pos h1];exact Rm w q bm g vp vN V nums s h h1
 rw[if_neg h1]
 by_cases h2:s.code=2
 ·rw[if_pos h2];exact Ri w q bm g vp vN V nums s h h2
 rw[if_neg h2]
 by_cases h4:s.code=4\/s.code=5
 ·rw[if_pos h4];exact Rl w q bm g vp vN V nums s h h4
 rw[if_neg h4]
 by_cases h17:s.code=17
 ·rw[if_pos h17];exact Lo w q bm g vp vN V nums s h h17
 rw[if_neg h17]
 exact Rk w q bm g vp vN V nums s h h1 h2 (fun e=>h4 (.inl e)) (fun e=>h4 (.inr e)) h17
end
end Nx
end
section
open Go.RowKit
namespace Nx
theorem Q7 (ad:Option Addr) (b c n cap k:Nat) (j:k<n) (h:0<n->ad=some ⟨b,c,none⟩) (w:World):(Instr.indexAt 23 (.slice ad n cap) (.int .i64 (k:Int))).run prog w=.ok (.pointer (some ⟨b,c+k,none⟩)) w:=by
 obtain rfl:=h (by omega)
 rw[aY8 _ _ _ _ _ _ _ (by kernel_rfl),if_pos ⟨by omega,by omega⟩]
 have e:(sizeOf (prog.elem 23)).run prog w=.ok 1 w:=by kernel_rfl
 rw[e]
 simp[Result.andThen,Addr.add]
theorem rV {w:World}{B e n:Nat}{v:Value}{V:List Int}(h:w.ownsRow B e 1 v n (V.map (Value.int .i64))):∃g,Own w v V g/\B≤g/\(0<n->g<w.heap.size)/\V.length=n:=by
 obtain ⟨l,r⟩:=h
 have c:V.length=n:=by simpa using l
 rcases r with ⟨rfl,rfl⟩|⟨g,cap,j,rfl,hB,k,I,J,D,u⟩
 ·exact ⟨B,⟨none,0,by rw[c],fun y=>by omega⟩,aO4 _,fun h=>by omega,c⟩
 ·refine ⟨g,⟨some ⟨g,0,none⟩,cap,by rw[c],fun _=>⟨rfl,j.toList.drop n,e,?_⟩⟩,hB,fun _=>aB k,c⟩
  rw[k,<-u,Nat.mul_one,List.take_append_drop]
theorem Qn {w:World}{B e g n cap:Nat}{V:List Int}(h:w.ownsRow B e 1 (.slice (some ⟨g,0,none⟩) n cap) n (V.map (Value.int .i64))) (D:V.length=n):Own w (.slice (some ⟨g,0,none⟩) n cap) V g:=by
 obtain ⟨J,l⟩:=h
 rcases l with ⟨u,_⟩|⟨I,c,j,k,hB,r,_,Q,O,y⟩
 ·exact absurd u (by simp)
 ·obtain ⟨rfl,rfl⟩:g=I/\cap=c:=by simpa using k
  refine ⟨some ⟨g,0,none⟩,cap,by rw[D],fun _=>⟨rfl,j.toList.drop n,e,?_⟩⟩
  rw[r,<-y,Nat.mul_one,List.take_append_drop]
theorem Tryz.infoI64:(prog.info? 2).map (fun i=>(i.zero,i.size,i.bytes))=some (some (.int .i64 0),1,8):=by kernel_rfl
theorem aK4 (n:Nat):(madeCells (Value.cells (.int .i64 0)) (n*1)).toList=(List.replicate n (0:Int)).map (Value.int .i64):=by
 apply List.ext_getElem
 ·simp[madeCells]
 ·intro k c h
  simp[madeCells,Value.cells,Nat.mod_one]
def pV (P:Int) (vF vI vO vK vN vC vp:Value):Array Value:=#[.int .i64 P,vF,vI,vO,vK,vN,vC,vp]
theorem aF {w:World}{g:Nat}{l:Array Value}{T:TypeId}{f:Nat×Nat}(h:w.heap[g]?=some (.cells l T f)) (k:Nat):w.cell? ⟨g,k,none⟩=l[k]?:=by
 simp only[World.cell?,h]
 simp
theorem Gd {A:Nat->Prop}(P:Int) (vF vI vO vK vN vC vp:Value) (keeps V:List Int) (bm g:Nat) (w:World)
    (hm:w.heap[bm]?=some (.cells (pV P vF vI vO vK vN vC vp) 145 (0,0))) (hK:bH A w vK keeps) (X:Own w vp V g) (hg:0<V.length->g<w.heap.size)
    (hV:V.length≤100000) (ap:keeps.length≤100000) :
 Calls prog 84 #[.pointer (some ⟨bm,0,none⟩)] w fun e w'=>e=.returned (.tuple #[])/\∃vp',
     w'.heap[bm]?=some (.cells (pV P vF vI vO vK vN vC vp') 145 (0,0))/\Own w' vp' (oZ keeps V keeps.length) w.heap.size/\Fr w.heap.size [bm] w w'/\w.heap.size<w'.heap.size:=by
 have Y:=aB hm
 obtain ⟨O,U,J,D,rfl,ad,ag⟩:=hK
 obtain ⟨u,j,rfl,aj⟩:=id X
 obtain ⟨i0,hi,ae,af,aa⟩:=aZ1 Tryz.infoI64
 have c4:w.cell? ⟨bm,4,none⟩=some (.slice O keeps.length D):=by rw[aF hm];rfl
 have c7:w.cell? ⟨bm,7,none⟩=some (.slice u V.length j):=by rw[aF hm];rfl
 have Z:i0.bytes*V.length≤281474976710656:=by rw[aa];omega
 have H1:Hid (0<keeps.length->O=some ⟨U,J,none⟩/\A U):=ad
 have H2:Hid (∀k,k<keeps.length->w.cell? ⟨U,J+k,none⟩=some (.int .i64 (keeps.getD k 0))):=ag
 have H3:Hid (w.heap[bm]?=some (.cells (pV P vF vI vO (.slice O keeps.length D) vN vC (.slice u V.length j)) 145 (0,0))):=hm
 have H4:Hid (Own w (.slice u V.length j) V g):=X
 clear ad ag hm X aj
 go_enter Tryz.func84,Tryz.ntmps84
 go_wp2_with (at_make;refine wpList_make_full _ rfl _ _ 22 rfl w.heap.size 2 i0 (.int .i64 0) 1 Tryz.underlying22 hi ae af _ _ _ _ V.length rfl rfl rfl rfl Z (by unfold maxLen;omega) (aO4 _) ?_;intro w1 I c;have d4:w1.cell? ⟨bm,4,none⟩=some (.slice O keeps.length D):=(aY (c.block bm Y (by simp)) 4).trans c4)
 have n:Own w1 (.slice (some ⟨w.heap.size,0,none⟩) V.length V.length) (List.replicate V.length 0) w.heap.size:=Qn (by rw[<-aK4];exact I) (by simp)
 have r:w.heap.size<w1.heap.size:=by
  rcases I.2 with ⟨h0,_⟩|⟨g',am,ao,e1,hB,al,_⟩
  ·exact absurd h0 (by simp)
  ·have:=aB al
   simp at e1;omega
 have ac:Hid (Fr w.heap.size [] w w1):=⟨c.os,c.tape,c.output,c.size,fun k hk _=>c.block k hk (by simp)⟩
 clear I c c4 c7 Z hi ae af aa
 go_loopw [17] (fun i wr=>∃k:Nat,k≤keeps.length/\i=.int .i64 k/\Own wr (.slice (some ⟨w.heap.size,0,none⟩) V.length V.length) (oZ keeps V k) w.heap.size/\Fr w.heap.size [] w wr/\w.heap.size<wr.heap.size) (fun i _=>keeps.length-(intOf i).toNat)
 case atStart=>exact ⟨0,aP6 _,rfl,n,ac.out,r⟩
 case round=>
  clear n ac r d4
  obtain ⟨k,hk,rfl,n,hF,r⟩:=hrel
  have HF:Hid (Fr w.heap.size [] w wr):=hF
  clear hF
  have hb:=HF.out.block bm Y (by simp)
  have c7:wr.cell? ⟨bm,7,none⟩=some (.slice u V.length j):=by rw[aY hb,aF H3.out];rfl
  by_cases hlt:k<keeps.length
  ·have an:=Q7 O U J keeps.length D k hlt (fun h=>(H1.out h).1)
   obtain ⟨x,hx⟩:=gQx (keeps.getD k 0)
   have cx:wr.cell? ⟨U,J+k,none⟩=some (.int .i64 x):=by
    have:=H2.out k hlt
    rw[aY (HF.out.block U (cC this) (by simp)),hx];exact this
   have ab:Own wr (.slice u V.length j) V g:=by
    by_cases X:0<V.length
    ·exact H4.out.keep (HF.out.block g (hg X) (by simp))
    ·exact ⟨u,j,rfl,fun h=>absurd h X⟩
   have ak:=X5 (A:=fun _=>True) (.slice u V.length j) V x wr (ab.ints fun _=>trivial)
   have ah:=nU (.slice (some ⟨w.heap.size,0,none⟩) V.length V.length) (oZ keeps V k) w.heap.size x (get V x) wr n
   have HX:Hid _:=hx
   clear hx ab n hb
   go_wp2_with (first|(go_at_call 81;refine ak.mono ?_;rintro e w' ⟨rfl,rfl⟩)|(go_at_call 82;refine ah.mono ?_;rintro e w2 ⟨rfl,Q,ai⟩))
   go_roundw
   case rel=>exact ⟨k+1,by omega,by go_num,by rw[oZ,<-HX.out];exact Q,HF.out.trans (ai.mono (Nat.le_of_lt r) (fun y hy hl=>by simp at hy;omega)),aO5 r ai.size⟩
   case measure=>simp[intOf];omega
  ·obtain rfl:k=keeps.length:=by omega
   have f7:wr.frozen? ⟨bm,7,none⟩=false:=tO (hb.trans H3.out) 7
   have HB:Hid _:=hb
   clear hb
   go_wp2
   go_end0
   refine ⟨rfl,.slice (some ⟨w.heap.size,0,none⟩) V.length V.length,?_,?_,?_,?_⟩
   ·have:=D6 (l:=(pV P vF vI vO (.slice O keeps.length D) vN vC (.slice u V.length j)).toList) (T:=145) (f:=(0,0)) (HB.out.trans H3.out) 7 (.slice (some ⟨w.heap.size,0,none⟩) V.length V.length)
    exact this
   ·exact n.keep (Below.heap_setCell _ _ _ _ (by simp;omega))
   ·exact (HF.out.mono (aO4 _) (fun y hy _=>by simp at hy)).setCell (.inr (by simp)) _
   ·simpa [World.setCell] using r
end Nx
end
end Go.Proofs.YthieaobjdpfcoaaGreatDoor
