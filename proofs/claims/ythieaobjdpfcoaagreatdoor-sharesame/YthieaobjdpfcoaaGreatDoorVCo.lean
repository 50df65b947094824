import Derived.Test.YthieaobjdpfcoaaGreatDoorVCr
import Derived.Test.YthieaobjdpfcoaaGreatDoorProg
import Derived.Deep.RegionHeld3
import Derived.Deep.DeepCutAuto
set_option maxRecDepth 100000
set_option maxHeartbeats 4000000
namespace Go.Proofs.YthieaobjdpfcoaaGreatDoor
open Tryz (prog)
section
namespace Px
def jT:List bE->bE->Option Nat
 | [],_=>none
 | a::r,s=>if a=s then some 0 else (jT r s).map (·+1)
def eG (l:List bE) (s:bE):Int:=match jT l s with|some i=>(i:Int)|none=>-1
def A7 (l:List bE) (k:Nat) (s:bE):Option Nat:=(jT (l.drop k) s).map (·+k)
theorem Tf (l:List bE) (s:bE):A7 l 0 s=jT l s:=by unfold A7;cases h:jT l s<;>simp[h]
theorem Te (l:List bE) (s:bE):A7 l l.length s=none:=by unfold A7;rw[aR4];rfl
theorem Mm (l:List bE) (k:Nat) (c:k<l.length) (s:bE):A7 l k s=if l.getD k []=s then some k else A7 l (k+1) s:=by
 unfold A7
 have e:l.drop k=l.getD k []::l.drop (k+1):=by
  rw[aP4 c,iO,aN4 c];rfl
 rw[e,jT]
 split
 ·simp
 ·cases h:jT (l.drop (k+1)) s with
  | none=>simp
  | some i=>simp;omega
theorem tQ {l:List bE}{s:bE}{i:Nat}(h:jT l s=some i):i<l.length/\l.getD i []=s/\∀j,j<i->l.getD j []≠s:=by
 induction l generalizing i with
 | nil=>simp[jT] at h
 | cons a r ih=>
  rw[jT] at h
  split at h
  ·rename_i he
   injection h with h
   subst h
   exact ⟨by simp,by simpa using he,fun j c=>absurd c (by omega)⟩
  ·rename_i he
   cases hr:jT r s with
   | none=>rw[hr] at h;simp at h
   | some k=>
    rw[hr] at h
    simp at h
    subst h
    obtain ⟨y,u,n⟩:=ih hr
    refine ⟨by simp;omega,by simpa using u,fun j c=>?_⟩
    cases j with
    | zero=>simpa using he
    | succ j=>simpa using n j (by omega)
def dH (ns:List bE):E->Bool
 | .nil=>false
 | .node _ _ a l r=>if a.code=1 then false else if a.code=2\/a.code=3 then (jT ns a.name).isNone else if a.code=4\/a.code=5 then dH ns l else dH ns l||dH ns r
def cG (vs:List bQ):List bE:=vs.map (·.name)
def aM1:bQ:=⟨0,[],0⟩
def Oq (vs:List bQ) (s:bE):Nat:=(vs.getD (eG (cG vs) s).toNat aM1).kind
def nD (vs:List bQ) (a:iY):Nat:=if (jT (cG vs) a.name).isNone||dH (cG vs) a.e then 5 else if Oq vs a.name=1 then 1 else 0
def cY (vs:List bQ):List iY->Nat
 | []=>0
 | a::r=>if nD vs a≠0 then nD vs a else cY vs r
def nO (vs:List bQ) (ns:List bE) (inside:Bool) (y:Wy):Nat:=
 if (jT ns y.to).isNone then 7 else if (decide (y.kind=2) && !inside)||(y.now&&decide (1<y.times)) then 6 else if dH (cG vs) y.cond then 5 else cY vs y.sets
def lF (vs:List bQ) (ns:List bE) (inside:Bool):List Wy->Nat
 | []=>0
 | y::r=>if nO vs ns inside y≠0 then nO vs ns inside y else lF vs ns inside r
section
variable {ρ:Type}
def zO (vs:List bQ) (ns:List bE) (s:cF ρ):Nat:=
 if s.last&&(decide (0<s.ways.length)||decide (0<s.regions.length)) then 6
 else if cY vs s.enter≠0 then cY vs s.enter
 else if cY vs s.during≠0 then cY vs s.during
 else if cY vs s.leave≠0 then cY vs s.leave
 else if dH (cG vs) s.rests then 5
 else lF vs ns (decide (0<s.regions.length)) s.ways
def jH (vs:List bQ) (ns:List bE) (i:Nat) (s:cF ρ):Nat:=
 if eG ns s.name<i then 9 else zO vs ns s
def bD (l:List (cF ρ)):List bE:=l.map (·.name)
def pC (ns:List bE) (ys:List Wy):List (Option Nat):=ys.map fun y=>if y.now then jT ns y.to else none
def cQ (l:List (cF ρ)):List (List (Option Nat)):=l.map fun s=>pC (bD l) s.ways
end
def rC (G:List (List (Option Nat))) (T:List Bool) (j:Nat):Nat->Nat
 | 0=>0
 | i+1=>rC G T j i+(if T.getD i false then 0 else (G.getD i []).count (some j))
def sJ (G:List (List (Option Nat))) (T:List Bool) (j:Nat):Nat:=rC G T j G.length
def mO (G:List (List (Option Nat))) (T:List Bool) (j:Nat):Bool:=!T.getD j false&&decide (sJ G T j=0)
def yO (G:List (List (Option Nat))) (T:List Bool):Nat->Nat->Option Nat
 | 0,_=>none
 | f+1,i=>if mO G T i then some i else yO G T f (i+1)
def wL (G:List (List (Option Nat))) (T:List Bool):Option Nat:=yO G T G.length 0
def pR (G:List (List (Option Nat))):Nat->Option (List Nat×List Bool)
 | 0=>some ([],List.replicate G.length false)
 | r+1=>match pR G r with
  | none=>none
  | some (o,T)=>match wL G T with
   | none=>none
   | some j=>some (o++[j],T.set j true)
def eO (G:List (List (Option Nat))):Option (List Nat):=(pR G G.length).map (·.1)
section
variable {ρ:Type}
def jC (l:List (cF ρ)):Nat:=(l.filter (·.first)).length
def dD (l:List (cF ρ)):Nat:=
 if jC l=0 then 8 else if 1<jC l then 12 else if (eO (cQ l)).isNone then 11 else 0
abbrev I4:=Except (Nat×Nat) Nat
def gR (R:List ρ->Nat->I4):List (List ρ)->Nat->I4
 | [],n=>.ok n
 | r::rs,n=>match R r n with
  | .error x=>.error x
  | .ok m=>gR R rs m
def gA (vs:List bQ) (R:List ρ->Nat->I4) (ns:List bE):List (cF ρ)->Nat->Nat->I4
 | [],_,n=>.ok n
 | s::r,i,n=>if jH vs ns i s≠0 then .error (jH vs ns i s,n) else match gR R s.regions (n+1) with
  | .error x=>.error x
  | .ok m=>gA vs R ns r (i+1) m
def pE (vs:List bQ) (R:List ρ->Nat->I4) (l:List (cF ρ)) (n:Nat):I4:=
 match gA vs R (bD l) l 0 n with
 | .error x=>.error x
 | .ok m=>if dD l≠0 then .error (dD l,n) else .ok m
end
def nB (vs:List bQ):(k:Nat)->List (St k)->Nat->I4
 | 0=>fun _ n=>.error (8,n)
 | k+1=>fun l n=>pE vs (nB vs k) l n
def nQ (ns:List bE):Nat->Nat->Option Nat
 | 0,_=>none
 | f+1,i=>if eG ns (ns.getD i [])<i then some i else nQ ns f (i+1)
def gI (c:fZ):Option (Nat×Option Nat):=
 match nQ (cG c.vars) c.vars.length 0 with
 | some i=>some (9,some i)
 | none=>if c.regions=[] then some (8,none) else match gR (nB c.vars 6) c.regions 0 with
  | .error (e,p)=>some (e,some p)
  | .ok _=>none
def Cw (G:List (List (Option Nat))) (T:List Bool):List Int:=(List.range G.length).map fun j=>if T.getD j false then -1 else (sJ G T j:Int)
def jJ (n:Nat) (by':Int) (ts:List (Option Nat)):Nat->List Int->List Int
 | 0,W=>W
 | m+1,W=>match ts.getD m none with
  | none=>jJ n by' ts m W
  | some t=>(jJ n by' ts m W).set t ((jJ n by' ts m W).getD t 0+by')
theorem mG (n:Nat) (c:Int) (h:List (Option Nat)) (m:Nat) (W:List Int):(jJ n c h m W).length=W.length:=by
 induction m with
 | zero=>rfl
 | succ m ih=>rw[jJ];split<;>simp[ih]
theorem Do (c:List (Option Nat)) (m:Nat) (h:m<c.length) (j:Nat):(c.take (m+1)).count (some j)=(c.take m).count (some j)+if c.getD m none=some j then 1 else 0:=by
 rw[List.take_succ_eq_append_getElem h,List.count_append,iO,aN4 h]
 simp only[List.count_cons,List.count_nil,aX3,Option.getD_some,beq_iff_eq]
theorem V8 (n:Nat) (c:Int) (h:List (Option Nat)) (W:List Int) (m:Nat) (s:m≤h.length) (j:Nat) (l:j<W.length):(jJ n c h m W).getD j 0=W.getD j 0+c*((h.take m).count (some j):Nat):=by
 induction m with
 | zero=>simp[jJ]
 | succ m k=>
  rw[jJ,Do h m (by omega)]
  have k:=k (by omega)
  cases ht:h.getD m none with
  | none=>
   simp only[reduceCtorEq,if_false,aY4]
   exact k
  | some t=>
   simp only[Option.some.injEq]
   have r:=mG n c h m W
   by_cases e:t=j
   ·subst e
    rw[iO,aX4,r,if_pos rfl,if_pos l,if_pos rfl,k]
    simp[Int.mul_add,Int.add_assoc]
   ·rw[iO,aX4,if_neg e,if_neg e,<-iO,k,aY4]
theorem jV (G:List (List (Option Nat))) (T:List Bool):(Cw G T).length=G.length:=by simp[Cw]
theorem xR (G:List (List (Option Nat))) (T:List Bool) (j:Nat) (c:j<G.length):(Cw G T).getD j 0=if T.getD j false then -1 else (sJ G T j:Int):=by
 rw[Cw,iO,aW6,List.getElem?_range c];rfl
theorem rK {α:Type}{d:α}{l m:List α}(k:l.length=m.length) (h:∀j,j<l.length->l.getD j d=m.getD j d):l=m:=by
 apply List.ext_getElem k
 intro j c n
 have:=h j c
 rwa [iO,iO,aN4 c,aN4 n] at this
def jW (G:List (List (Option Nat))):Nat->List Int
 | 0=>List.replicate G.length 0
 | k+1=>jJ G.length 1 (G.getD k []) (G.getD k []).length (jW G k)
theorem mB (G:List (List (Option Nat))) (k:Nat):(jW G k).length=G.length:=by
 induction k with
 | zero=>simp[jW]
 | succ k ih=>rw[jW,mG,ih]
theorem qT (n j:Nat):(List.replicate n false).getD j false=false:=by
 rw[iO,aW7];split<;>rfl
theorem C3 (G:List (List (Option Nat))) (k:Nat) (j:Nat) (c:j<G.length):(jW G k).getD j 0=(rC G (List.replicate G.length false) j k:Int):=by
 induction k with
 | zero=>rw[jW,rC,iO,aW7,if_pos c];rfl
 | succ k ih=>
  rw[jW,rC,V8 _ _ _ _ _ (aO4 _) j (by rw[mB];exact c),ih,qT,aX7]
  simp
theorem Dh (G:List (List (Option Nat))):jW G G.length=Cw G (List.replicate G.length false):=by
 apply rK (d:=0)
 ·rw[mB,jV]
 ·intro j c
  rw[mB] at c
  rw[C3 _ _ _ c,xR _ _ _ c,qT];rfl
theorem rF (T:List Bool) (i j:Nat) (c:i<T.length):(T.set i true).getD j false=if i=j then true else T.getD j false:=by
 rw[iO,aX4]
 by_cases e:i=j
 ·subst e;simp[c]
 ·rw[if_neg e,if_neg e,iO]
theorem Ug (G:List (List (Option Nat))) (T:List Bool) (i j:Nat) (l:i<T.length) (n:T.getD i false=false) (k:Nat):rC G T j k=rC G (T.set i true) j k+if i<k then (G.getD i []).count (some j) else 0:=by
 induction k with
 | zero=>simp[rC]
 | succ k ih=>
  rw[rC,rC,ih,rF T i k l]
  by_cases e:i=k
  ·subst e
   rw[if_neg (by omega),if_pos rfl,n];simp
  ·rw[if_neg e]
   generalize (G.getD i []).count (some j)=c
   have r:(if i<k+1 then c else 0)=if i<k then c else 0:=by
    by_cases h:i<k
    ·rw[if_pos h,if_pos (by omega)]
    ·rw[if_neg h,if_neg (by omega)]
   rw[r];omega
theorem Iu (G:List (List (Option Nat))) (T:List Bool) (i j:Nat) (c:i<T.length) (k:i<G.length) (h:T.getD i false=false):sJ G T j=sJ G (T.set i true) j+(G.getD i []).count (some j):=by
 rw[sJ,sJ,Ug G T i j c h,if_pos k]
def Uz (G:List (List (Option Nat))) (T:List Bool):Prop:=T.length=G.length/\∀j,T.getD j false=true->sJ G T j=0
theorem Km (G:List (List (Option Nat))):Uz G (List.replicate G.length false):=⟨by simp,fun j h=>by rw[qT] at h;simp at h⟩
theorem Pi {G:List (List (Option Nat))}{T:List Bool}{i:Nat}(h:Uz G T) (l:i<G.length) (c:mO G T i=true):Uz G (T.set i true):=by
 unfold mO at c
 simp only[Bool.and_eq_true,Bool.not_eq_true',decide_eq_true_eq] at c
 refine ⟨by rw[aW4];exact h.1,fun j k=>?_⟩
 rw[rF T i j (by rw[h.1];exact l)] at k
 have:=Iu G T i j (by rw[h.1];exact l) l c.1
 by_cases e:i=j
 ·subst e;omega
 ·rw[if_neg e] at k
  have:=h.2 j k;omega
theorem Vv {G:List (List (Option Nat))}{T:List Bool}{i:Nat}(h:Uz G T) (l:i<G.length) (c:mO G T i=true):jJ G.length (-1) (G.getD i []) (G.getD i []).length ((Cw G T).set i (-1))=Cw G (T.set i true):=by
 have n:=c
 unfold mO at c
 simp only[Bool.and_eq_true,Bool.not_eq_true',decide_eq_true_eq] at c
 apply rK (d:=0)
 ·rw[mG,aW4,jV,jV]
 ·intro j k
  rw[mG,aW4,jV] at k
  have r:=Iu G T i j (by rw[h.1];exact l) l c.1
  rw[V8 _ _ _ _ _ (aO4 _) j (by rw[aW4,jV];exact k),aX7,xR _ _ _ k,rF T i j (by rw[h.1];exact l)]
  by_cases e:i=j
  ·subst e
   rw[if_pos rfl,iO,aX4,if_pos rfl,jV,if_pos l]
   have:(G.getD i []).count (some i)=0:=by omega
   rw[this];simp
  ·rw[if_neg e,iO,aX4,if_neg e,<-iO,xR _ _ _ k]
   by_cases ht:T.getD j false=true
   ·have:=h.2 j ht
    have:(G.getD i []).count (some j)=0:=by omega
    rw[if_pos ht,if_pos ht,this];simp
   ·rw[if_neg ht,if_neg ht];omega
theorem sO (G:List (List (Option Nat))) (T:List Bool) (j:Nat) (c:j<G.length):(Cw G T).getD j 0=0↔mO G T j=true:=by
 rw[xR _ _ _ c]
 unfold mO
 cases T.getD j false<;>simp;try omega
theorem Et {G:List (List (Option Nat))}{T:List Bool}:∀{f i k:Nat},yO G T f i=some k->i≤k/\k<i+f/\mO G T k=true/\∀j,i≤j->j<k->mO G T j=false:=by
 intro f
 induction f with
 | zero=>intro i k h;simp[yO] at h
 | succ f ih=>
  intro i k h
  rw[yO] at h
  split at h
  ·rename_i hf
   injection h with h
   subst h
   exact ⟨aO4 _,by omega,hf,fun j s l=>absurd l (by omega)⟩
  ·rename_i hf
   obtain ⟨s,l,u,n⟩:=ih h
   refine ⟨by omega,by omega,u,fun j r c=>?_⟩
   by_cases e:j=i
   ·subst e;simpa using hf
   ·exact n j (by omega) c
theorem Eu {G:List (List (Option Nat))}{T:List Bool}:∀{f i:Nat},yO G T f i=none->∀j,i≤j->j<i+f->mO G T j=false:=by
 intro f
 induction f with
 | zero=>intro i _ j k c;exact absurd c (by omega)
 | succ f ih=>
  intro i h j k c
  rw[yO] at h
  split at h
  ·exact absurd h (by simp)
  ·rename_i hf
   by_cases e:j=i
   ·subst e;simpa using hf
   ·exact ih h j (by omega) (by omega)
theorem nY {G:List (List (Option Nat))}{T:List Bool}{k:Nat}(h:wL G T=some k):k<G.length/\mO G T k=true/\∀j,j<k->mO G T j=false:=by
 obtain ⟨_,r,c,n⟩:=Et h
 exact ⟨by omega,c,fun j l=>n j (aP6 _) l⟩
theorem Es {G:List (List (Option Nat))}{T:List Bool}(h:wL G T=none):∀j,j<G.length->mO G T j=false:=fun j hj=>Eu h j (aP6 _) (by omega)
theorem uY {G:List (List (Option Nat))}:∀{r:Nat}{o:List Nat}{T:List Bool},pR G r=some (o,T)->Uz G T/\o.length=r/\(∀j∈o,j<G.length):=by
 intro r
 induction r with
 | zero=>intro o T h;rw[pR] at h;injection h with h;injection h with h1 h2;subst h1;subst h2;exact ⟨Km G,rfl,by simp⟩
 | succ r ih=>
  intro o T h
  rw[pR] at h
  split at h
  ·exact absurd h (by simp)
  ·rename_i o' T' hr
   split at h
   ·exact absurd h (by simp)
   ·rename_i j hj
    injection h with h
    injection h with h1 h2
    subst h1;subst h2
    obtain ⟨y,s,n⟩:=ih hr
    obtain ⟨l,u,_⟩:=nY hj
    refine ⟨Pi y l u,by simp[s],fun k c=>?_⟩
    rcases aR2.1 c with c|c
    ·exact n k c
    ·rw[aP5.1 c];exact l
theorem Ld {G:List (List (Option Nat))}{r s:Nat}(h:pR G r=none) (c:r≤s):pR G s=none:=by
 induction s with
 | zero=>obtain rfl:r=0:=by omega
         exact h
 | succ s ih=>
  by_cases e:r=s+1
  ·subst e;exact h
  ·rw[pR,ih (by omega)]
theorem Yk (G:List (List (Option Nat))) (T:List Bool) (j M:Nat) (c:∀i,(G.getD i []).length≤M) (k:Nat):rC G T j k≤k*M:=by
 induction k with
 | zero=>simp[rC]
 | succ k ih=>
  rw[rC,Nat.succ_mul]
  have:=List.count_le_length (a:=some j) (l:=G.getD k [])
  have:=c k
  split<;>omega
end Px
end
section
open Go.RowKit Go.Maps Go.WideMaps Px
theorem sT:Keyed prog 9:=string_keyed Tryz.underlying9
theorem o9 (w:World):(zeroValue 3).run prog w=.ok (.int .i64 0) w:=by kernel_rfl
def iD (w:World) (b n:Nat) (f:bE->Option Nat):Prop:=
 ∃D:DataW Unit,w.ownsMap prog 9 (plainElem prog 3) b n D/\IsMap D/\∀(s:bE) (zd:DataW Unit),D.atKey (.string s) zd=match f s with
  | none=>zd
  | some i=>.lit (.int .i64 (i:Int))
theorem iD.lt {w:World}{b n:Nat}{f:bE->Option Nat}(h:iD w b n f):b<w.heap.size:=by obtain ⟨D,h,_⟩:=h;exact h.lt
theorem iD.keep {w w':World}{b n:Nat}{f:bE->Option Nat}(h:iD w b n f) (hb:w'.heap[b]?=w.heap[b]?):iD w' b n f:=by
 obtain ⟨D,⟨es,clock,c,k⟩,j⟩:=h
 exact ⟨D,⟨es,clock,by rw[hb];exact c,k⟩,j⟩
theorem iD.below {w w':World}{b n:Nat}{f:bE->Option Nat}(h:iD w b n f) (hb:Below w.heap.size w w'):iD w' b n f:=h.keep (hb.block b h.lt)
theorem iD.like {w:World}{b n:Nat}{f g:bE->Option Nat}(h:iD w b n f) (c:∀s,f s=g s):iD w b n g:=by
 have:f=g:=funext c
 exact this▸h
theorem Ln (w:World):iD (w.alloc (.map #[] 0)) w.heap.size 0 (fun _=>none):=
 ⟨.map [],World.ownsMap_made _ _ _ _,⟨_,rfl⟩,fun _ _=>rfl⟩
theorem Pq {s:bE}(c:s.length≤maxLen):keyOf prog 9 (sv s)=some (.string s):=by
 have:=keyOf_string_mk (P:=prog) Tryz.underlying9 (s:=⟨s.toArray⟩) (by simpa [ByteArray.size] using c)
 simpa [sv] using this
theorem iD.look {w:World}{b n:Nat}{f:bE->Option Nat}(h:iD w b n f) {s:bE}(I:s.length≤maxLen) :
    (Instr.lookup 177 (.map (some b)) (sv s) true).run prog w=.ok (match f s with
     | none=>.tuple #[.int .i64 0,.bool false]
     | some i=>.tuple #[.int .i64 (i:Int),.bool true]) w:=by
 obtain ⟨D,⟨es,clock,hb,F,hsz,rfl⟩,U,k⟩:=h
 rcases Maps.fit_look true sT Tryz.underlying177 (o9 w) hb F (Pq I) with ⟨j,_,l⟩|⟨Q,y,_,_,j,O,l,_⟩
 ·rw[j]
  cases hf:f s with
  | none=>rfl
  | some i=>
   have a1:=k s (.lit (.bool true))
   rw[hf,l] at a1
   simp at a1
 ·rw[j]
  cases hf:f s with
  | none=>
   have a1:=k s (.lit (.bool true))
   have r:=k s (.lit (.bool false))
   rw[hf,l] at a1
   rw[hf,l] at r
   rw[a1] at r
   simp at r
  | some i=>
   have a1:=k s (.lit (.bool true))
   rw[hf,l] at a1
   obtain ⟨c,J,u,_⟩:=plainElem_int_inv Tryz.underlying3 O
   rw[u] at a1
   simp only[DataW.lit.injEq,Lit.int.injEq,true_and] at a1
   rw[J,a1];rfl
theorem aD0 {i:Nat}(h:i≤9223372036854775807):(Lit.int .i64 (i:Int)).wf=true:=by
 have j:IntKind.i64.min=-9223372036854775808:=by decide
 have c:IntKind.i64.max=9223372036854775807:=by decide
 simp[Lit.wf,j,c]
 omega
theorem iD.put {w:World}{b n:Nat}{f:bE->Option Nat}(h:iD w b n f) (y:n<maxLen) {s:bE}(J:s.length≤maxLen) {i:Nat}(Q:i≤9223372036854775807) :
    ∃w',(Instr.mapUpdate 177 (.map (some b)) (sv s) (.int .i64 (i:Int))).run prog w=.ok () w'/\iD w' b (n+1) (fun t=>if s=t then some i else f t)/\w.grownBy w' (some b):=by
 obtain ⟨D,U,u,l⟩:=h
 obtain ⟨w',c,r,O⟩:=U.update sT Tryz.underlying177 y (Pq J) (plainElem_int Tryz.underlying3 (aD0 Q))
 refine ⟨w',c,⟨_,r,u.put _ _,fun t I=>?_⟩,O⟩
 by_cases e:s=t
 ·subst e
  rw[atKey_put_same u (k:=.string s) (by simp[WideAt.IsKeyLit])]
  simp
 ·rw[atKey_put_other (by intro j;injection j with j;exact e j.symm),l t I]
  simp[e]
end
section
open Go.RowKit Px
def Zw (w:World) (f:Value) (ns:List bE):Prop:=
 ∃pb mb n,f=.func (.func 112) #[] #[.pointer (some ⟨pb,0,none⟩)]/\w.heap[pb]?=some (.cells #[.map (some mb)] 177 (0,0))/\iD w mb n (jT ns)
theorem nG {pb k n:Nat}{ns:List bE}{s:bE}{w:World}(c:w.heap[pb]?=some (.cells #[.map (some k)] 177 (0,0))) (h:iD w k n (jT ns)) (l:s.length≤maxLen) :
 Calls prog 112 #[sv s,.pointer (some ⟨pb,0,none⟩)] w fun e w'=>e=.returned (.int .i64 (eG ns s))/\w'=w:=by
 have r:=aF c 0 (u:=.map (some k)) rfl
 have j:=h.look l
 generalize sv s=S at j ⊢
 cases hf:jT ns s with
 | none=>
  rw[hf] at j
  have e:eG ns s=-1:=by unfold eG;rw[hf]
  rw[e]
  clear e hf h c
  go_enter Tryz.func112,Tryz.ntmps112
  go_wp2_with fail
  go_ret
  exact ⟨rfl,rfl⟩
 | some i=>
  rw[hf] at j
  have e:eG ns s=(i:Int):=by unfold eG;rw[hf]
  rw[e]
  clear e hf h c
  go_enter Tryz.func112,Tryz.ntmps112
  go_wp2_with fail
  go_ret
  exact ⟨rfl,rfl⟩
theorem Ra {c i g n cap:Nat}{ad:Option Addr}{s:bE}{w:World}(r:w.cell? ⟨c,1,none⟩=some (.slice ad n cap)) (l:i<n) (j:0<n->ad=some ⟨g,0,none⟩) (k:w.cell? ⟨g,i*3+1,none⟩=some (sv s)) :
 Calls prog 67 #[.int .i64 (i:Int),.pointer (some ⟨c,0,none⟩)] w fun e w'=>e=.returned (sv s)/\w'=w:=by
 have h:=ixV ad g n cap i l j
 generalize sv s=S at k ⊢
 go_enter Tryz.func67,Tryz.ntmps67
 go_wp2_with fail
 go_ret
 exact ⟨rfl,rfl⟩
theorem Ev {c i g n cap:Nat}{ad:Option Addr}{s:bE}{w:World}(r:w.cell? ⟨c,0,none⟩=some (.slice ad n cap)) (l:i<n) (j:0<n->ad=some ⟨g,0,none⟩) (k:w.cell? ⟨g,i*9,none⟩=some (sv s)) :
 Calls prog 197 #[.int .i64 (i:Int),.pointer (some ⟨c,0,none⟩)] w fun e w'=>e=.returned (sv s)/\w'=w:=by
 have h:=Xo ad g n cap i l j
 generalize sv s=S at k ⊢
 go_enter Tryz.func197,Tryz.ntmps197
 go_wp2_with fail
 go_ret
 exact ⟨rfl,rfl⟩
theorem aK0 (M:Int) (w:World):(Instr.makeMap 177 (some (.int .i64 M))).run prog w=.ok (.map (some w.heap.size)) (w.alloc (.map #[] 0)):=by kernel_rfl
theorem zC (K:Nat) (Z:K=67\/K=197) (q:Nat) (ns:List bE) (M:Nat) (J:Hid (M=ns.length)) (aa:M≤1000000) (y:Hid (∀i,i<M->(ns.getD i []).length≤maxLen)) (w:World)
    (l:Hid (∀X i,Below w.heap.size w X->i<M->Calls prog K #[.int .i64 (i:Int),.pointer (some ⟨q,0,none⟩)] X fun e w'=>e=.returned (sv (ns.getD i []))/\w'=X)) :
 Calls prog 66 #[.int .i64 (M:Int),.func (.func K) #[] #[.pointer (some ⟨q,0,none⟩)]] w fun e w'=>∃f,e=.returned f/\Zw w' f ns/\Below w.heap.size w w':=by
 have U:∀(fn:Fn) (first cap:Array Value) (w:World),(Instr.makeFunc fn first cap).run prog w=.ok (.func fn first cap) w:=fun _ _ _ _=>rfl
 have Q:=aK0 (M:Int)
 rcases Z with rfl|rfl
 all_goals
  go_enter Tryz.func66,Tryz.ntmps66
  go_wp2_with fail
  go_loopg [6] M (fun f i wr=>∃k:Nat,f=k/\k≤M/\i=.int .i64 ((k:Int)-1)/\Hid (iD wr w.heap.size (M-k) (A7 ns k)/\wr.heap[w.heap.size+1]?=some (.cells #[.map (some w.heap.size)] 177 (0,0))/\Below w.heap.size w wr))
  case atStart=>
   refine ⟨M,rfl,aO4 _,rfl,?_,?_,?_⟩
   ·rw[Nat.sub_self]
    exact ((Ln w).keep (Below.heap_alloc _ _ _ (by simp))).like fun s=>by rw[J.out,Te]
   ·have e:w.heap.size+1=(w.alloc (.map #[] 0)).heap.size:=by simp
    rw[e];exact heap_alloc_new _ _
   ·exact ((Below.refl _ _).alloc (aO4 _) _).alloc (by simp) _
  case round=>
   obtain ⟨k,rfl,hk,rfl,h⟩:=hrel
   cases gk with
   | zero=>
    go_wp2_with fail
    go_ret
    refine ⟨_,rfl,⟨w.heap.size+1,w.heap.size,M,rfl,h.out.2.1,?_⟩,h.out.2.2⟩
    exact h.out.1.like (Tf ns)
   | succ j=>
    have I:((j+1:Nat):Int)-1=(j:Int):=by omega
    rw[I]
    have hc:wr.drew.cell? ⟨w.heap.size+1,0,none⟩=some (.map (some w.heap.size)):=aF h.out.2.1 0 rfl
    have c:=l.out wr.drew j h.out.2.2.drew (by omega)
    have u:=y.out j (by omega)
    have O:Hid (iD wr.drew w.heap.size (M-(j+1)) (A7 ns (j+1))):=h.out.1
    obtain ⟨w2,n,r,D⟩:=O.out.put (by unfold maxLen;omega) u (i:=j) (by omega)
    have Y:Hid (iD w2 w.heap.size (M-j) (A7 ns j)/\w2.heap[w.heap.size+1]?=some (.cells #[.map (some w.heap.size)] 177 (0,0))/\Below w.heap.size w w2):=by
     refine ⟨?_,?_,?_⟩
     ·rw[show M-j=M-(j+1)+1 by omega]
      exact r.like fun s=>(Mm ns j (by rw[<-J.out];omega) s).symm
     ·rw[D.block _ (aB h.out.2.1) (by simp)];exact h.out.2.1
     ·exact h.out.2.2.drew.grown D h.out.2.2.size (fun b hb=>by cases hb;exact aO4 _)
    clear r D u I
    generalize sv (ns.getD j [])=S at c n
    go_wp2_with fail
    go_region_with (refine c.mono ?_;rintro e w' ⟨rfl,rfl⟩)
    all_goals
     go_wp2_with fail
     go_roundg j
     case measure=>omega
     case rel=>exact ⟨j,rfl,by omega,by go_num,Y.out⟩
end
section
namespace Px
def Zd (ns:List bE):Prop:=∀i,i<ns.length->¬eG ns (ns.getD i [])<i
section
variable {ρ:Type}
theorem mV (l:List (cF ρ)):(bD l).length=l.length:=by simp[bD]
theorem fM (l:List (cF ρ)):(cQ l).length=l.length:=by simp[cQ]
theorem D2 (l:List (cF ρ)) (i:Nat) (s:cF ρ) (h:l[i]?=some s):(bD l).getD i []=s.name:=by
 rw[bD,iO,aW6,h];rfl
theorem Sy (l:List (cF ρ)) (i:Nat) (s:cF ρ) (h:l[i]?=some s):(cQ l).getD i []=pC (bD l) s.ways:=by
 rw[cQ,iO,aW6,h];rfl
theorem xT (ns:List bE) (ys:List Wy):(pC ns ys).length=ys.length:=by simp[pC]
theorem Vy (ns:List bE) (c:List Wy) (m:Nat) (y:Wy) (h:c[m]?=some y):(pC ns c).getD m none=if y.now then jT ns y.to else none:=by
 rw[pC,iO,aW6,h];rfl
theorem J4 {vs:List bQ}{R:List ρ->Nat->I4}{ns:List bE}:∀{l:List (cF ρ)}{i n m:Nat},gA vs R ns l i n=.ok m->∀j,j<l.length->∀s,l[j]?=some s->¬eG ns s.name<((i+j:Nat):Int):=by
 intro l
 induction l with
 | nil=>intro i n m _ j k;simp at k
 | cons a r ih=>
  intro i n m h j k s u
  rw[gA] at h
  split at h
  ·exact absurd h (by simp)
  ·rename_i hz
   split at h
   ·exact absurd h (by simp)
   ·cases j with
    | zero=>
     obtain rfl:a=s:=by simpa using u
     intro c
     apply hz
     unfold jH
     rw[if_pos (by simpa using c)]
     simp
    | succ j=>
     have:=ih h j (by simpa using k) s (by simpa using u)
     rw[show i+(j+1)=i+1+j by omega];exact this
theorem Kr {vs:List bQ}{R:List ρ->Nat->I4}{l:List (cF ρ)}{n m:Nat}(h:gA vs R (bD l) l 0 n=.ok m):Zd (bD l):=by
 intro i c
 rw[mV] at c
 have:=J4 h i c _ (aN4 c)
 rw[D2 l i _ (aN4 c)]
 simpa using this
end
end Px
end
section
open Go.RowKit Px
theorem cH {w:World}{g:Nat}{l:List Value}{T:TypeId}{f:Nat×Nat}(h:w.heap[g]?=some (.cells l.toArray T f)) (k:Nat) (x:Value):(w.setCell ⟨g,k,none⟩ x).heap[g]?=some (.cells (l.set k x).toArray T f):=by
 have c:=aB h
 have e:w.heap[g]=.cells l.toArray T f:=by rw[Array.getElem?_eq_getElem c] at h;exact Option.some.inj h
 simp only[World.setCell]
 rw[Array.getElem?_eq_getElem (by simpa using c),Array.getElem_modify]
 simp[e]
theorem aG {w:World}{g:Nat}{l:Array Value}{T:TypeId}(h:w.heap[g]?=some (.cells l T (0,0))) (k:Nat):w.frozen? ⟨g,k,none⟩=false:=by
 simp[World.frozen?,h]
def dF (w:World) (g:Nat) (W:List Int):Prop:=w.heap[g]?=some (.cells (W.map (Value.int .i64)).toArray 3 (0,0))
theorem dF.cell {w:World}{g:Nat}{W:List Int}(h:dF w g W) (j:Nat) (c:j<W.length):w.cell? ⟨g,j,none⟩=some (.int .i64 (W.getD j 0)):=by
 refine aF h j ?_
 simp[List.getElem?_eq_getElem c,List.getD_eq_getElem?_getD]
theorem dF.set {w:World}{g:Nat}{W:List Int}(h:dF w g W) (j:Nat) (x:Int):dF (w.setCell ⟨g,j,none⟩ (.int .i64 x)) g (W.set j x):=by
 have:=cH h j (.int .i64 x)
 rw[dF,List.map_set];exact this
theorem dF.keep {w w':World}{g:Nat}{W:List Int}(h:dF w g W) (hk:w'.heap[g]?=w.heap[g]?):dF w' g W:=by rw[dF,hk];exact h
theorem qQ {w:World}{g n cap:Nat}{W:List Int}(I:Hid (n=W.length)) (U:n≤1000000) (r:dF w g W) :
 Calls prog 77 #[.slice (some ⟨g,0,none⟩) n cap,.int .i64 0] w fun e w'=>w'=w/\((∃k:Nat,e=.returned (.int .i64 (k:Int))/\k<n/\W.getD k 0=0/\∀j,j<k->W.getD j 0≠0)\/(e=.returned (.int .i64 (-1))/\∀j,j<n->W.getD j 0≠0)):=by
 have D:Hid (dF w g W):=r
 clear r
 go_enter Tryz.func77,Tryz.ntmps77
 go_wp2_with fail
 go_loopg [8] n (fun f i wr=>∃k:Nat,f=n-k/\k≤n/\i=.int .i64 (k:Int)/\Hid (wr=w/\∀j,j<k->W.getD j 0≠0))
 case atStart=>exact ⟨0,by omega,by omega,rfl,rfl,fun j s=>absurd s (by omega)⟩
 case round=>
  obtain ⟨k,rfl,X,rfl,l⟩:=hrel
  obtain ⟨y,c⟩:=l.out
  subst y
  have h:Hid (∀j,j<k->W.getD j 0≠0):=c
  clear l c
  by_cases hlt:k<n
  ·have u:=zE (some ⟨g,0,none⟩) g n cap k hlt (fun _=>rfl)
   have J:=D.out.cell k (by rw[<-I.out];exact hlt)
   obtain ⟨x,hx⟩:=gQx (W.getD k 0)
   rw[<-hx] at J
   have HX:Hid _:=hx
   clear hx
   by_cases h0:x=0
   ·subst h0
    go_wp2_with fail
    go_ret
    exact ⟨rfl,.inl ⟨k,rfl,hlt,HX.out.symm,h.out⟩⟩
   ·have Y:((0:Int)==x)=false:=by simp;omega
    have O:decide ((0:Int)=x)=false:=by simp;omega
    have Q:¬(0:Int)=x:=by omega
    have H0:Hid _:=h0
    clear h0
    go_wp2_with fail
    go_roundg (n-(k+1))
    case measure=>omega
    case rel=>
     refine ⟨k+1,rfl,by omega,by go_num,rfl,fun j s=>?_⟩
     by_cases e:j=k
     ·subst e;rw[<-HX.out];exact H0.out
     ·exact h.out j (by omega)
  ·obtain rfl:k=n:=by omega
   go_wp2_with fail
   go_ret
   exact ⟨rfl,.inr ⟨rfl,h.out⟩⟩
def E5 (w:World) (g n:Nat) (ns:List bE):Prop:=n=ns.length/\∀i,i<n->w.cell? ⟨g,i*9,none⟩=some (sv (ns.getD i []))/\(ns.getD i []).length≤maxLen
theorem oU {w:World}{ad:Option Addr}{g n cap:Nat}{ns:List bE}(u:0<n->ad=some ⟨g,0,none⟩) (s:n≤1000000) (j:E5 w g n ns) :
 Calls prog 152 #[.slice ad n cap] w fun e w'=>∃f,e=.returned f/\Zw w' f ns/\Below w.heap.size w w':=by
 have y:∀(fn:Fn) (first cap:Array Value) (w:World),(Instr.makeFunc fn first cap).run prog w=.ok (.func fn first cap) w:=fun _ _ _ _=>rfl
 have hb:=aX w (.cells #[.slice ad n cap] 174)
 have c:=zC 197 (.inr rfl) w.heap.size ns n j.1 s (fun i h=>(j.2 i h).2) (w.alloc (.cells #[.slice ad n cap] 174)) (fun X i l h=>
  Ev (aN l (aF hb 0 rfl)) h u (aN l (aN (aL w _) (j.2 i h).1)))
 clear hb j
 go_enter Tryz.func152,Tryz.ntmps152
 go_wp2_with (refine c.mono ?_;rintro e w' ⟨f,rfl,k⟩;have r:Hid _:=k;clear k)
 go_ret
 exact ⟨f,rfl,r.out.1,aQ (aL w _) r.out.2⟩
def vQ (w:World) (gy:Nat) (ys:List Wy):Prop:=∀m y,ys[m]?=some y->∃p q,w.cell? ⟨gy,m*7,none⟩=some (.int .i64 y.kind)/\w.cell? ⟨gy,m*7+1,none⟩=some (.bool y.now)/\w.cell? ⟨gy,m*7+2,none⟩=some (.pointer p)/\w.cell? ⟨gy,m*7+3,none⟩=some (.int .i64 y.times)/\w.cell? ⟨gy,m*7+4,none⟩=some q/\w.cell? ⟨gy,m*7+5,none⟩=some (sv y.to)/\w.cell? ⟨gy,m*7+6,none⟩=some (.bool y.back)/\(∃a n c,q=.slice a n c)/\y.to.length≤maxLen
theorem Cg {w:World}{ad ay:Option Addr}{g gy n N cap J i rb fb U r pb O nm:Nat}{ns:List bE}{u:List Wy}{W:List Int}(l:Int) (hi:i<n) (ha:0<n->ad=some ⟨g,0,none⟩) (hN:Hid (N=u.length)) (bc:N≤1000000) (hn:Hid (n=W.length/\∀s t,jT ns s=some t->t<n))
    (az:w.cell? ⟨rb,0,none⟩=some (.slice ad n cap)) (af:w.cell? ⟨fb,0,none⟩=some (.func (.func 112) #[] #[.pointer (some ⟨pb,0,none⟩)])) (ah:w.cell? ⟨U,0,none⟩=some (.slice (some ⟨r,0,none⟩) n n))
    (Z:w.heap[pb]?=some (.cells #[.map (some O)] 177 (0,0))) (ak:iD w O nm (jT ns)) (hW:dF w r W)
    (hy:w.cell? ⟨g,i*9+7,none⟩=some (.slice ay N J)) (am:0<N->ay=some ⟨gy,0,none⟩/\gy<w.heap.size) (ab:vQ w gy u) (hd:Hid (r≠fb/\r≠U/\r≠pb/\r≠O/\(0<N->r≠gy)))
    (ax:Hid (∀m j,m≤N->-4611686018427387904≤(jJ n l (pC ns u) m W).getD j 0/\(jJ n l (pC ns u) m W).getD j 0≤4611686018427387904)) :
 Calls prog 201 #[.int .i64 (i:Int),.int .i64 l,.pointer (some ⟨rb,0,none⟩),.pointer (some ⟨fb,0,none⟩),.pointer (some ⟨U,0,none⟩)] w fun e w'=>e=.returned (.tuple #[])/\dF w' r (jJ n l (pC ns u) N W)/\Fr w.heap.size [r] w w':=by
 have ar:=Xo ad g n cap i hi ha
 have HW:Hid (dF w r W):=hW
 have HY:Hid (vQ w gy u):=ab
 have HM:Hid (iD w O nm (jT ns)):=ak
 have HP:Hid (w.heap[pb]?=some (.cells #[.map (some O)] 177 (0,0))):=Z
 have HF:Hid (w.cell? ⟨fb,0,none⟩=some (.func (.func 112) #[] #[.pointer (some ⟨pb,0,none⟩)])/\w.cell? ⟨U,0,none⟩=some (.slice (some ⟨r,0,none⟩) n n)):=⟨af,ah⟩
 have HA:Hid (0<N->ay=some ⟨gy,0,none⟩/\gy<w.heap.size):=am
 clear hW ab ak Z af ah am
 go_enter Tryz.func201,Tryz.ntmps201
 go_wp2_with fail
 clear ar az hy
 go_loopg [16] N (fun f i wr=>∃k:Nat,f=N-k/\k≤N/\i=.int .i64 (k:Int)/\Hid (dF wr r (jJ n l (pC ns u) k W)/\Fr w.heap.size [r] w wr))
 case atStart=>exact ⟨0,by omega,by omega,rfl,HW.out,Fr.refl _ _ _⟩
 case round=>
  obtain ⟨k,rfl,hk,rfl,I⟩:=hrel
  by_cases hlt:k<N
  ·obtain ⟨y,ao⟩:∃y,Hid (u[k]?=some y):=⟨u[k]'(by rw[<-hN.out];exact hlt),by rw[Hid,aN4]⟩
   obtain ⟨p,q,c0,c1,c2,c3,c4,c5,c6,⟨qa,qn,qc,rfl⟩,au⟩:=HY.out k y ao.out
   obtain ⟨d1,d2,d3,d4,d5⟩:=hd.out
   have ai:=(HA.out (by omega)).2
   have ey:wr.heap[gy]?=w.heap[gy]?:=I.out.2.block gy ai (by simpa using fun e=>d5 (by omega) e.symm)
   have ec:∀o,wr.cell? ⟨gy,o,none⟩=w.cell? ⟨gy,o,none⟩:=fun o=>aY6 (w:=w) (a:=⟨gy,o,none⟩) ey
   rw[<-ec] at c0 c1 c2 c3 c4 c5 c6
   have ba:=wO ay gy N J k hlt (fun h=>(HA.out h).1)
   have av:fb<w.heap.size:=aY5 w _ HF.out.1
   have aw:U<w.heap.size:=aY5 w _ HF.out.2
   have cf:wr.cell? ⟨fb,0,none⟩=some (.func (.func 112) #[] #[.pointer (some ⟨pb,0,none⟩)]):=by
    rw[I.out.2.cell (p:=⟨fb,0,none⟩) av (by simpa using fun e=>d1 e.symm)];exact HF.out.1
   have cw:wr.cell? ⟨U,0,none⟩=some (.slice (some ⟨r,0,none⟩) n n):=by
    rw[I.out.2.cell (p:=⟨U,0,none⟩) aw (by simpa using fun e=>d2 e.symm)];exact HF.out.2
   have aa:wr.heap[pb]?=some (.cells #[.map (some O)] 177 (0,0)):=by
    rw[I.out.2.block pb (aB HP.out) (by simpa using fun e=>d3 e.symm)];exact HP.out
   have ac:iD wr O nm (jT ns):=HM.out.keep (I.out.2.block O HM.out.lt (by simpa using fun e=>d4 e.symm))
   obtain ⟨Q,an⟩:∃Q,Hid (Q=Obj.cells #[.int .i64 y.kind,.bool y.now,.pointer p,.int .i64 y.times,.slice qa qn qc,sv y.to,.bool y.back] 273):=⟨_,rfl⟩
   have c:Calls prog 112 #[sv y.to,.pointer (some ⟨pb,0,none⟩)] (wr.alloc Q) fun e w'=>e=.returned (.int .i64 (eG ns y.to))/\w'=wr.alloc Q:=nG (eB aa) (ac.below (aL wr _)) au
   have al:dF (wr.alloc Q) r (jJ n l (pC ns u) k W):=eB I.out.1
   have ae:Fr w.heap.size [r] w (wr.alloc Q):=I.out.2.alloc I.out.2.size _
   have H1:Hid (dF (wr.alloc Q) r (jJ n l (pC ns u) k W)/\Fr w.heap.size [r] w (wr.alloc Q)):=⟨al,ae⟩
   rw[an.out] at c H1
   clear ey ec aa ac al ae I an d1 d2 d3 d4 d5 ai
   obtain ⟨b0,aj⟩:∃b,Hid (y.now=b):=⟨_,rfl⟩
   rw[aj.out] at c1 c H1
   have Y:=Vy ns u k y ao.out
   rw[aj.out] at Y
   have D:Hid _:=Y
   clear Y
   obtain ⟨S,hS⟩:∃S,sv y.to=.string S:=⟨_,rfl⟩
   rw[hS] at c5 c H1
   clear hS
   have bf:=aN (aL wr (.cells #[.int .i64 y.kind,.bool b0,.pointer p,.int .i64 y.times,.slice qa qn qc,.string S,.bool y.back] 273)) cf
   clear cf
   cases b0 with
   | false=>
    obtain ⟨t9,ap⟩:=gQx (eG ns y.to)
    rw[<-ap] at c
    clear ap
    go_wp2_with (refine c.mono ?_;rintro e w' ⟨rfl,rfl⟩)
    go_roundg (N-(k+1))
    case measure=>omega
    case rel=>
     refine ⟨k+1,rfl,by omega,by go_num,?_⟩
     rw[Hid,jJ,D.out]
     exact H1.out
   | true=>
    cases hf:jT ns y.to with
    | none=>
     have e:eG ns y.to=-1:=by unfold eG;rw[hf]
     rw[e] at c
     rw[hf] at D
     clear hf e
     go_wp2_with (refine c.mono ?_;rintro e w' ⟨rfl,rfl⟩)
     go_roundg (N-(k+1))
     case measure=>omega
     case rel=>
      refine ⟨k+1,rfl,by omega,by go_num,?_⟩
      rw[Hid,jJ,D.out]
      exact H1.out
    | some t=>
     have e:eG ns y.to=(t:Int):=by unfold eG;rw[hf]
     rw[e] at c
     have X:t<n:=hn.out.2 _ _ hf
     rw[hf] at D
     clear hf e
     have bg:(0:Int)≤(t:Int):=by omega
     have bb:=zE (some ⟨r,0,none⟩) r n n t X (fun _=>rfl)
     obtain ⟨x,hx⟩:=gQx ((jJ n l (pC ns u) k W).getD t 0)
     have cx:=H1.out.1.cell t (by rw[mG,<-hn.out.1];exact X)
     rw[<-hx] at cx
     have cz:=aG H1.out.1 t
     have hb:=ax.out (k+1) t hlt
     have ag:(jJ n l (pC ns u) (k+1) W).getD t 0=x+l:=by
      rw[jJ,D.out]
      show ((jJ n l (pC ns u) k W).set t _).getD t 0=_
      rw[iO,aX4,if_pos rfl,mG,if_pos (by rw[<-hn.out.1];exact X),<-hx];rfl
     rw[ag] at hb
     have bh:IntKind.i64.wrap (x+l)=x+l:=by rw[IntKind.wrap_i64];omega
     have be:=aN (aL wr (.cells #[.int .i64 y.kind,.bool true,.pointer p,.int .i64 y.times,.slice qa qn qc,.string S,.bool y.back] 273)) cw
     have HX:Hid (x=(jJ n l (pC ns u) k W).getD t 0):=hx
     clear hx hb ag cw
     go_wp2_with (refine c.mono ?_;rintro e w' ⟨rfl,rfl⟩)
     go_roundg (N-(k+1))
     case measure=>omega
     case rel=>
      refine ⟨k+1,rfl,by omega,by go_num,?_⟩
      rw[Hid,jJ,D.out]
      show dF _ r ((jJ n l (pC ns u) k W).set t ((jJ n l (pC ns u) k W).getD t 0+l))/\_
      rw[<-HX.out]
      exact ⟨H1.out.1.set t _,H1.out.2.setCell (.inr (by simp)) _⟩
  ·obtain rfl:k=N:=by omega
   go_wp2_with fail
   go_end0
   exact ⟨rfl,I.out⟩
end
end Go.Proofs.YthieaobjdpfcoaaGreatDoor
