import Derived.Test.YtcdbhoknhnimcaaGreatDoorTCr
import Derived.Test.YtcdbhoknhnimcaaGreatDoorProg
import Derived.Maps.Own
import Derived.Maps.OwnOps
import Derived.Maps.Views
import Derived.Deep.LoopGhost
import Derived.Deep.RegionHeld3
import Derived.Deep.DeepCutAuto
set_option maxRecDepth 100000
set_option maxHeartbeats 2000000
namespace Go.Proofs.YtcdbhoknhnimcaaGreatDoor
section
namespace Px
def jK:List bB->bB->Option Nat
 | [],_=>none
 | a::r,s=>if a=s then some 0 else (jK r s).map (·+1)
def eB (l:List bB) (s:bB):Int:=match jK l s with|some i=>(i:Int)|none=>-1
def yT (l:List bB) (k:Nat) (s:bB):Option Nat:=(jK (l.drop k) s).map (·+k)
theorem Qj (l:List bB) (s:bB):yT l 0 s=jK l s:=by unfold yT;cases h:jK l s<;>simp[h]
theorem Qi (l:List bB) (s:bB):yT l l.length s=none:=by unfold yT;rw[List.drop_length];rfl
theorem Ke (l:List bB) (k:Nat) (hk:k<l.length) (s:bB):yT l k s=if l.getD k []=s then some k else yT l (k+1) s:=by
 unfold yT
 have e:l.drop k=l.getD k []::l.drop (k+1):=by
  rw[List.drop_eq_getElem_cons hk,List.getD_eq_getElem?_getD,List.getElem?_eq_getElem hk];rfl
 rw[e,jK]
 split
 ·simp
 ·cases h:jK (l.drop (k+1)) s with
  | none=>simp
  | some i=>simp;omega
theorem sK {l:List bB}{s:bB}{i:Nat}(h:jK l s=some i):i<l.length/\l.getD i []=s/\∀j,j<i->l.getD j []≠s:=by
 induction l generalizing i with
 | nil=>simp[jK] at h
 | cons a r ih=>
  rw[jK] at h
  split at h
  ·rename_i he
   injection h with h
   subst h
   exact ⟨by simp,by simpa using he,fun j hj=>absurd hj (by omega)⟩
  ·rename_i he
   cases hr:jK r s with
   | none=>rw[hr] at h;simp at h
   | some k=>
    rw[hr] at h
    simp at h
    subst h
    obtain ⟨h1,h2,h3⟩:=ih hr
    refine ⟨by simp;omega,by simpa using h2,fun j hj=>?_⟩
    cases j with
    | zero=>simpa using he
    | succ j=>simpa using h3 j (by omega)
def dF (ns:List bB):E->Bool
 | .nil=>false
 | .node _ _ a l r=>if a.code=1 then false else if a.code=2\/a.code=3 then (jK ns a.name).isNone else if a.code=4\/a.code=5 then dF ns l else dF ns l||dF ns r
def cD (vs:List bJ):List bB:=vs.map (·.name)
def aF9:bJ:=⟨0,[],0⟩
def Md (vs:List bJ) (s:bB):Nat:=(vs.getD (eB (cD vs) s).toNat aF9).kind
def nD (vs:List bJ) (a:iQ):Nat:=if (jK (cD vs) a.name).isNone||dF (cD vs) a.e then 5 else if Md vs a.name=1 then 1 else 0
def cU (vs:List bJ):List iQ->Nat
 | []=>0
 | a::r=>if nD vs a≠0 then nD vs a else cU vs r
def mY (vs:List bJ) (ns:List bB) (inside:Bool) (y:Wy):Nat:=
 if (jK ns y.to).isNone then 7 else if (decide (y.kind=2) && !inside)||(y.now&&decide (1<y.times)) then 6 else if dF (cD vs) y.cond then 5 else cU vs y.sets
def kL (vs:List bJ) (ns:List bB) (inside:Bool):List Wy->Nat
 | []=>0
 | y::r=>if mY vs ns inside y≠0 then mY vs ns inside y else kL vs ns inside r
section
variable {ρ:Type}
def yG (vs:List bJ) (ns:List bB) (s:cC ρ):Nat:=
 if s.last&&(decide (0<s.ways.length)||decide (0<s.regions.length)) then 6
 else if cU vs s.enter≠0 then cU vs s.enter
 else if cU vs s.during≠0 then cU vs s.during
 else if cU vs s.leave≠0 then cU vs s.leave
 else if dF (cD vs) s.rests then 5
 else kL vs ns (decide (0<s.regions.length)) s.ways
def iY (vs:List bJ) (ns:List bB) (i:Nat) (s:cC ρ):Nat:=
 if eB ns s.name<i then 9 else yG vs ns s
def bA (l:List (cC ρ)):List bB:=l.map (·.name)
def oG (ns:List bB) (ys:List Wy):List (Option Nat):=ys.map fun y=>if y.now then jK ns y.to else none
def cL (l:List (cC ρ)):List (List (Option Nat)):=l.map fun s=>oG (bA l) s.ways
end
def qI (G:List (List (Option Nat))) (T:List Bool) (j:Nat):Nat->Nat
 | 0=>0
 | i+1=>qI G T j i+(if T.getD i false then 0 else (G.getD i []).count (some j))
def Wh (G:List (List (Option Nat))) (T:List Bool) (j:Nat):Nat:=qI G T j G.length
def mC (G:List (List (Option Nat))) (T:List Bool) (j:Nat):Bool:=!T.getD j false&&decide (Wh G T j=0)
def xF (G:List (List (Option Nat))) (T:List Bool):Nat->Nat->Option Nat
 | 0,_=>none
 | f+1,i=>if mC G T i then some i else xF G T f (i+1)
def uT (G:List (List (Option Nat))) (T:List Bool):Option Nat:=xF G T G.length 0
def oY (G:List (List (Option Nat))):Nat->Option (List Nat×List Bool)
 | 0=>some ([],List.replicate G.length false)
 | r+1=>match oY G r with
  | none=>none
  | some (o,T)=>match uT G T with
   | none=>none
   | some j=>some (o++[j],T.set j true)
def eJ (G:List (List (Option Nat))):Option (List Nat):=(oY G G.length).map (·.1)
section
variable {ρ:Type}
def iS (l:List (cC ρ)):Nat:=(l.filter (·.first)).length
def cN (l:List (cC ρ)):Nat:=
 if iS l=0 then 8 else if 1<iS l then 12 else if (eJ (cL l)).isNone then 11 else 0
abbrev B6:=Except (Nat×Nat) Nat
def gK (R:List ρ->Nat->B6):List (List ρ)->Nat->B6
 | [],n=>.ok n
 | r::rs,n=>match R r n with
  | .error x=>.error x
  | .ok m=>gK R rs m
def fV (vs:List bJ) (R:List ρ->Nat->B6) (ns:List bB):List (cC ρ)->Nat->Nat->B6
 | [],_,n=>.ok n
 | s::r,i,n=>if iY vs ns i s≠0 then .error (iY vs ns i s,n) else match gK R s.regions (n+1) with
  | .error x=>.error x
  | .ok m=>fV vs R ns r (i+1) m
def oI (vs:List bJ) (R:List ρ->Nat->B6) (l:List (cC ρ)) (n:Nat):B6:=
 match fV vs R (bA l) l 0 n with
 | .error x=>.error x
 | .ok m=>if cN l≠0 then .error (cN l,n) else .ok m
end
def mN (vs:List bJ):(k:Nat)->List (St k)->Nat->B6
 | 0=>fun _ n=>.error (8,n)
 | k+1=>fun l n=>oI vs (mN vs k) l n
def mZ (ns:List bB):Nat->Nat->Option Nat
 | 0,_=>none
 | f+1,i=>if eB ns (ns.getD i [])<i then some i else mZ ns f (i+1)
def fZ (c:fU):Option (Nat×Option Nat):=
 match mZ (cD c.vars) c.vars.length 0 with
 | some i=>some (9,some i)
 | none=>if c.regions=[] then some (8,none) else match gK (mN c.vars 6) c.regions 0 with
  | .error (e,p)=>some (e,some p)
  | .ok _=>none
def As (G:List (List (Option Nat))) (T:List Bool):List Int:=(List.range G.length).map fun j=>if T.getD j false then -1 else (Wh G T j:Int)
def jA (n:Nat) (by':Int) (ts:List (Option Nat)):Nat->List Int->List Int
 | 0,W=>W
 | m+1,W=>match ts.getD m none with
  | none=>jA n by' ts m W
  | some t=>(jA n by' ts m W).set t ((jA n by' ts m W).getD t 0+by')
theorem lT (n:Nat) (by':Int) (ts:List (Option Nat)) (m:Nat) (W:List Int):(jA n by' ts m W).length=W.length:=by
 induction m with
 | zero=>rfl
 | succ m ih=>rw[jA];split<;>simp[ih]
theorem Bm (ts:List (Option Nat)) (m:Nat) (hm:m<ts.length) (j:Nat):(ts.take (m+1)).count (some j)=(ts.take m).count (some j)+if ts.getD m none=some j then 1 else 0:=by
 rw[List.take_succ_eq_append_getElem hm,List.count_append,List.getD_eq_getElem?_getD,List.getElem?_eq_getElem hm]
 simp only[List.count_cons,List.count_nil,Nat.zero_add,Option.getD_some,beq_iff_eq]
theorem J0 (n:Nat) (by':Int) (ts:List (Option Nat)) (W:List Int) (m:Nat) (hm:m≤ts.length) (j:Nat) (hj:j<W.length):(jA n by' ts m W).getD j 0=W.getD j 0+by'*((ts.take m).count (some j):Nat):=by
 induction m with
 | zero=>simp[jA]
 | succ m ih=>
  rw[jA,Bm ts m (by omega)]
  have ih:=ih (by omega)
  cases ht:ts.getD m none with
  | none=>
   simp only[reduceCtorEq,if_false,Nat.add_zero]
   exact ih
  | some t=>
   simp only[Option.some.injEq]
   have hl:=lT n by' ts m W
   by_cases e:t=j
   ·subst e
    rw[List.getD_eq_getElem?_getD,List.getElem?_set,hl,if_pos rfl,if_pos hj,if_pos rfl,ih]
    simp[Int.mul_add,Int.add_assoc]
   ·rw[List.getD_eq_getElem?_getD,List.getElem?_set,if_neg e,if_neg e,<-List.getD_eq_getElem?_getD,ih,Nat.add_zero]
theorem jM (G:List (List (Option Nat))) (T:List Bool):(As G T).length=G.length:=by simp[As]
theorem vY (G:List (List (Option Nat))) (T:List Bool) (j:Nat) (hj:j<G.length):(As G T).getD j 0=if T.getD j false then -1 else (Wh G T j:Int):=by
 rw[As,List.getD_eq_getElem?_getD,List.getElem?_map,List.getElem?_range hj];rfl
theorem qQ {α:Type}{d:α}{l m:List α}(hl:l.length=m.length) (h:∀j,j<l.length->l.getD j d=m.getD j d):l=m:=by
 apply List.ext_getElem hl
 intro j h1 h2
 have:=h j h1
 rwa [List.getD_eq_getElem?_getD,List.getD_eq_getElem?_getD,List.getElem?_eq_getElem h1,List.getElem?_eq_getElem h2] at this
def jN (G:List (List (Option Nat))):Nat->List Int
 | 0=>List.replicate G.length 0
 | k+1=>jA G.length 1 (G.getD k []) (G.getD k []).length (jN G k)
theorem lO (G:List (List (Option Nat))) (k:Nat):(jN G k).length=G.length:=by
 induction k with
 | zero=>simp[jN]
 | succ k ih=>rw[jN,lT,ih]
theorem pZ (n j:Nat):(List.replicate n false).getD j false=false:=by
 rw[List.getD_eq_getElem?_getD,List.getElem?_replicate];split<;>rfl
theorem zD (G:List (List (Option Nat))) (k:Nat) (j:Nat) (hj:j<G.length):(jN G k).getD j 0=(qI G (List.replicate G.length false) j k:Int):=by
 induction k with
 | zero=>rw[jN,qI,List.getD_eq_getElem?_getD,List.getElem?_replicate,if_pos hj];rfl
 | succ k ih=>
  rw[jN,qI,J0 _ _ _ _ _ (Nat.le_refl _) j (by rw[lO];exact hj),ih,pZ,List.take_length]
  simp
theorem Be (G:List (List (Option Nat))):jN G G.length=As G (List.replicate G.length false):=by
 apply qQ (d:=0)
 ·rw[lO,jM]
 ·intro j hj
  rw[lO] at hj
  rw[zD _ _ _ hj,vY _ _ _ hj,pZ];rfl
theorem rX (T:List Bool) (i j:Nat) (hi:i<T.length):(T.set i true).getD j false=if i=j then true else T.getD j false:=by
 rw[List.getD_eq_getElem?_getD,List.getElem?_set]
 by_cases e:i=j
 ·subst e;simp[hi]
 ·rw[if_neg e,if_neg e,List.getD_eq_getElem?_getD]
theorem Rp (G:List (List (Option Nat))) (T:List Bool) (i j:Nat) (hi:i<T.length) (hT:T.getD i false=false) (k:Nat):qI G T j k=qI G (T.set i true) j k+if i<k then (G.getD i []).count (some j) else 0:=by
 induction k with
 | zero=>simp[qI]
 | succ k ih=>
  rw[qI,qI,ih,rX T i k hi]
  by_cases e:i=k
  ·subst e
   rw[if_neg (by omega),if_pos rfl,hT];simp
  ·rw[if_neg e]
   generalize (G.getD i []).count (some j)=c
   have e1:(if i<k+1 then c else 0)=if i<k then c else 0:=by
    by_cases h:i<k
    ·rw[if_pos h,if_pos (by omega)]
    ·rw[if_neg h,if_neg (by omega)]
   rw[e1];omega
theorem Gj (G:List (List (Option Nat))) (T:List Bool) (i j:Nat) (hi:i<T.length) (hG:i<G.length) (hT:T.getD i false=false):Wh G T j=Wh G (T.set i true) j+(G.getD i []).count (some j):=by
 rw[Wh,Wh,Rp G T i j hi hT,if_pos hG]
def Sk (G:List (List (Option Nat))) (T:List Bool):Prop:=T.length=G.length/\∀j,T.getD j false=true->Wh G T j=0
theorem Ia (G:List (List (Option Nat))):Sk G (List.replicate G.length false):=⟨by simp,fun j h=>by rw[pZ] at h;simp at h⟩
theorem Mr {G:List (List (Option Nat))}{T:List Bool}{i:Nat}(h:Sk G T) (hi:i<G.length) (hf:mC G T i=true):Sk G (T.set i true):=by
 unfold mC at hf
 simp only[Bool.and_eq_true,Bool.not_eq_true',decide_eq_true_eq] at hf
 refine ⟨by rw[List.length_set];exact h.1,fun j hj=>?_⟩
 rw[rX T i j (by rw[h.1];exact hi)] at hj
 have:=Gj G T i j (by rw[h.1];exact hi) hi hf.1
 by_cases e:i=j
 ·subst e;omega
 ·rw[if_neg e] at hj
  have:=h.2 j hj;omega
theorem Tf {G:List (List (Option Nat))}{T:List Bool}{i:Nat}(h:Sk G T) (hi:i<G.length) (hf:mC G T i=true):jA G.length (-1) (G.getD i []) (G.getD i []).length ((As G T).set i (-1))=As G (T.set i true):=by
 have hf':=hf
 unfold mC at hf
 simp only[Bool.and_eq_true,Bool.not_eq_true',decide_eq_true_eq] at hf
 apply qQ (d:=0)
 ·rw[lT,List.length_set,jM,jM]
 ·intro j hj
  rw[lT,List.length_set,jM] at hj
  have hc:=Gj G T i j (by rw[h.1];exact hi) hi hf.1
  rw[J0 _ _ _ _ _ (Nat.le_refl _) j (by rw[List.length_set,jM];exact hj),List.take_length,vY _ _ _ hj,rX T i j (by rw[h.1];exact hi)]
  by_cases e:i=j
  ·subst e
   rw[if_pos rfl,List.getD_eq_getElem?_getD,List.getElem?_set,if_pos rfl,jM,if_pos hi]
   have:(G.getD i []).count (some i)=0:=by omega
   rw[this];simp
  ·rw[if_neg e,List.getD_eq_getElem?_getD,List.getElem?_set,if_neg e,<-List.getD_eq_getElem?_getD,vY _ _ _ hj]
   by_cases ht:T.getD j false=true
   ·have:=h.2 j ht
    have:(G.getD i []).count (some j)=0:=by omega
    rw[if_pos ht,if_pos ht,this];simp
   ·rw[if_neg ht,if_neg ht];omega
theorem rP (G:List (List (Option Nat))) (T:List Bool) (j:Nat) (hj:j<G.length):(As G T).getD j 0=0↔mC G T j=true:=by
 rw[vY _ _ _ hj]
 unfold mC
 cases T.getD j false<;>simp;try omega
theorem Cm {G:List (List (Option Nat))}{T:List Bool}:∀{f i k:Nat},xF G T f i=some k->i≤k/\k<i+f/\mC G T k=true/\∀j,i≤j->j<k->mC G T j=false:=by
 intro f
 induction f with
 | zero=>intro i k h;simp[xF] at h
 | succ f ih=>
  intro i k h
  rw[xF] at h
  split at h
  ·rename_i hf
   injection h with h
   subst h
   exact ⟨Nat.le_refl _,by omega,hf,fun j h1 h2=>absurd h2 (by omega)⟩
  ·rename_i hf
   obtain ⟨h1,h2,h3,h4⟩:=ih h
   refine ⟨by omega,by omega,h3,fun j hj1 hj2=>?_⟩
   by_cases e:j=i
   ·subst e;simpa using hf
   ·exact h4 j (by omega) hj2
theorem Cn {G:List (List (Option Nat))}{T:List Bool}:∀{f i:Nat},xF G T f i=none->∀j,i≤j->j<i+f->mC G T j=false:=by
 intro f
 induction f with
 | zero=>intro i _ j h1 h2;exact absurd h2 (by omega)
 | succ f ih=>
  intro i h j h1 h2
  rw[xF] at h
  split at h
  ·exact absurd h (by simp)
  ·rename_i hf
   by_cases e:j=i
   ·subst e;simpa using hf
   ·exact ih h j (by omega) (by omega)
theorem nI {G:List (List (Option Nat))}{T:List Bool}{k:Nat}(h:uT G T=some k):k<G.length/\mC G T k=true/\∀j,j<k->mC G T j=false:=by
 obtain ⟨_,h2,h3,h4⟩:=Cm h
 exact ⟨by omega,h3,fun j hj=>h4 j (Nat.zero_le _) hj⟩
theorem Cl {G:List (List (Option Nat))}{T:List Bool}(h:uT G T=none):∀j,j<G.length->mC G T j=false:=fun j hj=>Cn h j (Nat.zero_le _) (by omega)
theorem tM {G:List (List (Option Nat))}:∀{r:Nat}{o:List Nat}{T:List Bool},oY G r=some (o,T)->Sk G T/\o.length=r/\(∀j∈o,j<G.length):=by
 intro r
 induction r with
 | zero=>intro o T h;rw[oY] at h;injection h with h;injection h with h1 h2;subst h1;subst h2;exact ⟨Ia G,rfl,by simp⟩
 | succ r ih=>
  intro o T h
  rw[oY] at h
  split at h
  ·exact absurd h (by simp)
  ·rename_i o' T' hr
   split at h
   ·exact absurd h (by simp)
   ·rename_i j hj
    injection h with h
    injection h with h1 h2
    subst h1;subst h2
    obtain ⟨s1,s2,s3⟩:=ih hr
    obtain ⟨n1,n2,_⟩:=nI hj
    refine ⟨Mr s1 n1 n2,by simp[s2],fun k hk=>?_⟩
    rcases List.mem_append.1 hk with hk|hk
    ·exact s3 k hk
    ·rw[List.mem_singleton.1 hk];exact n1
theorem It {G:List (List (Option Nat))}{r s:Nat}(h:oY G r=none) (hs:r≤s):oY G s=none:=by
 induction s with
 | zero=>obtain rfl:r=0:=by omega
         exact h
 | succ s ih=>
  by_cases e:r=s+1
  ·subst e;exact h
  ·rw[oY,ih (by omega)]
theorem Wg (G:List (List (Option Nat))) (T:List Bool) (j M:Nat) (hM:∀i,(G.getD i []).length≤M) (k:Nat):qI G T j k≤k*M:=by
 induction k with
 | zero=>simp[qI]
 | succ k ih=>
  rw[qI,Nat.succ_mul]
  have:=List.count_le_length (a:=some j) (l:=G.getD k [])
  have:=hM k
  split<;>omega
end Px
end
section
open Go.RowKit Go.Maps Go.WideMaps Px
theorem rV:Keyed Tryz.prog 9:=string_keyed Tryz.underlying9
theorem Q9 (w:World):(zeroValue 3).run Tryz.prog w=.ok (.int .i64 0) w:=by kernel_rfl
def gY (w:World) (b n:Nat) (f:bB->Option Nat):Prop:=
 ∃D:DataW Unit,w.ownsMap Tryz.prog 9 (plainElem Tryz.prog 3) b n D/\IsMap D/\∀(s:bB) (zd:DataW Unit),D.atKey (.string s) zd=match f s with
  | none=>zd
  | some i=>.lit (.int .i64 (i:Int))
theorem gY.lt {w:World}{b n:Nat}{f:bB->Option Nat}(h:gY w b n f):b<w.heap.size:=by obtain ⟨D,h,_⟩:=h;exact h.lt
theorem gY.keep {w w':World}{b n:Nat}{f:bB->Option Nat}(h:gY w b n f) (hb:w'.heap[b]?=w.heap[b]?):gY w' b n f:=by
 obtain ⟨D,⟨es,clock,h1,h2⟩,h3⟩:=h
 exact ⟨D,⟨es,clock,by rw[hb];exact h1,h2⟩,h3⟩
theorem gY.below {w w':World}{b n:Nat}{f:bB->Option Nat}(h:gY w b n f) (hb:Below w.heap.size w w'):gY w' b n f:=h.keep (hb.block b h.lt)
theorem gY.like {w:World}{b n:Nat}{f g:bB->Option Nat}(h:gY w b n f) (hfg:∀s,f s=g s):gY w b n g:=by
 have:f=g:=funext hfg
 exact this▸h
theorem Jb (w:World):gY (w.alloc (.map #[] 0)) w.heap.size 0 (fun _=>none):=
 ⟨.map [],World.ownsMap_made _ _ _ _,⟨_,rfl⟩,fun _ _=>rfl⟩
theorem Mw {s:bB}(hs:s.length≤maxLen):keyOf Tryz.prog 9 (sv s)=some (.string s):=by
 have:=keyOf_string_mk (P:=Tryz.prog) Tryz.underlying9 (s:=⟨s.toArray⟩) (by simpa [ByteArray.size] using hs)
 simpa [sv] using this
theorem gY.look {w:World}{b n:Nat}{f:bB->Option Nat}(h:gY w b n f) {s:bB}(hs:s.length≤maxLen) :
    (Instr.lookup 213 (.map (some b)) (sv s) true).run Tryz.prog w=.ok (match f s with
     | none=>.tuple #[.int .i64 0,.bool false]
     | some i=>.tuple #[.int .i64 (i:Int),.bool true]) w:=by
 obtain ⟨D,⟨es,clock,hb,F,hsz,rfl⟩,hm,hat⟩:=h
 rcases Maps.fit_look true rV Tryz.underlying213 (Q9 w) hb F (Mw hs) with ⟨hrun,_,h1⟩|⟨e0,y,_,_,hrun,hR,h1,_⟩
 ·rw[hrun]
  cases hf:f s with
  | none=>rfl
  | some i=>
   have a1:=hat s (.lit (.bool true))
   rw[hf,h1] at a1
   simp at a1
 ·rw[hrun]
  cases hf:f s with
  | none=>
   have a1:=hat s (.lit (.bool true))
   have a2:=hat s (.lit (.bool false))
   rw[hf,h1] at a1
   rw[hf,h1] at a2
   rw[a1] at a2
   simp at a2
  | some i=>
   have a1:=hat s (.lit (.bool true))
   rw[hf,h1] at a1
   obtain ⟨c,hv,hy,_⟩:=plainElem_int_inv Tryz.underlying3 hR
   rw[hy] at a1
   simp only[DataW.lit.injEq,Lit.int.injEq,true_and] at a1
   rw[hv,a1];rfl
theorem Ys {i:Nat}(h:i≤9223372036854775807):(Lit.int .i64 (i:Int)).wf=true:=by
 have e1:IntKind.i64.min=-9223372036854775808:=by decide
 have e2:IntKind.i64.max=9223372036854775807:=by decide
 simp[Lit.wf,e1,e2]
 omega
theorem gY.put {w:World}{b n:Nat}{f:bB->Option Nat}(h:gY w b n f) (hn:n<maxLen) {s:bB}(hs:s.length≤maxLen) {i:Nat}(hi:i≤9223372036854775807) :
    ∃w',(Instr.mapUpdate 213 (.map (some b)) (sv s) (.int .i64 (i:Int))).run Tryz.prog w=.ok () w'/\gY w' b (n+1) (fun t=>if s=t then some i else f t)/\w.grownBy w' (some b):=by
 obtain ⟨D,hD,hm,hat⟩:=h
 obtain ⟨w',hrun,hD',hg⟩:=hD.update rV Tryz.underlying213 hn (Mw hs) (plainElem_int Tryz.underlying3 (Ys hi))
 refine ⟨w',hrun,⟨_,hD',hm.put _ _,fun t zd=>?_⟩,hg⟩
 by_cases e:s=t
 ·subst e
  rw[atKey_put_same hm (k:=.string s) (by simp[WideAt.IsKeyLit])]
  simp
 ·rw[atKey_put_other (by intro hh;injection hh with hh;exact e hh.symm),hat t zd]
  simp[e]
end
section
open Go.RowKit Px
def Xs (w:World) (f:Value) (ns:List bB):Prop:=
 ∃pb mb n,f=.func (.func 143) #[] #[.pointer (some ⟨pb,0,none⟩)]/\w.heap[pb]?=some (.cells #[.map (some mb)] 213 (0,0))/\gY w mb n (jK ns)
theorem mQ {pb mb n:Nat}{ns:List bB}{s:bB}{w:World}(hp:w.heap[pb]?=some (.cells #[.map (some mb)] 213 (0,0))) (hm:gY w mb n (jK ns)) (hs:s.length≤maxLen) :
    Calls Tryz.prog 143 #[sv s,.pointer (some ⟨pb,0,none⟩)] w fun e w'=>e=.returned (.int .i64 (eB ns s))/\w'=w:=by
 have hc:=aA hp 0 (u:=.map (some mb)) rfl
 have hl:=hm.look hs
 generalize sv s=S at hl ⊢
 cases hf:jK ns s with
 | none=>
  rw[hf] at hl
  have e:eB ns s=-1:=by unfold eB;rw[hf]
  rw[e]
  clear e hf hm hp
  go_enter Tryz.func143,Tryz.ntmps143
  go_wp2_with fail
  go_ret
  exact ⟨rfl,rfl⟩
 | some i=>
  rw[hf] at hl
  have e:eB ns s=(i:Int):=by unfold eB;rw[hf]
  rw[e]
  clear e hf hm hp
  go_enter Tryz.func143,Tryz.ntmps143
  go_wp2_with fail
  go_ret
  exact ⟨rfl,rfl⟩
theorem Og {cb i g n cap:Nat}{ad:Option Addr}{s:bB}{w:World}(h1:w.cell? ⟨cb,1,none⟩=some (.slice ad n cap)) (hi:i<n) (ha:0<n->ad=some ⟨g,0,none⟩) (hc:w.cell? ⟨g,i*3+1,none⟩=some (sv s)) :
    Calls Tryz.prog 92 #[.int .i64 (i:Int),.pointer (some ⟨cb,0,none⟩)] w fun e w'=>e=.returned (sv s)/\w'=w:=by
 have hix:=ixV ad g n cap i hi ha
 generalize sv s=S at hc ⊢
 go_enter Tryz.func92,Tryz.ntmps92
 go_wp2_with fail
 go_ret
 exact ⟨rfl,rfl⟩
theorem Co {cb i g n cap:Nat}{ad:Option Addr}{s:bB}{w:World}(h1:w.cell? ⟨cb,0,none⟩=some (.slice ad n cap)) (hi:i<n) (ha:0<n->ad=some ⟨g,0,none⟩) (hc:w.cell? ⟨g,i*9,none⟩=some (sv s)) :
    Calls Tryz.prog 225 #[.int .i64 (i:Int),.pointer (some ⟨cb,0,none⟩)] w fun e w'=>e=.returned (sv s)/\w'=w:=by
 have hix:=Ve ad g n cap i hi ha
 generalize sv s=S at hc ⊢
 go_enter Tryz.func225,Tryz.ntmps225
 go_wp2_with fail
 go_ret
 exact ⟨rfl,rfl⟩
theorem aD6 (M:Int) (w:World):(Instr.makeMap 213 (some (.int .i64 M))).run Tryz.prog w=.ok (.map (some w.heap.size)) (w.alloc (.map #[] 0)):=by kernel_rfl
theorem xU (K:Nat) (hK:K=92\/K=225) (q:Nat) (ns:List bB) (M:Nat) (hM:Hid (M=ns.length)) (hmx:M≤1000000) (hln:Hid (∀i,i<M->(ns.getD i []).length≤maxLen)) (w:World)
    (hname:Hid (∀X i,Below w.heap.size w X->i<M->Calls Tryz.prog K #[.int .i64 (i:Int),.pointer (some ⟨q,0,none⟩)] X fun e w'=>e=.returned (sv (ns.getD i []))/\w'=X)) :
    Calls Tryz.prog 91 #[.int .i64 (M:Int),.func (.func K) #[] #[.pointer (some ⟨q,0,none⟩)]] w fun e w'=>∃f,e=.returned f/\Xs w' f ns/\Below w.heap.size w w':=by
 have hmf:∀(fn:Fn) (first cap:Array Value) (w:World),(Instr.makeFunc fn first cap).run Tryz.prog w=.ok (.func fn first cap) w:=fun _ _ _ _=>rfl
 have hmk:=aD6 (M:Int)
 rcases hK with rfl|rfl
 all_goals
  go_enter Tryz.func91,Tryz.ntmps91
  go_wp2_with fail
  go_loopg [6] M (fun f i wr=>∃k:Nat,f=k/\k≤M/\i=.int .i64 ((k:Int)-1)/\Hid (gY wr w.heap.size (M-k) (yT ns k)/\wr.heap[w.heap.size+1]?=some (.cells #[.map (some w.heap.size)] 213 (0,0))/\Below w.heap.size w wr))
  case atStart=>
   refine ⟨M,rfl,Nat.le_refl _,rfl,?_,?_,?_⟩
   ·rw[Nat.sub_self]
    exact ((Jb w).keep (Below.heap_alloc _ _ _ (by simp))).like fun s=>by rw[hM.out,Qi]
   ·have e:w.heap.size+1=(w.alloc (.map #[] 0)).heap.size:=by simp
    rw[e];exact heap_alloc_new _ _
   ·exact ((Below.refl _ _).alloc (Nat.le_refl _) _).alloc (by simp) _
  case round=>
   obtain ⟨k,rfl,hk,rfl,hr⟩:=hrel
   cases gk with
   | zero=>
    go_wp2_with fail
    go_ret
    refine ⟨_,rfl,⟨w.heap.size+1,w.heap.size,M,rfl,hr.out.2.1,?_⟩,hr.out.2.2⟩
    exact hr.out.1.like (Qj ns)
   | succ j=>
    have ej:((j+1:Nat):Int)-1=(j:Int):=by omega
    rw[ej]
    have hc:wr.drew.cell? ⟨w.heap.size+1,0,none⟩=some (.map (some w.heap.size)):=aA hr.out.2.1 0 rfl
    have hcall:=hname.out wr.drew j hr.out.2.2.drew (by omega)
    have hsl:=hln.out j (by omega)
    have HM:Hid (gY wr.drew w.heap.size (M-(j+1)) (yT ns (j+1))):=hr.out.1
    obtain ⟨w2,hrun,hM2,hg⟩:=HM.out.put (by unfold maxLen;omega) hsl (i:=j) (by omega)
    have H2:Hid (gY w2 w.heap.size (M-j) (yT ns j)/\w2.heap[w.heap.size+1]?=some (.cells #[.map (some w.heap.size)] 213 (0,0))/\Below w.heap.size w w2):=by
     refine ⟨?_,?_,?_⟩
     ·rw[show M-j=M-(j+1)+1 by omega]
      exact hM2.like fun s=>(Ke ns j (by rw[<-hM.out];omega) s).symm
     ·rw[hg.block _ (aB hr.out.2.1) (by simp)];exact hr.out.2.1
     ·exact hr.out.2.2.drew.grown hg hr.out.2.2.size (fun b hb=>by cases hb;exact Nat.le_refl _)
    clear hM2 hg hsl ej
    generalize sv (ns.getD j [])=S at hcall hrun
    go_wp2_with fail
    go_region_with (refine hcall.mono ?_;rintro e w' ⟨rfl,rfl⟩)
    all_goals
     go_wp2_with fail
     go_roundg j
     case measure=>omega
     case rel=>exact ⟨j,rfl,by omega,by go_num,H2.out⟩
end
section
namespace Px
def Xa (ns:List bB):Prop:=∀i,i<ns.length->¬eB ns (ns.getD i [])<i
section
variable {ρ:Type}
theorem nC (l:List (cC ρ)):(bA l).length=l.length:=by simp[bA]
theorem fF (l:List (cC ρ)):(cL l).length=l.length:=by simp[cL]
theorem zI (l:List (cC ρ)) (i:Nat) (s:cC ρ) (h:l[i]?=some s):(bA l).getD i []=s.name:=by
 rw[bA,List.getD_eq_getElem?_getD,List.getElem?_map,h];rfl
theorem Pz (l:List (cC ρ)) (i:Nat) (s:cC ρ) (h:l[i]?=some s):(cL l).getD i []=oG (bA l) s.ways:=by
 rw[cL,List.getD_eq_getElem?_getD,List.getElem?_map,h];rfl
theorem wC (ns:List bB) (ys:List Wy):(oG ns ys).length=ys.length:=by simp[oG]
theorem Tn (ns:List bB) (ys:List Wy) (m:Nat) (y:Wy) (h:ys[m]?=some y):(oG ns ys).getD m none=if y.now then jK ns y.to else none:=by
 rw[oG,List.getD_eq_getElem?_getD,List.getElem?_map,h];rfl
theorem D1 {vs:List bJ}{R:List ρ->Nat->B6}{ns:List bB}:∀{l:List (cC ρ)}{i n m:Nat},fV vs R ns l i n=.ok m->∀j,j<l.length->∀s,l[j]?=some s->¬eB ns s.name<((i+j:Nat):Int):=by
 intro l
 induction l with
 | nil=>intro i n m _ j hj;simp at hj
 | cons a r ih=>
  intro i n m h j hj s hs
  rw[fV] at h
  split at h
  ·exact absurd h (by simp)
  ·rename_i hz
   split at h
   ·exact absurd h (by simp)
   ·cases j with
    | zero=>
     obtain rfl:a=s:=by simpa using hs
     intro hlt
     apply hz
     unfold iY
     rw[if_pos (by simpa using hlt)]
     simp
    | succ j=>
     have:=ih h j (by simpa using hj) s (by simpa using hs)
     rw[show i+(j+1)=i+1+j by omega];exact this
theorem Ii {vs:List bJ}{R:List ρ->Nat->B6}{l:List (cC ρ)}{n m:Nat}(h:fV vs R (bA l) l 0 n=.ok m):Xa (bA l):=by
 intro i hi
 rw[nC] at hi
 have:=D1 h i hi _ (List.getElem?_eq_getElem hi)
 rw[zI l i _ (List.getElem?_eq_getElem hi)]
 simpa using this
end
end Px
end
end Go.Proofs.YtcdbhoknhnimcaaGreatDoor
