import Derived.Test.YtcdbhoknhnimcaaGreatDoorSCr
import Derived.Test.YtcdbhoknhnimcaaGreatDoorProg
import Derived.Maps.Own
import Derived.Maps.OwnOps
import Derived.Maps.Views
import Derived.Deep.LoopGhost
import Derived.Deep.RegionHeld3
import Derived.Deep.DeepCutAuto
set_option maxRecDepth 100000
set_option maxHeartbeats 2000000
namespace Go.Proofs.YtcdbhoknhnimcaaGreatDoor
section
namespace Px
def iT:List bA->bA->Option Nat
 | [],_=>none
 | a::r,s=>if a=s then some 0 else (iT r s).map (·+1)
def dV (l:List bA) (s:bA):Int:=match iT l s with|some i=>(i:Int)|none=>-1
def xU (l:List bA) (k:Nat) (s:bA):Option Nat:=(iT (l.drop k) s).map (·+k)
theorem bK1 (l:List bA) (s:bA):xU l 0 s=iT l s:=by unfold xU;cases h:iT l s<;>simp[h]
theorem bK0 (l:List bA) (s:bA):xU l l.length s=none:=by unfold xU;rw[List.drop_length];rfl
theorem aV8 (l:List bA) (k:Nat) (hk:k<l.length) (s:bA):xU l k s=if l.getD k []=s then some k else xU l (k+1) s:=by
 unfold xU
 have e:l.drop k=l.getD k []::l.drop (k+1):=by
  rw[List.drop_eq_getElem_cons hk,List.getD_eq_getElem?_getD,List.getElem?_eq_getElem hk];rfl
 rw[e,iT]
 split
 ·simp
 ·cases h:iT (l.drop (k+1)) s with
  | none=>simp
  | some i=>simp;omega
theorem rQ {l:List bA}{s:bA}{i:Nat}(h:iT l s=some i):i<l.length/\l.getD i []=s/\∀j,j<i->l.getD j []≠s:=by
 induction l generalizing i with
 | nil=>simp[iT] at h
 | cons a r ih=>
  rw[iT] at h
  split at h
  ·rename_i he
   injection h with h
   subst h
   exact ⟨by simp,by simpa using he,fun j hj=>absurd hj (by omega)⟩
  ·rename_i he
   cases hr:iT r s with
   | none=>rw[hr] at h;simp at h
   | some k=>
    rw[hr] at h
    simp at h
    subst h
    obtain ⟨h1,h2,h3⟩:=ih hr
    refine ⟨by simp;omega,by simpa using h2,fun j hj=>?_⟩
    cases j with
    | zero=>simpa using he
    | succ j=>simpa using h3 j (by omega)
def cU (ns:List bA):E->Bool
 | .nil=>false
 | .node _ _ a l r=>if a.code=1 then false else if a.code=2\/a.code=3 then (iT ns a.name).isNone else if a.code=4\/a.code=5 then cU ns l else cU ns l||cU ns r
def bO (vs:List bH):List bA:=vs.map (·.name)
def cM0:bH:=⟨0,[],0⟩
def bA5 (vs:List bH) (s:bA):Nat:=(vs.getD (dV (bO vs) s).toNat cM0).kind
def mJ (vs:List bH) (a:gX):Nat:=if (iT (bO vs) a.name).isNone||cU (bO vs) a.e then 5 else if bA5 vs a.name=1 then 1 else 0
def bZ (vs:List bH):List gX->Nat
 | []=>0
 | a::r=>if mJ vs a≠0 then mJ vs a else bZ vs r
def mE (vs:List bH) (ns:List bA) (inside:Bool) (y:Wy):Nat:=
 if (iT ns y.to).isNone then 7 else if (decide (y.kind=2) && !inside)||(y.now&&decide (1<y.times)) then 6 else if cU (bO vs) y.cond then 5 else bZ vs y.sets
def jR (vs:List bH) (ns:List bA) (inside:Bool):List Wy->Nat
 | []=>0
 | y::r=>if mE vs ns inside y≠0 then mE vs ns inside y else jR vs ns inside r
section
variable {ρ:Type}
def xI (vs:List bH) (ns:List bA) (s:bM ρ):Nat:=
 if s.last&&(decide (0<s.ways.length)||decide (0<s.regions.length)) then 6
 else if bZ vs s.enter≠0 then bZ vs s.enter
 else if bZ vs s.during≠0 then bZ vs s.during
 else if bZ vs s.leave≠0 then bZ vs s.leave
 else if cU (bO vs) s.rests then 5
 else jR vs ns (decide (0<s.regions.length)) s.ways
def iD (vs:List bH) (ns:List bA) (i:Nat) (s:bM ρ):Nat:=
 if dV ns s.name<i then 9 else xI vs ns s
def aZ (l:List (bM ρ)):List bA:=l.map (·.name)
def nE (ns:List bA) (ys:List Wy):List (Option Nat):=ys.map fun y=>if y.now then iT ns y.to else none
def bU (l:List (bM ρ)):List (List (Option Nat)):=l.map fun s=>nE (aZ l) s.ways
end
def pI (G:List (List (Option Nat))) (T:List Bool) (j:Nat):Nat->Nat
 | 0=>0
 | i+1=>pI G T j i+(if T.getD i false then 0 else (G.getD i []).count (some j))
def Bq (G:List (List (Option Nat))) (T:List Bool) (j:Nat):Nat:=pI G T j G.length
def lF (G:List (List (Option Nat))) (T:List Bool) (j:Nat):Bool:=!T.getD j false&&decide (Bq G T j=0)
def wF (G:List (List (Option Nat))) (T:List Bool):Nat->Nat->Option Nat
 | 0,_=>none
 | f+1,i=>if lF G T i then some i else wF G T f (i+1)
def bL2 (G:List (List (Option Nat))) (T:List Bool):Option Nat:=wF G T G.length 0
def nU (G:List (List (Option Nat))):Nat->Option (List Nat×List Bool)
 | 0=>some ([],List.replicate G.length false)
 | r+1=>match nU G r with
  | none=>none
  | some (o,T)=>match bL2 G T with
   | none=>none
   | some j=>some (o++[j],T.set j true)
def eD (G:List (List (Option Nat))):Option (List Nat):=(nU G G.length).map (·.1)
section
variable {ρ:Type}
def gY (l:List (bM ρ)):Nat:=(l.filter (·.first)).length
def cZ (l:List (bM ρ)):Nat:=
 if gY l=0 then 8 else if 1<gY l then 12 else if (eD (bU l)).isNone then 11 else 0
abbrev zM:=Except (Nat×Nat) Nat
def fZ (R:List ρ->Nat->zM):List (List ρ)->Nat->zM
 | [],n=>.ok n
 | r::rs,n=>match R r n with
  | .error x=>.error x
  | .ok m=>fZ R rs m
def fR (vs:List bH) (R:List ρ->Nat->zM) (ns:List bA):List (bM ρ)->Nat->Nat->zM
 | [],_,n=>.ok n
 | s::r,i,n=>if iD vs ns i s≠0 then .error (iD vs ns i s,n) else match fZ R s.regions (n+1) with
  | .error x=>.error x
  | .ok m=>fR vs R ns r (i+1) m
def nG (vs:List bH) (R:List ρ->Nat->zM) (l:List (bM ρ)) (n:Nat):zM:=
 match fR vs R (aZ l) l 0 n with
 | .error x=>.error x
 | .ok m=>if cZ l≠0 then .error (cZ l,n) else .ok m
end
def lS (vs:List bH):(k:Nat)->List (St k)->Nat->zM
 | 0=>fun _ n=>.error (8,n)
 | k+1=>fun l n=>nG vs (lS vs k) l n
def mF (ns:List bA):Nat->Nat->Option Nat
 | 0,_=>none
 | f+1,i=>if dV ns (ns.getD i [])<i then some i else mF ns f (i+1)
def fV (c:fQ):Option (Nat×Option Nat):=
 match mF (bO c.vars) c.vars.length 0 with
 | some i=>some (9,some i)
 | none=>if c.regions=[] then some (8,none) else match fZ (lS c.vars 6) c.regions 0 with
  | .error (e,p)=>some (e,some p)
  | .ok _=>none
def Ah (G:List (List (Option Nat))) (T:List Bool):List Int:=(List.range G.length).map fun j=>if T.getD j false then -1 else (Bq G T j:Int)
def iF (n:Nat) (by':Int) (ts:List (Option Nat)):Nat->List Int->List Int
 | 0,W=>W
 | m+1,W=>match ts.getD m none with
  | none=>iF n by' ts m W
  | some t=>(iF n by' ts m W).set t ((iF n by' ts m W).getD t 0+by')
theorem kW (n:Nat) (by':Int) (ts:List (Option Nat)) (m:Nat) (W:List Int):(iF n by' ts m W).length=W.length:=by
 induction m with
 | zero=>rfl
 | succ m ih=>rw[iF];split<;>simp[ih]
theorem aC9 (ts:List (Option Nat)) (m:Nat) (hm:m<ts.length) (j:Nat):(ts.take (m+1)).count (some j)=(ts.take m).count (some j)+if ts.getD m none=some j then 1 else 0:=by
 rw[List.take_succ_eq_append_getElem hm,List.count_append,List.getD_eq_getElem?_getD,List.getElem?_eq_getElem hm]
 simp only[List.count_cons,List.count_nil,Nat.zero_add,Option.getD_some,beq_iff_eq]
theorem G6 (n:Nat) (by':Int) (ts:List (Option Nat)) (W:List Int) (m:Nat) (hm:m≤ts.length) (j:Nat) (hj:j<W.length):(iF n by' ts m W).getD j 0=W.getD j 0+by'*((ts.take m).count (some j):Nat):=by
 induction m with
 | zero=>simp[iF]
 | succ m ih=>
  rw[iF,aC9 ts m (by omega)]
  have ih:=ih (by omega)
  cases ht:ts.getD m none with
  | none=>
   simp only[reduceCtorEq,if_false,Nat.add_zero]
   exact ih
  | some t=>
   simp only[Option.some.injEq]
   have hl:=kW n by' ts m W
   by_cases e:t=j
   ·subst e
    rw[List.getD_eq_getElem?_getD,List.getElem?_set,hl,if_pos rfl,if_pos hj,if_pos rfl,ih]
    simp[Int.mul_add,Int.add_assoc]
   ·rw[List.getD_eq_getElem?_getD,List.getElem?_set,if_neg e,if_neg e,<-List.getD_eq_getElem?_getD,ih,Nat.add_zero]
theorem iV (G:List (List (Option Nat))) (T:List Bool):(Ah G T).length=G.length:=by simp[Ah]
theorem uZ (G:List (List (Option Nat))) (T:List Bool) (j:Nat) (hj:j<G.length):(Ah G T).getD j 0=if T.getD j false then -1 else (Bq G T j:Int):=by
 rw[Ah,List.getD_eq_getElem?_getD,List.getElem?_map,List.getElem?_range hj];rfl
theorem pQ {α:Type}{d:α}{l m:List α}(hl:l.length=m.length) (h:∀j,j<l.length->l.getD j d=m.getD j d):l=m:=by
 apply List.ext_getElem hl
 intro j h1 h2
 have:=h j h1
 rwa [List.getD_eq_getElem?_getD,List.getD_eq_getElem?_getD,List.getElem?_eq_getElem h1,List.getElem?_eq_getElem h2] at this
def iW (G:List (List (Option Nat))):Nat->List Int
 | 0=>List.replicate G.length 0
 | k+1=>iF G.length 1 (G.getD k []) (G.getD k []).length (iW G k)
theorem kP (G:List (List (Option Nat))) (k:Nat):(iW G k).length=G.length:=by
 induction k with
 | zero=>simp[iW]
 | succ k ih=>rw[iW,kW,ih]
theorem pA (n j:Nat):(List.replicate n false).getD j false=false:=by
 rw[List.getD_eq_getElem?_getD,List.getElem?_replicate];split<;>rfl
theorem yF (G:List (List (Option Nat))) (k:Nat) (j:Nat) (hj:j<G.length):(iW G k).getD j 0=(pI G (List.replicate G.length false) j k:Int):=by
 induction k with
 | zero=>rw[iW,pI,List.getD_eq_getElem?_getD,List.getElem?_replicate,if_pos hj];rfl
 | succ k ih=>
  rw[iW,pI,G6 _ _ _ _ _ (Nat.le_refl _) j (by rw[kP];exact hj),ih,pA,List.take_length]
  simp
theorem aC2 (G:List (List (Option Nat))):iW G G.length=Ah G (List.replicate G.length false):=by
 apply pQ (d:=0)
 ·rw[kP,iV]
 ·intro j hj
  rw[kP] at hj
  rw[yF _ _ _ hj,uZ _ _ _ hj,pA];rfl
theorem rB (T:List Bool) (i j:Nat) (hi:i<T.length):(T.set i true).getD j false=if i=j then true else T.getD j false:=by
 rw[List.getD_eq_getElem?_getD,List.getElem?_set]
 by_cases e:i=j
 ·subst e;simp[hi]
 ·rw[if_neg e,if_neg e,List.getD_eq_getElem?_getD]
theorem bL9 (G:List (List (Option Nat))) (T:List Bool) (i j:Nat) (hi:i<T.length) (hT:T.getD i false=false) (k:Nat):pI G T j k=pI G (T.set i true) j k+if i<k then (G.getD i []).count (some j) else 0:=by
 induction k with
 | zero=>simp[pI]
 | succ k ih=>
  rw[pI,pI,ih,rB T i k hi]
  by_cases e:i=k
  ·subst e
   rw[if_neg (by omega),if_pos rfl,hT];simp
  ·rw[if_neg e]
   generalize (G.getD i []).count (some j)=c
   have e1:(if i<k+1 then c else 0)=if i<k then c else 0:=by
    by_cases h:i<k
    ·rw[if_pos h,if_pos (by omega)]
    ·rw[if_neg h,if_neg (by omega)]
   rw[e1];omega
theorem aN3 (G:List (List (Option Nat))) (T:List Bool) (i j:Nat) (hi:i<T.length) (hG:i<G.length) (hT:T.getD i false=false):Bq G T j=Bq G (T.set i true) j+(G.getD i []).count (some j):=by
 rw[Bq,Bq,bL9 G T i j hi hT,if_pos hG]
def Shut (G:List (List (Option Nat))) (T:List Bool):Prop:=T.length=G.length/\∀j,T.getD j false=true->Bq G T j=0
theorem aR1 (G:List (List (Option Nat))):Shut G (List.replicate G.length false):=⟨by simp,fun j h=>by rw[pA] at h;simp at h⟩
theorem bC0 {G:List (List (Option Nat))}{T:List Bool}{i:Nat}(h:Shut G T) (hi:i<G.length) (hf:lF G T i=true):Shut G (T.set i true):=by
 unfold lF at hf
 simp only[Bool.and_eq_true,Bool.not_eq_true',decide_eq_true_eq] at hf
 refine ⟨by rw[List.length_set];exact h.1,fun j hj=>?_⟩
 rw[rB T i j (by rw[h.1];exact hi)] at hj
 have:=aN3 G T i j (by rw[h.1];exact hi) hi hf.1
 by_cases e:i=j
 ·subst e;omega
 ·rw[if_neg e] at hj
  have:=h.2 j hj;omega
theorem bP4 {G:List (List (Option Nat))}{T:List Bool}{i:Nat}(h:Shut G T) (hi:i<G.length) (hf:lF G T i=true):iF G.length (-1) (G.getD i []) (G.getD i []).length ((Ah G T).set i (-1))=Ah G (T.set i true):=by
 have hf':=hf
 unfold lF at hf
 simp only[Bool.and_eq_true,Bool.not_eq_true',decide_eq_true_eq] at hf
 apply pQ (d:=0)
 ·rw[kW,List.length_set,iV,iV]
 ·intro j hj
  rw[kW,List.length_set,iV] at hj
  have hc:=aN3 G T i j (by rw[h.1];exact hi) hi hf.1
  rw[G6 _ _ _ _ _ (Nat.le_refl _) j (by rw[List.length_set,iV];exact hj),List.take_length,uZ _ _ _ hj,rB T i j (by rw[h.1];exact hi)]
  by_cases e:i=j
  ·subst e
   rw[if_pos rfl,List.getD_eq_getElem?_getD,List.getElem?_set,if_pos rfl,iV,if_pos hi]
   have:(G.getD i []).count (some i)=0:=by omega
   rw[this];simp
  ·rw[if_neg e,List.getD_eq_getElem?_getD,List.getElem?_set,if_neg e,<-List.getD_eq_getElem?_getD,uZ _ _ _ hj]
   by_cases ht:T.getD j false=true
   ·have:=h.2 j ht
    have:(G.getD i []).count (some j)=0:=by omega
    rw[if_pos ht,if_pos ht,this];simp
   ·rw[if_neg ht,if_neg ht];omega
theorem qP (G:List (List (Option Nat))) (T:List Bool) (j:Nat) (hj:j<G.length):(Ah G T).getD j 0=0↔lF G T j=true:=by
 rw[uZ _ _ _ hj]
 unfold lF
 cases T.getD j false<;>simp;try omega
theorem aF8 {G:List (List (Option Nat))}{T:List Bool}:∀{f i k:Nat},wF G T f i=some k->i≤k/\k<i+f/\lF G T k=true/\∀j,i≤j->j<k->lF G T j=false:=by
 intro f
 induction f with
 | zero=>intro i k h;simp[wF] at h
 | succ f ih=>
  intro i k h
  rw[wF] at h
  split at h
  ·rename_i hf
   injection h with h
   subst h
   exact ⟨Nat.le_refl _,by omega,hf,fun j h1 h2=>absurd h2 (by omega)⟩
  ·rename_i hf
   obtain ⟨h1,h2,h3,h4⟩:=ih h
   refine ⟨by omega,by omega,h3,fun j hj1 hj2=>?_⟩
   by_cases e:j=i
   ·subst e;simpa using hf
   ·exact h4 j (by omega) hj2
theorem aF9 {G:List (List (Option Nat))}{T:List Bool}:∀{f i:Nat},wF G T f i=none->∀j,i≤j->j<i+f->lF G T j=false:=by
 intro f
 induction f with
 | zero=>intro i _ j h1 h2;exact absurd h2 (by omega)
 | succ f ih=>
  intro i h j h1 h2
  rw[wF] at h
  split at h
  ·exact absurd h (by simp)
  ·rename_i hf
   by_cases e:j=i
   ·subst e;simpa using hf
   ·exact ih h j (by omega) (by omega)
theorem mN {G:List (List (Option Nat))}{T:List Bool}{k:Nat}(h:bL2 G T=some k):k<G.length/\lF G T k=true/\∀j,j<k->lF G T j=false:=by
 obtain ⟨_,h2,h3,h4⟩:=aF8 h
 exact ⟨by omega,h3,fun j hj=>h4 j (Nat.zero_le _) hj⟩
theorem aF7 {G:List (List (Option Nat))}{T:List Bool}(h:bL2 G T=none):∀j,j<G.length->lF G T j=false:=fun j hj=>aF9 h j (Nat.zero_le _) (by omega)
theorem sR {G:List (List (Option Nat))}:∀{r:Nat}{o:List Nat}{T:List Bool},nU G r=some (o,T)->Shut G T/\o.length=r/\(∀j∈o,j<G.length):=by
 intro r
 induction r with
 | zero=>intro o T h;rw[nU] at h;injection h with h;injection h with h1 h2;subst h1;subst h2;exact ⟨aR1 G,rfl,by simp⟩
 | succ r ih=>
  intro o T h
  rw[nU] at h
  split at h
  ·exact absurd h (by simp)
  ·rename_i o' T' hr
   split at h
   ·exact absurd h (by simp)
   ·rename_i j hj
    injection h with h
    injection h with h1 h2
    subst h1;subst h2
    obtain ⟨s1,s2,s3⟩:=ih hr
    obtain ⟨n1,n2,_⟩:=mN hj
    refine ⟨bC0 s1 n1 n2,by simp[s2],fun k hk=>?_⟩
    rcases List.mem_append.1 hk with hk|hk
    ·exact s3 k hk
    ·rw[List.mem_singleton.1 hk];exact n1
theorem aS9 {G:List (List (Option Nat))}{r s:Nat}(h:nU G r=none) (hs:r≤s):nU G s=none:=by
 induction s with
 | zero=>obtain rfl:r=0:=by omega
         exact h
 | succ s ih=>
  by_cases e:r=s+1
  ·subst e;exact h
  ·rw[nU,ih (by omega)]
theorem bW1 (G:List (List (Option Nat))) (T:List Bool) (j M:Nat) (hM:∀i,(G.getD i []).length≤M) (k:Nat):pI G T j k≤k*M:=by
 induction k with
 | zero=>simp[pI]
 | succ k ih=>
  rw[pI,Nat.succ_mul]
  have:=List.count_le_length (a:=some j) (l:=G.getD k [])
  have:=hM k
  split<;>omega
end Px
end
section
open Go.RowKit Go.Maps Go.WideMaps Px
theorem qZ:Keyed Tryz.prog 9:=string_keyed Tryz.underlying9
theorem Q3 (w:World):(zeroValue 3).run Tryz.prog w=.ok (.int .i64 0) w:=by kernel_rfl
def gG (w:World) (b n:Nat) (f:bA->Option Nat):Prop:=
 ∃D:DataW Unit,w.ownsMap Tryz.prog 9 (plainElem Tryz.prog 3) b n D/\IsMap D/\∀(s:bA) (zd:DataW Unit),D.atKey (.string s) zd=match f s with
  | none=>zd
  | some i=>.lit (.int .i64 (i:Int))
theorem gG.lt {w:World}{b n:Nat}{f:bA->Option Nat}(h:gG w b n f):b<w.heap.size:=by obtain ⟨D,h,_⟩:=h;exact h.lt
theorem gG.keep {w w':World}{b n:Nat}{f:bA->Option Nat}(h:gG w b n f) (hb:w'.heap[b]?=w.heap[b]?):gG w' b n f:=by
 obtain ⟨D,⟨es,clock,h1,h2⟩,h3⟩:=h
 exact ⟨D,⟨es,clock,by rw[hb];exact h1,h2⟩,h3⟩
theorem gG.below {w w':World}{b n:Nat}{f:bA->Option Nat}(h:gG w b n f) (hb:Below w.heap.size w w'):gG w' b n f:=h.keep (hb.block b h.lt)
theorem gG.like {w:World}{b n:Nat}{f g:bA->Option Nat}(h:gG w b n f) (hfg:∀s,f s=g s):gG w b n g:=by
 have:f=g:=funext hfg
 exact this▸h
theorem aT6 (w:World):gG (w.alloc (.map #[] 0)) w.heap.size 0 (fun _=>none):=
 ⟨.map [],World.ownsMap_made _ _ _ _,⟨_,rfl⟩,fun _ _=>rfl⟩
theorem bC4 {s:bA}(hs:s.length≤maxLen):keyOf Tryz.prog 9 (sv s)=some (.string s):=by
 have:=keyOf_string_mk (P:=Tryz.prog) Tryz.underlying9 (s:=⟨s.toArray⟩) (by simpa [ByteArray.size] using hs)
 simpa [sv] using this
theorem gG.look {w:World}{b n:Nat}{f:bA->Option Nat}(h:gG w b n f) {s:bA}(hs:s.length≤maxLen) :
    (Instr.lookup 213 (.map (some b)) (sv s) true).run Tryz.prog w=.ok (match f s with
     | none=>.tuple #[.int .i64 0,.bool false]
     | some i=>.tuple #[.int .i64 (i:Int),.bool true]) w:=by
 obtain ⟨D,⟨es,clock,hb,F,hsz,rfl⟩,hm,hat⟩:=h
 rcases Maps.fit_look true qZ Tryz.underlying213 (Q3 w) hb F (bC4 hs) with ⟨hrun,_,h1⟩|⟨e0,y,_,_,hrun,hR,h1,_⟩
 ·rw[hrun]
  cases hf:f s with
  | none=>rfl
  | some i=>
   have a1:=hat s (.lit (.bool true))
   rw[hf,h1] at a1
   simp at a1
 ·rw[hrun]
  cases hf:f s with
  | none=>
   have a1:=hat s (.lit (.bool true))
   have a2:=hat s (.lit (.bool false))
   rw[hf,h1] at a1
   rw[hf,h1] at a2
   rw[a1] at a2
   simp at a2
  | some i=>
   have a1:=hat s (.lit (.bool true))
   rw[hf,h1] at a1
   obtain ⟨c,hv,hy,_⟩:=plainElem_int_inv Tryz.underlying3 hR
   rw[hy] at a1
   simp only[DataW.lit.injEq,Lit.int.injEq,true_and] at a1
   rw[hv,a1];rfl
theorem cD3 {i:Nat}(h:i≤9223372036854775807):(Lit.int .i64 (i:Int)).wf=true:=by
 have e1:IntKind.i64.min=-9223372036854775808:=by decide
 have e2:IntKind.i64.max=9223372036854775807:=by decide
 simp[Lit.wf,e1,e2]
 omega
theorem gG.put {w:World}{b n:Nat}{f:bA->Option Nat}(h:gG w b n f) (hn:n<maxLen) {s:bA}(hs:s.length≤maxLen) {i:Nat}(hi:i≤9223372036854775807) :
    ∃w',(Instr.mapUpdate 213 (.map (some b)) (sv s) (.int .i64 (i:Int))).run Tryz.prog w=.ok () w'/\gG w' b (n+1) (fun t=>if s=t then some i else f t)/\w.grownBy w' (some b):=by
 obtain ⟨D,hD,hm,hat⟩:=h
 obtain ⟨w',hrun,hD',hg⟩:=hD.update qZ Tryz.underlying213 hn (bC4 hs) (plainElem_int Tryz.underlying3 (cD3 hi))
 refine ⟨w',hrun,⟨_,hD',hm.put _ _,fun t zd=>?_⟩,hg⟩
 by_cases e:s=t
 ·subst e
  rw[atKey_put_same hm (k:=.string s) (by simp[WideAt.IsKeyLit])]
  simp
 ·rw[atKey_put_other (by intro hh;injection hh with hh;exact e hh.symm),hat t zd]
  simp[e]
end
section
open Go.RowKit Px
def bZ8 (w:World) (f:Value) (ns:List bA):Prop:=
 ∃pb mb n,f=.func (.func 143) #[] #[.pointer (some ⟨pb,0,none⟩)]/\w.heap[pb]?=some (.cells #[.map (some mb)] 213 (0,0))/\gG w mb n (iT ns)
theorem lU {pb mb n:Nat}{ns:List bA}{s:bA}{w:World}(hp:w.heap[pb]?=some (.cells #[.map (some mb)] 213 (0,0))) (hm:gG w mb n (iT ns)) (hs:s.length≤maxLen) :
    Calls Tryz.prog 143 #[sv s,.pointer (some ⟨pb,0,none⟩)] w fun e w'=>e=.returned (.int .i64 (dV ns s))/\w'=w:=by
 have hc:=aA hp 0 (u:=.map (some mb)) rfl
 have hl:=hm.look hs
 generalize sv s=S at hl ⊢
 cases hf:iT ns s with
 | none=>
  rw[hf] at hl
  have e:dV ns s=-1:=by unfold dV;rw[hf]
  rw[e]
  clear e hf hm hp
  go_enter Tryz.func143,Tryz.ntmps143
  go_wp2_with fail
  go_ret
  exact ⟨rfl,rfl⟩
 | some i=>
  rw[hf] at hl
  have e:dV ns s=(i:Int):=by unfold dV;rw[hf]
  rw[e]
  clear e hf hm hp
  go_enter Tryz.func143,Tryz.ntmps143
  go_wp2_with fail
  go_ret
  exact ⟨rfl,rfl⟩
theorem bG1 {cb i g n cap:Nat}{ad:Option Addr}{s:bA}{w:World}(h1:w.cell? ⟨cb,1,none⟩=some (.slice ad n cap)) (hi:i<n) (ha:0<n->ad=some ⟨g,0,none⟩) (hc:w.cell? ⟨g,i*3+1,none⟩=some (sv s)) :
    Calls Tryz.prog 92 #[.int .i64 (i:Int),.pointer (some ⟨cb,0,none⟩)] w fun e w'=>e=.returned (sv s)/\w'=w:=by
 have hix:=Cm ad g n cap i hi ha
 generalize sv s=S at hc ⊢
 go_enter Tryz.func92,Tryz.ntmps92
 go_wp2_with fail
 go_ret
 exact ⟨rfl,rfl⟩
theorem aG0 {cb i g n cap:Nat}{ad:Option Addr}{s:bA}{w:World}(h1:w.cell? ⟨cb,0,none⟩=some (.slice ad n cap)) (hi:i<n) (ha:0<n->ad=some ⟨g,0,none⟩) (hc:w.cell? ⟨g,i*9,none⟩=some (sv s)) :
    Calls Tryz.prog 225 #[.int .i64 (i:Int),.pointer (some ⟨cb,0,none⟩)] w fun e w'=>e=.returned (sv s)/\w'=w:=by
 have hix:=Bp ad g n cap i hi ha
 generalize sv s=S at hc ⊢
 go_enter Tryz.func225,Tryz.ntmps225
 go_wp2_with fail
 go_ret
 exact ⟨rfl,rfl⟩
theorem cJ9 (M:Int) (w:World):(Instr.makeMap 213 (some (.int .i64 M))).run Tryz.prog w=.ok (.map (some w.heap.size)) (w.alloc (.map #[] 0)):=by kernel_rfl
theorem wT (K:Nat) (hK:K=92\/K=225) (q:Nat) (ns:List bA) (M:Nat) (hM:Hid (M=ns.length)) (hmx:M≤1000000) (hln:Hid (∀i,i<M->(ns.getD i []).length≤maxLen)) (w:World)
    (hname:Hid (∀X i,Below w.heap.size w X->i<M->Calls Tryz.prog K #[.int .i64 (i:Int),.pointer (some ⟨q,0,none⟩)] X fun e w'=>e=.returned (sv (ns.getD i []))/\w'=X)) :
    Calls Tryz.prog 91 #[.int .i64 (M:Int),.func (.func K) #[] #[.pointer (some ⟨q,0,none⟩)]] w fun e w'=>∃f,e=.returned f/\bZ8 w' f ns/\Below w.heap.size w w':=by
 have hmf:∀(fn:Fn) (first cap:Array Value) (w:World),(Instr.makeFunc fn first cap).run Tryz.prog w=.ok (.func fn first cap) w:=fun _ _ _ _=>rfl
 have hmk:=cJ9 (M:Int)
 rcases hK with rfl|rfl
 all_goals
  go_enter Tryz.func91,Tryz.ntmps91
  go_wp2_with fail
  go_loopg [6] M (fun f i wr=>∃k:Nat,f=k/\k≤M/\i=.int .i64 ((k:Int)-1)/\Hid (gG wr w.heap.size (M-k) (xU ns k)/\wr.heap[w.heap.size+1]?=some (.cells #[.map (some w.heap.size)] 213 (0,0))/\Below w.heap.size w wr))
  case atStart=>
   refine ⟨M,rfl,Nat.le_refl _,rfl,?_,?_,?_⟩
   ·rw[Nat.sub_self]
    exact ((aT6 w).keep (Below.heap_alloc _ _ _ (by simp))).like fun s=>by rw[hM.out,bK0]
   ·have e:w.heap.size+1=(w.alloc (.map #[] 0)).heap.size:=by simp
    rw[e];exact heap_alloc_new _ _
   ·exact ((Below.refl _ _).alloc (Nat.le_refl _) _).alloc (by simp) _
  case round=>
   obtain ⟨k,rfl,hk,rfl,hr⟩:=hrel
   cases gk with
   | zero=>
    go_wp2_with fail
    go_ret
    refine ⟨_,rfl,⟨w.heap.size+1,w.heap.size,M,rfl,hr.out.2.1,?_⟩,hr.out.2.2⟩
    exact hr.out.1.like (bK1 ns)
   | succ j=>
    have ej:((j+1:Nat):Int)-1=(j:Int):=by omega
    rw[ej]
    have hc:wr.drew.cell? ⟨w.heap.size+1,0,none⟩=some (.map (some w.heap.size)):=aA hr.out.2.1 0 rfl
    have hcall:=hname.out wr.drew j hr.out.2.2.drew (by omega)
    have hsl:=hln.out j (by omega)
    have HM:Hid (gG wr.drew w.heap.size (M-(j+1)) (xU ns (j+1))):=hr.out.1
    obtain ⟨w2,hrun,hM2,hg⟩:=HM.out.put (by unfold maxLen;omega) hsl (i:=j) (by omega)
    have H2:Hid (gG w2 w.heap.size (M-j) (xU ns j)/\w2.heap[w.heap.size+1]?=some (.cells #[.map (some w.heap.size)] 213 (0,0))/\Below w.heap.size w w2):=by
     refine ⟨?_,?_,?_⟩
     ·rw[show M-j=M-(j+1)+1 by omega]
      exact hM2.like fun s=>(aV8 ns j (by rw[<-hM.out];omega) s).symm
     ·rw[hg.block _ (aB hr.out.2.1) (by simp)];exact hr.out.2.1
     ·exact hr.out.2.2.drew.grown hg hr.out.2.2.size (fun b hb=>by cases hb;exact Nat.le_refl _)
    clear hM2 hg hsl ej
    generalize sv (ns.getD j [])=S at hcall hrun
    go_wp2_with fail
    go_region_with (refine hcall.mono ?_;rintro e w' ⟨rfl,rfl⟩)
    all_goals
     go_wp2_with fail
     go_roundg j
     case measure=>omega
     case rel=>exact ⟨j,rfl,by omega,by go_num,H2.out⟩
end
section
namespace Px
def bY0 (ns:List bA):Prop:=∀i,i<ns.length->¬dV ns (ns.getD i [])<i
section
variable {ρ:Type}
theorem mI (l:List (bM ρ)):(aZ l).length=l.length:=by simp[aZ]
theorem eZ (l:List (bM ρ)):(bU l).length=l.length:=by simp[bU]
theorem yL (l:List (bM ρ)) (i:Nat) (s:bM ρ) (h:l[i]?=some s):(aZ l).getD i []=s.name:=by
 rw[aZ,List.getD_eq_getElem?_getD,List.getElem?_map,h];rfl
theorem bJ4 (l:List (bM ρ)) (i:Nat) (s:bM ρ) (h:l[i]?=some s):(bU l).getD i []=nE (aZ l) s.ways:=by
 rw[bU,List.getD_eq_getElem?_getD,List.getElem?_map,h];rfl
theorem vA (ns:List bA) (ys:List Wy):(nE ns ys).length=ys.length:=by simp[nE]
theorem bP8 (ns:List bA) (ys:List Wy) (m:Nat) (y:Wy) (h:ys[m]?=some y):(nE ns ys).getD m none=if y.now then iT ns y.to else none:=by
 rw[nE,List.getD_eq_getElem?_getD,List.getElem?_map,h];rfl
theorem A3 {vs:List bH}{R:List ρ->Nat->zM}{ns:List bA}:∀{l:List (bM ρ)}{i n m:Nat},fR vs R ns l i n=.ok m->∀j,j<l.length->∀s,l[j]?=some s->¬dV ns s.name<((i+j:Nat):Int):=by
 intro l
 induction l with
 | nil=>intro i n m _ j hj;simp at hj
 | cons a r ih=>
  intro i n m h j hj s hs
  rw[fR] at h
  split at h
  ·exact absurd h (by simp)
  ·rename_i hz
   split at h
   ·exact absurd h (by simp)
   ·cases j with
    | zero=>
     obtain rfl:a=s:=by simpa using hs
     intro hlt
     apply hz
     unfold iD
     rw[if_pos (by simpa using hlt)]
     simp
    | succ j=>
     have:=ih h j (by simpa using hj) s (by simpa using hs)
     rw[show i+(j+1)=i+1+j by omega];exact this
theorem aR8 {vs:List bH}{R:List ρ->Nat->zM}{l:List (bM ρ)}{n m:Nat}(h:fR vs R (aZ l) l 0 n=.ok m):bY0 (aZ l):=by
 intro i hi
 rw[mI] at hi
 have:=A3 h i hi _ (List.getElem?_eq_getElem hi)
 rw[yL l i _ (List.getElem?_eq_getElem hi)]
 simpa using this
end
end Px
end
end Go.Proofs.YtcdbhoknhnimcaaGreatDoor
