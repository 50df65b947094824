import Derived.Test.YtpogmfliojcnjaaGreatDoorSCr
import Derived.Test.YtpogmfliojcnjaaGreatDoorProg
import Derived.Maps.Own
import Derived.Maps.OwnOps
import Derived.Maps.Views
import Derived.Deep.LoopGhost
import Derived.Deep.RegionHeld3
import Derived.Deep.DeepCutAuto
namespace Go.Proofs.YtpogmfliojcnjaaGreatDoor
section
namespace Px
def fnd:List Str->Str->Option Nat
 | [],_=>none
 | a::r,s=>if a=s then some 0 else (fnd r s).map (·+1)
def fndI (l:List Str) (s:Str):Int:=match fnd l s with|some i=>(i:Int)|none=>-1
def fndK (l:List Str) (k:Nat) (s:Str):Option Nat:=(fnd (l.drop k) s).map (·+k)
theorem fndK_all (l:List Str) (s:Str):fndK l 0 s=fnd l s:=by unfold fndK;cases h:fnd l s<;>simp[h]
theorem fndK_end (l:List Str) (s:Str):fndK l l.length s=none:=by unfold fndK;rw[List.drop_length];rfl
theorem fndK_step (l:List Str) (k:Nat) (hk:k<l.length) (s:Str):fndK l k s=if l.getD k []=s then some k else fndK l (k+1) s:=by
 unfold fndK
 have e:l.drop k=l.getD k []::l.drop (k+1):=by
  rw[List.drop_eq_getElem_cons hk,List.getD_eq_getElem?_getD,List.getElem?_eq_getElem hk];rfl
 rw[e,fnd]
 split
 ·simp
 ·cases h:fnd (l.drop (k+1)) s with
  | none=>simp
  | some i=>simp;omega
theorem fnd_some {l:List Str}{s:Str}{i:Nat}(h:fnd l s=some i):i<l.length/\l.getD i []=s/\∀j,j<i->l.getD j []≠s:=by
 induction l generalizing i with
 | nil=>simp[fnd] at h
 | cons a r ih=>
  rw[fnd] at h
  split at h
  ·rename_i he
   injection h with h
   subst h
   exact ⟨by simp,by simpa using he,fun j hj=>absurd hj (by omega)⟩
  ·rename_i he
   cases hr:fnd r s with
   | none=>rw[hr] at h;simp at h
   | some k=>
    rw[hr] at h
    simp at h
    subst h
    obtain ⟨h1,h2,h3⟩:=ih hr
    refine ⟨by simp;omega,by simpa using h2,fun j hj=>?_⟩
    cases j with
    | zero=>simpa using he
    | succ j=>simpa using h3 j (by omega)
theorem fnd_none {l:List Str}{s:Str}(h:fnd l s=none):∀j,j<l.length->l.getD j []≠s:=by
 induction l with
 | nil=>intro j hj;simp at hj
 | cons a r ih=>
  rw[fnd] at h
  split at h
  ·exact absurd h (by simp)
  ·rename_i he
   have hr:fnd r s=none:=by cases hr:fnd r s with
    | none=>rfl
    | some k=>rw[hr] at h;simp at h
   intro j hj
   cases j with
   | zero=>simpa using he
   | succ j=>simpa using ih hr j (by simpa using hj)
theorem fnd_le {l:List Str}{i:Nat}(hi:i<l.length):∃k,fnd l (l.getD i [])=some k/\k≤i:=by
 cases h:fnd l (l.getD i []) with
 | none=>exact absurd rfl (fnd_none h i hi)
 | some k=>
  refine ⟨k,rfl,?_⟩
  obtain ⟨h1,h2,h3⟩:=fnd_some h
  by_cases e:k≤i
  ·exact e
  ·exact absurd rfl (h3 i (by omega))
def strangeE (ns:List Str):E->Bool
 | .nil=>false
 | .node _ _ a l r=>if a.code=1 then false else if a.code=2\/a.code=3 then (fnd ns a.name).isNone else if a.code=4\/a.code=5 then strangeE ns l else strangeE ns l||strangeE ns r
def vnames (vs:List Decl):List Str:=vs.map (·.name)
def decl0:Decl:=⟨0,[],0⟩
def vkind (vs:List Decl) (s:Str):Nat:=(vs.getD (fndI (vnames vs) s).toNat decl0).kind
def setE (vs:List Decl) (a:Asg):Nat:=if (fnd (vnames vs) a.name).isNone||strangeE (vnames vs) a.e then 5 else if vkind vs a.name=1 then 1 else 0
def setsE (vs:List Decl):List Asg->Nat
 | []=>0
 | a::r=>if setE vs a≠0 then setE vs a else setsE vs r
def wayE (vs:List Decl) (ns:List Str) (inside:Bool) (y:Wy):Nat:=
 if (fnd ns y.to).isNone then 7 else if (decide (y.kind=2) && !inside)||(y.now&&decide (1<y.times)) then 6 else if strangeE (vnames vs) y.cond then 5 else setsE vs y.sets
def waysE (vs:List Decl) (ns:List Str) (inside:Bool):List Wy->Nat
 | []=>0
 | y::r=>if wayE vs ns inside y≠0 then wayE vs ns inside y else waysE vs ns inside r
section
variable {ρ:Type}
def aloneE (vs:List Decl) (ns:List Str) (s:StF ρ):Nat:=
 if s.last&&(decide (0<s.ways.length)||decide (0<s.regions.length)) then 6
 else if setsE vs s.enter≠0 then setsE vs s.enter
 else if setsE vs s.during≠0 then setsE vs s.during
 else if setsE vs s.leave≠0 then setsE vs s.leave
 else if strangeE (vnames vs) s.rests then 5
 else waysE vs ns (decide (0<s.regions.length)) s.ways
def stateE (vs:List Decl) (ns:List Str) (i:Nat) (s:StF ρ):Nat:=
 if fndI ns s.name<i then 9 else aloneE vs ns s
def snames (l:List (StF ρ)):List Str:=l.map (·.name)
def tosF (ns:List Str) (ys:List Wy):List (Option Nat):=ys.map fun y=>if y.now then fnd ns y.to else none
def graph (l:List (StF ρ)):List (List (Option Nat)):=l.map fun s=>tosF (snames l) s.ways
end
def cntK (G:List (List (Option Nat))) (T:List Bool) (j:Nat):Nat->Nat
 | 0=>0
 | i+1=>cntK G T j i+(if T.getD i false then 0 else (G.getD i []).count (some j))
def cnt (G:List (List (Option Nat))) (T:List Bool) (j:Nat):Nat:=cntK G T j G.length
def freeG (G:List (List (Option Nat))) (T:List Bool) (j:Nat):Bool:=!T.getD j false&&decide (cnt G T j=0)
def nextF (G:List (List (Option Nat))) (T:List Bool):Nat->Nat->Option Nat
 | 0,_=>none
 | f+1,i=>if freeG G T i then some i else nextF G T f (i+1)
def nextG (G:List (List (Option Nat))) (T:List Bool):Option Nat:=nextF G T G.length 0
def ordK (G:List (List (Option Nat))):Nat->Option (List Nat×List Bool)
 | 0=>some ([],List.replicate G.length false)
 | r+1=>match ordK G r with
  | none=>none
  | some (o,T)=>match nextG G T with
   | none=>none
   | some j=>some (o++[j],T.set j true)
def orderG (G:List (List (Option Nat))):Option (List Nat):=(ordK G G.length).map (·.1)
section
variable {ρ:Type}
def firsts (l:List (StF ρ)):Nat:=(l.filter (·.first)).length
def wholeE (l:List (StF ρ)):Nat:=
 if firsts l=0 then 8 else if 1<firsts l then 12 else if (orderG (graph l)).isNone then 11 else 0
abbrev Res:=Except (Nat×Nat) Nat
def regsE (R:List ρ->Nat->Res):List (List ρ)->Nat->Res
 | [],n=>.ok n
 | r::rs,n=>match R r n with
  | .error x=>.error x
  | .ok m=>regsE R rs m
def statesE (vs:List Decl) (R:List ρ->Nat->Res) (ns:List Str):List (StF ρ)->Nat->Nat->Res
 | [],_,n=>.ok n
 | s::r,i,n=>if stateE vs ns i s≠0 then .error (stateE vs ns i s,n) else match regsE R s.regions (n+1) with
  | .error x=>.error x
  | .ok m=>statesE vs R ns r (i+1) m
def regF (vs:List Decl) (R:List ρ->Nat->Res) (l:List (StF ρ)) (n:Nat):Res:=
 match statesE vs R (snames l) l 0 n with
 | .error x=>.error x
 | .ok m=>if wholeE l≠0 then .error (wholeE l,n) else .ok m
end
def regE (vs:List Decl):(k:Nat)->List (St k)->Nat->Res
 | 0=>fun _ n=>.error (8,n)
 | k+1=>fun l n=>regF vs (regE vs k) l n
def twiceF (ns:List Str):Nat->Nat->Option Nat
 | 0,_=>none
 | f+1,i=>if fndI ns (ns.getD i [])<i then some i else twiceF ns f (i+1)
def checkC (c:Chart):Option (Nat×Option Nat):=
 match twiceF (vnames c.vars) c.vars.length 0 with
 | some i=>some (9,some i)
 | none=>if c.regions=[] then some (8,none) else match regsE (regE c.vars 6) c.regions 0 with
  | .error (e,p)=>some (e,some p)
  | .ok _=>none
def wOf (G:List (List (Option Nat))) (T:List Bool):List Int:=(List.range G.length).map fun j=>if T.getD j false then -1 else (cnt G T j:Int)
def bump (n:Nat) (by':Int) (ts:List (Option Nat)):Nat->List Int->List Int
 | 0,W=>W
 | m+1,W=>match ts.getD m none with
  | none=>bump n by' ts m W
  | some t=>(bump n by' ts m W).set t ((bump n by' ts m W).getD t 0+by')
theorem bump_len (n:Nat) (by':Int) (ts:List (Option Nat)) (m:Nat) (W:List Int):(bump n by' ts m W).length=W.length:=by
 induction m with
 | zero=>rfl
 | succ m ih=>rw[bump];split<;>simp[ih]
theorem take_count (ts:List (Option Nat)) (m:Nat) (hm:m<ts.length) (j:Nat):(ts.take (m+1)).count (some j)=(ts.take m).count (some j)+if ts.getD m none=some j then 1 else 0:=by
 rw[List.take_succ_eq_append_getElem hm,List.count_append,List.getD_eq_getElem?_getD,List.getElem?_eq_getElem hm]
 simp only[List.count_cons,List.count_nil,Nat.zero_add,Option.getD_some,beq_iff_eq]
theorem bump_at (n:Nat) (by':Int) (ts:List (Option Nat)) (W:List Int) (m:Nat) (hm:m≤ts.length) (j:Nat) (hj:j<W.length):(bump n by' ts m W).getD j 0=W.getD j 0+by'*((ts.take m).count (some j):Nat):=by
 induction m with
 | zero=>simp[bump]
 | succ m ih=>
  rw[bump,take_count ts m (by omega)]
  have ih:=ih (by omega)
  cases ht:ts.getD m none with
  | none=>
   simp only[reduceCtorEq,if_false,Nat.add_zero]
   exact ih
  | some t=>
   simp only[Option.some.injEq]
   have hl:=bump_len n by' ts m W
   by_cases e:t=j
   ·subst e
    rw[List.getD_eq_getElem?_getD,List.getElem?_set,hl,if_pos rfl,if_pos hj,if_pos rfl,ih]
    simp[Int.mul_add,Int.add_assoc]
   ·rw[List.getD_eq_getElem?_getD,List.getElem?_set,if_neg e,if_neg e,<-List.getD_eq_getElem?_getD,ih,Nat.add_zero]
theorem wOf_len (G:List (List (Option Nat))) (T:List Bool):(wOf G T).length=G.length:=by simp[wOf]
theorem wOf_at (G:List (List (Option Nat))) (T:List Bool) (j:Nat) (hj:j<G.length):(wOf G T).getD j 0=if T.getD j false then -1 else (cnt G T j:Int):=by
 rw[wOf,List.getD_eq_getElem?_getD,List.getElem?_map,List.getElem?_range hj];rfl
theorem list_ext_getD {α:Type}{d:α}{l m:List α}(hl:l.length=m.length) (h:∀j,j<l.length->l.getD j d=m.getD j d):l=m:=by
 apply List.ext_getElem hl
 intro j h1 h2
 have:=h j h1
 rwa [List.getD_eq_getElem?_getD,List.getD_eq_getElem?_getD,List.getElem?_eq_getElem h1,List.getElem?_eq_getElem h2] at this
def wFirst (G:List (List (Option Nat))):Nat->List Int
 | 0=>List.replicate G.length 0
 | k+1=>bump G.length 1 (G.getD k []) (G.getD k []).length (wFirst G k)
theorem wFirst_len (G:List (List (Option Nat))) (k:Nat):(wFirst G k).length=G.length:=by
 induction k with
 | zero=>simp[wFirst]
 | succ k ih=>rw[wFirst,bump_len,ih]
theorem getD_repl (n j:Nat):(List.replicate n false).getD j false=false:=by
 rw[List.getD_eq_getElem?_getD,List.getElem?_replicate];split<;>rfl
theorem wFirst_at (G:List (List (Option Nat))) (k:Nat) (j:Nat) (hj:j<G.length):(wFirst G k).getD j 0=(cntK G (List.replicate G.length false) j k:Int):=by
 induction k with
 | zero=>rw[wFirst,cntK,List.getD_eq_getElem?_getD,List.getElem?_replicate,if_pos hj];rfl
 | succ k ih=>
  rw[wFirst,cntK,bump_at _ _ _ _ _ (Nat.le_refl _) j (by rw[wFirst_len];exact hj),ih,getD_repl,List.take_length]
  simp
theorem wFirst_all (G:List (List (Option Nat))):wFirst G G.length=wOf G (List.replicate G.length false):=by
 apply list_ext_getD (d:=0)
 ·rw[wFirst_len,wOf_len]
 ·intro j hj
  rw[wFirst_len] at hj
  rw[wFirst_at _ _ _ hj,wOf_at _ _ _ hj,getD_repl];rfl
theorem set_getD (T:List Bool) (i j:Nat) (hi:i<T.length):(T.set i true).getD j false=if i=j then true else T.getD j false:=by
 rw[List.getD_eq_getElem?_getD,List.getElem?_set]
 by_cases e:i=j
 ·subst e;simp[hi]
 ·rw[if_neg e,if_neg e,List.getD_eq_getElem?_getD]
theorem cntK_set (G:List (List (Option Nat))) (T:List Bool) (i j:Nat) (hi:i<T.length) (hT:T.getD i false=false) (k:Nat):cntK G T j k=cntK G (T.set i true) j k+if i<k then (G.getD i []).count (some j) else 0:=by
 induction k with
 | zero=>simp[cntK]
 | succ k ih=>
  rw[cntK,cntK,ih,set_getD T i k hi]
  by_cases e:i=k
  ·subst e
   rw[if_neg (by omega),if_pos rfl,hT];simp
  ·rw[if_neg e]
   generalize (G.getD i []).count (some j)=c
   have e1:(if i<k+1 then c else 0)=if i<k then c else 0:=by
    by_cases h:i<k
    ·rw[if_pos h,if_pos (by omega)]
    ·rw[if_neg h,if_neg (by omega)]
   rw[e1];omega
theorem cnt_set (G:List (List (Option Nat))) (T:List Bool) (i j:Nat) (hi:i<T.length) (hG:i<G.length) (hT:T.getD i false=false):cnt G T j=cnt G (T.set i true) j+(G.getD i []).count (some j):=by
 rw[cnt,cnt,cntK_set G T i j hi hT,if_pos hG]
def Shut (G:List (List (Option Nat))) (T:List Bool):Prop:=T.length=G.length/\∀j,T.getD j false=true->cnt G T j=0
theorem shut_none (G:List (List (Option Nat))):Shut G (List.replicate G.length false):=⟨by simp,fun j h=>by rw[getD_repl] at h;simp at h⟩
theorem shut_set {G:List (List (Option Nat))}{T:List Bool}{i:Nat}(h:Shut G T) (hi:i<G.length) (hf:freeG G T i=true):Shut G (T.set i true):=by
 unfold freeG at hf
 simp only[Bool.and_eq_true,Bool.not_eq_true',decide_eq_true_eq] at hf
 refine ⟨by rw[List.length_set];exact h.1,fun j hj=>?_⟩
 rw[set_getD T i j (by rw[h.1];exact hi)] at hj
 have:=cnt_set G T i j (by rw[h.1];exact hi) hi hf.1
 by_cases e:i=j
 ·subst e;omega
 ·rw[if_neg e] at hj
  have:=h.2 j hj;omega
theorem wOf_set {G:List (List (Option Nat))}{T:List Bool}{i:Nat}(h:Shut G T) (hi:i<G.length) (hf:freeG G T i=true):bump G.length (-1) (G.getD i []) (G.getD i []).length ((wOf G T).set i (-1))=wOf G (T.set i true):=by
 have hf':=hf
 unfold freeG at hf
 simp only[Bool.and_eq_true,Bool.not_eq_true',decide_eq_true_eq] at hf
 apply list_ext_getD (d:=0)
 ·rw[bump_len,List.length_set,wOf_len,wOf_len]
 ·intro j hj
  rw[bump_len,List.length_set,wOf_len] at hj
  have hc:=cnt_set G T i j (by rw[h.1];exact hi) hi hf.1
  rw[bump_at _ _ _ _ _ (Nat.le_refl _) j (by rw[List.length_set,wOf_len];exact hj),List.take_length,wOf_at _ _ _ hj,set_getD T i j (by rw[h.1];exact hi)]
  by_cases e:i=j
  ·subst e
   rw[if_pos rfl,List.getD_eq_getElem?_getD,List.getElem?_set,if_pos rfl,wOf_len,if_pos hi]
   have:(G.getD i []).count (some i)=0:=by omega
   rw[this];simp
  ·rw[if_neg e,List.getD_eq_getElem?_getD,List.getElem?_set,if_neg e,<-List.getD_eq_getElem?_getD,wOf_at _ _ _ hj]
   by_cases ht:T.getD j false=true
   ·have:=h.2 j ht
    have:(G.getD i []).count (some j)=0:=by omega
    rw[if_pos ht,if_pos ht,this];simp
   ·rw[if_neg ht,if_neg ht];omega
theorem wOf_zero (G:List (List (Option Nat))) (T:List Bool) (j:Nat) (hj:j<G.length):(wOf G T).getD j 0=0↔freeG G T j=true:=by
 rw[wOf_at _ _ _ hj]
 unfold freeG
 cases T.getD j false<;>simp;try omega
theorem nextF_some {G:List (List (Option Nat))}{T:List Bool}:∀{f i k:Nat},nextF G T f i=some k->i≤k/\k<i+f/\freeG G T k=true/\∀j,i≤j->j<k->freeG G T j=false:=by
 intro f
 induction f with
 | zero=>intro i k h;simp[nextF] at h
 | succ f ih=>
  intro i k h
  rw[nextF] at h
  split at h
  ·rename_i hf
   injection h with h
   subst h
   exact ⟨Nat.le_refl _,by omega,hf,fun j h1 h2=>absurd h2 (by omega)⟩
  ·rename_i hf
   obtain ⟨h1,h2,h3,h4⟩:=ih h
   refine ⟨by omega,by omega,h3,fun j hj1 hj2=>?_⟩
   by_cases e:j=i
   ·subst e;simpa using hf
   ·exact h4 j (by omega) hj2
theorem nextF_none {G:List (List (Option Nat))}{T:List Bool}:∀{f i:Nat},nextF G T f i=none->∀j,i≤j->j<i+f->freeG G T j=false:=by
 intro f
 induction f with
 | zero=>intro i _ j h1 h2;exact absurd h2 (by omega)
 | succ f ih=>
  intro i h j h1 h2
  rw[nextF] at h
  split at h
  ·exact absurd h (by simp)
  ·rename_i hf
   by_cases e:j=i
   ·subst e;simpa using hf
   ·exact ih h j (by omega) (by omega)
theorem nextG_some {G:List (List (Option Nat))}{T:List Bool}{k:Nat}(h:nextG G T=some k):k<G.length/\freeG G T k=true/\∀j,j<k->freeG G T j=false:=by
 obtain ⟨_,h2,h3,h4⟩:=nextF_some h
 exact ⟨by omega,h3,fun j hj=>h4 j (Nat.zero_le _) hj⟩
theorem nextG_none {G:List (List (Option Nat))}{T:List Bool}(h:nextG G T=none):∀j,j<G.length->freeG G T j=false:=fun j hj=>nextF_none h j (Nat.zero_le _) (by omega)
theorem ordK_shut {G:List (List (Option Nat))}:∀{r:Nat}{o:List Nat}{T:List Bool},ordK G r=some (o,T)->Shut G T/\o.length=r/\(∀j∈o,j<G.length):=by
 intro r
 induction r with
 | zero=>intro o T h;rw[ordK] at h;injection h with h;injection h with h1 h2;subst h1;subst h2;exact ⟨shut_none G,rfl,by simp⟩
 | succ r ih=>
  intro o T h
  rw[ordK] at h
  split at h
  ·exact absurd h (by simp)
  ·rename_i o' T' hr
   split at h
   ·exact absurd h (by simp)
   ·rename_i j hj
    injection h with h
    injection h with h1 h2
    subst h1;subst h2
    obtain ⟨s1,s2,s3⟩:=ih hr
    obtain ⟨n1,n2,_⟩:=nextG_some hj
    refine ⟨shut_set s1 n1 n2,by simp[s2],fun k hk=>?_⟩
    rcases List.mem_append.1 hk with hk|hk
    ·exact s3 k hk
    ·rw[List.mem_singleton.1 hk];exact n1
theorem ordK_none {G:List (List (Option Nat))}{r s:Nat}(h:ordK G r=none) (hs:r≤s):ordK G s=none:=by
 induction s with
 | zero=>obtain rfl:r=0:=by omega
         exact h
 | succ s ih=>
  by_cases e:r=s+1
  ·subst e;exact h
  ·rw[ordK,ih (by omega)]
theorem cntK_le (G:List (List (Option Nat))) (T:List Bool) (j M:Nat) (hM:∀i,(G.getD i []).length≤M) (k:Nat):cntK G T j k≤k*M:=by
 induction k with
 | zero=>simp[cntK]
 | succ k ih=>
  rw[cntK,Nat.succ_mul]
  have:=List.count_le_length (a:=some j) (l:=G.getD k [])
  have:=hM k
  split<;>omega
end Px
end
section
open Go.RowKit Go.Maps Go.WideMaps Px
theorem smapLaw:Keyed Tryz.prog 9:=string_keyed Tryz.underlying9
theorem smapZero (w:World):(zeroValue 3).run Tryz.prog w=.ok (.int .i64 0) w:=by kernel_rfl
def MapF (w:World) (b n:Nat) (f:Str->Option Nat):Prop:=
 ∃D:DataW Unit,w.ownsMap Tryz.prog 9 (plainElem Tryz.prog 3) b n D/\IsMap D/\∀(s:Str) (zd:DataW Unit),D.atKey (.string s) zd=match f s with
  | none=>zd
  | some i=>.lit (.int .i64 (i:Int))
theorem MapF.lt {w:World}{b n:Nat}{f:Str->Option Nat}(h:MapF w b n f):b<w.heap.size:=by obtain ⟨D,h,_⟩:=h;exact h.lt
theorem MapF.keep {w w':World}{b n:Nat}{f:Str->Option Nat}(h:MapF w b n f) (hb:w'.heap[b]?=w.heap[b]?):MapF w' b n f:=by
 obtain ⟨D,⟨es,clock,h1,h2⟩,h3⟩:=h
 exact ⟨D,⟨es,clock,by rw[hb];exact h1,h2⟩,h3⟩
theorem MapF.below {w w':World}{b n:Nat}{f:Str->Option Nat}(h:MapF w b n f) (hb:Below w.heap.size w w'):MapF w' b n f:=h.keep (hb.block b h.lt)
theorem MapF.like {w:World}{b n:Nat}{f g:Str->Option Nat}(h:MapF w b n f) (hfg:∀s,f s=g s):MapF w b n g:=by
 have:f=g:=funext hfg
 exact this▸h
theorem mapF_made (w:World):MapF (w.alloc (.map #[] 0)) w.heap.size 0 (fun _=>none):=
 ⟨.map [],World.ownsMap_made _ _ _ _,⟨_,rfl⟩,fun _ _=>rfl⟩
theorem sKey {s:Str}(hs:s.length≤maxLen):keyOf Tryz.prog 9 (sv s)=some (.string s):=by
 have:=keyOf_string_mk (P:=Tryz.prog) Tryz.underlying9 (s:=⟨s.toArray⟩) (by simpa [ByteArray.size] using hs)
 simpa [sv] using this
theorem MapF.look {w:World}{b n:Nat}{f:Str->Option Nat}(h:MapF w b n f) {s:Str}(hs:s.length≤maxLen) :
    (Instr.lookup 96 (.map (some b)) (sv s) true).run Tryz.prog w=.ok (match f s with
     | none=>.tuple #[.int .i64 0,.bool false]
     | some i=>.tuple #[.int .i64 (i:Int),.bool true]) w:=by
 obtain ⟨D,⟨es,clock,hb,F,hsz,rfl⟩,hm,hat⟩:=h
 rcases Maps.fit_look true smapLaw Tryz.underlying96 (smapZero w) hb F (sKey hs) with ⟨hrun,_,h1⟩|⟨e0,y,_,_,hrun,hR,h1,_⟩
 ·rw[hrun]
  cases hf:f s with
  | none=>rfl
  | some i=>
   have a1:=hat s (.lit (.bool true))
   rw[hf,h1] at a1
   simp at a1
 ·rw[hrun]
  cases hf:f s with
  | none=>
   have a1:=hat s (.lit (.bool true))
   have a2:=hat s (.lit (.bool false))
   rw[hf,h1] at a1
   rw[hf,h1] at a2
   rw[a1] at a2
   simp at a2
  | some i=>
   have a1:=hat s (.lit (.bool true))
   rw[hf,h1] at a1
   obtain ⟨c,hv,hy,_⟩:=plainElem_int_inv Tryz.underlying3 hR
   rw[hy] at a1
   simp only[DataW.lit.injEq,Lit.int.injEq,true_and] at a1
   rw[hv,a1];rfl
theorem MapF.look1 {w:World}{b n:Nat}{f:Str->Option Nat}(h:MapF w b n f) {s:Str}(hs:s.length≤maxLen) :
    (Instr.lookup 96 (.map (some b)) (sv s) false).run Tryz.prog w=.ok (.int .i64 (((f s).getD 0:Nat):Int)) w:=by
 obtain ⟨D,⟨es,clock,hb,F,hsz,rfl⟩,hm,hat⟩:=h
 rcases Maps.fit_look false smapLaw Tryz.underlying96 (smapZero w) hb F (sKey hs) with ⟨hrun,_,h1⟩|⟨e0,y,_,_,hrun,hR,h1,_⟩
 ·rw[hrun]
  cases hf:f s with
  | none=>rfl
  | some i=>
   have a1:=hat s (.lit (.bool true))
   rw[hf,h1] at a1
   simp at a1
 ·rw[hrun]
  cases hf:f s with
  | none=>
   have a1:=hat s (.lit (.bool true))
   have a2:=hat s (.lit (.bool false))
   rw[hf,h1] at a1
   rw[hf,h1] at a2
   rw[a1] at a2
   simp at a2
  | some i=>
   have a1:=hat s (.lit (.bool true))
   rw[hf,h1] at a1
   obtain ⟨c,hv,hy,_⟩:=plainElem_int_inv Tryz.underlying3 hR
   rw[hy] at a1
   simp only[DataW.lit.injEq,Lit.int.injEq,true_and] at a1
   rw[hv,a1];rfl
theorem nat_wf {i:Nat}(h:i≤9223372036854775807):(Lit.int .i64 (i:Int)).wf=true:=by
 have e1:IntKind.i64.min=-9223372036854775808:=by decide
 have e2:IntKind.i64.max=9223372036854775807:=by decide
 simp[Lit.wf,e1,e2]
 omega
theorem MapF.put {w:World}{b n:Nat}{f:Str->Option Nat}(h:MapF w b n f) (hn:n<maxLen) {s:Str}(hs:s.length≤maxLen) {i:Nat}(hi:i≤9223372036854775807) :
    ∃w',(Instr.mapUpdate 96 (.map (some b)) (sv s) (.int .i64 (i:Int))).run Tryz.prog w=.ok () w'/\MapF w' b (n+1) (fun t=>if s=t then some i else f t)/\w.grownBy w' (some b):=by
 obtain ⟨D,hD,hm,hat⟩:=h
 obtain ⟨w',hrun,hD',hg⟩:=hD.update smapLaw Tryz.underlying96 hn (sKey hs) (plainElem_int Tryz.underlying3 (nat_wf hi))
 refine ⟨w',hrun,⟨_,hD',hm.put _ _,fun t zd=>?_⟩,hg⟩
 by_cases e:s=t
 ·subst e
  rw[atKey_put_same hm (k:=.string s) (by simp[WideAt.IsKeyLit])]
  simp
 ·rw[atKey_put_other (by intro hh;injection hh with hh;exact e hh.symm),hat t zd]
  simp[e]
end
section
open Go.RowKit Px
def FindV (w:World) (f:Value) (ns:List Str):Prop:=
 ∃pb mb n,f=.func (.func 108) #[] #[.pointer (some ⟨pb,0,none⟩)]/\w.heap[pb]?=some (.cells #[.map (some mb)] 96 (0,0))/\MapF w mb n (fnd ns)
theorem find_any {pb mb n:Nat}{ns:List Str}{s:Str}{w:World}(hp:w.heap[pb]?=some (.cells #[.map (some mb)] 96 (0,0))) (hm:MapF w mb n (fnd ns)) (hs:s.length≤maxLen) :
    Calls Tryz.prog 108 #[sv s,.pointer (some ⟨pb,0,none⟩)] w fun e w'=>e=.returned (.int .i64 (fndI ns s))/\w'=w:=by
 have hc:=cell_row hp 0 (u:=.map (some mb)) rfl
 have hl:=hm.look hs
 generalize sv s=S at hl ⊢
 cases hf:fnd ns s with
 | none=>
  rw[hf] at hl
  have e:fndI ns s=-1:=by unfold fndI;rw[hf]
  rw[e]
  clear e hf hm hp
  go_enter Tryz.func108,Tryz.ntmps108
  go_wp2_with fail
  go_ret
  exact ⟨rfl,rfl⟩
 | some i=>
  rw[hf] at hl
  have e:fndI ns s=(i:Int):=by unfold fndI;rw[hf]
  rw[e]
  clear e hf hm hp
  go_enter Tryz.func108,Tryz.ntmps108
  go_wp2_with fail
  go_ret
  exact ⟨rfl,rfl⟩
theorem name_var {cb i g n cap:Nat}{ad:Option Addr}{s:Str}{w:World}(h1:w.cell? ⟨cb,1,none⟩=some (.slice ad n cap)) (hi:i<n) (ha:0<n->ad=some ⟨g,0,none⟩) (hc:w.cell? ⟨g,i*3+1,none⟩=some (sv s)) :
    Calls Tryz.prog 62 #[.int .i64 (i:Int),.pointer (some ⟨cb,0,none⟩)] w fun e w'=>e=.returned (sv s)/\w'=w:=by
 have hix:=ixV ad g n cap i hi ha
 generalize sv s=S at hc ⊢
 go_enter Tryz.func62,Tryz.ntmps62
 go_wp2_with fail
 go_ret
 exact ⟨rfl,rfl⟩
theorem name_state {cb i g n cap:Nat}{ad:Option Addr}{s:Str}{w:World}(h1:w.cell? ⟨cb,0,none⟩=some (.slice ad n cap)) (hi:i<n) (ha:0<n->ad=some ⟨g,0,none⟩) (hc:w.cell? ⟨g,i*9,none⟩=some (sv s)) :
    Calls Tryz.prog 181 #[.int .i64 (i:Int),.pointer (some ⟨cb,0,none⟩)] w fun e w'=>e=.returned (sv s)/\w'=w:=by
 have hix:=ixT ad g n cap i hi ha
 generalize sv s=S at hc ⊢
 go_enter Tryz.func181,Tryz.ntmps181
 go_wp2_with fail
 go_ret
 exact ⟨rfl,rfl⟩
theorem mkmap (M:Int) (w:World):(Instr.makeMap 96 (some (.int .i64 M))).run Tryz.prog w=.ok (.map (some w.heap.size)) (w.alloc (.map #[] 0)):=by kernel_rfl
set_option maxRecDepth 100000 in
set_option maxHeartbeats 2000000 in
theorem finder_any (K:Nat) (hK:K=62\/K=181) (q:Nat) (ns:List Str) (M:Nat) (hM:Hid (M=ns.length)) (hmx:M≤1000000) (hln:Hid (∀i,i<M->(ns.getD i []).length≤maxLen)) (w:World)
    (hname:Hid (∀X i,Below w.heap.size w X->i<M->Calls Tryz.prog K #[.int .i64 (i:Int),.pointer (some ⟨q,0,none⟩)] X fun e w'=>e=.returned (sv (ns.getD i []))/\w'=X)) :
    Calls Tryz.prog 61 #[.int .i64 (M:Int),.func (.func K) #[] #[.pointer (some ⟨q,0,none⟩)]] w fun e w'=>∃f,e=.returned f/\FindV w' f ns/\Below w.heap.size w w':=by
 have hmf:∀(fn:Fn) (first cap:Array Value) (w:World),(Instr.makeFunc fn first cap).run Tryz.prog w=.ok (.func fn first cap) w:=fun _ _ _ _=>rfl
 have hmk:=mkmap (M:Int)
 rcases hK with rfl|rfl
 all_goals
  go_enter Tryz.func61,Tryz.ntmps61
  go_wp2_with fail
  go_loopg [6] M (fun f i wr=>∃k:Nat,f=k/\k≤M/\i=.int .i64 ((k:Int)-1)/\Hid (MapF wr w.heap.size (M-k) (fndK ns k)/\wr.heap[w.heap.size+1]?=some (.cells #[.map (some w.heap.size)] 96 (0,0))/\Below w.heap.size w wr))
  case atStart=>
   refine ⟨M,rfl,Nat.le_refl _,rfl,?_,?_,?_⟩
   ·rw[Nat.sub_self]
    exact ((mapF_made w).keep (Below.heap_alloc _ _ _ (by simp))).like fun s=>by rw[hM.out,fndK_end]
   ·have e:w.heap.size+1=(w.alloc (.map #[] 0)).heap.size:=by simp
    rw[e];exact heap_alloc_new _ _
   ·exact ((Below.refl _ _).alloc (Nat.le_refl _) _).alloc (by simp) _
  case round=>
   obtain ⟨k,rfl,hk,rfl,hr⟩:=hrel
   cases gk with
   | zero=>
    go_wp2_with fail
    go_ret
    refine ⟨_,rfl,⟨w.heap.size+1,w.heap.size,M,rfl,hr.out.2.1,?_⟩,hr.out.2.2⟩
    exact hr.out.1.like (fndK_all ns)
   | succ j=>
    have ej:((j+1:Nat):Int)-1=(j:Int):=by omega
    rw[ej]
    have hc:wr.drew.cell? ⟨w.heap.size+1,0,none⟩=some (.map (some w.heap.size)):=cell_row hr.out.2.1 0 rfl
    have hcall:=hname.out wr.drew j hr.out.2.2.drew (by omega)
    have hsl:=hln.out j (by omega)
    have HM:Hid (MapF wr.drew w.heap.size (M-(j+1)) (fndK ns (j+1))):=hr.out.1
    obtain ⟨w2,hrun,hM2,hg⟩:=HM.out.put (by unfold maxLen;omega) hsl (i:=j) (by omega)
    have H2:Hid (MapF w2 w.heap.size (M-j) (fndK ns j)/\w2.heap[w.heap.size+1]?=some (.cells #[.map (some w.heap.size)] 96 (0,0))/\Below w.heap.size w w2):=by
     refine ⟨?_,?_,?_⟩
     ·rw[show M-j=M-(j+1)+1 by omega]
      exact hM2.like fun s=>(fndK_step ns j (by rw[<-hM.out];omega) s).symm
     ·rw[hg.block _ (lt_of_block hr.out.2.1) (by simp)];exact hr.out.2.1
     ·exact hr.out.2.2.drew.grown hg hr.out.2.2.size (fun b hb=>by cases hb;exact Nat.le_refl _)
    clear hM2 hg hsl ej
    generalize sv (ns.getD j [])=S at hcall hrun
    go_wp2_with fail
    go_region_with (refine hcall.mono ?_;rintro e w' ⟨rfl,rfl⟩)
    all_goals
     go_wp2_with fail
     go_roundg j
     case measure=>omega
     case rel=>exact ⟨j,rfl,by omega,by go_num,H2.out⟩
end
section
namespace Px
theorem twice_iff (ns:List Str) (i:Nat) (hi:i<ns.length):(fndI ns (ns.getD i [])<i)↔∃j,j<i/\ns.getD j []=ns.getD i []:=by
 obtain ⟨k,hk,hle⟩:=fnd_le hi
 unfold fndI
 rw[hk]
 obtain ⟨h1,h2,h3⟩:=fnd_some hk
 constructor
 ·intro h
  have:k<i:=by
   have h':(k:Int)<(i:Int):=h
   omega
  exact ⟨k,this,h2⟩
 ·rintro ⟨j,hj,he⟩
  show (k:Int)<(i:Int)
  by_cases hkj:j<k
  ·exact absurd he (h3 j hkj)
  ·omega
def Dist (ns:List Str):Prop:=∀i,i<ns.length->¬fndI ns (ns.getD i [])<i
theorem Dist.inj {ns:List Str}(h:Dist ns) {i j:Nat}(hi:i<ns.length) (hj:j<ns.length) (he:ns.getD i []=ns.getD j []):i=j:=by
 by_cases h1:i<j
 ·exact absurd ((twice_iff ns j hj).2 ⟨i,h1,he⟩) (h j hj)
 ·by_cases h2:j<i
  ·exact absurd ((twice_iff ns i hi).2 ⟨j,h2,he.symm⟩) (h i hi)
  ·omega
section
variable {ρ:Type}
theorem snames_len (l:List (StF ρ)):(snames l).length=l.length:=by simp[snames]
theorem graph_len (l:List (StF ρ)):(graph l).length=l.length:=by simp[graph]
theorem snames_at (l:List (StF ρ)) (i:Nat) (s:StF ρ) (h:l[i]?=some s):(snames l).getD i []=s.name:=by
 rw[snames,List.getD_eq_getElem?_getD,List.getElem?_map,h];rfl
theorem graph_at (l:List (StF ρ)) (i:Nat) (s:StF ρ) (h:l[i]?=some s):(graph l).getD i []=tosF (snames l) s.ways:=by
 rw[graph,List.getD_eq_getElem?_getD,List.getElem?_map,h];rfl
theorem tosF_len (ns:List Str) (ys:List Wy):(tosF ns ys).length=ys.length:=by simp[tosF]
theorem tosF_at (ns:List Str) (ys:List Wy) (m:Nat) (y:Wy) (h:ys[m]?=some y):(tosF ns ys).getD m none=if y.now then fnd ns y.to else none:=by
 rw[tosF,List.getD_eq_getElem?_getD,List.getElem?_map,h];rfl
theorem statesE_dist {vs:List Decl}{R:List ρ->Nat->Res}{ns:List Str}:∀{l:List (StF ρ)}{i n m:Nat},statesE vs R ns l i n=.ok m->∀j,j<l.length->∀s,l[j]?=some s->¬fndI ns s.name<((i+j:Nat):Int):=by
 intro l
 induction l with
 | nil=>intro i n m _ j hj;simp at hj
 | cons a r ih=>
  intro i n m h j hj s hs
  rw[statesE] at h
  split at h
  ·exact absurd h (by simp)
  ·rename_i hz
   split at h
   ·exact absurd h (by simp)
   ·cases j with
    | zero=>
     obtain rfl:a=s:=by simpa using hs
     intro hlt
     apply hz
     unfold stateE
     rw[if_pos (by simpa using hlt)]
     simp
    | succ j=>
     have:=ih h j (by simpa using hj) s (by simpa using hs)
     rw[show i+(j+1)=i+1+j by omega];exact this
theorem regF_dist {vs:List Decl}{R:List ρ->Nat->Res}{l:List (StF ρ)}{n m:Nat}(h:statesE vs R (snames l) l 0 n=.ok m):Dist (snames l):=by
 intro i hi
 rw[snames_len] at hi
 have:=statesE_dist h i hi _ (List.getElem?_eq_getElem hi)
 rw[snames_at l i _ (List.getElem?_eq_getElem hi)]
 simpa using this
end
end Px
end
end Go.Proofs.YtpogmfliojcnjaaGreatDoor
