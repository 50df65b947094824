import Derived.Ground.SlmcProg
import Derived.Ground.SlmpProg
import Derived.Shelf.SlMaps.Clone
import Derived.Shelf.SlMaps.Copy
import Derived.Test.YtpogmfliojcnjaaGreatDoorProg
import Derived.Test.YtpogmfliojcnjaaGreatDoorSCk2
import Derived.Test.YtpogmfliojcnjaaGreatDoorSCe2
import Derived.Test.YtpogmfliojcnjaaGreatDoorSCr
import Derived.Maps.OwnSet
import Derived.Test.YtpogmfliojcnjaaGreatDoorSCo2
namespace Go.Proofs
open Go.Shelf
def Tryz.cloneE_ren:Go.Shelf.Ren:=⟨fun|5=>34|7=>64|n=>n,fun|23=>74|25=>9|3=>2|4=>4|20=>20|n=>n,fun|n=>n⟩
theorem Tryz.cloneE:Go.Proofs.SlLaysW.n5 Tryz.prog Tryz.cloneE_ren:={
 mixed:=by kernel_rfl
 f5:=⟨Tryz.f34.name,by decide,Tryz.func34.trans (congrArg some (by kernel_rfl))⟩
 f7:=Tryz.func64.trans (congrArg some (by kernel_rfl))
 t4:=Tryz.underlying4
 a4:=Tryz.isAgg4
 z4:=Tryz.sizeOf4
 v4:=Tryz.zeroValue4
 t20:=Tryz.underlying20
 a20:=Tryz.isAgg20
 z20:=Tryz.sizeOf20
 v20:=Tryz.zeroValue20
 t23:=Tryz.underlying74
 a23:=Tryz.isAgg74
 z23:=Tryz.sizeOf74
 v23:=Tryz.zeroValue74 }
def Tryz.copyE_ren:Go.Shelf.Ren:=⟨fun|5=>39|n=>n,fun|23=>74|24=>74|26=>9|27=>2|0=>0|4=>4|n=>n,fun|n=>n⟩
theorem Tryz.copyE:Go.Proofs.SlLaysX.n5 Tryz.prog Tryz.copyE_ren:={
 mixed:=by kernel_rfl
 f5:=⟨Tryz.f39.name,by decide,Tryz.func39.trans (congrArg some (by kernel_rfl))⟩
 t0:=Tryz.underlying0
 a0:=Tryz.isAgg0
 z0:=Tryz.sizeOf0
 v0:=Tryz.zeroValue0
 t4:=Tryz.underlying4
 a4:=Tryz.isAgg4
 z4:=Tryz.sizeOf4
 v4:=Tryz.zeroValue4
 t23:=Tryz.underlying74
 a23:=Tryz.isAgg74
 z23:=Tryz.sizeOf74
 v23:=Tryz.zeroValue74
 t24:=Tryz.underlying74
 a24:=Tryz.isAgg74
 z24:=Tryz.sizeOf74
 v24:=Tryz.zeroValue74
 a26:=Tryz.isAgg9
 z26:=Tryz.sizeOf9
 a27:=Tryz.isAgg2
 z27:=Tryz.sizeOf2 }
end Go.Proofs
namespace Go.Proofs.YtpogmfliojcnjaaGreatDoor
section
open Go.RowKit
namespace Px
abbrev Env:=Str->Int
def evE (now was:Env):E->Int
 | .nil=>0
 | .node _ _ a l r=>if a.code=1 then a.num else if a.code=2 then now a.name else if a.code=3 then was a.name else if a.code=4\/a.code=5 then vOne a.code (evE now was l) else vTwo a.code (evE now was l) (evE now was r)
def updE (n:Env) (s:Str) (x:Int):Env:=fun t=>if s=t then x else n t
def doS (was:Env):List Asg->Env->Env
 | [],n=>n
 | a::r,n=>doS was r (updE n a.name (evE n was a.e))
def noE:E->Bool
 | .nil=>true
 | .node _ _ _ _ _=>false
def isSo (ov:Bool) (now was:Env) (y:Wy):Bool:=(!decide (y.kind=2)||ov)&&(noE y.cond||decide (evE now was y.cond≠0))
def opnI (ov:Bool) (now was:Env) (asked:Wy->Bool) (ys:List Wy):Nat->Nat->List Int->Option Nat×List Int
 | 0,_,cs=>(none,cs)
 | f+1,i,cs=>match ys[i]? with
  | none=>(none,cs)
  | some y=>
   if asked y&&isSo ov now was y then
    if (y.times:Int)≤wrap64 (cs.getD i 0+1) then (some i,cs.set i (wrap64 (cs.getD i 0+1))) else opnI ov now was asked ys f (i+1) (cs.set i (wrap64 (cs.getD i 0+1)))
   else opnI ov now was asked ys f (i+1) cs
def opnW (ov:Bool) (now was:Env) (asked:Wy->Bool) (ys:List Wy) (cs:List Int):Option Nat×List Int:=opnI ov now was asked ys ys.length 0 cs
def askNS (y:Wy):Bool:=y.now&&decide (y.kind=1)
def askNW (y:Wy):Bool:=y.now && !decide (y.kind=1)
def askS (y:Wy):Bool:=decide (y.kind=1)
def askW (y:Wy):Bool:=!decide (y.kind=1)
structure SdF (ρ:Type) where
 so:List Int
 inside:List ρ
structure RdF (ρ:Type) where
 there:Option Nat
 was:Option Nat
 sts:List (SdF ρ)
def Rd:Nat->Type
 | 0=>Unit
 | k+1=>RdF (Rd k)
structure Ops (σ ρ:Type) where
 over:List σ->ρ->Bool
 enter:Env->Bool->List σ->Env->ρ->Option (Env×ρ)
 go:Env->List σ->Env->ρ->Option (Env×ρ)
 leave:Env->List σ->Env->ρ->Option (Env×ρ)
section
variable {σ ρ:Type}
def allI (f:List σ->Env->ρ->Option (Env×ρ)) (rs:List (List σ)):Nat->Nat->Env->List ρ->Option (Env×List ρ)
 | 0,_,n,ds=>some (n,ds)
 | fu+1,i,n,ds=>match rs[i]?,ds[i]? with
  | some r,some d=>match f r n d with
   | none=>none
   | some p=>allI f rs fu (i+1) p.1 (ds.set i p.2)
  | _,_=>none
def overs (O:Ops σ ρ):List (List σ)->List ρ->Bool
 | r::rs,d::ds=>O.over r d&&overs O rs ds
 | _,_=>true
def firstI (L:List (StF σ)):Option Nat:=L.findIdx? (·.first)
def overR (L:List (StF σ)) (d:RdF ρ):Bool:=match d.there with
 | none=>false
 | some i=>match L[i]? with
  | none=>false
  | some s=>s.last
def leaveR (O:Ops σ ρ) (was:Env) (L:List (StF σ)) (n:Env) (d:RdF ρ):Option (Env×RdF ρ):=match d.there with
 | none=>some (n,d)
 | some i=>match L[i]?,d.sts[i]? with
  | some s,some x=>match allI (O.leave was) s.regions s.regions.length 0 n x.inside with
   | none=>none
   | some p=>some (doS was s.leave p.1,⟨none,some i,d.sts.set i ⟨x.so,p.2⟩⟩)
  | _,_=>none
def arriveR (O:Ops σ ρ) (was:Env) (L:List (StF σ)) (i:Nat) (back:Bool) (n:Env) (d:RdF ρ):Option (Option Nat×Env×RdF ρ):=match L[i]?,d.sts[i]? with
 | some s,some x=>
  let n1:=doS was s.enter n
  let o1:=opnW (overs O s.regions x.inside) n1 was askNS s.ways (List.replicate s.ways.length 0)
  match o1.1 with
  | some j=>some (some j,n1,⟨some i,d.was,d.sts.set i ⟨o1.2,x.inside⟩⟩)
  | none=>match allI (O.enter was back) s.regions s.regions.length 0 n1 x.inside with
   | none=>none
   | some p=>
    let o2:=opnW (overs O s.regions p.2) p.1 was askNW s.ways o1.2
    some (o2.1,p.1,⟨some i,d.was,d.sts.set i ⟨o2.2,p.2⟩⟩)
 | _,_=>none
def passR (O:Ops σ ρ) (was:Env) (L:List (StF σ)) (n:Env) (d:RdF ρ):Option (Option Nat×Env×RdF ρ):=match d.there with
 | none=>none
 | some i=>match L[i]?,d.sts[i]? with
  | some s,some x=>
   let o1:=opnW (overs O s.regions x.inside) n was askS s.ways x.so
   match o1.1 with
   | some j=>some (some j,n,⟨some i,d.was,d.sts.set i ⟨o1.2,x.inside⟩⟩)
   | none=>
    if evE n was s.rests≠0 then some (none,n,⟨some i,d.was,d.sts.set i ⟨o1.2,x.inside⟩⟩)
    else match allI (O.go was) s.regions s.regions.length 0 (doS was s.during n) x.inside with
     | none=>none
     | some p=>
      let o2:=opnW (overs O s.regions p.2) p.1 was askW s.ways o1.2
      some (o2.1,p.1,⟨some i,d.was,d.sts.set i ⟨o2.2,p.2⟩⟩)
  | _,_=>none
def takeR (O:Ops σ ρ) (was:Env) (L:List (StF σ)) (j:Nat) (n:Env) (d:RdF ρ):Option (Option Nat×Env×RdF ρ):=match d.there with
 | none=>none
 | some i=>match L[i]? with
  | none=>none
  | some s=>match s.ways[j]? with
   | none=>none
   | some y=>match leaveR O was L n d with
    | none=>none
    | some p=>match fnd (snames L) y.to with
     | none=>none
     | some t=>arriveR O was L t y.back (doS was y.sets p.1) p.2
def followR (O:Ops σ ρ) (was:Env) (L:List (StF σ)):Nat->Option Nat->Env->RdF ρ->Option (Env×RdF ρ)
 | _,none,n,d=>some (n,d)
 | 0,some _,_,_=>none
 | f+1,some j,n,d=>match takeR O was L j n d with
  | none=>none
  | some p=>followR O was L f p.1 p.2.1 p.2.2
def enterAt (O:Ops σ ρ) (was:Env) (L:List (StF σ)) (i:Nat) (back:Bool) (n:Env) (d:RdF ρ):Option (Env×RdF ρ):=match arriveR O was L i back n d with
 | none=>none
 | some p=>followR O was L (L.length+2) p.1 p.2.1 p.2.2
def enterR (O:Ops σ ρ) (was:Env) (back:Bool) (L:List (StF σ)) (n:Env) (d:RdF ρ):Option (Env×RdF ρ):=match back,d.was with
 | true,some i=>enterAt O was L i true n d
 | _,_=>match firstI L with
  | none=>none
  | some i=>enterAt O was L i false n d
def goR (O:Ops σ ρ) (was:Env) (L:List (StF σ)) (n:Env) (d:RdF ρ):Option (Env×RdF ρ):=match passR O was L n d with
 | none=>none
 | some p=>followR O was L (L.length+2) p.1 p.2.1 p.2.2
def OpsF (O:Ops σ ρ):Ops (StF σ) (RdF ρ):=⟨overR,enterR O,goR O,leaveR O⟩
end
def OpsK:(k:Nat)->Ops (St k) (Rd k)
 | 0=>⟨fun _ _=>false,fun _ _ _ n d=>some (n,d),fun _ _ n d=>some (n,d),fun _ _ n d=>some (n,d)⟩
 | k+1=>OpsF (OpsK k)
def layD:(k:Nat)->List (St k)->Rd k
 | 0=>fun _=>()
 | k+1=>fun L=>⟨none,none,List.map (fun s:StF (St k)=>⟨s.ways.map fun _=>0,s.regions.map (layD k)⟩) L⟩
structure Rn where
 now:Env
 was:Env
 ds:List (Rd 6)
def firstE (vs:List Decl):Env:=vs.foldl (fun n v=>updE n v.name v.first) (fun _=>0)
def hearE:List Decl->List Int->Env->Env
 | [],_,n=>n
 | v::r,ins,n=>if v.kind=1 then hearE r ins.tail (updE n v.name (ins.headD 0)) else hearE r ins n
def newC (c:Chart):Rn:=⟨firstE c.vars,firstE c.vars,c.regions.map (layD 6)⟩
def tickG (was:Env) (L:List (St 6)) (n:Env) (d:Rd 6):Option (Env×Rd 6):=
 if (show RdF (Rd 5) from d).there=none then (OpsK 6).enter was false L n d else (OpsK 6).go was L n d
def tellC (p:Nat->Bool) (vs:List Decl) (n:Env):List Int:=(vs.filter fun v=>p v.kind).map fun v=>n v.name
def tickC (c:Chart) (ins:List Int) (r:Rn):Option Rn:=match allI (tickG r.was) c.regions c.regions.length 0 (hearE c.vars ins r.now) r.ds with
 | none=>none
 | some p=>some ⟨p.1,p.1,p.2⟩
def outsC (c:Chart) (r:Rn):List Int:=tellC (fun k=>decide (k=2)) c.vars r.now
def thereF {σ ρ:Type}(f:List σ->ρ->List Str) (L:List (StF σ)) (d:RdF ρ):List Str:=match d.there with
 | none=>[]
 | some i=>match L[i]?,d.sts[i]? with
  | some s,some x=>s.name::(List.zipWith f s.regions x.inside).flatten
  | _,_=>[]
def thereK:(k:Nat)->List (St k)->Rd k->List Str
 | 0=>fun _ _=>[]
 | k+1=>fun L d=>thereF (thereK k) L d
def thereC (c:Chart) (r:Rn):List Str:=(List.zipWith (thereK 6) c.regions r.ds).flatten
end Px
end
section
open Go.RowKit Go.Maps Go.WideMaps Px
def N64 (x:Int):Prop:=-9223372036854775808≤x/\x≤9223372036854775807
theorem N64.wf {x:Int}(h:N64 x):(Lit.int .i64 x).wf=true:=by
 have e1:IntKind.i64.min=-9223372036854775808:=by decide
 have e2:IntKind.i64.max=9223372036854775807:=by decide
 unfold N64 at h
 simp[Lit.wf,e1,e2]
 omega
theorem N64.of_wf {x:Int}(h:(Lit.int .i64 x).wf=true):N64 x:=by
 have e1:IntKind.i64.min=-9223372036854775808:=by decide
 have e2:IntKind.i64.max=9223372036854775807:=by decide
 simp[Lit.wf,e1,e2] at h
 exact ⟨h.1,h.2⟩
theorem N64.zero:N64 0:=by unfold N64;omega
theorem yes_n64 (b:Bool):N64 (yes b):=by unfold N64 yes;split<;>omega
theorem vOne_n64 (c a:Int):N64 (vOne c a):=by
 unfold vOne
 split
 ·exact wrap64_lo _
 ·split
  ·exact yes_n64 _
  ·exact N64.zero
theorem vTwo_n64 {c a b:Int}(hb:N64 b):N64 (vTwo c a b):=by
 unfold vTwo
 repeat' split
 all_goals first
  | exact wrap64_lo _
  | exact yes_n64 _
  | exact N64.zero
  | skip
 ·unfold vDiv;split
  ·exact N64.zero
  ·exact wrap64_lo _
 ·unfold vMod;split
  ·exact N64.zero
  ·have:=tmod_small a b hb (by assumption)
   unfold N64
   omega
theorem smapZero64 (w:World):(zeroValue 2).run Tryz.prog w=.ok (.int .i64 0) w:=by kernel_rfl
def MapE (w:World) (b m:Nat) (ns:List Str) (f:Px.Env):Prop:=
 ∃D:DataW Unit,w.ownsMap Tryz.prog 9 (plainElem Tryz.prog 2) b (Maps.size D) D/\Maps.size D≤m/\(∀s∈ns,Maps.has D (.string s)=true)/\(∀s:Str,Maps.has D (.string s)=true->s∈ns)/\∀(s:Str),D.atKey (.string s) (.lit (.int .i64 0))=.lit (.int .i64 (f s))
section
variable {w w':World}{b m:Nat}{ns:List Str}{f g:Px.Env}
theorem MapE.lt (h:MapE w b m ns f):b<w.heap.size:=by obtain ⟨D,h,_⟩:=h;exact h.lt
theorem MapE.keep (h:MapE w b m ns f) (hb:w'.heap[b]?=w.heap[b]?):MapE w' b m ns f:=by
 obtain ⟨D,⟨es,clock,h1,h2⟩,h3⟩:=h
 exact ⟨D,⟨es,clock,by rw[hb];exact h1,h2⟩,h3⟩
theorem MapE.below (h:MapE w b m ns f) (hb:Below w.heap.size w w'):MapE w' b m ns f:=h.keep (hb.block b h.lt)
theorem MapE.look (h:MapE w b m ns f) {s:Str}(hs:s.length≤maxLen) :
    (Instr.lookup 74 (.map (some b)) (sv s) false).run Tryz.prog w=.ok (.int .i64 (f s)) w/\N64 (f s):=by
 obtain ⟨D,h1,_,_,_,h2⟩:=h
 obtain ⟨c,hrun,hat,hwc⟩:=h1.lookup_int smapLaw Tryz.underlying74 Tryz.underlying2 (smapZero64 w) (sKey hs)
 rw[h2 s] at hat
 injection hat with hat
 injection hat with _ hat
 rw[hat]
 exact ⟨hrun,N64.of_wf hwc⟩
theorem mapE_size {D:DataW Unit}{n:Nat}(h:w.ownsMap Tryz.prog 9 (plainElem Tryz.prog 2) b n D):w.ownsMap Tryz.prog 9 (plainElem Tryz.prog 2) b (Maps.size D) D:=by
 obtain ⟨es,clock,h1,h2,h3,rfl⟩:=h
 refine ⟨es,clock,h1,h2,?_,rfl⟩
 show es.size≤((es.toList.map _).foldr DataW.insert []).length
 rw[length_sorted];simp
theorem MapE.put (h:MapE w b m ns f) (hm:m≤1000000) {s:Str}(hn:s∈ns) (hs:s.length≤maxLen) {x:Int}(hx:N64 x) :
    ∃w',(Instr.mapUpdate 74 (.map (some b)) (sv s) (.int .i64 x)).run Tryz.prog w=.ok () w'/\MapE w' b m ns (updE f s x)/\w.grownBy w' (some b):=by
 obtain ⟨D,hD,hz,hk,ho,hat⟩:=h
 obtain ⟨w',hrun,hD',hg⟩:=hD.update smapLaw Tryz.underlying74 (by unfold maxLen;omega) (sKey hs) (plainElem_int Tryz.underlying2 hx.wf)
 refine ⟨w',hrun,⟨_,mapE_size hD',?_,fun t ht=>?_,fun t ht=>?_,fun t=>?_⟩,hg⟩
 ·rw[Maps.size_put (hD.tidy smapLaw),hk s hn];exact hz
 ·by_cases e:s=t
  ·subst e;exact Maps.has_put_same hD.isMap (by simp[WideAt.IsKeyLit]) _
  ·rw[Maps.has_put_other (by intro hh;injection hh with hh;exact e hh.symm)];exact hk t ht
 ·by_cases e:s=t
  ·rw[<-e];exact hn
  ·rw[Maps.has_put_other (by intro hh;injection hh with hh;exact e hh.symm)] at ht;exact ho t ht
 ·by_cases e:s=t
  ·subst e
   rw[atKey_put_same hD.isMap (k:=.string s) (by simp[WideAt.IsKeyLit])]
   simp[updE]
  ·rw[atKey_put_other (by intro hh;injection hh with hh;exact e hh.symm),hat t]
   simp[updE,e]
theorem MapE.add (h:MapE w b m ns f) (hm:m<1000000) {s:Str}(hs:s.length≤maxLen) {x:Int}(hx:N64 x) :
    ∃w',(Instr.mapUpdate 74 (.map (some b)) (sv s) (.int .i64 x)).run Tryz.prog w=.ok () w'/\MapE w' b (m+1) (s::ns) (updE f s x)/\w.grownBy w' (some b):=by
 obtain ⟨D,hD,hz,hk,ho,hat⟩:=h
 obtain ⟨w',hrun,hD',hg⟩:=hD.update smapLaw Tryz.underlying74 (by unfold maxLen;omega) (sKey hs) (plainElem_int Tryz.underlying2 hx.wf)
 refine ⟨w',hrun,⟨_,mapE_size hD',?_,fun t ht=>?_,fun t ht=>?_,fun t=>?_⟩,hg⟩
 ·rw[Maps.size_put (hD.tidy smapLaw)];split<;>omega
 ·by_cases e:s=t
  ·subst e;exact Maps.has_put_same hD.isMap (by simp[WideAt.IsKeyLit]) _
  ·rw[Maps.has_put_other (by intro hh;injection hh with hh;exact e hh.symm)]
   rcases List.mem_cons.1 ht with h|h
   ·exact absurd h.symm e
   ·exact hk t h
 ·by_cases e:s=t
  ·rw[<-e];simp
  ·rw[Maps.has_put_other (by intro hh;injection hh with hh;exact e hh.symm)] at ht;exact List.mem_cons_of_mem _ (ho t ht)
 ·by_cases e:s=t
  ·subst e
   rw[atKey_put_same hD.isMap (k:=.string s) (by simp[WideAt.IsKeyLit])]
   simp[updE]
  ·rw[atKey_put_other (by intro hh;injection hh with hh;exact e hh.symm),hat t]
   simp[updE,e]
theorem mapE_made (w:World):MapE (w.alloc (.map #[] 0)) w.heap.size 0 [] (fun _=>0):=
 ⟨.map [],World.ownsMap_made _ _ _ _,Nat.le_refl _,fun _ h=>absurd h (by simp),fun _ h=>absurd h (by simp[Maps.has]),fun _=>rfl⟩
end
end
section
open Go.RowKit Go.Maps Go.WideMaps Px
theorem size_foldPut:∀(es:List (Lit×DataW Unit)) (D:DataW Unit),Tidy D->(∀p∈es,WideAt.IsKeyLit p.1/\Maps.has D p.1=true)->Maps.size (es.foldl (fun D p=>D.put p.1 p.2) D)=Maps.size D
 | [],_,_,_=>rfl
 | a::r,D,hT,hk=>by
  rw[List.foldl_cons,size_foldPut r _ (hT.put (hk a (by simp)).1 a.2) (fun p hp=>⟨(hk p (List.mem_cons_of_mem _ hp)).1,?_⟩),size_put hT,(hk a (by simp)).2,if_pos rfl]
  by_cases e:p.1=a.1
  ·rw[e];exact Maps.has_put_same hT.isMap (hk a (by simp)).1 _
  ·rw[Maps.has_put_other e];exact (hk p (List.mem_cons_of_mem _ hp)).2
section
variable {w:World}{b bd bs m:Nat}{ns:List Str}{f g:Px.Env}
theorem mclone_any (h:MapE w b m ns f):Calls Tryz.prog 34 #[.map (some b)] w fun e w'=>e=.returned (.map (some w.heap.size))/\Hid (MapE w' w.heap.size m ns f/\MapE w' b m ns f/\Below w.heap.size w w'):=by
 obtain ⟨D,hD,h1⟩:=h
 refine (AnyW.maps_Clone_owns Tryz.cloneE 9 (plainElem Tryz.prog 2) b (Maps.size D) D w hD).mono ?_
 rintro e w' ⟨he,h2,h3,h4⟩
 exact ⟨he,⟨D,h2,h1⟩,⟨D,h3,h1⟩,h4⟩
theorem keys_string {D:DataW Unit}{n:Nat}(h:w.ownsMap Tryz.prog 9 (plainElem Tryz.prog 2) b n D):∃es,D=.map es/\es.Pairwise (fun p q=>p.1≠q.1)/\∀p∈es,∃s,p.1=Lit.string s:=by
 obtain ⟨es,rfl,hp⟩:=h.tidy smapLaw
 obtain ⟨es',e,_,hk⟩:=h.canonK smapLaw
 injection e with e
 subst e
 refine ⟨es,rfl,hp,fun p hm=>?_⟩
 obtain ⟨v,hv⟩:=hk p hm
 exact (WideMaps.string_law Tryz.underlying9).str hv
theorem mcopy_any (hd:MapE w bd m ns f) (hs:MapE w bs m ns g) (hne:bd≠bs) (hm:m≤1000000):Calls Tryz.prog 39 #[.map (some bd),.map (some bs)] w fun e w'=>e=.returned (.tuple #[])/\Hid (MapE w' bd m ns g/\MapE w' bs m ns g/\w.grownBy w' (some bd)):=by
 obtain ⟨Dd,hD,hz,hk,ho,hat⟩:=hd
 obtain ⟨Ds,hD2,hz2,hk2,ho2,hat2⟩:=hs
 refine (AnyX.maps_Copy Tryz.copyE smapLaw (plainElem Tryz.prog 2) bd bs (Maps.size Dd) (Maps.size Ds) Dd Ds w hD hD2 hne (by unfold maxLen;omega)).mono ?_
 rintro e w' ⟨he,h2,h3,h4⟩
 obtain ⟨es,rfl,hp,hks⟩:=keys_string hD2
 have hkl:∀p∈es,WideAt.IsKeyLit p.1:=fun p hp=>by obtain ⟨s,e⟩:=hks p hp;rw[e];simp[WideAt.IsKeyLit]
 have hany:∀s:Str,Maps.has (.map es:DataW Unit) (.string s)=es.any (fun p=>p.1.sameKey (.string s)):=fun s=>rfl
 have hin:∀p∈es,Maps.has Dd p.1=true:=fun p hp=>by
  obtain ⟨s,e⟩:=hks p hp
  rw[e]
  refine hk s (ho2 s ?_)
  rw[hany,List.any_eq_true]
  exact ⟨p,hp,by rw[e];exact WideAt.sameKey_self (by simp[WideAt.IsKeyLit])⟩
 have hsz:Maps.size (Lib.mergeD Dd (.map es))=Maps.size Dd:=size_foldPut es Dd (hD.tidy smapLaw) fun p hp=>⟨hkl p hp,hin p hp⟩
 have hh:∀s:Str,Maps.has (Lib.mergeD Dd (.map es)) (.string s)=(Maps.has Dd (.string s)||es.any (fun p=>p.1.sameKey (.string s))):=fun s=>has_foldPut (.string s) es Dd hD.isMap hkl
 refine ⟨he,⟨_,mapE_size h2,by rw[hsz];exact hz,fun s hs=>by rw[hh,hk s hs];rfl,fun s hs=>?_,fun s=>?_⟩,⟨_,h3,hz2,hk2,ho2,hat2⟩,h4⟩
 ·rw[hh,Bool.or_eq_true] at hs
  rcases hs with hs|hs
  ·exact ho s hs
  ·exact ho2 s hs
 ·have ha:=atKey_foldPut (.string s) (.lit (.int .i64 0)) es Dd hD.isMap hkl hp
  refine ha.trans ?_
  have h5:=hat2 s
  have hdef:(DataW.map es:DataW Unit).atKey (.string s) (.lit (.int .i64 0))=match es.find? (fun p=>p.1.sameKey (.string s)) with|some p=>p.2|none=>.lit (.int .i64 0):=by
   simp only[DataW.atKey]
   cases es.find? (fun p=>p.1.sameKey (.string s))<;>rfl
  rw[hdef] at h5
  cases hf:es.find? (fun p=>p.1.sameKey (.string s)) with
  | some p=>rw[hf] at h5;exact h5
  | none=>
   rw[hf] at h5
   simp only at h5 ⊢
   rw[hat s]
   have hno:s∉ns:=fun hs=>by
    have:=hk2 s hs
    rw[hany,List.any_eq_true] at this
    obtain ⟨p,hp',hk'⟩:=this
    rw[List.find?_eq_none] at hf
    exact hf p hp' hk'
   have hnd:Maps.has Dd (.string s)=false:=by
    cases hx:Maps.has Dd (.string s) with
    | false=>rfl
    | true=>exact absurd (ho s hx) hno
   have:=Maps.atKey_of_not_has hnd (.lit (.int .i64 0))
   rw[hat s] at this
   rw[this]
   exact h5
end
end
section
open Go.RowKit Px
def nowV (bx:Nat):Value:=.func (.func 156) #[] #[.pointer (some ⟨bx,0,none⟩)]
def wasV (bx:Nat):Value:=.func (.func 157) #[] #[.pointer (some ⟨bx,0,none⟩)]
structure RunV (w:World) (rb bn bw m:Nat) (ns:List Str) (now was:Px.Env):Prop where
 hn:w.cell? ⟨rb,1,none⟩=some (.map (some bn))
 hw:w.cell? ⟨rb,2,none⟩=some (.map (some bw))
 mn:MapE w bn m ns now
 mw:MapE w bw m ns was
 hm:m≤1000000
def BoxV (w:World) (bx rb bn bw m:Nat) (ns:List Str) (now was:Px.Env):Prop:=w.cell? ⟨bx,0,none⟩=some (.pointer (some ⟨rb,0,none⟩))/\RunV w rb bn bw m ns now was
section
variable {A:Nat->Prop}{w w':World}{bx rb bn bw m:Nat}{ns:List Str}{now was:Px.Env}
theorem RunV.below (h:RunV w rb bn bw m ns now was) (hb:Below w.heap.size w w'):RunV w' rb bn bw m ns now was:=
 ⟨ck_cell hb h.hn,ck_cell hb h.hw,h.mn.below hb,h.mw.below hb,h.hm⟩
theorem BoxV.below (h:BoxV w bx rb bn bw m ns now was) (hb:Below w.heap.size w w'):BoxV w' bx rb bn bw m ns now was:=⟨ck_cell hb h.1,h.2.below hb⟩
theorem tell1_any {s:Str}(h:BoxV w bx rb bn bw m ns now was) (hs:s.length≤maxLen) :
    Calls Tryz.prog 156 #[sv s,.pointer (some ⟨bx,0,none⟩)] w fun e w'=>e=.returned (.int .i64 (now s))/\w'=w:=by
 have c0:=h.1
 have c1:=h.2.hn
 have hl:=(h.2.mn.look hs).1
 generalize sv s=S at hl ⊢
 clear h
 go_enter Tryz.func156,Tryz.ntmps156
 go_wp2_with fail
 go_ret
 exact ⟨rfl,rfl⟩
theorem tell2_any {s:Str}(h:BoxV w bx rb bn bw m ns now was) (hs:s.length≤maxLen) :
    Calls Tryz.prog 157 #[sv s,.pointer (some ⟨bx,0,none⟩)] w fun e w'=>e=.returned (.int .i64 (was s))/\w'=w:=by
 have c0:=h.1
 have c1:=h.2.hw
 have hl:=(h.2.mw.look hs).1
 generalize sv s=S at hl ⊢
 clear h
 go_enter Tryz.func157,Tryz.ntmps157
 go_wp2_with fail
 go_ret
 exact ⟨rfl,rfl⟩
theorem nn1 (x:Value) (w:World):(binOp BinOp.eql 217 (.func (.func 156) #[] #[x]) .nilFunc).run Tryz.prog w=.ok (.bool false) w:=by kernel_rfl
theorem nn2 (x:Value) (w:World):(binOp BinOp.eql 217 (.func (.func 157) #[] #[x]) .nilFunc).run Tryz.prog w=.ok (.bool false) w:=by kernel_rfl
theorem askN_any {s:Str}(h:BoxV w bx rb bn bw m ns now was) (hs:s.length≤maxLen) :
    Calls Tryz.prog 186 #[nowV bx,sv s] w fun e w'=>e=.returned (.int .i64 (now s))/\Hid (Below w.heap.size w w'):=by
 have hmf:∀(fn:Fn) (first cap:Array Value) (w:World),(Instr.makeFunc fn first cap).run Tryz.prog w=.ok (.func fn first cap) w:=fun _ _ _ _=>rfl
 have q0:=nn1
 have hcall:=tell1_any (h.below (ck_grown w (.cells #[.int .i64 0] 2))) hs
 clear h
 unfold nowV
 generalize now s=x at hcall ⊢
 generalize sv s=S at hcall ⊢
 go_enter_defers Tryz.func186,Tryz.ntmps186
 go_wp2_with (refine hcall.mono ?_;rintro e w' ⟨rfl,rfl⟩)
 refine leaves_cons (f:=219) (args:=#[.pointer (some ⟨w.heap.size,0,none⟩)]) (by simp) (by simp[go_sem]) ?_
 refine (ck_catch ⟨w.heap.size,0,none⟩ _).mono ?_
 rintro e u' w'' ⟨rfl,rfl,rfl⟩
 have hfin:Hid (Below w.heap.size w (w.alloc (.cells #[.int .i64 x] 2))):=ck_grown w _
 simp[Leaves,settle,results,Tryz.results186,go_sem]
 exact hfin
theorem askW_any {s:Str}(h:BoxV w bx rb bn bw m ns now was) (hs:s.length≤maxLen) :
    Calls Tryz.prog 186 #[wasV bx,sv s] w fun e w'=>e=.returned (.int .i64 (was s))/\Hid (Below w.heap.size w w'):=by
 have hmf:∀(fn:Fn) (first cap:Array Value) (w:World),(Instr.makeFunc fn first cap).run Tryz.prog w=.ok (.func fn first cap) w:=fun _ _ _ _=>rfl
 have q0:=nn2
 have hcall:=tell2_any (h.below (ck_grown w (.cells #[.int .i64 0] 2))) hs
 clear h
 unfold wasV
 generalize was s=x at hcall ⊢
 generalize sv s=S at hcall ⊢
 go_enter_defers Tryz.func186,Tryz.ntmps186
 go_wp2_with (refine hcall.mono ?_;rintro e w' ⟨rfl,rfl⟩)
 refine leaves_cons (f:=219) (args:=#[.pointer (some ⟨w.heap.size,0,none⟩)]) (by simp) (by simp[go_sem]) ?_
 refine (ck_catch ⟨w.heap.size,0,none⟩ _).mono ?_
 rintro e u' w'' ⟨rfl,rfl,rfl⟩
 have hfin:Hid (Below w.heap.size w (w.alloc (.cells #[.int .i64 x] 2))):=ck_grown w _
 simp[Leaves,settle,results,Tryz.results186,go_sem]
 exact hfin
def EvTo (x:Int) (w:World) (r:Ending) (w':World):Prop:=r=.returned (.int .i64 x)/\Hid (Below w.heap.size w w')
def NuOk:E->Prop
 | .nil=>True
 | .node _ _ a l r=>a.name.length≤maxLen/\N64 a.num/\NuOk l/\NuOk r
def EvR (A:Nat->Prop) (bx rb bn bw m:Nat) (ns:List Str) (now was:Px.Env) (e:E):Prop:=∀(w:World) (v:Value),IsE A w e v->BoxV w bx rb bn bw m ns now was->
 Calls Tryz.prog 155 #[v,.agg #[nowV bx,wasV bx]] w (EvTo (evE now was e) w)
theorem evr_nil (w:World):Calls Tryz.prog 155 #[.pointer none,.agg #[nowV bx,wasV bx]] w (EvTo 0 w):=by
 unfold nowV wasV
 go_enter Tryz.func155,Tryz.ntmps155
 go_wp2_with fail
 go_ret
 exact ⟨rfl,ck_grown w _⟩
set_option maxHeartbeats 1000000 in
theorem evr_num (w:World) {g:Nat}{n:Int}{S:Value}{lv rv:Value}(hg:w.heap[g]?=some (.cells #[.int .i64 1,.int .i64 n,S,lv,rv] 132 (0,0))):Calls Tryz.prog 155 #[.pointer (some ⟨g,0,none⟩),.agg #[nowV bx,wasV bx]] w (EvTo n w):=by
 have c0:=fun o=>cell_row (ck_old (o':=o) hg) 0 (u:=.int .i64 1) rfl
 have c1:=fun o=>cell_row (ck_old (o':=o) hg) 1 (u:=.int .i64 n) rfl
 clear hg
 unfold nowV wasV
 go_enter Tryz.func155,Tryz.ntmps155
 go_wp2_with fail
 go_ret
 exact ⟨rfl,ck_grown w _⟩
set_option maxHeartbeats 2000000 in
theorem evr_name (w:World) {g:Nat}{c n:Int}(hc:c=2\/c=3) {s:Str}(hs:s.length≤maxLen) {lv rv:Value}(hg:w.heap[g]?=some (.cells #[.int .i64 c,.int .i64 n,sv s,lv,rv] 132 (0,0))) (h:BoxV w bx rb bn bw m ns now was):Calls Tryz.prog 155 #[.pointer (some ⟨g,0,none⟩),.agg #[nowV bx,wasV bx]] w (EvTo (if c=2 then now s else was s) w):=by
 obtain ⟨O,hO⟩:∃O,O=Obj.cells #[nowV bx,wasV bx] 219:=⟨_,rfl⟩
 have hbO:Below w.heap.size w (w.alloc O):=ck_grown w O
 have hbD:Below w.heap.size w (w.alloc O).drew:=hbO.drew
 have hcN:=askN_any (h.below hbD) hs
 have hcW:=askW_any (h.below hbD) hs
 have k0:(w.alloc O).heap[w.heap.size]?=some (.cells #[nowV bx,wasV bx] 219 (0,0)):=by rw[ck_new,hO]
 have e0:=cell_row k0 0 (u:=nowV bx) rfl
 have e1:=cell_row k0 1 (u:=wasV bx) rfl
 have c0:=cell_row (ck_old (o':=O) hg) 0 (u:=.int .i64 c) rfl
 have c2:=cell_row (ck_old (o':=O) hg) 2 (u:=sv s) rfl
 have HB:Hid (Below w.heap.size w (w.alloc O).drew):=hbD
 generalize sv s=S at hcN hcW c2
 generalize now s=x at hcN ⊢
 generalize was s=y at hcW ⊢
 unfold nowV wasV at hO ⊢
 unfold nowV at hcN e0
 unfold wasV at hcW e1
 rw[hO] at hcN hcW e0 e1 c0 c2 HB
 clear h hg hbO hbD k0 hO hs
 rcases hc with rfl|rfl
 ·rw[if_pos rfl]
  go_enter Tryz.func155,Tryz.ntmps155
  go_wp2_with fail
  go_region_with (refine hcN.mono ?_;rintro e w' ⟨rfl,hr⟩)
  all_goals
   go_wp2_with fail
   go_ret
   exact ⟨rfl,ck_all HB.out hr.out⟩
 ·rw[if_neg (by omega)]
  go_enter Tryz.func155,Tryz.ntmps155
  go_wp2_with fail
  go_region_with (refine hcW.mono ?_;rintro e w' ⟨rfl,hr⟩)
  all_goals
   go_wp2_with fail
   go_ret
   exact ⟨rfl,ck_all HB.out hr.out⟩
set_option maxHeartbeats 4000000 in
theorem evr_one (w:World) {g:Nat}{c n:Int}(hc:c=4\/c=5) {S:Value}{l:E}{lv rv:Value}(hg:w.heap[g]?=some (.cells #[.int .i64 c,.int .i64 n,S,lv,rv] 132 (0,0))) (hl:IsE A w l lv) (ih:EvR A bx rb bn bw m ns now was l) (h:BoxV w bx rb bn bw m ns now was):Calls Tryz.prog 155 #[.pointer (some ⟨g,0,none⟩),.agg #[nowV bx,wasV bx]] w (EvTo (vOne c (evE now was l)) w):=by
 obtain ⟨O,hO⟩:∃O,O=Obj.cells #[nowV bx,wasV bx] 219:=⟨_,rfl⟩
 have hbO:Below w.heap.size w (w.alloc O):=ck_grown w O
 have hbD:Below w.heap.size w (w.alloc O).drew:=hbO.drew
 have hcall:=ih (w.alloc O).drew lv (hl.carry fun x hx hlt=>⟨hx,hbD.block x hlt⟩) (h.below hbD)
 obtain ⟨p,rfl⟩:∃p,lv=.pointer p:=by
  cases l with
  | nil=>exact ⟨none,hl⟩
  | node _ _ _ _ _=>obtain ⟨g',_,_,e,_⟩:=hl;exact ⟨_,e⟩
 have k0:(w.alloc O).heap[w.heap.size]?=some (.cells #[nowV bx,wasV bx] 219 (0,0)):=by rw[ck_new,hO]
 have e0:=cell_row k0 0 (u:=nowV bx) rfl
 have e1:=cell_row k0 1 (u:=wasV bx) rfl
 have c0:=cell_row (ck_old (o':=O) hg) 0 (u:=.int .i64 c) rfl
 have c3:=cell_row (ck_old (o':=O) hg) 3 (u:=.pointer p) rfl
 have HP:Hid (∀w',Below (w.alloc O).drew.heap.size (w.alloc O).drew w'->w'.cell? ⟨g,0,none⟩=some (.int .i64 c)/\w'.cell? ⟨g,3,none⟩=some (.pointer p)/\w'.cell? ⟨w.heap.size,0,none⟩=some (nowV bx)/\w'.cell? ⟨w.heap.size,1,none⟩=some (wasV bx)):=fun w' hF=>
  ⟨ck_cell hF c0,ck_cell hF c3,ck_cell hF e0,ck_cell hF e1⟩
 have HB:Hid (Below w.heap.size w (w.alloc O).drew):=hbD
 have hone:=one_any
 unfold EvTo at hcall
 generalize evE now was l=x at hcall ⊢
 unfold nowV wasV at hO hcall HP ⊢
 unfold nowV at e0
 unfold wasV at e1
 rw[hO] at hcall e0 e1 c0 c3 HB HP
 clear h hg hbO hbD k0 hO hl ih
 rcases hc with rfl|rfl
 ·go_enter Tryz.func155,Tryz.ntmps155
  go_wp2_with fail
  go_region_held3 (fun w'=>w'.cell? ⟨g,0,none⟩=some (.int .i64 4)/\w'.cell? ⟨g,3,none⟩=some (.pointer p)/\w'.cell? ⟨w.heap.size,0,none⟩=some (Value.func (.func 156) #[] #[.pointer (some ⟨bx,0,none⟩)])/\w'.cell? ⟨w.heap.size,1,none⟩=some (Value.func (.func 157) #[] #[.pointer (some ⟨bx,0,none⟩)])) (first|exact HP.out _ hr.out|go_keep)
   (first
    | (go_at_call 155;refine hcall.mono ?_;rintro e w1 ⟨rfl,hr⟩)
    | (go_at_call 187;refine (hone _ _ _).mono ?_;rintro e w2 ⟨rfl,rfl⟩))
  all_goals
   go_wp2_with fail
   go_ret
   exact ⟨rfl,ck_all HB.out hr.out⟩
 ·go_enter Tryz.func155,Tryz.ntmps155
  go_wp2_with fail
  go_region_held3 (fun w'=>w'.cell? ⟨g,0,none⟩=some (.int .i64 5)/\w'.cell? ⟨g,3,none⟩=some (.pointer p)/\w'.cell? ⟨w.heap.size,0,none⟩=some (Value.func (.func 156) #[] #[.pointer (some ⟨bx,0,none⟩)])/\w'.cell? ⟨w.heap.size,1,none⟩=some (Value.func (.func 157) #[] #[.pointer (some ⟨bx,0,none⟩)])) (first|exact HP.out _ hr.out|go_keep)
   (first
    | (go_at_call 155;refine hcall.mono ?_;rintro e w1 ⟨rfl,hr⟩)
    | (go_at_call 187;refine (hone _ _ _).mono ?_;rintro e w2 ⟨rfl,rfl⟩))
  all_goals
   go_wp2_with fail
   go_ret
   exact ⟨rfl,ck_all HB.out hr.out⟩
set_option maxHeartbeats 8000000 in
theorem evr_two (w:World) {g:Nat}{c n:Int}(hc:c≠1/\c≠2/\c≠3/\c≠4/\c≠5) {S:Value}{l r:E}{lv rv:Value}(hg:w.heap[g]?=some (.cells #[.int .i64 c,.int .i64 n,S,lv,rv] 132 (0,0))) (hl:IsE A w l lv) (hr:IsE A w r rv) (ihl:EvR A bx rb bn bw m ns now was l) (ihr:EvR A bx rb bn bw m ns now was r) (h:BoxV w bx rb bn bw m ns now was):Calls Tryz.prog 155 #[.pointer (some ⟨g,0,none⟩),.agg #[nowV bx,wasV bx]] w (EvTo (vTwo c (evE now was l) (evE now was r)) w):=by
 obtain ⟨O,hO⟩:∃O,O=Obj.cells #[nowV bx,wasV bx] 219:=⟨_,rfl⟩
 have hbO:Below w.heap.size w (w.alloc O):=ck_grown w O
 have hbD:Below w.heap.size w (w.alloc O).drew:=hbO.drew
 have hcall:=ihl (w.alloc O).drew lv (hl.carry fun x hx hlt=>⟨hx,hbD.block x hlt⟩) (h.below hbD)
 have HR:Hid (IsE A (w.alloc O).drew r rv/\EvR A bx rb bn bw m ns now was r/\BoxV (w.alloc O).drew bx rb bn bw m ns now was):=⟨hr.carry fun x hx hlt=>⟨hx,hbD.block x hlt⟩,ihr,h.below hbD⟩
 obtain ⟨p,rfl⟩:∃p,lv=.pointer p:=by
  cases l with
  | nil=>exact ⟨none,hl⟩
  | node _ _ _ _ _=>obtain ⟨g',_,_,e,_⟩:=hl;exact ⟨_,e⟩
 obtain ⟨q,rfl⟩:∃q,rv=.pointer q:=by
  cases r with
  | nil=>exact ⟨none,hr⟩
  | node _ _ _ _ _=>obtain ⟨g',_,_,e,_⟩:=hr;exact ⟨_,e⟩
 have k0:(w.alloc O).heap[w.heap.size]?=some (.cells #[nowV bx,wasV bx] 219 (0,0)):=by rw[ck_new,hO]
 have e0:=cell_row k0 0 (u:=nowV bx) rfl
 have e1:=cell_row k0 1 (u:=wasV bx) rfl
 have c0:=cell_row (ck_old (o':=O) hg) 0 (u:=.int .i64 c) rfl
 have c3:=cell_row (ck_old (o':=O) hg) 3 (u:=.pointer p) rfl
 have c4:=cell_row (ck_old (o':=O) hg) 4 (u:=.pointer q) rfl
 have HP:Hid (∀w',Below (w.alloc O).drew.heap.size (w.alloc O).drew w'->w'.cell? ⟨g,0,none⟩=some (.int .i64 c)/\w'.cell? ⟨g,4,none⟩=some (.pointer q)/\w'.cell? ⟨w.heap.size,0,none⟩=some (nowV bx)/\w'.cell? ⟨w.heap.size,1,none⟩=some (wasV bx)):=fun w' hF=>
  ⟨ck_cell hF c0,ck_cell hF c4,ck_cell hF e0,ck_cell hF e1⟩
 have HB:Hid (Below w.heap.size w (w.alloc O).drew):=hbD
 obtain ⟨c1',c2',c3',c4',c5'⟩:=hc
 have t1:(c==1)=false:=by simpa using c1'
 have t2:(c==2)=false:=by simpa using c2'
 have t3:(c==3)=false:=by simpa using c3'
 have t4:(c==4)=false:=by simpa using c4'
 have t5:(c==5)=false:=by simpa using c5'
 have htwo:=two_any
 unfold EvTo at hcall
 obtain ⟨x,hx⟩:∃x,x=evE now was l:=⟨_,rfl⟩
 obtain ⟨y,hy⟩:∃y,y=evE now was r:=⟨_,rfl⟩
 rw[<-hx] at hcall ⊢
 rw[<-hy]
 have HY:Hid (y=evE now was r):=hy
 unfold nowV wasV at hO hcall HP ⊢
 unfold nowV at e0
 unfold wasV at e1
 rw[hO] at hcall e0 e1 c0 c3 HB HP HR
 clear h hg hbO hbD k0 hO hl hr ihl ihr c4 hx hy
 go_enter Tryz.func155,Tryz.ntmps155
 go_upto_region 13 with fail
 clear t1 t2 t3 t4 t5 c1' c2' c3' c4' c5'
 go_cut [5] (fun s5 wx=>s5=.int .i64 x/\Hid (Below (w.alloc (.cells #[Value.func (.func 156) #[] #[.pointer (some ⟨bx,0,none⟩)],Value.func (.func 157) #[] #[.pointer (some ⟨bx,0,none⟩)]] 219)).drew.heap.size (w.alloc (.cells #[Value.func (.func 156) #[] #[.pointer (some ⟨bx,0,none⟩)],Value.func (.func 157) #[] #[.pointer (some ⟨bx,0,none⟩)]] 219)).drew wx))
 case first=>
  go_region_with (refine hcall.mono ?_;rintro e w' ⟨rfl,hr⟩)
  all_goals
   go_wp2_with fail
   go_meet
   case rel=>exact ⟨rfl,hr.out⟩
 case rest=>
  obtain ⟨rfl,hx⟩:=hcut
  clear hcall e0 e1 c0 c3
  obtain ⟨d0,d4,f0,f1⟩:=HP.out wc hx.out
  have hFd:Below (w.alloc (.cells #[Value.func (.func 156) #[] #[.pointer (some ⟨bx,0,none⟩)],Value.func (.func 157) #[] #[.pointer (some ⟨bx,0,none⟩)]] 219)).drew.heap.size (w.alloc (.cells #[Value.func (.func 156) #[] #[.pointer (some ⟨bx,0,none⟩)],Value.func (.func 157) #[] #[.pointer (some ⟨bx,0,none⟩)]] 219)).drew wc.drew:=hx.out.drew
  have hcall:=HR.out.2.1 wc.drew (.pointer q) (HR.out.1.carry fun x hx hlt=>⟨hx,hFd.block x hlt⟩) (HR.out.2.2.below hFd)
  rw[<-HY.out] at hcall
  unfold EvTo at hcall
  unfold nowV wasV at hcall
  have HFD:Hid (Below (w.alloc (.cells #[Value.func (.func 156) #[] #[.pointer (some ⟨bx,0,none⟩)],Value.func (.func 157) #[] #[.pointer (some ⟨bx,0,none⟩)]] 219)).drew.heap.size (w.alloc (.cells #[Value.func (.func 156) #[] #[.pointer (some ⟨bx,0,none⟩)],Value.func (.func 157) #[] #[.pointer (some ⟨bx,0,none⟩)]] 219)).drew wc.drew):=hFd
  clear hFd
  go_upto_region 14 with fail
  go_cut [6] (fun s6 wx=>s6=.int .i64 y/\Hid (Below w.heap.size w wx/\wx.cell? ⟨g,0,none⟩=some (.int .i64 c)))
  case first=>
   go_region_with (refine hcall.mono ?_;rintro e w' ⟨rfl,hr⟩)
   all_goals
    go_wp2_with fail
    go_meet
    case rel=>
     have hF2:=ck_all HFD.out hr.out
     exact ⟨rfl,ck_all HB.out hF2,(HP.out _ hF2).1⟩
  case rest=>
   obtain ⟨rfl,hy⟩:=hcut
   have g0:=hy.out.2
   clear hcall d0 d4 f0 f1
   go_wp2_with (refine (htwo _ _ _ _).mono ?_;rintro e w' ⟨rfl,rfl⟩)
   go_ret
   exact ⟨rfl,hy.out.1.alloc hy.out.1.size _⟩
theorem evr_all:∀e,NuOk e->EvR A bx rb bn bw m ns now was e:=by
 intro e
 induction e with
 | nil=>
  intro _ w v hv h
  obtain rfl:v=.pointer none:=hv
  exact evr_nil w
 | node b0 o a l r ihl ihr=>
  intro hn w v hv h
  obtain ⟨n1,_,n2,n3⟩:=hn
  obtain ⟨g,lv,rv,rfl,hga,hg,hl,hr⟩:=hv
  rw[evE]
  by_cases c1:a.code=1
  ·rw[if_pos c1]
   rw[c1] at hg
   exact evr_num w hg
  ·rw[if_neg c1]
   by_cases c2:a.code=2
   ·rw[if_pos c2]
    have:=evr_name w (c:=(a.code:Int)) (by omega) n1 hg h
    rwa [if_pos (by omega)] at this
   ·rw[if_neg c2]
    by_cases c3:a.code=3
    ·rw[if_pos c3]
     have:=evr_name w (c:=(a.code:Int)) (by omega) n1 hg h
     rwa [if_neg (by omega)] at this
    ·rw[if_neg c3]
     by_cases c4:a.code=4\/a.code=5
     ·rw[if_pos c4]
      exact evr_one w (by omega) hg hl (ihl n2) h
     ·rw[if_neg c4]
      exact evr_two w ⟨by omega,by omega,by omega,by omega,by omega⟩ hg hl hr (ihl n2) (ihr n3) h
theorem ueval_any {e:E}{v:Value}(hn:NuOk e) (he:IsE A w e v) (h:RunV w rb bn bw m ns now was) :
    Calls Tryz.prog 116 #[.pointer (some ⟨rb,0,none⟩),v] w (EvTo (evE now was e) w):=by
 have hmf:∀(fn:Fn) (first cap:Array Value) (w:World),(Instr.makeFunc fn first cap).run Tryz.prog w=.ok (.func fn first cap) w:=fun _ _ _ _=>rfl
 obtain ⟨p,rfl⟩:∃p,v=.pointer p:=by
  cases e with
  | nil=>exact ⟨none,he⟩
  | node _ _ _ _ _=>obtain ⟨g',_,_,e,_⟩:=he;exact ⟨_,e⟩
 obtain ⟨W,hW⟩:∃W,W=w.alloc (.cells #[.pointer (some ⟨rb,0,none⟩)] 35):=⟨_,rfl⟩
 have hb:Below w.heap.size w W:=by rw[hW];exact ck_grown w _
 have hk:W.heap[w.heap.size]?=some (.cells #[.pointer (some ⟨rb,0,none⟩)] 35 (0,0)):=by rw[hW];exact ck_new w _
 have hcall:=evr_all (A:=A) e hn W (.pointer p) (he.carry fun x hx hlt=>⟨hx,hb.block x hlt⟩) (bx:=w.heap.size) ⟨cell_row hk 0 rfl,h.below hb⟩
 have HB:Hid (Below w.heap.size w W):=hb
 unfold EvTo at hcall
 unfold nowV wasV at hcall
 generalize evE now was e=x at hcall ⊢
 rw[hW] at hcall HB
 clear hW hb hk h he hn
 go_enter Tryz.func116,Tryz.ntmps116
 go_wp2_with (refine hcall.mono ?_;rintro e w' ⟨rfl,hr⟩)
 go_ret
 exact ⟨rfl,ck_all HB.out hr.out⟩
theorem evE_n64 (hN:∀s:Str,s.length≤maxLen->N64 (now s)) (hW:∀s:Str,s.length≤maxLen->N64 (was s)):∀e,NuOk e->N64 (evE now was e):=by
 intro e
 induction e with
 | nil=>intro _;exact N64.zero
 | node b0 o a l r ihl ihr=>
  intro hn
  obtain ⟨n1,n0,n2,n3⟩:=hn
  rw[evE]
  repeat' split
  ·exact n0
  ·exact hN _ n1
  ·exact hW _ n1
  ·exact vOne_n64 _ _
  ·exact vTwo_n64 (ihr n3)
end
end
end Go.Proofs.YtpogmfliojcnjaaGreatDoor
