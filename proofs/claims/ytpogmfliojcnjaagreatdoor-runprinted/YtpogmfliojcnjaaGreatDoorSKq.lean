import Derived.Test.YtpogmfliojcnjaaGreatDoorSLaidU
import Derived.Test.YtpogmfliojcnjaaGreatDoorSVqVp
import Derived.Test.YtpogmfliojcnjaaGreatDoorSKo
import Derived.Test.YtpogmfliojcnjaaGreatDoorSVe
import Derived.Test.YtpogmfliojcnjaaGreatDoorSCs5
import Derived.Test.YtpogmfliojcnjaaGreatDoorSPpart
import Derived.Test.YtpogmfliojcnjaaGreatDoorSRreg0
import Derived.Deep.DeepCutAuto
import Derived.Maps.AppendAt
namespace Go.Proofs.YtpogmfliojcnjaaGreatDoor
section
open Px
namespace Kx
def renN (s:Str):Str:=120::s
def renW (y:Wy):Wy:=⟨y.kind,y.now,y.cond,y.times,y.sets,renN y.to,y.back⟩
section
variable {ρ:Type}
def renF (f:List ρ->List ρ) (s:StF ρ):StF ρ:={ s with name:=renN s.name,ways:=s.ways.map renW,regions:=s.regions.map f }
theorem fnd_ren (ns:List Str) (s:Str):fnd (ns.map renN) (renN s)=fnd ns s:=by
 induction ns with
 | nil=>rfl
 | cons a r ih=>
  rw[List.map_cons,fnd,fnd,ih]
  have:renN a=renN s↔a=s:=by simp[renN]
  simp only[this]
theorem fndI_ren (ns:List Str) (s:Str):fndI (ns.map renN) (renN s)=fndI ns s:=by unfold fndI;rw[fnd_ren]
theorem wayE_ren (vs:List Decl) (ns:List Str) (b:Bool) (y:Wy):wayE vs (ns.map renN) b (renW y)=wayE vs ns b y:=by
 unfold wayE
 rw[show (renW y).to=renN y.to from rfl,fnd_ren]
 rfl
theorem waysE_ren (vs:List Decl) (ns:List Str) (b:Bool):∀l:List Wy,waysE vs (ns.map renN) b (l.map renW)=waysE vs ns b l:=by
 intro l
 induction l with
 | nil=>rfl
 | cons a r ih=>rw[List.map_cons,waysE,waysE,wayE_ren,ih]
theorem stateE_ren (vs:List Decl) (ns:List Str) (f:List ρ->List ρ) (i:Nat) (s:StF ρ):stateE vs (ns.map renN) i (renF f s)=stateE vs ns i s:=by
 unfold stateE aloneE
 rw[show (renF f s).name=renN s.name from rfl,fndI_ren]
 have e1:(renF f s).ways=s.ways.map renW:=rfl
 have e2:(renF f s).regions=s.regions.map f:=rfl
 rw[e1,e2,List.length_map,List.length_map,waysE_ren]
 rfl
theorem snames_ren (f:List ρ->List ρ) (l:List (StF ρ)):snames (l.map (renF f))=(snames l).map renN:=by
 unfold snames
 rw[List.map_map,List.map_map];rfl
theorem tosF_ren (ns:List Str) (ys:List Wy):tosF (ns.map renN) (ys.map renW)=tosF ns ys:=by
 unfold tosF
 rw[List.map_map]
 apply List.map_congr_left
 intro y _
 show (if (renW y).now then fnd (ns.map renN) (renN y.to) else none)=_
 rw[fnd_ren];rfl
theorem graph_ren (f:List ρ->List ρ) (l:List (StF ρ)):graph (l.map (renF f))=graph l:=by
 unfold graph
 rw[List.map_map,snames_ren]
 apply List.map_congr_left
 intro s _
 exact tosF_ren _ _
theorem firsts_ren (f:List ρ->List ρ) (l:List (StF ρ)):firsts (l.map (renF f))=firsts l:=by
 unfold firsts
 rw[List.filter_map,List.length_map];rfl
theorem wholeE_ren (f:List ρ->List ρ) (l:List (StF ρ)):wholeE (l.map (renF f))=wholeE l:=by
 unfold wholeE;rw[firsts_ren,graph_ren]
theorem regsE_ren {R:List ρ->Nat->Res}{f:List ρ->List ρ}(h:∀r n,R (f r) n=R r n):∀(l:List (List ρ)) (n:Nat),regsE R (l.map f) n=regsE R l n:=by
 intro l
 induction l with
 | nil=>intro n;rfl
 | cons r rs ih=>
  intro n
  rw[List.map_cons,regsE,regsE,h]
  cases R r n with
  | error x=>rfl
  | ok m=>exact ih m
theorem statesE_ren {vs:List Decl}{R:List ρ->Nat->Res}{f:List ρ->List ρ}(h:∀r n,R (f r) n=R r n) (ns:List Str):∀(l:List (StF ρ)) (i n:Nat),statesE vs R (ns.map renN) (l.map (renF f)) i n=statesE vs R ns l i n:=by
 intro l
 induction l with
 | nil=>intro i n;rfl
 | cons s r ih=>
  intro i n
  rw[List.map_cons,statesE,statesE,stateE_ren,show (renF f s).regions=s.regions.map f from rfl,regsE_ren h]
  cases regsE R s.regions (n+1) with
  | error x=>rfl
  | ok m=>simp only[ih]
theorem regF_ren {vs:List Decl}{R:List ρ->Nat->Res}{f:List ρ->List ρ}(h:∀r n,R (f r) n=R r n) (l:List (StF ρ)) (n:Nat):regF vs R (l.map (renF f)) n=regF vs R l n:=by
 unfold regF
 rw[snames_ren,statesE_ren h,wholeE_ren]
end
def renR:(k:Nat)->List (St k)->List (St k)
 | 0=>fun l=>l
 | k+1=>fun l=>List.map (renF (renR k)) l
theorem regE_ren (vs:List Decl):∀(k:Nat) (l:List (St k)) (n:Nat),regE vs k (renR k l) n=regE vs k l n:=by
 intro k
 induction k with
 | zero=>intro l n;rfl
 | succ k ih=>intro l n;exact regF_ren ih l n
def renC (c:Chart):Chart:={ c with regions:=c.regions.map (renR 6) }
theorem checkC_ren (c:Chart):checkC (renC c)=checkC c:=by
 unfold checkC
 rw[show (renC c).vars=c.vars from rfl,show (renC c).regions=c.regions.map (renR 6) from rfl,regsE_ren (regE_ren c.vars 6)]
 simp only[List.map_eq_nil_iff]
theorem sumC_map {α β:Type}(f:β->Nat) (g:α->β) (l:List α):sumC f (l.map g)=sumC (fun a=>f (g a)) l:=by
 induction l with
 | nil=>rfl
 | cons a r ih=>rw[List.map_cons,sumC,sumC,ih]
theorem sumC_same {α:Type}{f g:α->Nat}(h:∀a,f a=g a) (l:List α):sumC f l=sumC g l:=by
 have:f=g:=funext h
 rw[this]
theorem cRg_ren:∀(k:Nat) (r:List (St k)),cRg k (renR k r)=cRg k r:=by
 intro k
 induction k with
 | zero=>intro r;rfl
 | succ k ih=>
  intro r
  refine (sumC_map (fun x=>1+cIn (k+1) x) (renF (renR k)) r).trans ?_
  refine sumC_same (fun x=>?_) r
  show 1+sumC (cRg k) (List.map (renR k) (StF.regions x))=1+sumC (cRg k) (StF.regions x)
  rw[sumC_map,sumC_same (fun r=>ih r)]
theorem nmSt_ren:∀(k:Nat) (r:List (St k)),(∀x∈r,Sh.TSt k x)->(∀x∈r,NmSt k x)->∀x∈renR k r,NmSt k x:=by
 intro k
 induction k with
 | zero=>intro r _ _ x _;trivial
 | succ k ih=>
  intro r hT hN x hx
  obtain ⟨s,hs,rfl⟩:=List.mem_map.1 (show x∈List.map (renF (renR k)) r from hx)
  obtain ⟨t0,t1,t2,t3,t4,t5,t6⟩:=hT s hs
  obtain ⟨⟨n0,n1,n2,n3,n4,n5,n6⟩,n7⟩:=hN s hs
  refine ⟨⟨?_,n1,n2,n3,n4,?_,?_⟩,?_⟩
  ·show (renN s.name).length≤maxLen
   unfold renN maxLen;rw[List.length_cons];omega
  ·intro y hy
   obtain ⟨y',hy',rfl⟩:=List.mem_map.1 (show y∈(StF.ways s).map renW from hy)
   obtain ⟨a1,a2,a3⟩:=n5 y' hy'
   have:=(t5 y' hy').2.2.2.2
   exact ⟨by show (renN y'.to).length≤maxLen;unfold renN maxLen;rw[List.length_cons];omega,a2,a3⟩
  ·show ((StF.ways s).map renW).length≤1000000
   rw[List.length_map];exact n6
  ·intro q hq
   obtain ⟨q',hq',rfl⟩:=List.mem_map.1 (show q∈(StF.regions s).map (renR k) from hq)
   exact ih q' (t6 q' hq') (n7 q' hq')
theorem nmChart_ren {L:List Lx.Tok}(hL:Wf L) {c:Chart}(h:chart L=.ok c):NmChart (renC c):=by
 have hN:=nmChart hL h
 obtain ⟨h1,h2,h3⟩:=Sh.chart_w hL h
 refine ⟨hN.vars,hN.names,fun r hr=>?_,?_⟩
 ·obtain ⟨r',hr',rfl⟩:=List.mem_map.1 (show r∈c.regions.map (renR 6) from hr)
  exact nmSt_ren 6 r' (h2 r' hr') (hN.sts r' hr')
 ·show sumC (cRg 6) (c.regions.map (renR 6))≤1000000
  rw[sumC_map,sumC_same (fun r=>cRg_ren 6 r)]
  exact hN.many
end Kx
end
section
open Go.RowKit Px
namespace Kx
def RenOk (k:Nat):Prop:=∀(A:Nat->Prop) (w:World) (L:List (List (St k))) (v:Value),IsRegs A w (IsStates A w k) L v->(∀r∈L,∀x∈r,Sh.TSt k x)->Sh.sumW (Sh.wR (Sh.wSt k)) L≤601->
 Calls Tryz.prog 30 #[v] w fun e w'=>∃a n m,e=.returned (.slice a n m)/\Hid (IsRegs (fun b=>A b\/w.heap.size≤b) w' (IsStates (fun b=>A b\/w.heap.size≤b) w' k) (L.map (renR k)) (.slice a n m)/\Below w.heap.size w w')
end Kx
end
section
open Go.RowKit Px
namespace Kx
theorem wys_ren (y:Wy):WyS (fun n n'=>n=n') y (renW y):=⟨rfl,rfl,rfl,rfl,rfl,fun n n' w w' h k=>by rw[h,k];rfl,fun w w' n n' h k=>by rw[h,k];rfl⟩
theorem L2r.of_map {α β:Type}{P:α->β->Prop}{f:α->β}(l:List α) (h:∀a∈l,P a (f a)):L2r P l (l.map f):=
 ⟨by rw[List.length_map],fun i a b ha hb=>by
  obtain ⟨a',ha',rfl⟩:=map_at hb
  rw[ha] at ha'
  injection ha' with ha'
  rw[<-ha'];exact h a (List.mem_of_getElem? ha)⟩
theorem ren_gs {ρ:Type}(f:List ρ->List ρ) (L:List (StF ρ)):GS (fun n n'=>n=n') (fun r r'=>r'=f r) L (L.map (renF f)):=by
 refine ⟨L2r.of_map L fun s _=>⟨rfl,rfl,fun w w' n n' h k=>by rw[h,k];rfl,fun w w' n n' h k=>by rw[h,k];rfl,fun w w' n n' h k=>by rw[h,k];rfl,fun n n' w w' h k=>by rw[h,k];rfl,L2r.of_map s.ways fun y _=>wys_ren y,L2r.of_map s.regions fun r _=>rfl⟩,fun i j s s' y y' h1 h2 k1 k2=>?_⟩
 obtain ⟨s0,hs0,rfl⟩:=map_at h2
 rw[h1] at hs0
 injection hs0 with hs0
 subst hs0
 obtain ⟨y0,hy0,rfl⟩:=map_at (show (s.ways.map renW)[j]?=some y' from k2)
 rw[k1] at hy0
 injection hy0 with hy0
 subst hy0
 rw[snames_ren]
 exact (fnd_ren _ _).symm
def RdE:(k:Nat)->Rd k->Rd k->Prop
 | 0=>fun _ _=>True
 | k+1=>fun d d'=>RS2 (RdE k) (show RdF (Rd k) from d) (show RdF (Rd k) from d')
theorem opsK_ren:∀k,SimOps (fun n n'=>n=n') (OpsK k) (OpsK k) (fun r r'=>r'=renR k r) (RdE k)
 | 0=>⟨fun _ _ _ _ _ _=>rfl,fun _ _ _ _ _ _ _ _ _ _ _ hn _=>⟨hn,trivial⟩,fun _ _ _ _ _ _ _ _ _ _ hn _=>⟨hn,trivial⟩,fun _ _ _ _ _ _ _ _ _ _ hn _=>⟨hn,trivial⟩⟩
 | k+1=>(opsF_sim (opsK_ren k)).mono fun L L' h=>by rw[h];exact ren_gs (renR k) L
theorem lay_ren1 {k:Nat}(ih:∀L:List (St k),RdE k (layD k L) (layD k (renR k L))) (L:List (StF (St k))):RS2 (RdE k) ⟨none,none,L.map fun s=>⟨s.ways.map fun _=>0,s.regions.map (layD k)⟩⟩ ⟨none,none,(L.map (renF (renR k))).map fun s=>⟨s.ways.map fun _=>0,s.regions.map (layD k)⟩⟩:=by
 refine ⟨rfl,rfl,?_⟩
 show L2r _ (L.map _) ((L.map (renF (renR k))).map _)
 rw[List.map_map]
 refine L2r.map (P:=fun a b=>a=b) (L2r.same (P:=fun a b=>a=b) (fun _=>rfl) L) fun s s' e=>?_
 subst e
 refine ⟨?_,?_⟩
 ·show List.map (fun _=>(0:Int)) s.ways=List.map (fun _=>(0:Int)) (s.ways.map renW)
  rw[List.map_map];rfl
 ·show L2r _ (s.regions.map (layD k)) ((s.regions.map (renR k)).map (layD k))
  rw[List.map_map]
  exact L2r.map (P:=fun a b=>a=b) (L2r.same (P:=fun a b=>a=b) (fun _=>rfl) _) fun r r' e=>by subst e;exact ih r
theorem lay_ren:∀(k:Nat) (L:List (St k)),RdE k (layD k L) (layD k (renR k L))
 | 0,_=>trivial
 | k+1,L=>lay_ren1 (lay_ren k) L
def StandS (r r':Rn):Prop:=r.now=r'.now/\r.was=r'.was/\L2r (RdE 6) r.ds r'.ds
theorem new_ren (c:Chart):StandS (newC c) (newC (renC c)):=by
 refine ⟨rfl,rfl,?_⟩
 show L2r _ (c.regions.map (layD 6)) ((c.regions.map (renR 6)).map (layD 6))
 rw[List.map_map]
 exact L2r.map (P:=fun a b=>a=b) (L2r.same (P:=fun a b=>a=b) (fun _=>rfl) _) fun r r' e=>by subst e;exact lay_ren 6 r
theorem tick_ren {c:Chart}{ins:List Int}{r r' q:Rn}(h:StandS r r') (ht:tickC c ins r=some q):∃q',tickC (renC c) ins r'=some q'/\StandS q q':=by
 obtain ⟨p,hp,rfl⟩:=tickC_cases ht
 have hsim:=allI_sim' (Z:=fun n n'=>n=n') (G:=fun r r'=>r'=renR 6 r) (R:=RdE 6) (f:=tickG r.was) (f':=tickG r'.was) (fun L L' n n' d d' h1 h2 h3=>by
  unfold tickG
  have ht:(show RdF (Rd 5) from d).there=(show RdF (Rd 5) from d').there:=h3.there
  by_cases h0:(show RdF (Rd 5) from d).there=none
  ·rw[if_pos h0,if_pos (by rw[<-ht];exact h0)]
   exact (opsK_ren 6).enter r.was r'.was false L L' n n' d d' h1 h.2.1 h2 h3
  ·rw[if_neg h0,if_neg (by rw[<-ht];exact h0)]
   exact (opsK_ren 6).go r.was r'.was L L' n n' d d' h1 h.2.1 h2 h3) (rs:=c.regions) (rs':=(renC c).regions) (L2r.of_map c.regions fun _ _=>rfl) (n:=hearE c.vars ins r.now) (n':=hearE c.vars ins r'.now) (by show hearE c.vars ins r.now=hearE c.vars ins r'.now;rw[h.1]) h.2.2
 rcases hsim.out with ⟨e1,_⟩|⟨q,q',e1,e2,h1,h2⟩
 ·rw[hp] at e1;exact absurd e1 (by simp)
 ·rw[hp] at e1
  injection e1 with e1
  subst e1
  refine ⟨⟨q'.1,q'.1,q'.2⟩,?_,h1,h1,h2⟩
  unfold tickC
  have e2':allI (tickG r'.was) (renC c).regions (renC c).regions.length 0 (hearE (renC c).vars ins r'.now) r'.ds=some q':=e2
  rw[e2']
theorem outs_ren {c:Chart}{r r':Rn}(h:StandS r r'):outsC (renC c) r'=outsC c r:=by
 unfold outsC
 rw[<-h.1]
 rfl
end Kx
end
section
open Go.RowKit Px
namespace Kx
theorem few_no {w:World}{iv:Value}{zss:List (List Int)}(hI:IRws w iv zss) (h:¬Few zss):Calls Tryz.prog 6 #[iv] w fun e w'=>e=.returned (.bool false)/\w'=w:=(few_any hI).mono fun e w' ⟨h',hw⟩=>⟨by
    rcases h' with ⟨_,hn⟩|⟨he,_⟩
    ·exact absurd hn h
    ·exact he,hw⟩
theorem few_yes {w:World}{iv:Value}{zss:List (List Int)}(hI:IRws w iv zss) (h:Few zss):Calls Tryz.prog 6 #[iv] w fun e w'=>e=.returned (.bool true)/\w'=w:=(few_any hI).mono fun e w' ⟨h',hw⟩=>⟨by
    rcases h' with ⟨he,_⟩|⟨_,hn⟩
    ·exact he
    ·exact absurd h hn,hw⟩
theorem may_or (s:ByteArray):(∃l c,s.size≤1500/\Lx.Ok (bs s) l/\chart (fin s l)=.ok c/\checkC c=none)\/∀w,KEnv0 w->Calls Tryz.prog 8 #[.string s] w fun e w'=>e=.returned (.tuple #[.agg #[.string ⟨#[]⟩,.slice none 0 0,.slice none 0 0],.bool false])/\Hid (Below w.heap.size w w'):=by
 by_cases h:∃l c,s.size≤1500/\Lx.Ok (bs s) l/\chart (fin s l)=.ok c
 ·obtain ⟨l,c,h1,h2,h3⟩:=h
  by_cases hc:checkC c=none
  ·exact .inl ⟨l,c,h1,h2,h3,hc⟩
  ·refine .inr fun w hv=>(chart_drawn h1 hv h2 h3).mono fun e w' h=>?_
   rcases h with ⟨hn,_⟩|⟨_,he,hb⟩
   ·exact absurd hn hc
   ·exact ⟨he,hb⟩
 ·exact .inr fun w hv=>chart_none hv fun h1 l c h2=>h ⟨l,c,h1,h2.1,h2.2⟩
end Kx
end
section
open Go.RowKit Px
namespace Kx
def NewNot (A:Nat->Prop) (B:Nat) (v:Value) (b:Nat):Prop:=(A b\/B≤b)/\v.ownBlock≠some b
structure RowAt {α:Type}(R:(Nat->Prop)->World->α->List Value->Prop) (A:Nat->Prop) (B e size:Nat) (w:World) (l:List α) (v:Value) (xs:List Value):Prop where
 own:w.ownsRow B e size v l.length xs
 rows:Rows (R (NewNot A B v) w) l xs
def Carries {α:Type}(R:(Nat->Prop)->World->α->List Value->Prop):Prop:=∀{A A':Nat->Prop}{w w':World},Keep A A' w w'->∀a c,R A w a c->R A' w' a c
section
variable {α:Type}{R:(Nat->Prop)->World->α->List Value->Prop}{A:Nat->Prop}{B e size:Nat}{w w':World}{l:List α}{v:Value}{xs:List Value}
theorem ownLow (h:w.ownsRow B e size v l.length xs) (hb:Below w.heap.size w w'):w'.ownsRow B e size v l.length xs:=
 own_keep (A:=fun _=>True) (A':=fun _=>True) h (fun _ _=>trivial) fun b _ hlt=>⟨trivial,hb.block b hlt⟩
theorem RowAt.nil:RowAt R A B e size w [] (.slice none 0 0) []:=⟨World.ownsRow_nil _ _ _ _,rfl⟩
theorem RowAt.low (hR:Carries R) (h:RowAt R A B e size w l v xs) (hb:Below w.heap.size w w'):RowAt R A B e size w' l v xs:=
 ⟨ownLow h.own hb,h.rows.map (hR fun b hb' hlt=>⟨hb',hb.block b hlt⟩)⟩
theorem RowAt.done (hR:Carries R) (h:RowAt R A B e size w l v xs):Row (fun b=>A b\/B≤b) w e size v l.length xs/\Rows (R (fun b=>A b\/B≤b) w) l xs:=
 ⟨⟨own_base0 h.own,fun g hg=>.inr (h.own.lt g hg).1⟩,h.rows.map (hR fun _ hb _=>⟨hb.1,rfl⟩)⟩
theorem RowAt.step (hR:Carries R) (hA:∀b,A b->b<B) {wr w5 w6:World}{o:Obj}{a:α}{c:List Value}{v':Value}(h:RowAt R A B e size wr l v xs) (hB:B≤wr.heap.size) (hb:Below wr.heap.size wr w5) (he:R (fun b=>A b\/wr.heap.size≤b) w5 a c)
    (hown:w6.ownsRow B e size v' (l.length+1) (xs++c)) (hg:(w5.alloc o).grownBy w6 v.ownBlock) (hat:v'.ownBlock=v.ownBlock\/v'.ownBlock=some (w5.alloc o).heap.size) :
    RowAt R A B e size w6 (l++[a]) v' (xs++c)/\Below B wr w6:=by
 have hs5:=hb.size
 have hsz:(w5.alloc o).heap.size=w5.heap.size+1:=by simp
 have hvl:∀g,v.ownBlock=some g->B≤g/\g<wr.heap.size:=fun g hg=>h.own.lt g hg
 have k1:Keep (NewNot A B v) (NewNot A B v') wr w6:=fun b hb' hlt=>by
  refine ⟨⟨hb'.1,?_⟩,?_⟩
  ·rcases hat with e|e
   ·rw[e];exact hb'.2
   ·rw[e];intro e';injection e' with e';omega
  ·rw[hg.block b (by omega) (fun e=>hb'.2 e.symm),Below.heap_alloc _ _ _ (by omega),hb.block b hlt]
 have k2:Keep (fun b=>A b\/wr.heap.size≤b) (NewNot A B v') w5 w6:=fun b hb' hlt=>by
  have hne:v.ownBlock≠some b:=fun e=>by
   have:=hvl b e
   rcases hb' with h1|h1
   ·have:=hA b h1;omega
   ·omega
  refine ⟨⟨by rcases hb' with h1|h1;exact .inl h1;exact .inr (by omega),?_⟩,?_⟩
  ·rcases hat with e|e
   ·rw[e];exact hne
   ·rw[e];intro e';injection e' with e';omega
  ·rw[hg.block b (by omega) (fun e=>hne e.symm),Below.heap_alloc _ _ _ (by omega)]
 refine ⟨⟨by rw[List.length_append];exact hown,(h.rows.map (hR k1)).append (Rows.one (hR k2 _ _ he))⟩,?_⟩
 exact ((hb.mono hB).alloc (by omega) o).grown hg (by omega) (fun k hk=>(hvl k hk).1)
end
theorem cells_new (w:World) (l:List Value) (t:TypeId):∀j u,l[j]?=some u->(w.alloc (.cells l.toArray t)).cell? ((⟨w.heap.size,0,none⟩:Addr).add j)=some u:=by
 intro j u hj
 have hk:=ck_new w (.cells l.toArray t)
 have e:(⟨w.heap.size,0,none⟩:Addr).add j=⟨w.heap.size,j,none⟩:=by unfold Addr.add;split<;>simp_all
 rw[e]
 exact cell_row hk j (by simpa using hj)
section
variable {ρ:Type}
abbrev JFam (ρ:Type):=(Nat->Prop)->World->List ρ->Value->Prop
def JCarries (J:JFam ρ):Prop:=∀{A A':Nat->Prop}{w w':World},Keep A A' w w'->∀l v,J A w l v->J A' w' l v
def RJ (J:JFam ρ) (A:Nat->Prop) (w:World) (l:List (StF ρ)) (v:Value):Prop:=(∃xs,Row A w 69 9 v l.length xs/\Rows (StC A w (J A w)) l xs)/\(l=[]->v=.slice none 0 0)
theorem RJ.carry {J:JFam ρ}(hJ:JCarries J) {A A':Nat->Prop}{w w':World}(k:Keep A A' w w') (l:List (StF ρ)) (v:Value) (h:RJ J A w l v):RJ J A' w' l v:=by
 obtain ⟨⟨xs,hr,hs⟩,h0⟩:=h
 exact ⟨⟨xs,hr.carry k,hs.map (StC.carry k (hJ k))⟩,h0⟩
def ROut (J:JFam ρ) (A:Nat->Prop) (w:World) (r:List (StF ρ)) (c:List Value):Prop:=RegC (RJ J A w) r c
theorem rout_carries {J:JFam ρ}(hJ:JCarries J):Carries (ROut J):=fun k _ _ ⟨u,hc,hu⟩=>⟨u,hc,hu.carry hJ k _ _⟩
def RSt (J:JFam ρ) (A:Nat->Prop) (w:World) (s:StF ρ) (c:List Value):Prop:=StC A w (J A w) s c
theorem rst_carries {J:JFam ρ}(hJ:JCarries J):Carries (RSt J):=fun k _ _ h=>StC.carry k (hJ k) _ _ h
theorem rway_carries:Carries WayC:=fun k _ _ h=>WayC.carry k _ _ h
def RenReg (A:Nat->Prop) (w:World) (f:List ρ->List ρ) (J:JFam ρ) (r:List (StF ρ)) (a:Option Addr):Prop:=
 ∃gr,(0<r.length->a=some ⟨gr,0,none⟩)/\r.length≤1000000/\∀i s,r[i]?=some s->∃ve vd vl p ay ar gy capy capr,StM A w gr i s ve vd vl p ay ar gy capy capr/\s.name.length≤12/\(∀y∈s.ways,y.to.length≤12)/\s.ways.length≤1000000/\
  ∀w',Below w.heap.size w w'->Calls Tryz.prog 30 #[.slice ar s.regions.length capr] w' fun e w''=>∃a n m,e=.returned (.slice a n m)/\Hid (IsRegs (fun b=>A b\/w'.heap.size≤b) w'' (J (fun b=>A b\/w'.heap.size≤b) w'') (s.regions.map f) (.slice a n m)/\Below w'.heap.size w' w'')
theorem take_map_snoc {α β:Type}(g:α->β) {l:List α}{k:Nat}{a:α}(h:l[k]?=some a):(l.take (k+1)).map g=(l.take k).map g++[g a]:=by
 rw[List.take_add_one,h,List.map_append];rfl
theorem ren_sv (S:ByteArray) (s:Str) (h:Value.string S=sv s):Value.string ((⟨#[120]⟩:ByteArray)++S)=sv (renN s):=by
 unfold sv at h ⊢
 injection h with h
 rw[h,ByteArray.mk_append_mk]
 simp[renN]
end
theorem take_map_len {α β:Type}(g:α->β) {l:List α}{k N:Nat}(hN:N=l.length) (hk:k≤N):((l.take k).map g).length=k:=by
 rw[List.length_map,List.length_take];omega
theorem RowAt.shape {α β:Type}{R:(Nat->Prop)->World->β->List Value->Prop}{A:Nat->Prop}{B e size:Nat}{w:World}{g:α->β}{l:List α}{k N:Nat}{v:Value}{xs:List Value}(h:RowAt R A B e size w ((l.take k).map g) v xs) (hN:N=l.length) (hk:k≤N):∃ao cap,v=.slice ao k cap:=by
 have:=owns_shape h.own
 rwa [take_map_len g hN hk] at this
theorem RowAt.own' {α β:Type}{R:(Nat->Prop)->World->β->List Value->Prop}{A:Nat->Prop}{B e size:Nat}{w:World}{g:α->β}{l:List α}{k N:Nat}{v:Value}{xs:List Value}(h:RowAt R A B e size w ((l.take k).map g) v xs) (hN:N=l.length) (hk:k≤N):w.ownsRow B e size v k xs:=by
 have:=h.own
 rwa [take_map_len g hN hk] at this
set_option maxRecDepth 100000 in
set_option maxHeartbeats 8000000 in
theorem ren_at {ρ:Type}{A:Nat->Prop}{w:World}{fr:List ρ->List ρ}{J:JFam ρ}(hJ:JCarries J) (hA:Hid (∀b,A b->b<w.heap.size)) {ad:Option Addr}{N cap:Nat}{L:List (List (StF ρ))}(hn:Hid (N=L.length)) (hNm:N≤1000000)
    (hmem:Hid (∃g,(0<N->ad=some ⟨g,0,none⟩)/\∀i r,L[i]?=some r->∃a c,w.cell? ⟨g,i,none⟩=some (.slice a r.length c)/\RenReg A w fr J r a)) :
    Calls Tryz.prog 30 #[.slice ad N cap] w fun e w'=>∃a n m,e=.returned (.slice a n m)/\Hid ((∃xs,Row (fun b=>A b\/w.heap.size≤b) w' 64 1 (.slice a n m) L.length xs/\Rows (ROut J (fun b=>A b\/w.heap.size≤b) w') (L.map (List.map (renF fr))) xs)/\Below w.heap.size w w'):=by
 have HJ:Hid (JCarries J):=hJ
 obtain ⟨iR,hiR,hR0,hR1,hR2⟩:=info_parts Tryz.info64
 obtain ⟨iS,hiS,hS0,hS1,hS2⟩:=info_parts Tryz.infoState
 obtain ⟨iW,hiW,hW0,hW1,hW2⟩:=info_parts Tryz.info73
 clear hJ
 go_enter Tryz.func30,Tryz.ntmps30
 go_wp2_with fail
 go_loopg [3,4] N (fun fu out i wr=>∃(k:Nat) (xs:List Value),fu=N-k/\k≤N/\i=.int .i64 (k:Int)/\Hid (RowAt (ROut J) A w.heap.size 64 1 wr ((L.take k).map (List.map (renF fr))) out xs/\Below w.heap.size w wr))
 case atStart=>exact ⟨0,[],by omega,by omega,rfl,RowAt.nil,Below.refl _ _⟩
 case round=>
  obtain ⟨k,xs,rfl,hk,rfl,hr⟩:=hrel
  obtain ⟨ao,co,e⟩:=hr.out.1.shape hn.out hk
  subst e
  obtain ⟨w1,rfl⟩:∃w1,w1=wr:=⟨wr,rfl⟩
  by_cases hlt:k<N
  ·obtain ⟨r,hs⟩:∃r,L[k]?=some r:=⟨L[k]'(by rw[<-hn.out];exact hlt),by rw[List.getElem?_eq_getElem]⟩
   obtain ⟨g,hg,hg2⟩:=hmem.out
   obtain ⟨a,c,hcell,gr,ha,hlen,hin⟩:=hg2 k r hs
   have hix:=ixR ad g N cap k hlt hg
   obtain ⟨n,hnr⟩:∃n,n=r.length:=⟨_,rfl⟩
   rw[<-hnr] at hcell ha hlen
   have HC:Hid (w.cell? ⟨g,k,none⟩=some (.slice a n c)):=hcell
   have HNR:Hid (n=r.length/\L[k]?=some r):=⟨hnr,hs⟩
   have HIN:Hid (∀i s,r[i]?=some s->_):=hin
   have HA:Hid (0<n->a=some ⟨gr,0,none⟩):=ha
   have HR:Hid (RowAt (ROut J) A w.heap.size 64 1 w1 ((L.take k).map (List.map (renF fr))) (.slice ao k co) xs/\Below w.heap.size w w1):=hr.out
   clear hr hs hg hg2 hcell ha hin hnr
   go_wp2_with fail
   go_loopg [5,6] n (fun fu rv i wr=>∃(p:Nat) (ys:List Value),fu=n-p/\p≤n/\i=.int .i64 (p:Int)/\Hid (RowAt (RSt J) A w1.heap.size 69 9 wr ((r.take p).map (renF fr)) rv ys/\Below w1.heap.size w1 wr/\(p=0->rv=.slice none 0 0)))
   case atStart=>exact ⟨0,[],by omega,by omega,rfl,RowAt.nil,Below.refl _ _,fun _=>rfl⟩
   case round=>
    obtain ⟨p,ys,rfl,hp,rfl,hr⟩:=hrel
    obtain ⟨a5,k5,e⟩:=hr.out.1.shape HNR.out.1 hp
    subst e
    obtain ⟨w2,rfl⟩:∃w2,w2=wr:=⟨wr,rfl⟩
    have hbw:=ck_all HR.out.2 hr.out.2.1
    have cc:=ck_cell hbw HC.out
    by_cases hlt2:p<n
    ·obtain ⟨s,hs⟩:∃s,r[p]?=some s:=⟨r[p]'(by rw[<-HNR.out.1];exact hlt2),by rw[List.getElem?_eq_getElem]⟩
     obtain ⟨ve,vd,vl,pp,ay,ar,gy,capy,capr,hM,hnm,hto,hwl,hcl⟩:=HIN.out p s hs
     have HMM:Hid (StM A w gr p s ve vd vl pp ay ar gy capy capr):=hM
     have hM:=hM.below hbw
     obtain ⟨v1,v2,v3,rfl⟩:=hM.he.sl'
     obtain ⟨v4,v5,v6,rfl⟩:=hM.hd.sl'
     obtain ⟨v7,v8,v9,rfl⟩:=hM.hl.sl'
     obtain ⟨S,hS⟩:∃S,Value.string S=sv s.name:=⟨_,rfl⟩
     obtain ⟨M,hML⟩:∃M,M=s.ways.length:=⟨_,rfl⟩
     obtain ⟨nr,hnr⟩:∃nr,nr=s.regions.length:=⟨_,rfl⟩
     obtain ⟨d1,hd1⟩:∃d1,d1=s.first:=⟨_,rfl⟩
     obtain ⟨d2,hd2⟩:∃d2,d2=s.last:=⟨_,rfl⟩
     have hit:=ixT a gr n c p hlt2 HA.out
     have c0:=hM.c0
     have c1:=hM.c1
     have c2:=hM.c2
     have c3:=hM.c3
     have c4:=hM.c4
     have c5:=hM.c5
     have c6:=hM.c6
     have c7:=hM.c7
     have c8:=hM.c8
     rw[<-hS] at c0
     rw[<-hd1] at c1
     rw[<-hd2] at c2
     rw[<-hML] at c7 hwl
     rw[<-hnr] at c8
     obtain ⟨q,hq⟩:∃q,q=w2.heap.size:=⟨_,rfl⟩
     obtain ⟨X,hX⟩:∃X,X=w2.alloc (.cells #[.string ((⟨#[120]⟩:ByteArray)++S),.bool d1,.bool d2,.slice v1 v2 v3,.slice v4 v5 v6,.slice v7 v8 v9,.pointer pp,.slice ay M capy,.slice ar nr capr] 69):=⟨_,rfl⟩
     have hkx:X.heap[q]?=some (.cells #[.string ((⟨#[120]⟩:ByteArray)++S),.bool d1,.bool d2,.slice v1 v2 v3,.slice v4 v5 v6,.slice v7 v8 v9,.pointer pp,.slice ay M capy,.slice ar nr capr] 69 (0,0)):=by rw[hX,hq];exact ck_new w2 _
     have hbx:Below w2.heap.size w2 X:=by rw[hX];exact ck_grown _ _
     have hxs:X.heap.size=w2.heap.size+1:=by rw[hX];simp
     have HX:Hid (X.heap[q]?=some (.cells #[.string ((⟨#[120]⟩:ByteArray)++S),.bool d1,.bool d2,.slice v1 v2 v3,.slice v4 v5 v6,.slice v7 v8 v9,.pointer pp,.slice ay M capy,.slice ar nr capr] 69 (0,0))/\Below w2.heap.size w2 X/\X.heap.size=w2.heap.size+1/\q=w2.heap.size):=⟨hkx,hbx,hxs,hq⟩
     have HS:Hid (Value.string S=sv s.name/\M=s.ways.length/\nr=s.regions.length/\d1=s.first/\d2=s.last/\r[p]?=some s):=⟨hS,hML,hnr,hd1,hd2,hs⟩
     have HTO:Hid (∀y∈s.ways,y.to.length≤12):=hto
     have HCL:Hid (∀w',Below w.heap.size w w'->Calls Tryz.prog 30 #[.slice ar nr capr] w' fun e w''=>∃a n m,e=.returned (.slice a n m)/\Hid (IsRegs (fun b=>A b\/w'.heap.size≤b) w'' (J (fun b=>A b\/w'.heap.size≤b) w'') (s.regions.map fr) (.slice a n m)/\Below w'.heap.size w' w'')):=by rw[hnr];exact hcl
     have HR2:Hid (RowAt (RSt J) A w1.heap.size 69 9 w2 ((r.take p).map (renF fr)) (.slice a5 p k5) ys/\Below w1.heap.size w1 w2/\Below w.heap.size w w2):=⟨hr.out.1,hr.out.2.1,hbw⟩
     have hSz:S.size≤12:=by have:S.size=s.name.length:=by { unfold sv at hS;injection hS with hS;rw[hS];rfl };omega
     have hadd:¬9223372036854775807<1+S.size:=by omega
     clear hr hs hS hML hnr hd1 hd2 hto hcl hkx hbx hxs hnm hM hbw hSz
     go_upto_region 11 with fail
     rw[<-hX,<-hq]
     clear hit c0 c1 c2 c3 c4 c5 c6 c7 c8 cc hX hq hadd
     go_wp2_with fail
     go_loopg [8,9] M (fun fu wv i wr=>∃(m:Nat) (zs:List Value),fu=M-m/\m≤M/\i=.int .i64 (m:Int)/\Hid (RowAt WayC A X.heap.size 73 7 wr ((s.ways.take m).map renW) wv zs/\Below X.heap.size X wr))
     case atStart=>exact ⟨0,[],by omega,by omega,rfl,RowAt.nil,Below.refl _ _⟩
     case round=>
      obtain ⟨m,zs,rfl,hm,rfl,hr⟩:=hrel
      obtain ⟨a8,k8,e⟩:=hr.out.1.shape HS.out.2.1 hm
      subst e
      obtain ⟨w3,rfl⟩:∃w3,w3=wr:=⟨wr,rfl⟩
      have hkq:=ck_block hr.out.2 HX.out.1
      have z7:=cell_row hkq 7 (u:=.slice ay M capy) rfl
      have hb3:Below w.heap.size w w3:=ck_all (ck_all HR2.out.2.2 HX.out.2.1) hr.out.2
      by_cases hltm:m<M
      ·obtain ⟨y,hy⟩:∃y,s.ways[m]?=some y:=⟨s.ways[m]'(by rw[<-HS.out.2.1];exact hltm),by rw[List.getElem?_eq_getElem]⟩
       obtain ⟨py,qy,hWM⟩:=HMM.out.hw.2.2 m y hy
       have hW3:=hWM.below hb3
       obtain ⟨y0,y1,y2,y3,y4,y5,y6,y7,y8⟩:=hW3
       obtain ⟨b1,b2,b3,rfl⟩:=y8.sl'
       have HW3:Hid (IsE A w3 y.cond (.pointer py)/\IsSets A w3 y.sets (.slice b1 b2 b3)):=⟨y7,y8⟩
       have hiw:=ixW ay gy M capy m hltm (fun hp=>by rw[HS.out.2.1] at hp;exact (HMM.out.hw.2.1 hp).1)
       obtain ⟨T,hT⟩:∃T,Value.string T=sv y.to:=⟨_,rfl⟩
       obtain ⟨kd,hkd⟩:∃kd:Int,kd=(y.kind:Int):=⟨_,rfl⟩
       obtain ⟨tm,htm⟩:∃tm:Int,tm=(y.times:Int):=⟨_,rfl⟩
       obtain ⟨e1,he1⟩:∃e1,e1=y.now:=⟨_,rfl⟩
       obtain ⟨e2,he2⟩:∃e2,e2=y.back:=⟨_,rfl⟩
       rw[<-hkd] at y0
       rw[<-he1] at y1
       rw[<-htm] at y3
       rw[<-hT] at y5
       rw[<-he2] at y6
       have hTz:T.size≤12:=by
        have h1:=HTO.out y (List.mem_of_getElem? hy)
        have:T.size=y.to.length:=by { unfold sv at hT;injection hT with hT;rw[hT];rfl }
        omega
       have hadd:¬9223372036854775807<1+T.size:=by omega
       obtain ⟨Z,hZ⟩:∃Z,Z=w3.alloc (.cells #[.int .i64 kd,.bool e1,.pointer py,.int .i64 tm,.slice b1 b2 b3,.string ((⟨#[120]⟩:ByteArray)++T),.bool e2] 73):=⟨_,rfl⟩
       obtain ⟨q2,hq2⟩:∃q2,q2=w3.heap.size:=⟨_,rfl⟩
       have hkz:Z.heap[q2]?=some (.cells #[.int .i64 kd,.bool e1,.pointer py,.int .i64 tm,.slice b1 b2 b3,.string ((⟨#[120]⟩:ByteArray)++T),.bool e2] 73 (0,0)):=by rw[hZ,hq2];exact ck_new w3 _
       have hbz:Below w3.heap.size w3 Z:=by rw[hZ];exact ck_grown _ _
       have HE:Hid (WayC (fun b=>A b\/w3.heap.size≤b) Z (renW y) [.int .i64 kd,.bool e1,.pointer py,.int .i64 tm,.slice b1 b2 b3,.string ((⟨#[120]⟩:ByteArray)++T),.bool e2]):=by
        refine ⟨.pointer py,.slice b1 b2 b3,?_,HW3.out.1.carry fun b hb hlt=>⟨.inl hb,hbz.block b hlt⟩,HW3.out.2.carry fun b hb hlt=>⟨.inl hb,hbz.block b hlt⟩⟩
        rw[ren_sv T y.to hT,hkd,htm,he1,he2]
        rfl
       have HR3:Hid (RowAt WayC A X.heap.size 73 7 w3 ((s.ways.take m).map renW) (.slice a8 m k8) zs/\Below X.heap.size X w3/\Below w3.heap.size w3 Z/\s.ways[m]?=some y):=⟨hr.out.1,hr.out.2,hbz,hy⟩
       have hown:Z.ownsRow X.heap.size 73 7 (.slice a8 m k8) m zs:=(hr.out.1.low rway_carries hbz).own' HS.out.2.1 hm
       have hxz:X.heap.size≤Z.heap.size:=Nat.le_trans hr.out.2.size hbz.size
       clear hr hy hT hkd htm he1 he2 hTz hbz hWM y7 y8 hkq hb3
       go_upto_region 17 with fail
       rw[<-hZ,<-hq2]
       have x0:=cell_row hkz 0 (u:=.int .i64 kd) rfl
       have x1:=cell_row hkz 1 (u:=.bool e1) rfl
       have x2:=cell_row hkz 2 (u:=.pointer py) rfl
       have x3:=cell_row hkz 3 (u:=.int .i64 tm) rfl
       have x4:=cell_row hkz 4 (u:=.slice b1 b2 b3) rfl
       have x5:=cell_row hkz 5 (u:=.string ((⟨#[120]⟩:ByteArray)++T)) rfl
       have x6:=cell_row hkz 6 (u:=.bool e2) rfl
       clear hZ hq2 y0 y1 y2 y3 y4 y5 y6 hiw z7 hadd hkz
       go_wp2_with (at_builtin;refine wpList_append_own_at _ rfl (.tmp 53) (.tmp 55) 67 rfl X.heap.size 73 iW _ 7 80 Tryz.underlying67 hiW hW0 hW1 hW2 rfl (by decide) _ _ _ rfl (hown.alloc _) ⟨Z.heap.size,0,none⟩ 1 1 [.int .i64 kd,.bool e1,.pointer py,.int .i64 tm,.slice b1 b2 b3,.string ((⟨#[120]⟩:ByteArray)++T),.bool e2] rfl rfl (cells_new _ _ _) (by intro u hu;simp at hu;rcases hu with rfl|rfl|rfl|rfl|rfl|rfl|rfl<;>rfl) (by unfold maxLen;omega) (by omega) (by simp;omega) ?_;intro v5 w5 hown5 hgrow _ hat)
       go_roundg (M-(m+1))
       case measure=>omega
       case rel=>
        have hst:=HR3.out.1.step rway_carries (fun b hb=>Nat.lt_of_lt_of_le (hA.out b hb) (Nat.le_trans HR2.out.2.2.size HX.out.2.1.size)) HR3.out.2.1.size HR3.out.2.2.1 HE.out (by rw[take_map_len renW HS.out.2.1 hm];exact hown5) hgrow hat
        exact ⟨m+1,_,rfl,by omega,by go_num,by rw[take_map_snoc renW HR3.out.2.2.2];exact hst.1,HR3.out.2.1.trans hst.2⟩
      ·obtain rfl:M=m:=by omega
       have z8:=cell_row hkq 8 (u:=.slice ar nr capr) rfl
       have hcall:=HCL.out w3 hb3
       have HR3:Hid (RowAt WayC A X.heap.size 73 7 w3 ((s.ways.take M).map renW) (.slice a8 M k8) zs/\Below X.heap.size X w3/\w3.heap[q]?=some (.cells #[.string ((⟨#[120]⟩:ByteArray)++S),.bool d1,.bool d2,.slice v1 v2 v3,.slice v4 v5 v6,.slice v7 v8 v9,.pointer pp,.slice ay M capy,.slice ar nr capr] 69 (0,0))/\Below w.heap.size w w3):=⟨hr.out.1,hr.out.2,hkq,hb3⟩
       clear hr hkq hb3
       go_upto_region 18 with fail
       clear z7
       go_wp2_with fail
       clear z8
       refine hcall.mono ?_
       rintro e w4 ⟨ra,rn,rm,rfl,h4⟩
       have hk4:=ck_block h4.out.2 HR3.out.2.2.1
       have f7:=ck_frozen hk4 7
       have f8:=ck_frozen hk4 8
       have g7:=cell_row hk4 7 (u:=.slice ay M capy) rfl
       have g8:=cell_row hk4 8 (u:=.slice ar nr capr) rfl
       obtain ⟨W9,hW9⟩:∃W9,W9=(w4.setCell ⟨q,7,none⟩ (.slice a8 M k8)).setCell ⟨q,8,none⟩ (.slice ra rn rm):=⟨_,rfl⟩
       have hk9:W9.heap[q]?=some (.cells #[.string ((⟨#[120]⟩:ByteArray)++S),.bool d1,.bool d2,.slice v1 v2 v3,.slice v4 v5 v6,.slice v7 v8 v9,.pointer pp,.slice a8 M k8,.slice ra rn rm] 69 (0,0)):=by rw[hW9];exact ck_set (l:=[.string ((⟨#[120]⟩:ByteArray)++S),.bool d1,.bool d2,.slice v1 v2 v3,.slice v4 v5 v6,.slice v7 v8 v9,.pointer pp,.slice a8 M k8,.slice ar nr capr]) (ck_set (l:=[.string ((⟨#[120]⟩:ByteArray)++S),.bool d1,.bool d2,.slice v1 v2 v3,.slice v4 v5 v6,.slice v7 v8 v9,.pointer pp,.slice ay M capy,.slice ar nr capr]) hk4 7 _) 8 _
       have hqq:w2.heap.size≤q/\q<X.heap.size/\w.heap.size≤w2.heap.size/\X.heap.size≤w3.heap.size/\w3.heap.size≤w4.heap.size:=⟨by rw[HX.out.2.2.2];exact Nat.le_refl _,lt_of_block HX.out.1,HR2.out.2.2.size,HR3.out.2.1.size,h4.out.2.size⟩
       have ko:∀b,b≠q->W9.heap[b]?=w4.heap[b]?:=fun b hb=>by rw[hW9,Below.heap_setCell _ _ _ _ hb,Below.heap_setCell _ _ _ _ hb]
       have hb29:Below w2.heap.size w2 W9:=by
        have h1:Below w2.heap.size w2 w4:=ck_all (ck_all HX.out.2.1 HR3.out.2.1) h4.out.2
        rw[hW9]
        exact (h1.setCell (p:=⟨q,7,none⟩) hqq.1 _).setCell (p:=⟨q,8,none⟩) hqq.1 _
       have hb09:Below w.heap.size w W9:=ck_all HR2.out.2.2 hb29
       have HE:Hid (RSt J (fun b=>A b\/w2.heap.size≤b) W9 (renF fr s) [.string ((⟨#[120]⟩:ByteArray)++S),.bool d1,.bool d2,.slice v1 v2 v3,.slice v4 v5 v6,.slice v7 v8 v9,.pointer pp,.slice a8 M k8,.slice ra rn rm]):=by
        have kA:Keep A (fun b=>A b\/w2.heap.size≤b) w W9:=fun b hb hlt=>⟨.inl hb,hb09.block b hlt⟩
        have hAq:∀b,A b->b<w.heap.size:=hA.out
        have kW:Keep (fun b=>A b\/X.heap.size≤b) (fun b=>A b\/w2.heap.size≤b) w3 W9:=fun b hb hlt=>by
         refine ⟨by rcases hb with h|h;exact .inl h;exact .inr (by omega),?_⟩
         rw[ko b (by rcases hb with h|h;have:=hAq b h;omega;omega),h4.out.2.block b hlt]
        have kR:Keep (fun b=>A b\/w3.heap.size≤b) (fun b=>A b\/w2.heap.size≤b) w4 W9:=fun b hb hlt=>by
         refine ⟨by rcases hb with h|h;exact .inl h;exact .inr (by omega),?_⟩
         rw[ko b (by rcases hb with h|h;have:=hAq b h;omega;omega)]
        have hwy:=HR3.out.1.done rway_carries
        rw[HS.out.2.1,List.take_length] at hwy
        refine ⟨.slice v1 v2 v3,.slice v4 v5 v6,.slice v7 v8 v9,.pointer pp,.slice a8 M k8,.slice ra rn rm,?_,HMM.out.he.carry kA,HMM.out.hd.carry kA,HMM.out.hl.carry kA,HMM.out.hp.carry kA,?_,?_⟩
        ·rw[ren_sv S s.name HS.out.1,HS.out.2.2.2.1,HS.out.2.2.2.2.1]
         rfl
        ·rw[HS.out.2.1]
         exact IsWays.carry kW ⟨zs,hwy.1,hwy.2⟩
        ·exact h4.out.1.carry kR (HJ.out kR)
       have hown:W9.ownsRow w1.heap.size 69 9 (.slice a5 p k5) p ys:=(HR2.out.1.low (rst_carries HJ.out) hb29).own' HNR.out.1 (by omega)
       have HB9:Hid (Below w2.heap.size w2 W9):=hb29
       have h19:w1.heap.size≤W9.heap.size:=Nat.le_trans HR2.out.2.1.size hb29.size
       clear hcall h4 hk4 hqq ko hb29 hb09
       go_upto_region 19 with fail
       rw[<-hW9]
       have x0:=cell_row hk9 0 (u:=.string ((⟨#[120]⟩:ByteArray)++S)) rfl
       have x1:=cell_row hk9 1 (u:=.bool d1) rfl
       have x2:=cell_row hk9 2 (u:=.bool d2) rfl
       have x3:=cell_row hk9 3 (u:=.slice v1 v2 v3) rfl
       have x4:=cell_row hk9 4 (u:=.slice v4 v5 v6) rfl
       have x5:=cell_row hk9 5 (u:=.slice v7 v8 v9) rfl
       have x6:=cell_row hk9 6 (u:=.pointer pp) rfl
       have x7:=cell_row hk9 7 (u:=.slice a8 M k8) rfl
       have x8:=cell_row hk9 8 (u:=.slice ra rn rm) rfl
       clear f7 f8 g7 g8 hW9 hk9
       go_wp2_with (at_builtin;refine wpList_append_own_at _ rfl (.tmp 63) (.tmp 65) 64 rfl w1.heap.size 69 iS _ 9 152 Tryz.underlying64 hiS hS0 hS1 hS2 rfl (by decide) _ _ _ rfl (hown.alloc _) ⟨W9.heap.size,0,none⟩ 1 1 [.string ((⟨#[120]⟩:ByteArray)++S),.bool d1,.bool d2,.slice v1 v2 v3,.slice v4 v5 v6,.slice v7 v8 v9,.pointer pp,.slice a8 M k8,.slice ra rn rm] rfl rfl (cells_new _ _ _) (by intro u hu;simp at hu;rcases hu with rfl|rfl|rfl|rfl|rfl|rfl|rfl|rfl|rfl<;>rfl) (by unfold maxLen;omega) (by omega) (by simp;omega) ?_;intro v5' w5 hown5 hgrow _ hat)
       go_roundg (n-(p+1))
       case measure=>omega
       case rel=>
        have hst:=HR2.out.1.step (rst_carries HJ.out) (fun b hb=>Nat.lt_of_lt_of_le (hA.out b hb) HR.out.2.size) HR2.out.2.1.size HB9.out HE.out (by rw[take_map_len (renF fr) HNR.out.1 (by omega)];exact hown5) hgrow hat
        exact ⟨p+1,_,rfl,by omega,by go_num,by rw[take_map_snoc (renF fr) HS.out.2.2.2.2.2];exact hst.1,HR2.out.2.1.trans hst.2,fun h=>absurd h (by omega)⟩
    ·obtain rfl:n=p:=by omega
     have HE:Hid (ROut J (fun b=>A b\/w1.heap.size≤b) w2 (r.map (renF fr)) [.slice a5 n k5]):=by
      have hd:=hr.out.1.done (rst_carries HJ.out)
      have htk:r.take n=r:=by rw[HNR.out.1,List.take_length]
      rw[htk] at hd
      refine ⟨_,rfl,⟨ys,hd.1,hd.2⟩,fun he=>hr.out.2.2 ?_⟩
      rw[HNR.out.1]
      exact List.length_eq_zero_iff.2 (List.map_eq_nil_iff.1 he)
     have HB2:Hid (Below w1.heap.size w1 w2):=hr.out.2.1
     have hown:w2.ownsRow w.heap.size 64 1 (.slice ao k co) k xs:=(HR.out.1.low (rout_carries HJ.out) hr.out.2.1).own' hn.out hk
     have h02:w.heap.size≤w2.heap.size:=hbw.size
     clear hr hbw
     go_wp2_with (at_builtin;refine wpList_append_own_at _ rfl (.tmp 67) (.tmp 69) 26 rfl w.heap.size 64 iR _ 1 24 Tryz.underlying26 hiR hR0 hR1 hR2 rfl (by decide) _ _ _ rfl (hown.alloc _) ⟨w2.heap.size,0,none⟩ 1 1 [.slice a5 n k5] rfl rfl (cells_new _ _ _) (by intro u hu;simp at hu;subst hu;rfl) (by unfold maxLen;omega) (by omega) (by simp;omega) ?_;intro v5' w5 hown5 hgrow _ hat)
     go_roundg (N-(k+1))
     case measure=>omega
     case rel=>
      have hst:=HR.out.1.step (rout_carries HJ.out) hA.out HR.out.2.size HB2.out HE.out (by rw[take_map_len _ hn.out hk];exact hown5) hgrow hat
      exact ⟨k+1,_,rfl,by omega,by go_num,by rw[take_map_snoc _ HNR.out.2];exact hst.1,HR.out.2.trans hst.2⟩
  ·obtain rfl:k=N:=by omega
   have hd:=hr.out.1.done (rout_carries HJ.out)
   have hb:=hr.out.2
   rw[hn.out,List.take_length] at hd
   rw[List.length_map] at hd
   have HD:Hid _:=And.intro hd hb
   clear hd hb hr
   go_wp2_with fail
   go_ret
   exact ⟨_,_,_,rfl,⟨xs,by rw[hn.out];exact HD.out.1.1,HD.out.1.2⟩,HD.out.2⟩
end Kx
end
end Go.Proofs.YtpogmfliojcnjaaGreatDoor
