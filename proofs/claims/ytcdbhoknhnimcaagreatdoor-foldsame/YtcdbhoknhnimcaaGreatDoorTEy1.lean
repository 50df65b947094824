import Derived.Test.YtcdbhoknhnimcaaGreatDoorTCs5
import Derived.Test.YtcdbhoknhnimcaaGreatDoorTGm
import Derived.Test.YtcdbhoknhnimcaaGreatDoorTEv
set_option maxRecDepth 100000
set_option maxHeartbeats 4000000
namespace Go.Proofs.YtcdbhoknhnimcaaGreatDoor
section
open Go.RowKit Px
namespace Ew
section
variable {A:Nat->Prop}{w:World}{d:Nat}
def tR {α:Type}(p:α->Bool) (l:List α):Int:=match l.findIdx? p with|some i=>(i:Int)|none=>-1
theorem Fx {α:Type}{p:α->Bool}{l:List α}{j:Nat}{a:α}(ha:l[j]?=some a) (hp:p a=true) (hn:∀(m:Nat) (b:α),m<j->l[m]?=some b->p b=false):tR p l=(j:Int):=by
 obtain ⟨hj,rfl⟩:=List.getElem?_eq_some_iff.1 ha
 have:l.findIdx? p=some j:=List.findIdx?_eq_some_iff_getElem.2 ⟨hj,hp,fun m hm=>by rw[hn m _ hm (List.getElem?_eq_getElem (by omega))];simp⟩
 unfold tR;rw[this]
theorem Fu {α:Type}{p:α->Bool}{l:List α}(hn:∀(m:Nat) (b:α),l[m]?=some b->p b=false):tR p l=-1:=by
 have:l.findIdx? p=none:=List.findIdx?_eq_none_iff.2 fun a ha=>by
  obtain ⟨m,hm⟩:=List.getElem?_of_mem ha
  exact hn m a hm
 unfold tR;rw[this]
theorem Jn {σ:Type}:∀(l:List (cC σ)) (s:bB),tR (fun x=>decide (x.name=s)) l=eB (bA l) s:=by
 intro l s
 have h:l.findIdx? (fun x=>decide (x.name=s))=jK (bA l) s:=by
  induction l with
  | nil=>rfl
  | cons a r ih=>
   rw[List.findIdx?_cons,ih]
   show _=jK (a.name::bA r) s
   rw[jK]
   by_cases h:a.name=s
   ·rw[if_pos (by simpa using h),if_pos h]
   ·rw[if_neg (by simpa using h),if_neg h]
 unfold tR eB
 rw[h]
 cases jK (bA l) s<;>rfl
theorem aN0 (S:ByteArray) (f l:Bool) (a3 a4 a5 a7 a8:Option Addr) (n3 c3 n4 c4 n5 c5 n7 c7 n8 c8:Nat) (p:Option Addr) (W:World) :
    Calls Tryz.prog 198 #[.agg #[.string S,.bool f,.bool l,.slice a3 n3 c3,.slice a4 n4 c4,.slice a5 n5 c5,.pointer p,.slice a7 n7 c7,.slice a8 n8 c8]] W fun e w'=>e=.returned (.bool f)/\Hid (Below W.heap.size W w'):=by
 go_enter Tryz.func198,Tryz.ntmps198
 go_wp2_with fail
 go_ret
 exact ⟨rfl,aC _ _⟩
theorem aM9 (S N:ByteArray) (f l:Bool) (a3 a4 a5 a7 a8:Option Addr) (n3 c3 n4 c4 n5 c5 n7 c7 n8 c8:Nat) (p:Option Addr) (q:Nat) (W:World) (hq:W.cell? ⟨q,0,none⟩=some (.string N)) (b:Bool) (hb:b=decide (S=N)) :
    Calls Tryz.prog 201 #[.agg #[.string S,.bool f,.bool l,.slice a3 n3 c3,.slice a4 n4 c4,.slice a5 n5 c5,.pointer p,.slice a7 n7 c7,.slice a8 n8 c8],.pointer (some ⟨q,0,none⟩)] W fun e w'=>e=.returned (.bool b)/\Hid (Below W.heap.size W w'):=by
 have hq':∀ob,(W.alloc ob).cell? ⟨q,0,none⟩=some (.string N):=fun ob=>aM (aC W ob) hq
 have hle:(S.toList==N.toList)=b:=by
  rw[hb,ByteArray.toList_eq,ByteArray.toList_eq,Bool.eq_iff_iff]
  simp[ByteArray.ext_iff]
 clear hb
 go_enter Tryz.func201,Tryz.ntmps201
 go_wp2_with fail
 go_ret
 exact ⟨rfl,aC _ _⟩
theorem Vg {l:List (cC (St d))}{v:Value}(hv:aL A w (d+1) l v) :
    Calls Tryz.prog 197 #[v,.func (.func 198) #[] #[]] w fun e w'=>e=.returned (.int .i64 (tR (fun x:cC (St d)=>x.first) l))/\Hid (Below w.heap.size w w'):=by
 obtain ⟨ad,g,cap,rfl,hmx,hg,hat⟩:=hv.open
 obtain ⟨N,hN⟩:∃N,N=l.length:=⟨_,rfl⟩
 rw[<-hN] at hmx hg ⊢
 have HN:Hid _:=hN
 have HG:Hid (0<N->ad=some ⟨g,0,none⟩/\g<w.heap.size):=hg
 have HAT:Hid _:=hat
 have hN6:(N:Int)≤9223372036854775807:=by unfold maxLen at hmx;omega
 clear hv hN hmx hg hat
 go_enter Tryz.func197,Tryz.ntmps197
 go_wp2_with fail
 go_loopg [8] N (fun f i wr=>∃j:Nat,f=N-j/\j≤N/\i=.int .i64 (j:Int)/\Hid ((∀(m:Nat) (s:cC (St d)),m<j->l[m]?=some s->(fun x:cC (St d)=>x.first) s=false)/\Below w.heap.size w wr))
 case atStart=>exact ⟨0,by omega,by omega,rfl,fun m s hm=>absurd hm (by omega),Below.refl _ _⟩
 case round=>
  obtain ⟨j,rfl,hj,rfl,hr⟩:=hrel
  by_cases hlt:j<N
  ·obtain ⟨s,hs⟩:∃s:cC (St d),l[j]?=some s:=⟨_,List.getElem?_eq_getElem (by rw[<-HN.out];exact hlt)⟩
   obtain ⟨ve,vd,vl,p,ay,ar,gy,capy,capr,hm,_⟩:=HAT.out j s hs
   have hm:=hm.below hr.out.2
   have hix:=Ve ad g N cap j hlt (fun hp=>(HG.out hp).1)
   obtain ⟨c0,c1,c2,c3,c4,c5,c6,c7,c8,he,hd',hl',_⟩:=hm
   obtain ⟨b1,b2,b3,rfl⟩:=he.sl'
   obtain ⟨b4,b5,b6,rfl⟩:=hd'.sl'
   obtain ⟨b7,b8,b9,rfl⟩:=hl'.sl'
   obtain ⟨S,hS⟩:∃S,Value.string S=sv s.name:=⟨_,rfl⟩
   rw[<-hS] at c0
   obtain ⟨o,ho⟩:∃o,o=j*9:=⟨_,rfl⟩
   rw[<-ho] at c0 c1 c2 c3 c4 c5 c6 c7 c8 hix
   obtain ⟨f1,hf1⟩:∃f1,f1=s.first:=⟨_,rfl⟩
   rw[<-hf1] at c1
   obtain ⟨yl,hyl⟩:∃yl,yl=s.ways.length:=⟨_,rfl⟩
   obtain ⟨rl,hrl⟩:∃rl,rl=s.regions.length:=⟨_,rfl⟩
   rw[<-hyl] at c7
   rw[<-hrl] at c8
   obtain ⟨bb,hbb⟩:∃bb,bb=(fun x:cC (St d)=>x.first) s:=⟨_,rfl⟩
   rw[show f1=bb by rw[hf1,hbb]] at c1
   have hcl:=aN0 S bb s.last b1 b4 b7 ay ar b2 b3 b5 b6 b8 b9 yl capy rl capr p wr
   have HR:Hid (_/\_/\_/\_):=⟨hr.out.1,hr.out.2,hs,hbb⟩
   clear hr he hd' hl' hS ho hf1 hyl hrl hbb hs
   cases bb with
   | true=>
    go_wp2_with (refine hcl.mono ?_;rintro e w1 ⟨rfl,h1⟩)
    go_ret
    exact ⟨by rw[Fx HR.out.2.2.1 HR.out.2.2.2.symm HR.out.1];rfl,aN HR.out.2.1 h1.out⟩
   | false=>
    go_wp2_with (refine hcl.mono ?_;rintro e w1 ⟨rfl,h1⟩)
    go_roundg (N-(j+1))
    case measure=>omega
    case rel=>exact ⟨j+1,rfl,by omega,by go_num,fun m s' hm hs'=>by
     rcases Nat.lt_or_ge m j with h|h
     ·exact HR.out.1 m s' h hs'
     ·obtain rfl:m=j:=by omega
      have:=HR.out.2.2.1
      rw[this] at hs'
      injection hs' with hs'
      rw[<-hs']
      exact HR.out.2.2.2.symm,aN HR.out.2.1 h1.out⟩
  ·obtain rfl:j=N:=by omega
   have HF:Hid (tR (fun x:cC (St d)=>x.first) l=-1/\_):=⟨Fu fun m s hs=>hr.out.1 m s (by have:=(List.getElem?_eq_some_iff.1 hs).1;have:=HN.out;omega) hs,hr.out.2⟩
   clear hr
   go_wp2_with fail
   go_ret
   exact ⟨by rw[HF.out.1];rfl,HF.out.2⟩
theorem Zg {l:List (cC (St d))}{v:Value}(hv:aL A w (d+1) l v) {q:Nat}{nm:bB}(hq:w.cell? ⟨q,0,none⟩=some (sv nm)) :
    Calls Tryz.prog 197 #[v,.func (.func 201) #[] #[.pointer (some ⟨q,0,none⟩)]] w fun e w'=>e=.returned (.int .i64 (tR (fun x:cC (St d)=>decide (x.name=nm)) l))/\Hid (Below w.heap.size w w'):=by
 obtain ⟨ad,g,cap,rfl,hmx,hg,hat⟩:=hv.open
 obtain ⟨N,hN⟩:∃N,N=l.length:=⟨_,rfl⟩
 rw[<-hN] at hmx hg ⊢
 have HN:Hid _:=hN
 have HG:Hid (0<N->ad=some ⟨g,0,none⟩/\g<w.heap.size):=hg
 have HAT:Hid _:=hat
 have hN6:(N:Int)≤9223372036854775807:=by unfold maxLen at hmx;omega
 have HQ:Hid _:=hq
 clear hq
 clear hv hN hmx hg hat
 go_enter Tryz.func197,Tryz.ntmps197
 go_wp2_with fail
 go_loopg [8] N (fun f i wr=>∃j:Nat,f=N-j/\j≤N/\i=.int .i64 (j:Int)/\Hid ((∀(m:Nat) (s:cC (St d)),m<j->l[m]?=some s->(fun x:cC (St d)=>decide (x.name=nm)) s=false)/\Below w.heap.size w wr))
 case atStart=>exact ⟨0,by omega,by omega,rfl,fun m s hm=>absurd hm (by omega),Below.refl _ _⟩
 case round=>
  obtain ⟨j,rfl,hj,rfl,hr⟩:=hrel
  by_cases hlt:j<N
  ·obtain ⟨s,hs⟩:∃s:cC (St d),l[j]?=some s:=⟨_,List.getElem?_eq_getElem (by rw[<-HN.out];exact hlt)⟩
   obtain ⟨ve,vd,vl,p,ay,ar,gy,capy,capr,hm,_⟩:=HAT.out j s hs
   have hm:=hm.below hr.out.2
   have hix:=Ve ad g N cap j hlt (fun hp=>(HG.out hp).1)
   obtain ⟨c0,c1,c2,c3,c4,c5,c6,c7,c8,he,hd',hl',_⟩:=hm
   obtain ⟨b1,b2,b3,rfl⟩:=he.sl'
   obtain ⟨b4,b5,b6,rfl⟩:=hd'.sl'
   obtain ⟨b7,b8,b9,rfl⟩:=hl'.sl'
   obtain ⟨S,hS⟩:∃S,Value.string S=sv s.name:=⟨_,rfl⟩
   rw[<-hS] at c0
   obtain ⟨o,ho⟩:∃o,o=j*9:=⟨_,rfl⟩
   rw[<-ho] at c0 c1 c2 c3 c4 c5 c6 c7 c8 hix
   obtain ⟨f1,hf1⟩:∃f1,f1=s.first:=⟨_,rfl⟩
   rw[<-hf1] at c1
   obtain ⟨yl,hyl⟩:∃yl,yl=s.ways.length:=⟨_,rfl⟩
   obtain ⟨rl,hrl⟩:∃rl,rl=s.regions.length:=⟨_,rfl⟩
   rw[<-hyl] at c7
   rw[<-hrl] at c8
   obtain ⟨bb,hbb⟩:∃bb,bb=(fun x:cC (St d)=>decide (x.name=nm)) s:=⟨_,rfl⟩
   obtain ⟨M,hM⟩:∃M,Value.string M=sv nm:=⟨_,rfl⟩
   have hcl:=aM9 S M f1 s.last b1 b4 b7 ay ar b2 b3 b5 b6 b8 b9 yl capy rl capr p q wr (by rw[hM];exact aM hr.out.2 HQ.out) bb (by
    rw[hbb]
    have e:(S=M)↔s.name=nm:=by
     unfold sv at hS hM
     injection hS with hS
     injection hM with hM
     rw[hS,hM]
     constructor
     ·intro h;simpa using h
     ·intro h;rw[h]
    simp[e])
   clear hM
   have HR:Hid (_/\_/\_/\_):=⟨hr.out.1,hr.out.2,hs,hbb⟩
   clear hr he hd' hl' hS ho hf1 hyl hrl hbb hs
   cases bb with
   | true=>
    go_wp2_with (refine hcl.mono ?_;rintro e w1 ⟨rfl,h1⟩)
    go_ret
    exact ⟨by rw[Fx HR.out.2.2.1 HR.out.2.2.2.symm HR.out.1];rfl,aN HR.out.2.1 h1.out⟩
   | false=>
    go_wp2_with (refine hcl.mono ?_;rintro e w1 ⟨rfl,h1⟩)
    go_roundg (N-(j+1))
    case measure=>omega
    case rel=>exact ⟨j+1,rfl,by omega,by go_num,fun m s' hm hs'=>by
     rcases Nat.lt_or_ge m j with h|h
     ·exact HR.out.1 m s' h hs'
     ·obtain rfl:m=j:=by omega
      have:=HR.out.2.2.1
      rw[this] at hs'
      injection hs' with hs'
      rw[<-hs']
      exact HR.out.2.2.2.symm,aN HR.out.2.1 h1.out⟩
  ·obtain rfl:j=N:=by omega
   have HF:Hid (tR (fun x:cC (St d)=>decide (x.name=nm)) l=-1/\_):=⟨Fu fun m s hs=>hr.out.1 m s (by have:=(List.getElem?_eq_some_iff.1 hs).1;have:=HN.out;omega) hs,hr.out.2⟩
   clear hr
   go_wp2_with fail
   go_ret
   exact ⟨by rw[HF.out.1];rfl,HF.out.2⟩
theorem Qo {l:List (cC (St d))}{v:Value}(hv:aL A w (d+1) l v) {q3:Nat}(hq3:w.cell? ⟨q3,0,none⟩=some v) {nm:bB} :
    Calls Tryz.prog 200 #[sv nm,.pointer (some ⟨q3,0,none⟩)] w fun e w'=>e=.returned (.int .i64 (eB (bA l) nm))/\Hid (Below w.heap.size w w'):=by
 have hmf:∀(fn:Fn) (first cap:Array Value) (w:World),(Instr.makeFunc fn first cap).run Tryz.prog w=.ok (.func fn first cap) w:=fun _ _ _ _=>rfl
 obtain ⟨M,hM⟩:∃M,Value.string M=sv nm:=⟨_,rfl⟩
 rw[<-hM]
 obtain ⟨X,hX⟩:∃X,X=w.alloc (.cells #[.string M] 9):=⟨_,rfl⟩
 obtain ⟨q,hq⟩:∃q,q=w.heap.size:=⟨_,rfl⟩
 have hb:Below w.heap.size w X:=by rw[hX];exact aC _ _
 have hcq:X.cell? ⟨q,0,none⟩=some (sv nm):=by rw[<-hM,hX,hq];exact aA (bE w _) 0 rfl
 have hvX:aL A X (d+1) l v:=hv.carry (fun x hx hl=>⟨hx,hb.block x hl⟩)
 have hix:=Zg hvX hcq
 rw[Jn] at hix
 obtain ⟨ad,g,cap,rfl,_⟩:=hv.open
 have c0:=aM hb hq3
 have HB:Hid _:=hb
 clear hv hvX hcq hb hq3 hM
 go_enter Tryz.func200,Tryz.ntmps200
 go_upto_region 1 with fail
 rw[<-hX,<-hq]
 clear hX hq
 go_wp2_with (refine hix.mono ?_;rintro e w1 ⟨rfl,h1⟩)
 go_ret
 exact ⟨rfl,aN HB.out h1.out⟩
end
end Ew
end
section
open Go.RowKit Px
namespace Ew
open Px.Em (Kd Vr eL eM jG Rg cR)
open Nx (Nt Sp)
def iW {σ:Type}(f:List σ->Nat) (s:cC σ):Nat:=s.ways.length+(s.regions.map f).sum
def hJ:(d:Nat)->List (St d)->Nat
 | 0=>fun _=>1
 | d+1=>fun l=>1+(List.map (iW (hJ d)) (show List (cC (St d)) from l)).sum
def qV:(d:Nat)->List (St d)->Prop
 | 0=>fun _=>True
 | d+1=>fun l=>∀s∈(show List (cC (St d)) from l),s.during.length≤1000000/\s.leave.length≤1000000/\(∀y∈s.ways,y.times≤1000000)/\∀r∈s.regions,qV d r
def Lj {d:Nat}(A:Nat->Prop) (w:World) (r:Rg d) (cs:List Value):Prop:=∃g,cs=[.pointer (some ⟨g,0,none⟩)]/\eV A d w r g
def Gq (A:Nat->Prop) (w:World) (y:eL) (cs:List Value):Prop:=∃gy oy p q,cs=[.pointer (some ⟨gy,oy,none⟩),.int .i64 y.to,.int .i64 y.left]/\A gy/\iV A w gy oy y.drawn p q
section
variable {A A':Nat->Prop}{w w':World}{d:Nat}
theorem Lj.carry (k:aX A A' w w') (r:Rg d) (cs:List Value) (h:Lj A w r cs):Lj A' w' r cs:=by
 obtain ⟨g,h1,h2⟩:=h;exact ⟨g,h1,eV.carry d k r g h2⟩
theorem Gq.carry (k:aX A A' w w') (y:eL) (cs:List Value) (h:Gq A w y cs):Gq A' w' y cs:=by
 obtain ⟨gy,oy,p,q,h1,h2,h3⟩:=h;exact ⟨gy,oy,p,q,h1,(k gy h2 (World.block_lt_of_cell? w _ h3.1)).1,iV.carry k h2 h3⟩
end
structure LS (A:Nat->Prop) (ns:List bB) (P:Nat->Prop) (kb:Nat) (w:World) (k:Kd) (gd od q7 d E:Nat) (Pj Rj:Nat->Prop) (wr:World) (kj:Kd) (ins:List (Rg d)) (ys:List eL) (id lv:Bool) (ai:Option Addr) (ci:Nat) (aw:Option Addr) (cw:Nat):Prop where
 cm:eG E ns Pj wr kb kj
 up:∀x,Pj x->Up P w wr x
 dr:∀x,Pj x->¬Rj x
 rn:∀x,Rj x->w.heap.size≤x/\x<wr.heap.size
 fr:bH P w wr
 pl:k.net.places≤kj.net.places
 hq:wr.heap[q7]?=some (.cells #[.pointer (some ⟨gd,od,none⟩),.slice aw ys.length cw,.slice ai ins.length ci,.bool id,.bool lv] 269 (0,0))
 ql:w.heap.size≤q7/\¬Pj q7/\¬Rj q7
 ri:∃xs,wr.ownsRow 0 219 1 (.slice ai ins.length ci) ins.length xs/\Rows (Lj (fun x=>A x\/Rj x) wr) ins xs
 oi:∀x,(Value.slice ai ins.length ci).ownBlock=some x->w.heap.size≤x/\¬Pj x/\¬Rj x/\x≠q7
 rwy:∃xs,wr.ownsRow 0 303 3 (.slice aw ys.length cw) ys.length xs/\Rows (Gq A wr) ys xs
 ow:∀x,(Value.slice aw ys.length cw).ownBlock=some x->w.heap.size≤x/\¬Pj x/\¬Rj x/\x≠q7/\(Value.slice ai ins.length ci).ownBlock≠some x
section
variable {A P Pj Rj:Nat->Prop}{w wr w':World}{ns:List bB}{kb gd od q7 d E:Nat}{k kj:Kd}{ins:List (Rg d)}{ys:List eL}{id lv:Bool}{ai aw:Option Addr}{ci cw:Nat}
theorem eH {e size n:Nat}{v:Value}{xs:List Value}(h:wr.ownsRow 0 e size v n xs) (hk:∀x,v.ownBlock=some x->w'.heap[x]?=wr.heap[x]?):w'.ownsRow 0 e size v n xs:=
 dK (A:=fun x=>v.ownBlock=some x) (A':=fun _=>True) h (fun _ h=>h) fun x hx _=>⟨trivial,hk x hx⟩
theorem LS.below (h:LS A ns P kb w k gd od q7 d E Pj Rj wr kj ins ys id lv ai ci aw cw) (hb:Below wr.heap.size wr w'):LS A ns P kb w k gd od q7 d E Pj Rj w' kj ins ys id lv ai ci aw cw:=by
 obtain ⟨xi,ri1,ri2⟩:=h.ri
 obtain ⟨xw,rw1,rw2⟩:=h.rwy
 refine ⟨h.cm.below hb,fun x hx=>Up.size hb.size x (h.up x hx),h.dr,fun x hx=>⟨(h.rn x hx).1,Nat.lt_of_lt_of_le (h.rn x hx).2 hb.size⟩,h.fr.trans (bH.of_below (P:=fun _=>False) hb) fun _ _ h=>h.elim,h.pl,aH hb h.hq,h.ql,⟨xi,eH ri1 fun x hx=>hb.block x (ri1.lt x hx).2,ri2.map (Lj.carry fun x hx hl=>⟨hx,hb.block x hl⟩)⟩,h.oi,⟨xw,eH rw1 fun x hx=>hb.block x (rw1.lt x hx).2,rw2.map (Gq.carry fun x hx hl=>⟨hx,hb.block x hl⟩)⟩,h.ow⟩
theorem LS.coder {E':Nat}{P' R':Nat->Prop}{k':Kd}(hR:Ro A P w) (h:LS A ns P kb w k gd od q7 d E Pj Rj wr kj ins ys id lv ai ci aw cw) (hc:eG E' ns P' w' kb k') (hu:∀x,P' x->Up Pj wr w' x) (hd:∀x,P' x->¬R' x) (hr:∀x,R' x->wr.heap.size≤x/\x<w'.heap.size) (hf:bH Pj wr w') (hp:kj.net.places≤k'.net.places) :
    LS A ns P kb w k gd od q7 d E' P' (fun x=>Rj x\/R' x) w' k' ins ys id lv ai ci aw cw:=by
 obtain ⟨xi,ri1,ri2⟩:=h.ri
 obtain ⟨xw,rw1,rw2⟩:=h.rwy
 have s0:=h.fr.size
 have s1:=hf.size
 have lq:=aB h.hq
 have nP:∀x,x<wr.heap.size->¬Pj x->¬P' x:=fun x hx hn hp=>(hu x hp).elim hn fun h=>absurd h.1 (by omega)
 have nR:∀x,x<wr.heap.size->¬Rj x->¬(Rj x\/R' x):=fun x hx hn h=>h.elim hn fun h=>absurd (hr x h).1 (by omega)
 have nA:∀x,A x->¬Pj x:=fun x hx hp=>(h.up x hp).elim (hR x hx).2 fun h=>absurd h.1 (by have:=(hR x hx).1;omega)
 have kpA:=hf.keep nA
 have kpR:aX (fun x=>A x\/Rj x) (fun x=>A x\/Rj x\/R' x) wr w':=fun x hx hl=>⟨hx.elim .inl fun h=>.inr (.inl h),hf.block x hl (hx.elim (nA x) fun h' hp=>h.dr x hp h')⟩
 refine ⟨hc,fun x hx=>?_,fun x hx h'=>?_,fun x hx=>?_,h.fr.trans hf fun x hx hq=>(h.up x hq).elim (fun h=>h) fun h=>absurd h.1 (by omega),Int.le_trans h.pl hp,hf.heap h.hq h.ql.2.1,⟨h.ql.1,nP q7 lq h.ql.2.1,nR q7 lq h.ql.2.2⟩,⟨xi,eH ri1 fun x hx=>hf.block x (ri1.lt x hx).2 (h.oi x hx).2.1,ri2.map (Lj.carry kpR)⟩,fun x hx=>?_,⟨xw,eH rw1 fun x hx=>hf.block x (rw1.lt x hx).2 (h.ow x hx).2.1,rw2.map (Gq.carry kpA)⟩,fun x hx=>?_⟩
 ·rcases hu x hx with h'|h'
  ·exact Up.size s1 x (h.up x h')
  ·exact .inr ⟨by omega,h'.2⟩
 ·rcases h' with h'|h'
  ·rcases hu x hx with hp|hp
   ·exact h.dr x hp h'
   ·have:=(h.rn x h').2;omega
  ·exact hd x hx h'
 ·rcases hx with hx|hx
  ·exact ⟨(h.rn x hx).1,by have:=(h.rn x hx).2;omega⟩
  ·exact ⟨by have:=(hr x hx).1;omega,(hr x hx).2⟩
 ·have q:=h.oi x hx
  have l:=(ri1.lt x hx).2
  exact ⟨q.1,nP x l q.2.1,nR x l q.2.2.1,q.2.2.2⟩
 ·have q:=h.ow x hx
  have l:=(rw1.lt x hx).2
  exact ⟨q.1,nP x l q.2.1,nR x l q.2.2.1,q.2.2.2⟩
theorem LS.flag (h:LS A ns P kb w k gd od q7 d E Pj Rj wr kj ins ys id lv ai ci aw cw) (hA:∀x,A x->x<w.heap.size) {j:Nat}{v:Value}{id' lv':Bool}(hl:[Value.pointer (some ⟨gd,od,none⟩),.slice aw ys.length cw,.slice ai ins.length ci,.bool id,.bool lv].set j v=[.pointer (some ⟨gd,od,none⟩),.slice aw ys.length cw,.slice ai ins.length ci,.bool id',.bool lv']) :
    LS A ns P kb w k gd od q7 d E Pj Rj (wr.setCell ⟨q7,j,none⟩ v) kj ins ys id' lv' ai ci aw cw:=by
 obtain ⟨xi,ri1,ri2⟩:=h.ri
 obtain ⟨xw,rw1,rw2⟩:=h.rwy
 have s0:=h.fr.size
 have hz:(wr.setCell ⟨q7,j,none⟩ v).heap.size=wr.heap.size:=by simp[World.setCell]
 have hk:∀x,x≠q7->(wr.setCell ⟨q7,j,none⟩ v).heap[x]?=wr.heap[x]?:=fun x hx=>Below.heap_setCell _ _ _ _ hx
 have hAq:∀x,A x->x≠q7:=fun x hx e=>by have:=hA x hx;have:=h.ql.1;omega
 have hs:=bQ (l:=[Value.pointer (some ⟨gd,od,none⟩),.slice aw ys.length cw,.slice ai ins.length ci,.bool id,.bool lv]) h.hq j v
 rw[hl] at hs
 refine ⟨⟨h.cm.1.imp fun _ hc=>hc.carry fun x hx _=>⟨hx,hk x fun e=>h.ql.2.1 (e▸hx)⟩,h.cm.2.1,fun x hx=>by rw[hz];exact h.cm.2.2 x hx⟩,fun x hx=>Up.size (by rw[hz];exact Nat.le_refl _) x (h.up x hx),h.dr,fun x hx=>by rw[hz];exact h.rn x hx,h.fr.setCell (.inr h.ql.1) _,h.pl,hs,h.ql,⟨xi,eH ri1 fun x hx=>hk x (h.oi x hx).2.2.2,ri2.map (Lj.carry fun x hx _=>⟨hx,hk x (hx.elim (hAq x) fun hr e=>h.ql.2.2 (e▸hr))⟩)⟩,h.oi,⟨xw,eH rw1 fun x hx=>hk x (h.ow x hx).2.2.2.1,rw2.map (Gq.carry fun x hx _=>⟨hx,hk x (hAq x hx)⟩)⟩,h.ow⟩
theorem LS.appI (h:LS A ns P kb w k gd od q7 d E Pj Rj wr kj ins ys id lv ai ci aw cw) (hA:∀x,A x->x<w.heap.size) {ob:Obj}{w5:World}{a5:Option Addr}{c5 g:Nat}{r:Rg d}{xi:List Value}(hrow:Rows (Lj (fun x=>A x\/Rj x) wr) ins xi) (hrg:eV (fun x=>A x\/Rj x) d wr r g)
    (hown:w5.ownsRow 0 219 1 (.slice a5 (ins.length+1) c5) (ins.length+1) (xi++[.pointer (some ⟨g,0,none⟩)])) (hg:(wr.alloc ob).grownBy w5 (Value.slice ai ins.length ci).ownBlock) (hat:(Value.slice a5 (ins.length+1) c5).ownBlock=(Value.slice ai ins.length ci).ownBlock\/(Value.slice a5 (ins.length+1) c5).ownBlock=some (wr.alloc ob).heap.size) :
    LS A ns P kb w k gd od q7 d E Pj Rj (w5.setCell ⟨q7,2,none⟩ (.slice a5 (ins.length+1) c5)) kj (ins++[r]) ys id lv a5 c5 aw cw:=by
 obtain ⟨xw,rw1,rw2⟩:=h.rwy
 have s0:=h.fr.size
 have s3:(wr.alloc ob).heap.size=wr.heap.size+1:=by simp
 have s4:=hg.size
 have lq:=aB h.hq
 have hl:(ins++[r]).length=ins.length+1:=by simp
 have hz:(w5.setCell ⟨q7,2,none⟩ (.slice a5 (ins.length+1) c5)).heap.size=w5.heap.size:=by simp[World.setCell]
 have k5:∀x,x<wr.heap.size->(Value.slice ai ins.length ci).ownBlock≠some x->w5.heap[x]?=wr.heap[x]?:=fun x hx hn=>by rw[hg.block x (by omega) (fun e=>hn e.symm),Below.heap_alloc _ _ _ hx]
 have hk:∀x,x<wr.heap.size->x≠q7->(Value.slice ai ins.length ci).ownBlock≠some x->(w5.setCell ⟨q7,2,none⟩ (.slice a5 (ins.length+1) c5)).heap[x]?=wr.heap[x]?:=fun x hx hq hn=>by rw[Below.heap_setCell _ _ _ _ hq,k5 x hx hn]
 have nA:∀x,A x->x≠q7/\(Value.slice ai ins.length ci).ownBlock≠some x:=fun x hx=>⟨fun e=>by have:=hA x hx;have:=h.ql.1;omega,fun e=>by have:=hA x hx;have:=(h.oi x e).1;omega⟩
 have nR:∀x,Rj x->x≠q7/\(Value.slice ai ins.length ci).ownBlock≠some x:=fun x hx=>⟨fun e=>h.ql.2.2 (e▸hx),fun e=>(h.oi x e).2.2.1 hx⟩
 have nP:∀x,Pj x->x≠q7/\(Value.slice ai ins.length ci).ownBlock≠some x:=fun x hx=>⟨fun e=>h.ql.2.1 (e▸hx),fun e=>(h.oi x e).2.1 hx⟩
 have kR:aX (fun x=>A x\/Rj x) (fun x=>A x\/Rj x) wr (w5.setCell ⟨q7,2,none⟩ (.slice a5 (ins.length+1) c5)):=fun x hx hlx=>⟨hx,hx.elim (fun h=>hk x hlx (nA x h).1 (nA x h).2) fun h=>hk x hlx (nR x h).1 (nR x h).2⟩
 have kA:aX A A wr (w5.setCell ⟨q7,2,none⟩ (.slice a5 (ins.length+1) c5)):=fun x hx hlx=>⟨hx,hk x hlx (nA x hx).1 (nA x hx).2⟩
 have o5:∀x,(Value.slice a5 (ins.length+1) c5).ownBlock=some x->w.heap.size≤x/\¬Pj x/\¬Rj x/\x≠q7:=fun x hx=>by
  rcases hat with e|e
  ·exact h.oi x (e.symm.trans hx)
  ·rw[hx] at e;injection e with e
   exact ⟨by omega,fun hp=>by have:=h.cm.2.2 x hp;omega,fun hr=>by have:=(h.rn x hr).2;omega,by omega⟩
 have hs:=bQ (l:=[Value.pointer (some ⟨gd,od,none⟩),.slice aw ys.length cw,.slice ai ins.length ci,.bool id,.bool lv]) (w:=w5) (g:=q7) (T:=269) (f:=(0,0)) (by rw[k5 q7 lq fun e=>(h.oi q7 e).2.2.2 rfl];exact h.hq) 2 (.slice a5 (ins.length+1) c5)
 refine ⟨⟨h.cm.1.imp fun _ hc=>hc.carry fun x hx hlx=>⟨hx,hk x hlx (nP x hx).1 (nP x hx).2⟩,h.cm.2.1,fun x hx=>by rw[hz];have:=h.cm.2.2 x hx;omega⟩,fun x hx=>Up.size (by rw[hz];omega) x (h.up x hx),h.dr,fun x hx=>by rw[hz];have:=h.rn x hx;omega,((h.fr.alloc ob).grown hg fun x hx=>.inr (h.oi x hx).1).setCell (.inr h.ql.1) _,h.pl,by rw[hl];exact hs,h.ql,⟨_,by rw[hl];exact eH hown fun x hx=>Below.heap_setCell _ _ _ _ (o5 x hx).2.2.2,(hrow.map (Lj.carry kR)).append (Rows.one ⟨g,rfl,eV.carry d kR r g hrg⟩)⟩,by rw[hl];exact o5,⟨xw,eH rw1 fun x hx=>hk x (rw1.lt x hx).2 (h.ow x hx).2.2.2.1 (h.ow x hx).2.2.2.2,rw2.map (Gq.carry kA)⟩,fun x hx=>?_⟩
 have q:=h.ow x hx
 refine ⟨q.1,q.2.1,q.2.2.1,q.2.2.2.1,fun e=>?_⟩
 rw[hl] at e
 rcases hat with e'|e'
 ·exact q.2.2.2.2 (e'.symm.trans e)
 ·rw[e] at e';injection e' with e';have:=(rw1.lt x hx).2;omega
theorem LS.appW (h:LS A ns P kb w k gd od q7 d E Pj Rj wr kj ins ys id lv ai ci aw cw) (hA:∀x,A x->x<w.heap.size) {ob:Obj}{w5:World}{a5:Option Addr}{c5 gy oy:Nat}{pc:Option Addr}{qs:Value}{y:eL}{xw:List Value}(hrow:Rows (Gq A wr) ys xw) (hAy:A gy) (hwm:iV A wr gy oy y.drawn pc qs)
    (hown:w5.ownsRow 0 303 3 (.slice a5 (ys.length+1) c5) (ys.length+1) (xw++[.pointer (some ⟨gy,oy,none⟩),.int .i64 y.to,.int .i64 y.left])) (hg:(wr.alloc ob).grownBy w5 (Value.slice aw ys.length cw).ownBlock) (hat:(Value.slice a5 (ys.length+1) c5).ownBlock=(Value.slice aw ys.length cw).ownBlock\/(Value.slice a5 (ys.length+1) c5).ownBlock=some (wr.alloc ob).heap.size) :
    LS A ns P kb w k gd od q7 d E Pj Rj (w5.setCell ⟨q7,1,none⟩ (.slice a5 (ys.length+1) c5)) kj ins (ys++[y]) id lv ai ci a5 c5:=by
 obtain ⟨xi,ri1,ri2⟩:=h.ri
 have s0:=h.fr.size
 have s3:(wr.alloc ob).heap.size=wr.heap.size+1:=by simp
 have s4:=hg.size
 have lq:=aB h.hq
 have hl:(ys++[y]).length=ys.length+1:=by simp
 have hz:(w5.setCell ⟨q7,1,none⟩ (.slice a5 (ys.length+1) c5)).heap.size=w5.heap.size:=by simp[World.setCell]
 have k5:∀x,x<wr.heap.size->(Value.slice aw ys.length cw).ownBlock≠some x->w5.heap[x]?=wr.heap[x]?:=fun x hx hn=>by rw[hg.block x (by omega) (fun e=>hn e.symm),Below.heap_alloc _ _ _ hx]
 have hk:∀x,x<wr.heap.size->x≠q7->(Value.slice aw ys.length cw).ownBlock≠some x->(w5.setCell ⟨q7,1,none⟩ (.slice a5 (ys.length+1) c5)).heap[x]?=wr.heap[x]?:=fun x hx hq hn=>by rw[Below.heap_setCell _ _ _ _ hq,k5 x hx hn]
 have nA:∀x,A x->x≠q7/\(Value.slice aw ys.length cw).ownBlock≠some x:=fun x hx=>⟨fun e=>by have:=hA x hx;have:=h.ql.1;omega,fun e=>by have:=hA x hx;have:=(h.ow x e).1;omega⟩
 have nR:∀x,Rj x->x≠q7/\(Value.slice aw ys.length cw).ownBlock≠some x:=fun x hx=>⟨fun e=>h.ql.2.2 (e▸hx),fun e=>(h.ow x e).2.2.1 hx⟩
 have nP:∀x,Pj x->x≠q7/\(Value.slice aw ys.length cw).ownBlock≠some x:=fun x hx=>⟨fun e=>h.ql.2.1 (e▸hx),fun e=>(h.ow x e).2.1 hx⟩
 have kR:aX (fun x=>A x\/Rj x) (fun x=>A x\/Rj x) wr (w5.setCell ⟨q7,1,none⟩ (.slice a5 (ys.length+1) c5)):=fun x hx hlx=>⟨hx,hx.elim (fun h=>hk x hlx (nA x h).1 (nA x h).2) fun h=>hk x hlx (nR x h).1 (nR x h).2⟩
 have kA:aX A A wr (w5.setCell ⟨q7,1,none⟩ (.slice a5 (ys.length+1) c5)):=fun x hx hlx=>⟨hx,hk x hlx (nA x hx).1 (nA x hx).2⟩
 have o5:∀x,(Value.slice a5 (ys.length+1) c5).ownBlock=some x->w.heap.size≤x/\¬Pj x/\¬Rj x/\x≠q7/\(Value.slice ai ins.length ci).ownBlock≠some x:=fun x hx=>by
  rcases hat with e|e
  ·exact h.ow x (e.symm.trans hx)
  ·rw[hx] at e;injection e with e
   exact ⟨by omega,fun hp=>by have:=h.cm.2.2 x hp;omega,fun hr=>by have:=(h.rn x hr).2;omega,by omega,fun hi=>by have:=(ri1.lt x hi).2;omega⟩
 have hs:=bQ (l:=[Value.pointer (some ⟨gd,od,none⟩),.slice aw ys.length cw,.slice ai ins.length ci,.bool id,.bool lv]) (w:=w5) (g:=q7) (T:=269) (f:=(0,0)) (by rw[k5 q7 lq fun e=>(h.ow q7 e).2.2.2.1 rfl];exact h.hq) 1 (.slice a5 (ys.length+1) c5)
 exact ⟨⟨h.cm.1.imp fun _ hc=>hc.carry fun x hx hlx=>⟨hx,hk x hlx (nP x hx).1 (nP x hx).2⟩,h.cm.2.1,fun x hx=>by rw[hz];have:=h.cm.2.2 x hx;omega⟩,fun x hx=>Up.size (by rw[hz];omega) x (h.up x hx),h.dr,fun x hx=>by rw[hz];have:=h.rn x hx;omega,((h.fr.alloc ob).grown hg fun x hx=>.inr (h.ow x hx).1).setCell (.inr h.ql.1) _,h.pl,by rw[hl];exact hs,h.ql,⟨xi,eH ri1 fun x hx=>hk x (ri1.lt x hx).2 (h.oi x hx).2.2.2 (fun e=>(h.ow x e).2.2.2.2 hx),ri2.map (Lj.carry kR)⟩,h.oi,⟨_,by rw[hl];exact eH hown fun x hx=>Below.heap_setCell _ _ _ _ (o5 x hx).2.2.2.1,(hrow.map (Gq.carry kA)).append (Rows.one ⟨gy,oy,pc,qs,rfl,hAy,iV.carry kA hAy hwm⟩)⟩,by rw[hl];exact o5⟩
end
end Ew
end
section
open Go.RowKit Px
namespace Ew
open Px.Em (Kd Vr eL eM jG Rg cR)
open Nx (Nt Sp)
structure Laid (A:Nat->Prop) (ns:List bB) (P:Nat->Prop) (kb:Nat) (w:World) (k:Kd) (d E:Nat) (r:Rg d) (g:Nat) (P' R:Nat->Prop) (w':World) (k':Kd):Prop where
 cm:eG E ns P' w' kb k'
 up:∀x,P' x->Up P w w' x
 dr:∀x,P' x->¬R x
 rn:∀x,R x->w.heap.size≤x/\x<w'.heap.size
 fr:bH P w w'
 pl:k.net.places≤k'.net.places
 rg:eV (fun x=>A x\/R x) d w' r g
 ok:eN ns d r
 th:0≤(Em.aG d).there r/\(Em.aG d).there r<k'.net.places
def yJ (A:Nat->Prop) (kb:Nat) (ns:List bB) (d:Nat):Prop:=∀{E:Nat}{P:Nat->Prop}{w:World}{k:Kd}{v:Value}{l:List (St d)},aL A w d l v->uM d l->qW ns d l->qV d l->eG E ns P w kb k->Ro A P w->E+hJ d l<1000000->
 Calls Tryz.prog 147 #[.pointer (some ⟨kb,0,none⟩),v] w fun e w'=>∃g,e=.returned (.pointer (some ⟨g,0,none⟩))/\Hid (∃(r:Rg d) (k':Kd) (P' R:Nat->Prop),(Em.aG d).lay l k=some (r,k')/\Laid A ns P kb w k d (E+hJ d l) r g P' R w' k')
def Sy {d:Nat}(A:Nat->Prop) (w:World) (s:eM (St d) (Rg d)) (gd od:Nat) (vw vi:Value):Prop:=
 A gd/\w.cell? ⟨gd,od+2,none⟩=some (.bool s.drawn.last)/\(∃v,w.cell? ⟨gd,od+3,none⟩=some v/\cE A w s.drawn.enter v)/\(∃v,w.cell? ⟨gd,od+4,none⟩=some v/\cE A w s.drawn.during v)/\(∃v,w.cell? ⟨gd,od+5,none⟩=some v/\cE A w s.drawn.leave v)/\(∃p,w.cell? ⟨gd,od+6,none⟩=some (.pointer p)/\jI A w s.drawn.rests (.pointer p))/\
 (∃ad g cap,vw=.slice ad s.ways.length cap/\s.ways.length≤maxLen/\(0<s.ways.length->ad=some ⟨g,0,none⟩/\A g)/\∀j y,s.ways[j]?=some y->yX A w g (j*3) y)/\InM A w (eV A d w) vi s.inside
section
variable {A P Pj Rj:Nat->Prop}{w wr w':World}{ns:List bB}{kb gd od q7 d E:Nat}{k kj:Kd}{ins:List (Rg d)}{ys:List eL}{id lv:Bool}{ai aw:Option Addr}{ci cw:Nat}
theorem eG.moreE {E':Nat}(h:eG E ns P w kb k) (hE:E≤E') (h':E'≤1000000):eG E' ns P w kb k:=
 ⟨h.1,⟨h.2.1.len,by have:=h.2.1.pot;omega,h.2.1.code,h.2.1.keeps,h.2.1.ins,h.2.1.outs,h.2.1.nums,h',h.2.1.nf,h.2.1.nn,h.2.1.vf,h.2.1.out⟩,h.2.2⟩
theorem Cy {g:List (St d)}{r:List (List (St d))}:Em.pC (Em.aG d) (g::r)=((Em.aG d).lay g >>= fun x=>Em.pC (Em.aG d) r >>= fun t=>pure (x::t)):=rfl
theorem Vs:(Tryz.prog.info? 219).map (fun i=>(i.zero,i.size,i.bytes))=some (some (.pointer none),1,8):=by kernel_rfl
theorem Vo:(Tryz.prog.info? 303).map (fun i=>(i.zero,i.size,i.bytes))=some (some (.agg #[.pointer none,.int .i64 0,.int .i64 0]),3,24):=by kernel_rfl
def Xh (names:List bB) (s:cC (St d)) (ins:List (Rg d)):Em.M (eM (St d) (Rg d)):=
 Em.jP names s.ways >>= fun ws=>pure ⟨s,ws,ins,decide (s.during.length+s.ways.length=0)&&ins.all (Em.aG d).idle,decide (0<s.leave.length)||ins.any (Em.aG d).leaves⟩
theorem X6 {names:List bB}{s:cC (St d)}:Em.iU (Em.aG d) names s=(Em.pC (Em.aG d) s.regions >>= Xh names s):=rfl
theorem Cx {names:List bB}{s:cC (St d)}{g:List (St d)}{r:List (List (St d))}{ins:List (Rg d)}:(Em.pC (Em.aG d) (g::r) >>= fun t=>Xh names s (ins++t))=((Em.aG d).lay g >>= fun x=>Em.pC (Em.aG d) r >>= fun t=>Xh names s ((ins++[x])++t)):=by
 rw[Cy]
 simp only[oD,pure_bind,List.append_assoc,List.singleton_append]
theorem eV.flags:∀(d:Nat) {r:Rg d}{g:Nat},eV A d w r g->A g/\w.cell? ⟨g,4,none⟩=some (.bool ((Em.aG d).idle r))/\w.cell? ⟨g,5,none⟩=some (.bool ((Em.aG d).leaves r))
 | 0,_,_,h=>h.elim
 | d+1,r,g,h=>by
  obtain ⟨gS,ad,cap,vo,h1,h2,_⟩:=h
  exact ⟨h2,aA h1 4 rfl,aA h1 5 rfl⟩
theorem A9 {α β:Type}{m:Em.M α}{f:α->Em.M β}{k k':Kd}{a:α}(h:m k=some (a,k')):(m >>= f) k=f a k':=by show (m k).bind _=_;rw[h];rfl
theorem lZ {α:Type}(f:α->Nat):∀{l:List α}{j:Nat}{a:α},l[j]?=some a->((l.take j).map f).sum+f a≤(l.map f).sum
 | [],j,a,h=>by simp at h
 | b::r,0,a,h=>by
  have e:b=a:=by simpa using h
  subst e
  simp
 | b::r,j+1,a,h=>by
  have:=lZ f (l:=r) (j:=j) (a:=a) (by simpa using h)
  simp only[List.take_succ_cons,List.map_cons,List.sum_cons]
  omega
theorem mE {α:Type}(f:α->Nat) {l:List α}{j:Nat}{a:α}(h:l[j]?=some a):((l.take (j+1)).map f).sum=((l.take j).map f).sum+f a:=by
 rw[List.take_add_one,h,List.map_append,List.sum_append];simp
theorem Tv:(Tryz.prog.info? 269).map (·.size)=some 5:=by kernel_rfl
theorem Vb {W:World}{g:Nat}{fc:Array Value}(hsz:fc.size=5) (hg:W.heap[g]?=some (.cells fc 269 (0,0))):(loadVar 269 ⟨g,0,none⟩).run Tryz.prog W=.ok (.agg fc) W:=
 run_loadVar_row (P:=Tryz.prog) W g 269 269 fc (0,0) _ hg Tryz.underlying269 rfl (by rw[hsz];exact Tv)
theorem Bv (tmps:Array Value) (W:World) (g:Nat) (fc:Array Value) (hsz:fc.size=5) (hp:tmps[6]?.getD undef=.pointer (some ⟨g,0,none⟩)) (hg:W.heap[g]?=some (.cells fc 269 (0,0))) :
    (results Tryz.f202 tmps).run Tryz.prog W=.ok (.agg fc) W:=by
 simp[results,Tryz.results202,hp,asAddr,Vb hsz hg]
def DrM (A:Nat->Prop) (w:World) (s:cC (St d)) (gd od:Nat):Prop:=
 A gd/\w.cell? ⟨gd,od+2,none⟩=some (.bool s.last)/\(∃v,w.cell? ⟨gd,od+3,none⟩=some v/\cE A w s.enter v)/\(∃v,w.cell? ⟨gd,od+4,none⟩=some v/\cE A w s.during v)/\(∃v,w.cell? ⟨gd,od+5,none⟩=some v/\cE A w s.leave v)/\∃p,w.cell? ⟨gd,od+6,none⟩=some (.pointer p)/\jI A w s.rests (.pointer p)
theorem LS.loc (h:LS A ns P kb w k gd od q7 d E Pj Rj wr kj ins ys id lv ai ci aw cw) (hA:∀x,A x->x<w.heap.size) {q:Nat}(hq:w.heap.size≤q/\¬Pj q/\¬Rj q/\q≠q7/\(Value.slice ai ins.length ci).ownBlock≠some q/\(Value.slice aw ys.length cw).ownBlock≠some q) (j:Nat) (v:Value) :
    LS A ns P kb w k gd od q7 d E Pj Rj (wr.setCell ⟨q,j,none⟩ v) kj ins ys id lv ai ci aw cw:=by
 obtain ⟨xi,ri1,ri2⟩:=h.ri
 obtain ⟨xw,rw1,rw2⟩:=h.rwy
 obtain ⟨q0,q1,q2,q3,q4,q5⟩:=hq
 have hz:(wr.setCell ⟨q,j,none⟩ v).heap.size=wr.heap.size:=by simp[World.setCell]
 have hk:∀x,x≠q->(wr.setCell ⟨q,j,none⟩ v).heap[x]?=wr.heap[x]?:=fun x hx=>Below.heap_setCell _ _ _ _ hx
 have hAq:∀x,A x->x≠q:=fun x hx e=>by have:=hA x hx;omega
 exact ⟨⟨h.cm.1.imp fun _ hc=>hc.carry fun x hx _=>⟨hx,hk x fun e=>q1 (e▸hx)⟩,h.cm.2.1,fun x hx=>by rw[hz];exact h.cm.2.2 x hx⟩,fun x hx=>Up.size (by rw[hz];exact Nat.le_refl _) x (h.up x hx),h.dr,fun x hx=>by rw[hz];exact h.rn x hx,h.fr.setCell (.inr q0) _,h.pl,by rw[hk q7 (fun e=>q3 e.symm)];exact h.hq,h.ql,⟨xi,eH ri1 fun x hx=>hk x (fun e=>q4 (e▸hx)),ri2.map (Lj.carry fun x hx _=>⟨hx,hk x (hx.elim (hAq x) fun hr e=>q2 (e▸hr))⟩)⟩,h.oi,⟨xw,eH rw1 fun x hx=>hk x (fun e=>q5 (e▸hx)),rw2.map (Gq.carry fun x hx _=>⟨hx,hk x (hAq x hx)⟩)⟩,h.ow⟩
theorem LS.done {s:cC (St d)}{q6:Nat}{w0 wf:World}(h:LS A ns P kb w k gd od q7 d E Pj Rj wr kj ins ys id lv ai ci aw cw) (hR:Ro A P w0) (hb:Below w0.heap.size w0 w) (hw:w.heap.size=w0.heap.size+1) (hq:q6=w0.heap.size) (hPl:∀x,P x->x<w0.heap.size) (hD:DrM A w0 s gd od) (hf:bH (fun x=>x=q6) wr wf) (hz:wf.heap.size=wr.heap.size) :
    ∃R:Nat->Prop,eG E ns Pj wf kb kj/\(∀x,Pj x->Up P w0 wf x)/\(∀x,Pj x->¬R x)/\(∀x,R x->w0.heap.size≤x/\x<wf.heap.size)/\bH P w0 wf/\k.net.places≤kj.net.places/\Sy (fun x=>A x\/R x) wf (⟨s,ys,ins,id,lv⟩:eM (St d) (Rg d)) gd od (.slice aw ys.length cw) (.slice ai ins.length ci):=by
 obtain ⟨xi,ri1,ri2⟩:=h.ri
 obtain ⟨xw,rw1,rw2⟩:=h.rwy
 have s0:=h.fr.size
 have fr0:bH P w0 wr:=(bH.of_below hb).trans h.fr fun _ _ h=>h
 have fr1:bH P w0 wf:=fr0.trans hf fun x hx e=>absurd e (by omega)
 have kp0:aX A A w0 wr:=fr0.keep fun x hx=>(hR x hx).2
 have nA:∀x,A x->x≠q6:=fun x hx e=>by have:=(hR x hx).1;omega
 have nR:∀x,w.heap.size≤x->x≠q6:=fun x hx e=>by omega
 have nP:∀x,Pj x->x≠q6:=fun x hx e=>by
  rcases h.up x hx with h'|h'
  ·have:=hPl x h';omega
  ·omega
 have kA:∀Q:Nat->Prop,aX A (fun x=>A x\/Q x) wr wf:=fun Q x hx hl=>⟨.inl hx,hf.block x hl (nA x hx)⟩
 have kA0:∀Q:Nat->Prop,aX A (fun x=>A x\/Q x) w0 wf:=fun Q=>kp0.trans (kA Q) fr0.size
 have kR:∀Q:Nat->Prop,(∀x,Rj x->Q x)->aX (fun x=>A x\/Rj x) (fun x=>A x\/Q x) wr wf:=fun Q hQ x hx hl=>⟨hx.elim .inl fun h=>.inr (hQ x h),hf.block x hl (hx.elim (nA x) fun hr=>nR x (h.rn x hr).1)⟩
 obtain ⟨d0,d2,⟨v3,d3,e3⟩,⟨v4,d4,e4⟩,⟨v5,d5,e5⟩,p6,d6,e6⟩:=hD
 refine ⟨fun x=>Rj x\/(Value.slice ai ins.length ci).ownBlock=some x\/(Value.slice aw ys.length cw).ownBlock=some x,⟨h.cm.1.imp fun _ hc=>hc.carry fun x hx hl=>⟨hx,hf.block x hl (nP x hx)⟩,h.cm.2.1,fun x hx=>by rw[hz];exact h.cm.2.2 x hx⟩,fun x hx=>?_,fun x hx=>?_,fun x hx=>?_,fr1,h.pl,.inl d0,cF (kA0 fun _=>True) d0 d2,⟨v3,cF (kA0 fun _=>True) d0 d3,e3.carry (kA0 _)⟩,⟨v4,cF (kA0 fun _=>True) d0 d4,e4.carry (kA0 _)⟩,⟨v5,cF (kA0 fun _=>True) d0 d5,e5.carry (kA0 _)⟩,⟨p6,cF (kA0 fun _=>True) d0 d6,e6.carry (kA0 _)⟩,?_,?_⟩
 ·rcases h.up x hx with h'|h'
  ·exact .inl h'
  ·exact .inr ⟨by omega,by omega⟩
 ·rintro (h'|h'|h')
  ·exact h.dr x hx h'
  ·exact (h.oi x h').2.1 hx
  ·exact (h.ow x h').2.1 hx
 ·rcases hx with h'|h'|h'
  ·have:=h.rn x h';omega
  ·have:=(h.oi x h').1;have:=(ri1.lt x h').2;omega
  ·have:=(h.ow x h').1;have:=(rw1.lt x h').2;omega
 ·obtain ⟨ad,g,cap,e1,e2,e3,e4⟩:=uX.open (k:=3) (fun a c h=>by obtain ⟨_,_,_,_,rfl,_⟩:=h;rfl) (⟨eH rw1 fun x hx=>hf.block x (rw1.lt x hx).2 (nR x (h.ow x hx).1),fun g hg=>.inr (.inr (.inr hg))⟩:uX (fun x=>A x\/(Rj x\/(Value.slice ai ins.length ci).ownBlock=some x\/(Value.slice aw ys.length cw).ownBlock=some x)) wf _ 3 _ ys.length xw) (rw2.map (Gq.carry (kA _)))
  exact ⟨ad,g,cap,e1,e2,fun hp=>⟨(e3 hp).1,(e3 hp).2.1⟩,fun j y hy=>by
   obtain ⟨c,⟨gy,oy,p,q,rfl,a1,a2⟩,hc⟩:=e4 j y hy
   exact ⟨⟨gy,oy,p,q,hc 0 _ rfl,a1,a2⟩,hc 1 _ rfl,hc 2 _ rfl⟩⟩
 ·obtain ⟨ad,g,cap,e1,e2,e3,e4⟩:=uX.open (k:=1) (fun a c h=>by obtain ⟨_,rfl,_⟩:=h;rfl) (⟨eH ri1 fun x hx=>hf.block x (ri1.lt x hx).2 (nR x (h.oi x hx).1),fun g hg=>.inr (.inr (.inl hg))⟩:uX (fun x=>A x\/(Rj x\/(Value.slice ai ins.length ci).ownBlock=some x\/(Value.slice aw ys.length cw).ownBlock=some x)) wf _ 1 _ ins.length xi) (ri2.map (Lj.carry (kR (fun x=>Rj x\/(Value.slice ai ins.length ci).ownBlock=some x\/(Value.slice aw ys.length cw).ownBlock=some x) fun x hx=>.inl hx)))
  exact ⟨ad,g,cap,e1,e2,fun hp=>⟨(e3 hp).1,(e3 hp).2.1⟩,fun j y hy=>by
   obtain ⟨c,⟨gr,rfl,a1⟩,hc⟩:=e4 j y hy
   exact ⟨gr,by have:=hc 0 _ rfl;rw[Nat.mul_one,Nat.add_zero] at this;exact this,a1⟩⟩
theorem LS.moreE {E':Nat}(h:LS A ns P kb w k gd od q7 d E Pj Rj wr kj ins ys id lv ai ci aw cw) (hE:E≤E') (h':E'≤1000000):LS A ns P kb w k gd od q7 d E' Pj Rj wr kj ins ys id lv ai ci aw cw:={ h with cm:=h.cm.moreE hE h' }
theorem F6 {names:List bB}{y:Wy}{r:List Wy}{ys:List eL}{g:List eL->Em.M (eM (St d) (Rg d))}:(Em.jP names (y::r) >>= fun t=>g (ys++t))=((if 1<y.times then Em.kept 0 else pure (-1)) >>= fun p=>Em.jP names r >>= fun t=>g ((ys++[⟨y,eB names y.to,p⟩])++t)):=by
 by_cases hy:1<y.times<;>simp only[Em.jP,hy,if_true,if_false,oD,pure_bind,List.append_assoc,List.singleton_append]
end
end Ew
end
end Go.Proofs.YtcdbhoknhnimcaaGreatDoor
