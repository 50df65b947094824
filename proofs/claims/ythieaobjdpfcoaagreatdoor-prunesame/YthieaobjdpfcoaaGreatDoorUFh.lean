import Derived.Test.YthieaobjdpfcoaaGreatDoorUYg
import Derived.Test.YthieaobjdpfcoaaGreatDoorUFo
import Derived.Test.YthieaobjdpfcoaaGreatDoorUEzb
import Derived.Test.YthieaobjdpfcoaaGreatDoorUCe2
import Derived.Deep.RegionLaw
import Derived.Deep.AppendLies
import Derived.BigQuiet
import Derived.Test.YthieaobjdpfcoaaGreatDoorUNt3
import Derived.Test.YthieaobjdpfcoaaGreatDoorUNt8b
import Derived.Test.YthieaobjdpfcoaaGreatDoorUQb
namespace Go.Proofs.YthieaobjdpfcoaaGreatDoor
section
namespace Yw
open Nx (Nt Sp eD asks eA kK told)
theorem Ic (cs:List Sp) (c:List Bool) (k:Nat):Nx.mD (fun k=>c.getD k false) cs k=dQ cs c k:=by
 induction k with
 | zero=>rfl
 | succ k ih=>rw[Nx.mD,dQ,ih]
theorem zG (bs:List Bool) (x:Bool):∀(m:Nat) (l:List Int),l.length=m->sJ (cM bs l x)≤sJ bs+(if x=true then l.length else 0)
 | 0,l,hm=>by
  obtain rfl:=aO2.1 hm
  simp[cM,lK]
 | m+1,l,hm=>by
  have hne:l≠[]:=fun e=>by rw[e] at hm;cases hm
  obtain ⟨r,p,rfl⟩:∃r p,l=r++[p]:=⟨l.dropLast,l.getLast hne,(List.dropLast_concat_getLast hne).symm⟩
  have ih:=zG bs x m r (by simpa using hm)
  rw[nZ]
  by_cases h:p.toNat<(cM bs r x).length
  ·have hs:=List.count_set (a:=x) (b:=true) h
   unfold sJ at ih ⊢
   rw[hs,aH7,aP4]
   cases x with
   | true=>simp only[if_true,beq_self_eq_true] at ih ⊢;omega
   | false=>simp at ih ⊢;omega
  ·rw[List.set_eq_of_length_le (by omega),aH7,aP4]
   cases x with
   | true=>simp only[if_true] at ih ⊢;omega
   | false=>simp at ih ⊢;omega
theorem tD {ps:List Int}{p:Int}:p∈Y9 ps↔p∈ps:=List.mem_mergeSort
section
variable {N:Nt}{P J:Nat}(hr:kK N) (hP:N.places=P)
include hr hP in
theorem lJ:tZ P N.code.length (kT N P):=by
 have h:(kT N P).may.length=P:=by show (cM (cM (List.replicate P false) N.keeps true) N.ins false).length=P;simp[eX]
 refine ⟨h,by simp[kT],fun p c=>by have:=(Nx.iN _ _).1 (hr.o p c);omega,by have:=hr.l;show N.outs.length≤4000;omega,?_⟩
 have:=Uf (kT N P).may
 show ([]:List Int).length+sJ (kT N P).may≤P
 simp
 omega
include hr in
theorem Hu {p:Int}(l:0≤p/\p<P):(kT N P).may.getD p.toNat false=true↔p∈N.keeps/\p∉N.ins:=by
 have c:(∃y∈N.keeps,y.toNat=p.toNat)↔p∈N.keeps:=⟨fun ⟨y,hy,e⟩=>by
  have:=(Nx.iN _ _).1 (hr.k y hy)
  obtain rfl:y=p:=by omega
  exact hy,fun h=>⟨p,h,rfl⟩⟩
 have j:(∃y∈N.ins,y.toNat=p.toNat)↔p∈N.ins:=⟨fun ⟨y,hy,e⟩=>by
  have:=(Nx.iN _ _).1 (hr.i y hy)
  obtain rfl:y=p:=by omega
  exact hy,fun h=>⟨p,h,rfl⟩⟩
 show (cM (cM (List.replicate P false) N.keeps true) N.ins false).getD p.toNat false=true↔_
 rw[mA _ _ _ _ (by simp[eX];omega),mA _ _ _ _ (by simp;omega)]
 by_cases c1:p∈N.ins
 ·rw[if_pos (j.2 c1)]
  exact ⟨fun h=>(by cases h),fun h=>absurd c1 h.2⟩
 ·rw[if_neg (fun h=>c1 (j.1 h))]
  by_cases c2:p∈N.keeps
  ·rw[if_pos (c.2 c2)]
   exact ⟨fun _=>⟨c2,c1⟩,fun _=>rfl⟩
  ·rw[if_neg (fun h=>c2 (c.1 h))]
   refine ⟨fun h=>?_,fun h=>absurd h.1 c2⟩
   simp only[iO,aO9] at h
   split at h<;>cases h
variable (hJ:(aL N.code (kT N P) J).places=[])
include hr hP in
theorem hst:∀k,k<N.code.length->eA (P:Int) N.nums.length (N.code.getD k eD)=0:=by rw[<-hP];exact hr.s
include hr hP in
theorem wI:P≤4000:=by have:=hr.p;omega
include hr hP in
theorem F6 {p:Int}(h:p∈(aL N.code (kT N P) J).keeps):p∈N.keeps/\0≤p/\p<P:=by
 obtain ⟨j,c,k⟩:=Ma (wI hr hP) (lJ hr hP) rfl h
 exact ⟨((Hu hr ⟨j,c⟩).1 k).1,j,c⟩
include hr hP hJ in
theorem Qf:Nx.Iz N (fun k=>(aL N.code (kT N P) J).wd.getD k false) (Y9 (aL N.code (kT N P) J).keeps) (Lk N.code (kT N P) J):=by
 refine ⟨aD6 (wI hr hP) (lJ hr hP) (hst hr hP) rfl,fun p c=>(Ou (wI hr hP) (lJ hr hP) rfl hJ p).2 (.inl c),fun p c=>(Ou (wI hr hP) (lJ hr hP) rfl hJ p).2 (.inr (tD.1 c)),fun p c=>(F6 hr hP (tD.1 c)).1,fun p l j h=>tD.2 (aG5 (wI hr hP) (lJ hr hP) ((Hu hr ?_).2 ⟨h,j⟩) l)⟩
 have:=(Nx.iN _ _).1 (hr.k p h)
 omega
theorem aB3 (N:Nt) (s:PS):Ku N s=Nx.rT N (fun k=>s.wd.getD k false) (Y9 s.keeps):=by
 unfold Ku Nx.rT
 rw[Ic]
include hr hP in
theorem F7:(Y9 (aL N.code (kT N P) J).keeps).length≤N.keeps.length:=by
 rw[Hj]
 have j:=Pf (wI hr hP) (lJ hr hP) J
 have h:sJ (kT N P).may≤N.keeps.length:=by
  show sJ (cM (cM (List.replicate P false) N.keeps true) N.ins false)≤N.keeps.length
  have a:=zG (cM (List.replicate P false) N.keeps true) false _ N.ins rfl
  have b:=zG (List.replicate P false) true _ N.keeps rfl
  have c:sJ (List.replicate P false)=0:=by simp[sJ,List.count_replicate]
  simp at a b
  omega
 have k:(kT N P).keeps.length=0:=rfl
 omega
include hr hP in
theorem Eh:kK (Ku N (aL N.code (kT N P) J)):=by
 refine ⟨hr.p,hr.f,?_,hr.m,?_,fun k h=>?_,hr.i,hr.o,fun p n=>hr.k p (F6 hr hP (tD.1 n)).1,hr.d⟩
 ·have:=vB N.code (aL N.code (kT N P) J).wd N.code.length
  have:=hr.c
  show (dQ N.code (aL N.code (kT N P) J).wd N.code.length).length≤4000
  omega
 ·have:=F7 (J:=J) hr hP
  have:=hr.l
  show N.ins.length+N.outs.length+(Y9 (aL N.code (kT N P) J).keeps).length≤4000
  omega
 ·have r:(Ku N (aL N.code (kT N P) J)).code.getD k eD∈Nx.mD (fun k=>(aL N.code (kT N P) J).wd.getD k false) N.code N.code.length:=by
   rw[Ic,iO,aE5 h]
   exact aW7 h
  obtain ⟨i,j,_,u⟩:=Nx.Rs r
  rw[u]
  exact hr.s i j
include hr hP hJ in
theorem Ef (rows:List (List Int)) (k:Nat):told (Ku N (aL N.code (kT N P) J)) (Ku N (aL N.code (kT N P) J)).first rows k=told N N.first rows k:=by
 rw[aB3]
 exact (Nx.Z4 (n:=N) (m:=Nx.rT N _ _) (Nx.Y2 N (Lk N.code (kT N P) J)) (Nx.Ae N _) (fun V h ins c=>Nx.Eg hr.s (Qf hr hP hJ) c ins) rows k).1
end
def Y3 (f:Int->Int) (l:List Int):Nat->Int->Int
 | 0=>f
 | k+1=>fun p=>if p=l.getD k 0 then 1 else Y3 f l k p
theorem Ib (f:Int->Int) (l:List Int) (p:Int):∀k,k≤l.length->Y3 f l k p=if p∈l.take k then 1 else f p
 | 0,_=>by simp[Y3]
 | k+1,h=>by
  show (if p=l.getD k 0 then 1 else Y3 f l k p)=_
  rw[Ib f l p k (by omega),List.take_add_one,iO,aE5 (by omega)]
  simp only[Option.getD_some,Option.toList,aJ6,aI1]
  by_cases c1:p=l[k]
  ·rw[if_pos c1,if_pos (.inr c1)]
  ·rw[if_neg c1]
   by_cases c2:p∈l.take k
   ·rw[if_pos c2,if_pos (.inl c2)]
   ·rw[if_neg c2,if_neg (fun h=>h.elim c2 c1)]
theorem O7 (f:Int->Int) (l:List Int) (p:Int):Y3 f l l.length p=if p∈l then 1 else f p:=by rw[Ib f l p _ (aF4 _),aR5]
def upN (f:Int->Int) (x:Sp):Int->Int:=Y3 (fun p=>if p=x.dst then 0 else f p) (asks x) (asks x).length
def Ob (cs:List Sp) (f:Int->Int):Nat->Int->Int
 | 0=>f
 | j+1=>upN (Ob cs f j) (cs.getD (cs.length-1-j) eD)
theorem F5 (cs:List Sp) (wd:List Bool) (k:Nat):∀m,∃r,dQ cs wd (k+m)=dQ cs wd k++r
 | 0=>⟨[],by simp⟩
 | m+1=>by
  obtain ⟨r,hr⟩:=F5 cs wd k m
  rw[show k+(m+1)=(k+m)+1 by omega,dQ,hr]
  split
  ·exact ⟨_,List.append_assoc _ _ _⟩
  ·exact ⟨r,rfl⟩
theorem Xm {cs:List Sp}{c:List Bool}{k:Nat}(j:k<cs.length) (h:c.getD k false=true):(dQ cs c cs.length).getD (dQ cs c k).length eD=cs.getD k eD/\(dQ cs c k).length<(dQ cs c cs.length).length:=by
 obtain ⟨r,hr⟩:=F5 cs c (k+1) (cs.length-(k+1))
 rw[show k+1+(cs.length-(k+1))=cs.length by omega,dQ,if_pos h] at hr
 rw[hr]
 refine ⟨?_,by simp⟩
 rw[iO,List.append_assoc,aP1 (aF4 _),Nat.sub_self]
 rfl
section
variable {N:Nt}{P J:Nat}(hr:kK N) (hP:N.places=P) (hJ:(aL N.code (kT N P) J).places=[])
include hr hP hJ in
theorem Aq {f:Int->Int}(hf:∀p,p∈N.outs\/p∈(aL N.code (kT N P) J).keeps->f p≠0):∀m k,k+m=N.code.length->
    (∀p,Lk N.code (kT N P) J k p->Ob (dQ N.code (aL N.code (kT N P) J).wd N.code.length) f ((dQ N.code (aL N.code (kT N P) J).wd N.code.length).length-(dQ N.code (aL N.code (kT N P) J).wd k).length) p≠0)/\
    (∀j,j<(dQ N.code (aL N.code (kT N P) J).wd N.code.length).length-(dQ N.code (aL N.code (kT N P) J).wd k).length->Ob (dQ N.code (aL N.code (kT N P) J).wd N.code.length) f j ((dQ N.code (aL N.code (kT N P) J).wd N.code.length).getD ((dQ N.code (aL N.code (kT N P) J).wd N.code.length).length-1-j) eD).dst≠0)
 | 0,k,hk=>by
  obtain rfl:k=N.code.length:=by omega
  rw[Nat.sub_self]
  exact ⟨fun p hp=>hf p ((Ou (wI hr hP) (lJ hr hP) rfl hJ p).1 hp),fun j hj=>absurd hj (by omega)⟩
 | m+1,k,hk=>by
  obtain ⟨i1,i2⟩:=Aq hf m (k+1) (by omega)
  have hkl:k<N.code.length:=by omega
  obtain ⟨n1,n2⟩:=aC8 (J:=J) (wI hr hP) (lJ hr hP) (hst hr hP) rfl hkl
  rw[dQ] at i1 i2
  cases hw:(aL N.code (kT N P) J).wd.getD k false with
  | true=>
   obtain ⟨l1,l2⟩:=Xm hkl hw
   rw[hw,if_pos rfl,aH7,aP4] at i1 i2
   obtain ⟨a1,a2⟩:=n1 hw
   obtain ⟨c,hc⟩:∃c,c=(dQ N.code (aL N.code (kT N P) J).wd k).length:=⟨_,rfl⟩
   obtain ⟨C,hC⟩:∃C,C=dQ N.code (aL N.code (kT N P) J).wd N.code.length:=⟨_,rfl⟩
   rw[<-hc] at i1 i2 l1 l2 ⊢
   rw[<-hC] at i1 i2 l1 l2 ⊢
   obtain ⟨j0,hj0⟩:∃j0,j0=C.length-(c+1):=⟨_,rfl⟩
   rw[<-hj0] at i1 i2
   rw[show C.length-c=j0+1 by omega]
   have hat:C.getD (C.length-1-j0) eD=N.code.getD k eD:=by rw[show C.length-1-j0=c by omega];exact l1
   refine ⟨fun p hp=>?_,fun j hj=>?_⟩
   ·rw[Ob,hat,upN,O7]
    by_cases h1:p∈asks (N.code.getD k eD)
    ·rw[if_pos h1];decide
    ·rw[if_neg h1]
     rcases a2 p hp with ⟨h2,h3⟩|h2
     ·show (if p=_ then 0 else _)≠_
      rw[if_neg h3]
      exact i1 p h2
     ·exact absurd h2 h1
   ·by_cases e:j=j0
    ·subst e
     rw[hat]
     exact i1 _ a1
    ·exact i2 j (by omega)
  | false=>
   rw[hw,if_neg (by simp)] at i1 i2
   exact ⟨fun p hp=>i1 p (n2 hw p hp),i2⟩
end
end Yw
end
section
open Go.RowKit Px
namespace Fw
open Nx (Nt Sp)
open Ew (bM Up rS R7)
theorem Si:Maps.Keyed Tryz.prog 3:=Maps.int_keyed Tryz.underlying3
structure Fv where
 bk:Nat
 bw:Nat
 nk:Nat
 nw:Nat
 vN:Value
 vC:Value
end Fw
end
section
open Go.RowKit Px
namespace Fw
open Nx (Nt Sp)
open Ew (bM Up rS)
theorem Ur {W:World}{g:Nat}{T:TypeId}{f:Nat×Nat}{a0 a1 j c a4:Value}(h:W.heap[g]?=some (.cells #[a0,a1,j,c,a4] T f)):W.cell? ⟨g,0,none⟩=some a0/\W.cell? ⟨g,1,none⟩=some a1/\W.cell? ⟨g,2,none⟩=some j/\W.cell? ⟨g,3,none⟩=some c/\W.cell? ⟨g,4,none⟩=some a4:=by
 refine ⟨?_,?_,?_,?_,?_⟩<;>(rw[cell_of_row _ _ _ _ _ _ h];rfl)
end Fw
end
section
open Go.RowKit Go.Sort Px
namespace Fw
open Nx (Nt Sp asks bH eA cR)
open Ew (bM Up rS Sj eN iI)
section
variable {P A:Nat->Prop}{w:World}{fb m:Nat}{f:Nx.Fd}
theorem Ft {L p:Int}(c:L≤4000) (h:cR L p=true):jF p:=by
 unfold cR at h
 simp only[Bool.and_eq_true,decide_eq_true_eq] at h
 unfold jF
 omega
theorem aG7 {L:Int}{N:Nat}{s:Sp}(hL:L≤4000) (h:eA L N s=0):∀p∈asks s,jF p:=fun p hp=>Ft hL (aR6.1 (Nx.sD h).2 p hp)
theorem aE1 {p d:Int}(h:¬p=d):(Lit.int .i64 p:Lit)≠.int .i64 d:=by
 intro e
 injection e with _ e
 exact h e
end
end Fw
end
section
open Go.RowKit Go.Sort Px
namespace Fw
open Nx (Nt Sp eJ kK bH jA pB asks told)
open Ew (Hb Ze ZN bM)
def mV (w:World) (b k:Nat) (f:Int->Int):Prop:=∃n g,Gm.Mp Tryz.prog 3 w b n g/\n≤2*k/\∀p:Int,(g (.int .i64 p)).getD (.int .i64 0)=.int .i64 (f p)
theorem mV.keep {w w':World}{b k:Nat}{f:Int->Int}(h:mV w b k f) (hb:w'.heap[b]?=w.heap[b]?):mV w' b k f:=by
 obtain ⟨n,g,j,c,l⟩:=h
 exact ⟨n,g,j.keep hb,c,l⟩
theorem Zz (w:World):(zeroValue 3).run Tryz.prog w=.ok (.int .i64 0) w:=by kernel_rfl
theorem mV.look {w:World}{b k:Nat}{f:Int->Int}(h:mV w b k f) {p:Int}(j:jF p):(Instr.lookup 42 (.map (some b)) (.int .i64 p) false).run Tryz.prog w=.ok (.int .i64 (f p)) w:=by
 obtain ⟨n,g,c,r,l⟩:=h
 rw[c.look Si Tryz.underlying42 (Zz w) (Maps.keyOf_int_mk Tryz.underlying3 j.wf),l p]
theorem aB2 {w:World}{b n:Nat}{g:Lit->Option Value}{f:Int->Int}(h:Gm.Mp Tryz.prog 3 w b n g) (l:n≤100000) (j:∀p:Int,(g (.int .i64 p)).getD (.int .i64 0)=.int .i64 (f p)) {d:Int}(hd:jF d) (v:Int) :
    ∃w' n' g',(Instr.mapUpdate 42 (.map (some b)) (.int .i64 d) (.int .i64 v)).run Tryz.prog w=.ok () w'/\Gm.Mp Tryz.prog 3 w' b n' g'/\n'≤n+1/\(∀p:Int,(g' (.int .i64 p)).getD (.int .i64 0)=.int .i64 (if p=d then v else f p))/\w.grownBy w' (some b):=by
 obtain ⟨w',hr,k,c⟩:=h.put Si Tryz.underlying42 (by unfold maxLen;omega) (Maps.keyOf_int_mk Tryz.underlying3 hd.wf) (.int .i64 v)
 refine ⟨w',_,_,hr,k,by split<;>omega,fun p=>?_,c⟩
 by_cases e:p=d
 ·subst e
  rw[Gm.pQ _ (by trivial),if_pos rfl];rfl
 ·rw[Gm.nC _ _ (aE1 e),if_neg e];exact j p
theorem mkN (w:World):(Instr.makeMap 42 none).run Tryz.prog w=.ok (.map (some w.heap.size)) (w.alloc (.map #[] 0)):=by kernel_rfl
end Fw
end
end Go.Proofs.YthieaobjdpfcoaaGreatDoor
