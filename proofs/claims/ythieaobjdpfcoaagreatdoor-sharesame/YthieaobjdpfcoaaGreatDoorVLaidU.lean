import Derived.Test.YthieaobjdpfcoaaGreatDoorVPcatch
import Derived.Test.YthieaobjdpfcoaaGreatDoorVPsets
import Derived.Test.YthieaobjdpfcoaaGreatDoorVPone
import Derived.Test.YthieaobjdpfcoaaGreatDoorVPchart2
import Derived.Test.YthieaobjdpfcoaaGreatDoorRows
import Derived.ProofKit
import Derived.LaidMore
import Derived.OpenShut
import Derived.ShutString
import Derived.Stop.Joined
import Derived.LaidHandle
import Derived.Lib.LaidTab
set_option maxRecDepth 100000
set_option maxHeartbeats 4000000
namespace Go.Proofs.YthieaobjdpfcoaaGreatDoor
section
open Go.RowKit Px
theorem V6 (h j q:Nat) (w:World) (c:List PanicEntry) (I:w.cell? ⟨h,0,none⟩=some (.string ⟨#[]⟩)) (k1:w.cell? ⟨h,1,none⟩=some (.slice none 0 0)) (k2:w.cell? ⟨h,2,none⟩=some (.slice none 0 0)) (y:∀o,w.frozen? ⟨h,o,none⟩=false) (D:w.cell? ⟨j,0,none⟩=some .nilIface) (u:w.frozen? ⟨j,0,none⟩=false) (r:h≠j) :
    CallsD Tryz.prog 64 #[.pointer (some ⟨h,0,none⟩),.pointer (some ⟨j,0,none⟩)] (.panicking ({ v:=.iface 89 (.pointer (some ⟨q,0,none⟩)),recovered:=false }::c)) w fun e u' w'=>e=.returned (.tuple #[])/\u'=.panicking ({ v:=.iface 89 (.pointer (some ⟨q,0,none⟩)),recovered:=true }::c)/\w'=(((w.setCell ⟨h,0,none⟩ (.string ⟨#[]⟩)).setCell ⟨h,1,none⟩ (.slice none 0 0)).setCell ⟨h,2,none⟩ (.slice none 0 0)).setCell ⟨j,0,none⟩ (.iface 89 (.pointer (some ⟨q,0,none⟩))):=by
 refine callsD_of_wpS Tryz.func64 rfl fun n cs s=>?_
 apply wpS_seq
 apply wpS_region
 simp[wpOpsS,go_sem,recoverD,s,Tryz.ntmps64,Exit.thenS]
 have k:∀(V a b:Value),(#[a,b]++((Array.replicate 17 undef).setIfInBounds 3 V).setIfInBounds 0 V:Array Value)=#[a,b,V,undef,undef,V,undef,undef,undef,undef,undef,undef,undef,undef,undef,undef,undef,undef,undef]:=fun _ _ _=>rfl
 rw[k]
 apply wpS_of_wp
 have l:=Tryz.isAtAny (.pointer (some ⟨q,0,none⟩))
 go_wp2
 cases n
 simp_all [bodyPostS,results,Tryz.results64]
end
section
open Go.RowKit Px
theorem Cm (L:List Lx.fQ):∀(i:Nat) (t:Lx.fQ),L[i]?=some t->(cells L)[i*3]?=some (.int .i64 t.kind)/\(cells L)[i*3+1]?=some (.string ⟨t.text.toArray⟩)/\(cells L)[i*3+2]?=some (.int .i64 t.place):=by
 induction L with
 | nil=>intro i t h;simp at h
 | cons x r ih=>
  intro i t h
  have e:cells (x::r)=.int .i64 x.kind :: .string ⟨x.text.toArray⟩ :: .int .i64 x.place::cells r:=rfl
  rw[e]
  cases i with
  | zero=>simp at h;subst h;simp
  | succ i=>
   have:=ih i t (by simpa using h)
   have c:(i+1)*3=i*3+1+1+1:=by omega
   have k:(i+1)*3+1=i*3+1+1+1+1:=by omega
   have j:(i+1)*3+2=i*3+2+1+1+1:=by omega
   rw[k,j,c]
   simpa using this
theorem Ju {w:World}{B E n:Nat}{v:Value}{L:List Lx.fQ}(Q:n=L.length) (O:0<n) (h:w.ownsRow B E 3 v n (cells L)) :
    ∃g cap,v=.slice (some ⟨g,0,none⟩) n cap/\B≤g/\g<w.heap.size/\∀i t,L[i]?=some t->w.cell? ⟨g,i*3,none⟩=some (.int .i64 t.kind)/\w.cell? ⟨g,i*3+1,none⟩=some (.string ⟨t.text.toArray⟩)/\w.cell? ⟨g,i*3+2,none⟩=some (.int .i64 t.place):=by
 have l:=fun g k=>World.ownsRow.cells h (g:=g) k
 have D:=fun g k=>World.ownsRow.lt h g k
 rcases h.2 with ⟨_,rfl⟩|⟨g,cap,y,rfl,k,_⟩
 ·omega
 ·refine ⟨g,cap,rfl,k,(D g rfl).2,fun i t I=>?_⟩
  obtain ⟨a,b,c⟩:=Cm L i t I
  have J:∀j,(⟨g,0,none⟩:Addr).add j=⟨g,j,none⟩:=fun j=>by unfold Addr.add;split<;>simp_all
  have u:=l g rfl _ _ a
  have r:=l g rfl _ _ b
  have s:=l g rfl _ _ c
  rw[J] at u r s
  exact ⟨u,r,s⟩
def fin (s:ByteArray) (l:List Lx.fQ):List Lx.fQ:=l++[⟨4,[],s.size⟩]
theorem qU (s:ByteArray) (l:List Lx.fQ):(fin s l).length=l.length+1:=by simp[fin]
theorem o8 (s:ByteArray) (l:List Lx.fQ) (N:Nat) (n:N=l.length+1) (w:World) (y:s.size≤1000000) (D:lP w) (j:Lx.Ok (bs s) l) :
    Calls Tryz.prog 63 #[.string s] w fun e w'=>∃g cap,e=.returned (.tuple #[.slice (some ⟨g,0,none⟩) N cap,.nilIface])/\Below w.heap.size w w'/\w.heap.size≤g/\g<w'.heap.size/\
     ∀i t,(fin s l)[i]?=some t->w'.cell? ⟨g,i*3,none⟩=some (.int .i64 t.kind)/\w'.cell? ⟨g,i*3+1,none⟩=some (.string ⟨t.text.toArray⟩)/\w'.cell? ⟨g,i*3+2,none⟩=some (.int .i64 t.place):=by
 refine (D1 s w y D).mono ?_
 rintro e w' ⟨v,err,rfl,hb,⟨J,k,rfl,c⟩|⟨e,q,g,h,_⟩⟩
 ·obtain rfl:=Lx.aO1 j k
  rw[<-n] at c
  obtain ⟨g,cap,rfl,I,r,u⟩:=Ju (L:=fin s l) (by rw[n,qU]) (by omega) c
  exact ⟨g,cap,rfl,hb,I,r,u⟩
 ·exact (Lx.aH4 j h).elim
theorem Ki (s:ByteArray) (w:World) (y:s.size≤1000000) (n:lP w) (j:∀l,¬Lx.Ok (bs s) l) :
    Calls Tryz.prog 63 #[.string s] w fun e w'=>∃ev q g:Nat,e=.returned (.tuple #[.slice none 0 0,.iface 89 (.pointer (some ⟨g,0,none⟩))])/\Below w.heap.size w w'/\Lx.Bad (bs s) ev q/\w'.heap[g]?=some (.cells #[.int .i64 ev,.int .i64 q] 91 (0,0)):=by
 refine (D1 s w y n).mono ?_
 rintro e w' ⟨v,err,rfl,hb,⟨u,c,rfl,k⟩|⟨e,q,g,h,_,rfl,rfl,_,r⟩⟩
 ·exact (j u c).elim
 ·exact ⟨e,q,g,rfl,hb,h,r⟩
theorem Rc {p:UInt8->Bool}:∀(u:List UInt8) (c:UInt8),c∈u.take (Lx.wh p u)->p c=true
 | [],c,h=>by simp at h
 | x::r,c,h=>by
  unfold Lx.wh at h
  rw[List.takeWhile_cons] at h
  split at h
  ·next hx=>
   simp only[aR5,List.take_succ_cons,aV8] at h
   rcases h with rfl|h
   ·exact hx
   ·exact Rc r c h
  ·simp at h
theorem Qb {u:List UInt8}(h:(Lx.rd u).1=2):(∀c∈u.take (Lx.rd u).2,48≤c.toNat/\c.toNat≤57)/\u.take (Lx.rd u).2≠[]:=by
 cases u with
 | nil=>simp[Lx.rd] at h
 | cons c r=>
  have j:Lx.gV c=true:=by
   rw[Lx.mN] at h
   by_cases j:Lx.gV c=true
   ·exact j
   ·rw[if_neg j] at h
    by_cases hw:Lx.pH c=true
    ·rw[if_pos hw] at h;simp at h
    ·rw[if_neg hw] at h
     by_cases hm:Lx.mk (c::r)=0
     ·rw[if_pos hm] at h;simp at h
     ·rw[if_neg hm] at h;simp at h
  have e:(Lx.rd (c::r)).2=Lx.wh Lx.gV (c::r):=by rw[Lx.mN,if_pos j]
  rw[e]
  refine ⟨fun d hd=>?_,?_⟩
  ·have:=Rc _ _ hd;simpa [Lx.gV] using this
  ·simp[Lx.wh,j]
theorem Eb {l:List Lx.fQ}:∀{u:List UInt8}{p:Nat}{u1:List UInt8}{p1:Nat},Lx.qF u p l u1 p1->∀t∈l,t.kind≤3/\t.kind≠0/\(t.kind=2->(∀c∈t.text,48≤c.toNat/\c.toNat≤57)/\t.text.length≤18/\t.text≠[]):=by
 induction l with
 | nil=>intro _ _ _ _ _ t k;simp at k
 | cons x r ih=>
  intro u p u1 p1 h t k
  obtain ⟨a,b,c,d,e⟩:=h
  rcases aV8.1 k with rfl|k
  ·subst b
   refine ⟨Lx.Hr _,c,fun s=>?_⟩
   have j:=s
   refine ⟨(Qb j).1,?_,(Qb j).2⟩
   have:(Lx.rd (u.drop (Lx.sk false u))).2≤18:=Nat.le_of_not_lt fun n=>d ⟨j,n⟩
   simp only[List.length_take];omega
  ·exact ih e t k
theorem Ir (s:ByteArray) (l:List Lx.fQ) (k:Nat):(k<l.length/\Px.Jv (fin s l) k∈l)\/(k=l.length/\Px.Jv (fin s l) k=⟨4,[],s.size⟩)\/(l.length<k/\(fin s l)[k]?=none):=by
 rcases Nat.lt_trichotomy k l.length with h|h|h
 ·refine .inl ⟨h,?_⟩
  simp[Px.Jv,fin,List.getD_eq_getElem?_getD,List.getElem?_append_left h,List.getElem?_eq_getElem h]
 ·refine .inr (.inl ⟨h,?_⟩)
  subst h;simp[Px.Jv,fin,List.getD_eq_getElem?_getD]
 ·refine .inr (.inr ⟨h,?_⟩)
  simp[fin];omega
theorem Ov {L:List Lx.fQ}{k:Nat}(h:L[k]?=none):Px.Jv L k=⟨4,[],0⟩:=by
 simp[Px.Jv,List.getD_eq_getElem?_getD,h]
theorem xN {s:ByteArray}{l:List Lx.fQ}(h:Lx.Ok (bs s) l):Wf (fin s l):=by
 obtain ⟨y,u,p,r,_⟩:=h
 have n:=Eb r
 have j:Px.Jv (fin s l) ((fin s l).length-1)=⟨4,[],s.size⟩:=by
  rcases Ir s l ((fin s l).length-1) with h|h|h
  ·have:=qU s l;omega
  ·exact h.2
  ·have:=qU s l;omega
 refine ⟨by rw[qU];omega,by rw[qU];omega,by rw[kd,j],by rw[tx,j],fun k c=>?_⟩
 rcases Ir s l k with h|h|h
 ·exact (n _ h.2).2.2 c
 ·rw[kd,h.2] at c;simp at c
 ·rw[kd,Ov h.2] at c;simp at c
end
section
open Go.RowKit Px
theorem rU (w:World):∃W,W=(w.alloc (.cells ZC 47)).alloc (.cells #[.nilIface] 33)/\Below w.heap.size w W/\W.heap.size=w.heap.size+2/\W.heap[w.heap.size]?=some (.cells ZC 47 (0,0))/\W.heap[w.heap.size+1]?=some (.cells #[.nilIface] 33 (0,0)):=by
 refine ⟨_,rfl,((Below.refl _ w).alloc (aN4 _) _).alloc (by simp) _,by simp,?_,?_⟩
 ·have:=heap_alloc_new w (.cells ZC 47)
  rw[heap_alloc_old _ _ (by simp)];exact this
 ·have:=heap_alloc_new (w.alloc (.cells ZC 47)) (.cells #[.nilIface] 33)
  simpa using this
theorem Rq {W:World}{g:Nat}{v:Value}(c:W.heap[g]?=some (.cells #[v] 33 (0,0))):(loadVar 33 ⟨g,0,none⟩).run Tryz.prog W=.ok v W:=by
 have h:W.cell? ⟨g,0,none⟩=some v:=by rw[cell_of_row _ _ _ _ _ _ c];rfl
 simp[go_sem,h]
theorem pO (h:Array Value) (W:World) (c e:Nat) (j:Array Value) (v:Value) (hsz:j.size=3) (k:h[2]?.getD undef=.pointer (some ⟨c,0,none⟩)) (n:h[3]?.getD undef=.pointer (some ⟨e,0,none⟩)) (l:W.heap[c]?=some (.cells j 47 (0,0))) (r:W.heap[e]?=some (.cells #[v] 33 (0,0))) :
    (results Tryz.f36 h).run Tryz.prog W=.ok (.tuple #[.agg j,v]) W:=by
 simp[results,Tryz.results36,k,n,asAddr,O9 hsz l,Rq r]
theorem yW {w2:World}{c e:Nat}{a b d v s:Value}(O:w2.heap[c]?=some (.cells ZC 47 (0,0))) (u:w2.heap[e]?=some (.cells #[s] 33 (0,0))) (h:c≠e) :
    ((((w2.setCell ⟨c,0,none⟩ a).setCell ⟨c,1,none⟩ b).setCell ⟨c,2,none⟩ d).setCell ⟨e,0,none⟩ v).heap[c]?=some (.cells #[a,b,d] 47 (0,0))/\
    ((((w2.setCell ⟨c,0,none⟩ a).setCell ⟨c,1,none⟩ b).setCell ⟨c,2,none⟩ d).setCell ⟨e,0,none⟩ v).heap[e]?=some (.cells #[v] 33 (0,0))/\
    (∀k,k≠c->k≠e->((((w2.setCell ⟨c,0,none⟩ a).setCell ⟨c,1,none⟩ b).setCell ⟨c,2,none⟩ d).setCell ⟨e,0,none⟩ v).heap[k]?=w2.heap[k]?)/\
    (∀B a0,Below B a0 w2->B≤c->B≤e->Below B a0 ((((w2.setCell ⟨c,0,none⟩ a).setCell ⟨c,1,none⟩ b).setCell ⟨c,2,none⟩ d).setCell ⟨e,0,none⟩ v)):=by
 have J:=heap_setCell_same w2 c 0 _ _ a O
 have I:=heap_setCell_same _ c 1 _ _ b J
 have y:=heap_setCell_same _ c 2 _ _ d I
 have D:(((w2.setCell ⟨c,0,none⟩ a).setCell ⟨c,1,none⟩ b).setCell ⟨c,2,none⟩ d).heap[e]?=some (.cells #[s] 33 (0,0)):=by
  rw[heap_setCell_other _ _ _ _ (by simpa using h.symm),heap_setCell_other _ _ _ _ (by simpa using h.symm),heap_setCell_other _ _ _ _ (by simpa using h.symm)];exact u
 refine ⟨?_,?_,fun k l r=>?_,fun B _ hb j n=>?_⟩
 ·rw[heap_setCell_other _ _ _ _ (by simpa using h)];exact y
 ·exact heap_setCell_same _ e 0 _ _ v D
 ·rw[heap_setCell_other _ _ _ _ (by simpa using r),heap_setCell_other _ _ _ _ (by simpa using l),heap_setCell_other _ _ _ _ (by simpa using l),heap_setCell_other _ _ _ _ (by simpa using l)]
 ·exact (((hb.setCell (by simpa using j) _).setCell (by simpa using j) _).setCell (by simpa using j) _).setCell (by simpa using n) _
theorem Ah {s:ByteArray}{l:List Lx.fQ}{w j w1:World}{g cap:Nat}(hG:11≤w.heap.size) (U:rD w) (I:Lx.Ok (bs s) l) (n:Below w.heap.size w j) (Q:j.heap.size=w.heap.size+2) (u:Below j.heap.size j w1) (Z:j.heap.size≤g) (y:g<w1.heap.size)
    (X:∀i t,(fin s l)[i]?=some t->w1.cell? ⟨g,i*3,none⟩=some (.int .i64 t.kind)/\w1.cell? ⟨g,i*3+1,none⟩=some (.string ⟨t.text.toArray⟩)/\w1.cell? ⟨g,i*3+2,none⟩=some (.int .i64 t.place))
    (c1:w1.heap[w.heap.size]?=some (.cells ZC 47 (0,0))) (e:w1.heap[w.heap.size+1]?=some (.cells #[.nilIface] 33 (0,0))) :
    ∃W2,W2=(w1.setCell ⟨w.heap.size+1,0,none⟩ .nilIface).alloc (.cells #[.slice (some ⟨g,0,none⟩) (l.length+1) cap,.int .i64 0,.int .i64 0,.int .i64 0,.int .i64 0] 121)/\
     PS ⟨w1.heap.size,g,cap,fin s l⟩ W2 0 0 0 0/\Below w.heap.size w W2/\W2.heap[w.heap.size]?=some (.cells ZC 47 (0,0))/\W2.heap[w.heap.size+1]?=some (.cells #[.nilIface] 33 (0,0))/\W2.heap.size=w1.heap.size+1:=by
 have O:=u.size
 have D:=n.trans (u.mono n.size)
 have c:Below w.heap.size w (w1.setCell ⟨w.heap.size+1,0,none⟩ .nilIface):=D.setCell (by simp) _
 have h:(w1.setCell ⟨w.heap.size+1,0,none⟩ .nilIface).heap.size=w1.heap.size:=by simp
 have old:∀k,k<w1.heap.size->k≠w.heap.size+1->((w1.setCell ⟨w.heap.size+1,0,none⟩ .nilIface).alloc (.cells #[.slice (some ⟨g,0,none⟩) (l.length+1) cap,.int .i64 0,.int .i64 0,.int .i64 0,.int .i64 0] 121)).heap[k]?=w1.heap[k]?:=fun k J Y=>by
  rw[heap_alloc_old _ _ (by rw[h];exact J),heap_setCell_other _ _ _ _ (by simpa using Y)]
 have r:=xN I
 refine ⟨_,rfl,⟨?_,fun k t J=>?_,?_,r.pos,r,y,?_⟩,c.alloc c.size _,?_,?_,by simp⟩
 ·have:=heap_alloc_new (w1.setCell ⟨w.heap.size+1,0,none⟩ .nilIface) (.cells #[.slice (some ⟨g,0,none⟩) (l.length+1) cap,.int .i64 0,.int .i64 0,.int .i64 0,.int .i64 0] 121)
  rw[h] at this
  rw[rdC,qU];exact this
 ·have hb:=old g y (by omega)
  have:=X k t J
  rw[aY4 (w:=w1) (a:=⟨g,k*3,none⟩) hb,aY4 (w:=w1) (a:=⟨g,k*3+1,none⟩) hb,aY4 (w:=w1) (a:=⟨g,k*3+2,none⟩) hb]
  exact this
 ·exact U.keep (fun b hb=>(c.alloc c.size _).block b (by omega))
 ·show 11<g;omega
 ·rw[old _ (by omega) (by omega)];exact c1
 ·rw[heap_alloc_old _ _ (by rw[h];omega)];exact heap_setCell_same w1 _ 0 _ _ .nilIface e
theorem Kz (s:ByteArray) (w:World) (hs:s.size≤1000000) (hm:lP w) (j:∀l,¬Lx.Ok (bs s) l) :
    Calls Tryz.prog 36 #[.string s] w fun e w'=>∃ev q g:Nat,e=.returned (.tuple #[.agg ZC,.iface 89 (.pointer (some ⟨g,0,none⟩))])/\Lx.Bad (bs s) ev q/\w'.heap[g]?=some (.cells #[.int .i64 ev,.int .i64 q] 91 (0,0))/\Below w.heap.size w w':=by
 have HN:Hid _:=j
 clear j
 have Z:∀(fn:Fn) (first cap:Array Value) (w:World),(Instr.makeFunc fn first cap).run Tryz.prog w=.ok (.func fn first cap) w:=fun _ _ _ _=>rfl
 obtain ⟨U,Q,c,Y,c0,X⟩:=rU w
 have J:=hm.below (aN4 _) c
 go_enter_defers Tryz.func36,Tryz.ntmps36
 go_upto_region 1 with fail
 rw[show (w.alloc (.cells #[.string ⟨#[]⟩,.slice none 0 0,.slice none 0 0] 47)).alloc (.cells #[.nilIface] 33)=U from Q.symm]
 clear Q
 go_wp2_with (go_at_call 63;refine (Ki s _ hs J HN.out).mono ?_;rintro e w1 ⟨ev,q,g,rfl,h,u,n⟩;have c1:=(h.block _ (by omega)).trans c0;have I:=(h.block _ (by omega)).trans X;obtain ⟨-,aa⟩:True/\w1.cell? ⟨w.heap.size+1,0,none⟩=some .nilIface:=⟨trivial,by rw[cell_of_row _ _ _ _ _ _ I];rfl⟩;have ab:w1.frozen? ⟨w.heap.size+1,0,none⟩=false:=by simp[World.frozen?,I])
 have r:Below w.heap.size w (w1.setCell ⟨w.heap.size+1,0,none⟩ (.iface 89 (.pointer (some ⟨g,0,none⟩)))):=(c.trans (h.mono c.size)).setCell (by simp) _
 have c2:(w1.setCell ⟨w.heap.size+1,0,none⟩ (.iface 89 (.pointer (some ⟨g,0,none⟩)))).heap[w.heap.size]?=some (.cells ZC 47 (0,0)):=by
  rw[heap_setCell_other w1 _ _ _ (by simp)];exact c1
 have D:=heap_setCell_same w1 (w.heap.size+1) 0 _ 33 (.iface 89 (.pointer (some ⟨g,0,none⟩))) I
 have k:g≠w.heap.size+1:=by rintro rfl;rw[I] at n;simp at n
 have y:g≠w.heap.size:=by rintro rfl;rw[c1] at n;simp[ZC] at n
 have O:(w1.setCell ⟨w.heap.size+1,0,none⟩ (.iface 89 (.pointer (some ⟨g,0,none⟩)))).heap[g]?=some (.cells #[.int .i64 ev,.int .i64 q] 91 (0,0)):=by
  rw[heap_setCell_other w1 _ _ _ k];exact n
 generalize (w1.setCell ⟨w.heap.size+1,0,none⟩ (.iface 89 (.pointer (some ⟨g,0,none⟩))))=w2 at r c2 D O ⊢
 have f0:w2.cell? ⟨w.heap.size,0,none⟩=some (.string ⟨#[]⟩):=by rw[cell_of_row _ _ _ _ _ _ c2];rfl
 have f1:w2.cell? ⟨w.heap.size,1,none⟩=some (.slice none 0 0):=by rw[cell_of_row _ _ _ _ _ _ c2];rfl
 have f2:w2.cell? ⟨w.heap.size,2,none⟩=some (.slice none 0 0):=by rw[cell_of_row _ _ _ _ _ _ c2];rfl
 have fz:∀o,w2.frozen? ⟨w.heap.size,o,none⟩=false:=fun o=>by simp[World.frozen?,c2]
 have fe:w2.cell? ⟨w.heap.size+1,0,none⟩=some (.iface 89 (.pointer (some ⟨g,0,none⟩))):=by rw[cell_of_row _ _ _ _ _ _ D];rfl
 have fy:w2.frozen? ⟨w.heap.size+1,0,none⟩=false:=by simp[World.frozen?,D]
 obtain ⟨z0,z1,z2,z3⟩:=yW (a:=.string ⟨#[]⟩) (b:=.slice none 0 0) (d:=.slice none 0 0) (v:=.iface 89 (.pointer (some ⟨g,0,none⟩))) c2 D (by omega)
 go_region
 go_wp2
 exact ⟨_,pO _ _ _ _ _ _ rfl rfl rfl z0 z1,_,_,_,rfl,u,(z2 g y k).trans O,(z3 _ _ r (aN4 _) (by omega)).drew⟩
theorem Ky (s:ByteArray) (l:List Lx.fQ) (f:F) (w:World) (hs:s.size≤1000000) (hG:11≤w.heap.size) (ht:rD w) (hm:lP w) (n:Lx.Ok (bs s) l) (r:dJ (fin s l)=.error f) :
    Calls Tryz.prog 36 #[.string s] w fun e w'=>∃q:Nat,e=.returned (.tuple #[.agg ZC,.iface 89 (.pointer (some ⟨q,0,none⟩))])/\w'.heap[q]?=some (.cells #[.int .i64 f.1,.int .i64 f.2] 91 (0,0))/\Below w.heap.size w w':=by
 have HN:Hid _:=n
 have HC:Hid _:=r
 clear n r
 have ab:∀(fn:Fn) (first cap:Array Value) (w:World),(Instr.makeFunc fn first cap).run Tryz.prog w=.ok (.func fn first cap) w:=fun _ _ _ _=>rfl
 obtain ⟨W0,Z,k,u,c0,e0⟩:=rU w
 have y:=hm.below (aN4 _) k
 go_enter_defers Tryz.func36,Tryz.ntmps36
 go_upto_region 1 with fail
 rw[show (w.alloc (.cells #[.string ⟨#[]⟩,.slice none 0 0,.slice none 0 0] 47)).alloc (.cells #[.nilIface] 33)=W0 from Z.symm]
 clear Z
 go_wp2_with (first
  | (go_at_call 63;refine (o8 s l _ rfl _ hs y HN.out).mono ?_;rintro e w1 ⟨g,cap,rfl,c,O,I,hg⟩;have c1:=(c.block _ (by omega)).trans c0;have U:=(c.block _ (by omega)).trans e0;obtain ⟨-,ae⟩:True/\w1.cell? ⟨w.heap.size+1,0,none⟩=some .nilIface:=⟨trivial,by rw[cell_of_row _ _ _ _ _ _ U];rfl⟩;have af:w1.frozen? ⟨w.heap.size+1,0,none⟩=false:=(by simp[World.frozen?,U]);obtain ⟨W2,j,Q,D,cW,eW,ad⟩:=Ah (cap:=cap) hG ht HN.out k u c O I hg c1 U;have J:Hid _:=j;clear j)
  | (go_at_call 65;rw[show (w1.setCell ⟨w.heap.size+1,0,none⟩ .nilIface).alloc (.cells #[.slice (some ⟨g,0,none⟩) (l.length+1) cap,.int .i64 0,.int .i64 0,.int .i64 0,.int .i64 0] 121)=W2 from J.out.symm];refine (H8 Q).mono ?_;rintro e w3 h3;rw[show dJ (⟨w1.heap.size,g,cap,fin s l⟩:dV).L=_ from HC.out] at h3;obtain ⟨q,rfl,hq,aa,h⟩:aR ⟨w1.heap.size,g,cap,fin s l⟩ W2 f e w3:=h3))
 have ac:=c.size
 have c3:=(h.block _ (by omega) (by simp;omega)).trans cW
 have X:=(h.block _ (by omega) (by simp;omega)).trans eW
 have Y:Below w.heap.size w w3:=D.trans (Fr.below (h.mono (by omega) (by simp;omega)))
 obtain ⟨z0,z1,z2,z3⟩:=yW (a:=.string ⟨#[]⟩) (b:=.slice none 0 0) (d:=.slice none 0 0) (v:=.iface 89 (.pointer (some ⟨q,0,none⟩))) c3 X (by omega)
 refine leaves_cons (f:=64) (args:=#[.pointer (some ⟨w.heap.size,0,none⟩),.pointer (some ⟨w.heap.size+1,0,none⟩)]) (by simp) (by simp[go_sem]) ?_
 refine (V6 w.heap.size (w.heap.size+1) q w3 [] (by rw[cell_of_row _ _ _ _ _ _ c3];rfl) (by rw[cell_of_row _ _ _ _ _ _ c3];rfl) (by rw[cell_of_row _ _ _ _ _ _ c3];rfl) (fun o=>by simp[World.frozen?,c3]) (by rw[cell_of_row _ _ _ _ _ _ X];rfl) (by simp[World.frozen?,X]) (by omega)).mono ?_
 rintro e u' ag ⟨rfl,rfl,rfl⟩
 exact ⟨_,pO _ _ _ _ _ _ rfl rfl rfl z0 z1,q,rfl,(z2 q (by omega) (by omega)).trans hq,z3 _ _ Y (aN4 _) (by omega)⟩
theorem Ql (s:ByteArray) (l:List Lx.fQ) (c:fZ) (w:World) (hs:s.size≤1000000) (hG:11≤w.heap.size) (ht:rD w) (hm:lP w) (n:Lx.Ok (bs s) l) (r:dJ (fin s l)=.ok c) :
    Calls Tryz.prog 36 #[.string s] w fun e w'=>∃v,e=.returned (.tuple #[v,.nilIface])/\gQ (Ge w.heap.size) w' c v/\Below w.heap.size w w':=by
 have HN:Hid _:=n
 have HC:Hid _:=r
 clear n r
 have af:∀(fn:Fn) (first cap:Array Value) (w:World),(Instr.makeFunc fn first cap).run Tryz.prog w=.ok (.func fn first cap) w:=fun _ _ _ _=>rfl
 obtain ⟨W0,hW,u,Q,c0,e0⟩:=rU w
 have U:=hm.below (aN4 _) u
 go_enter_defers Tryz.func36,Tryz.ntmps36
 go_upto_region 1 with fail
 rw[show (w.alloc (.cells #[.string ⟨#[]⟩,.slice none 0 0,.slice none 0 0] 47)).alloc (.cells #[.nilIface] 33)=W0 from hW.symm]
 clear hW
 go_wp2_with (first
  | (go_at_call 63;refine (o8 s l _ rfl _ hs U HN.out).mono ?_;rintro e w1 ⟨g,cap,rfl,h,D,Y,hg⟩;have c1:=(h.block _ (by omega)).trans c0;have I:=(h.block _ (by omega)).trans e0;obtain ⟨-,ag⟩:True/\w1.cell? ⟨w.heap.size+1,0,none⟩=some .nilIface:=⟨trivial,by rw[cell_of_row _ _ _ _ _ _ I];rfl⟩;have ad:w1.frozen? ⟨w.heap.size+1,0,none⟩=false:=(by simp[World.frozen?,I]);obtain ⟨W2,k,Z,X,cW,eW,ab⟩:=Ah (cap:=cap) hG ht HN.out u Q h D Y hg c1 I;have y:Hid _:=k;clear k)
  | (go_at_call 65;rw[show (w1.setCell ⟨w.heap.size+1,0,none⟩ .nilIface).alloc (.cells #[.slice (some ⟨g,0,none⟩) (l.length+1) cap,.int .i64 0,.int .i64 0,.int .i64 0,.int .i64 0] 121)=W2 from y.out.symm];refine (H8 Z).mono ?_;rintro e w3 h3;rw[show dJ (⟨w1.heap.size,g,cap,fin s l⟩:dV).L=_ from HC.out] at h3;obtain ⟨v,rfl,⟨a1,n1,m1,a2,n2,m2,rfl,d1,d2⟩,j⟩:=h3;have aa:=h.size;have c3:=(j.block w.heap.size (by omega) (by simp;omega)).trans cW;have e3:=(j.block (w.heap.size+1) (by omega) (by simp;omega)).trans eW;have f0:w3.cell? ⟨w.heap.size,0,none⟩=some (.string ⟨#[]⟩):=by rw[cell_of_row _ _ _ _ _ _ c3];rfl
     have f1:w3.cell? ⟨w.heap.size,1,none⟩=some (.slice none 0 0):=by rw[cell_of_row _ _ _ _ _ _ c3];rfl
     have f2:w3.cell? ⟨w.heap.size,2,none⟩=some (.slice none 0 0):=by rw[cell_of_row _ _ _ _ _ _ c3];rfl
     have fz:∀o,w3.frozen? ⟨w.heap.size,o,none⟩=false:=fun o=>by simp[World.frozen?,c3]
     have fe:w3.cell? ⟨w.heap.size+1,0,none⟩=some .nilIface:=by rw[cell_of_row _ _ _ _ _ _ e3];rfl
     have fy:w3.frozen? ⟨w.heap.size+1,0,none⟩=false:=by simp[World.frozen?,e3]
     rw[sv]))
 have J:Below w.heap.size w w3:=X.trans (Fr.below (j.mono (by omega) (by simp;omega)))
 obtain ⟨z0,z1,z2,z3⟩:=yW (a:=.string ⟨c.name.toArray⟩) (b:=.slice a1 n1 m1) (d:=.slice a2 n2 m2) (v:=.nilIface) c3 e3 (by omega)
 refine leaves_cons (f:=64) (args:=#[.pointer (some ⟨w.heap.size,0,none⟩),.pointer (some ⟨w.heap.size+1,0,none⟩)]) (by simp) (by simp[go_sem]) ?_
 refine (Gu ⟨w.heap.size,0,none⟩ ⟨w.heap.size+1,0,none⟩ _).mono ?_
 rintro e u' ac ⟨rfl,rfl,rfl⟩
 have O:bB (Ge W2.heap.size) (Ge w.heap.size) w3 _:=fun b hb ae=>⟨by simp[Ge] at *;omega,z2 b (by simp[Ge] at hb;omega) (by simp[Ge] at hb;omega)⟩
 exact ⟨_,pO _ _ _ _ _ _ rfl rfl rfl z0 z1,_,rfl,⟨a1,n1,m1,a2,n2,m2,rfl,d1.carry O,d2.carry O (aM.carry O 6)⟩,z3 _ _ J (aN4 _) (by omega)⟩
end
section
open Go.RowKit Px
namespace Kx
theorem vL {e:E}(h:Sh.TE e):C0 e:=by
 induction e with
 | nil=>trivial
 | node b o a l r ihl ihr=>
  obtain ⟨k,s,n,u,_,c,j⟩:=h
  exact ⟨by unfold maxLen;omega,ihl c,ihr j⟩
theorem nmS {l:List iY}(h:Sh.TS l):mD l:=fun a ha=>⟨by have:=(h a ha).2;unfold maxLen;omega,vL (h a ha).1⟩
theorem aI6 {α:Type}(f:α->Nat) (c:∀a,1≤f a) (l:List α):l.length≤Sh.fU f l:=by
 induction l with
 | nil=>simp
 | cons a r ih=>rw[Sh.fU,aR5];have:=c a;omega
theorem aR1:∀(k:Nat) (x:St k),Sh.Yx k x->Sh.jG k x≤601->He k x:=by
 intro k
 induction k with
 | zero=>intro x _ _;trivial
 | succ k ih=>
  intro x h s
  obtain ⟨U,O,u,D,J,l,I⟩:=h
  have j:Sh.lG (Sh.jG k) x≤601:=s
  unfold Sh.lG at j
  have Q:=aI6 Sh.wW (fun y=>by unfold Sh.wW;omega) (cF.ways x)
  refine ⟨⟨by unfold maxLen;omega,nmS O,nmS u,nmS D,vL J,fun y c=>⟨by have:=(l y c).2.2.2.2;unfold maxLen;omega,vL (l y c).2.2.1,nmS (l y c).2.2.2.1⟩,by omega⟩,fun r n y c=>ih y (I r n y c) ?_⟩
  have a1:1+Sh.fU (Sh.jG k) r≤Sh.fU (Sh.wR (Sh.jG k)) (cF.regions x):=Sh.sR (Sh.wR (Sh.jG k)) (cF.regions x) r n
  have X:=Sh.sR (Sh.jG k) r y c
  omega
theorem Hm {α:Type}{f g:α->Nat}(l:List α) (h:∀a∈l,f a≤g a):gY f l≤Sh.fU g l:=by
 induction l with
 | nil=>simp[gY,Sh.fU]
 | cons a r ih=>rw[gY,Sh.fU];have:=h a (by simp);have:=ih (fun b hb=>h b (by simp[hb]));omega
theorem aT2:∀(k:Nat) (x:St k),1+Cz k x≤Sh.jG k x:=by
 intro k
 induction k with
 | zero=>intro x;exact aN4 _
 | succ k ih=>
  intro x
  show 1+gY (gY fun y=>1+Cz k y) (cF.regions x)≤Sh.lG (Sh.jG k) x
  unfold Sh.lG
  have:=Hm (f:=gY fun y=>1+Cz k y) (g:=Sh.wR (Sh.jG k)) (cF.regions x) (fun r _=>by
   have:=Hm (f:=fun y=>1+Cz k y) (g:=Sh.jG k) r (fun y _=>ih y)
   unfold Sh.wR;omega)
  omega
theorem O6 {L:List Lx.fQ}(u:Wf L) {c:fZ}(h:dJ L=.ok c):qZ c:=by
 obtain ⟨s,n,I⟩:=Sh.V4 u h
 have hx:∀r∈c.regions,∀x∈r,Sh.jG 6 x≤601:=fun r k x hx=>by
  have a1:1+Sh.fU (Sh.jG 6) r≤Sh.fU (Sh.wR (Sh.jG 6)) c.regions:=Sh.sR (Sh.wR (Sh.jG 6)) c.regions r k
  have D:=Sh.sR (Sh.jG 6) r x hx
  omega
 refine ⟨by omega,fun v l=>by have:=(s v l).2;unfold maxLen;omega,fun r k x j=>aR1 6 x (n r k x j) (hx r k x j),?_⟩
 have:=Hm (f:=Y4 6) (g:=Sh.wR (Sh.jG 6)) c.regions (fun r _=>by
  have:=Hm (f:=fun y=>1+Cz 6 y) (g:=Sh.jG 6) r (fun y _=>aT2 6 y)
  unfold Y4 Sh.wR;omega)
 omega
structure rP (w:World):Prop where
 tabs:rD w
 marks:lP w
 big:11≤w.heap.size
theorem rP.up {w W:World}(h:rP w) (hb:Below w.heap.size w W):rP W:=
 ⟨h.tabs.keep (fun b hb'=>hb.block b (aO2 hb' h.big)),h.marks.below (aN4 _) hb,aO4 h.big hb.size⟩
theorem Ix {A:Nat->Prop}{c:fZ}{W W':World}{v:Value}(h:gQ A W c v) (hb:Below W.heap.size W W'):gQ A W' c v:=by
 have j:bB A A W W':=fun b u k=>⟨u,hb.block b k⟩
 obtain ⟨a,n,m,r,D,l,rfl,s,y⟩:=h
 exact ⟨a,n,m,r,D,l,rfl,s.carry j,y.carry j (aM.carry j 6)⟩
theorem pN (c:Array Value) (W:World) (e:Nat) (j:Array Value) (h:j.size=3) (k:c[2]?.getD undef=.pointer (some ⟨e,0,none⟩)) (l:W.heap[e]?=some (.cells j 47 (0,0))) :
    (results Tryz.f18 c).run Tryz.prog W=.ok (.tuple #[.agg j,c.getD 3 undef]) W:=by
 simp[results,Tryz.results18,k,asAddr,O9 h l]
end Kx
end
section
open Go.ChangeShapes Go.WideShapes Go.ChangeAt Go.RowKit Px
theorem aJ2:ownKnob Tryz.prog.godebug=none:=by kernel_rfl
theorem Ig:laidOutB Tryz.prog=true:=by kernel_rfl
def Cx:DataW Unit->List Value
 | .lit (.string s)=>[.string ⟨s.toArray⟩]
 | .lit (.int k n)=>[.int k n]
 | _=>[]
def Mo (f:DataW Unit->List Value):DataW Unit->List Value
 | .agg ps=>ps.flatMap f
 | _=>[]
def lO (W:World) (t k:Nat) (f:DataW Unit->List Value):Prop:=
 ∀fuel cs d p,DataW.trod (fun _=>()) Tryz.prog W 0 (fun _=>true) false fuel t cs=some (d,p)->cs=f d/\cs.length=k
theorem O4 {W:World}{t:Nat}(j:Tryz.prog.underlying t=some .string):lO W t 1 Cx:=by
 intro fuel cs d p h
 cases fuel with
 | zero=>simp[DataW.trod] at h
 | succ fuel=>
  rcases cs with _|⟨c,_|⟨k,r⟩⟩
  ·simp[DataW.trod,j] at h
  ·cases c with
   | string s=>
    simp only[DataW.trod,j] at h
    split at h
    ·have hb:=congrArg Prod.fst (Option.some.inj h)
     simp only at hb
     subst hb
     exact ⟨rfl,rfl⟩
    ·cases h
   | _=>simp[DataW.trod,j] at h
  ·simp[DataW.trod,j] at h
theorem Lg {W:World}{t:Nat}{k:IntKind}(j:Tryz.prog.underlying t=some (.int k)):lO W t 1 Cx:=by
 intro fuel cs d p h
 cases fuel with
 | zero=>simp[DataW.trod] at h
 | succ fuel=>
  rcases cs with _|⟨c,_|⟨l,r⟩⟩
  ·simp[DataW.trod,j] at h
  ·cases c with
   | int k' n=>
    simp only[DataW.trod,j] at h
    split at h
    ·rename_i hk
     have hb:=congrArg Prod.fst (Option.some.inj h)
     simp only at hb
     subst hb
     rw[hk.1]
     exact ⟨rfl,rfl⟩
    ·cases h
   | _=>simp[DataW.trod,j] at h
  ·simp[DataW.trod,j] at h
theorem aG1 {k:Nat}{f:DataW Unit->List Value}:∀(ds:List (DataW Unit)) (cs:List Value),cs.length=ds.length*k->(∀i d,ds[i]?=some d->(cs.drop (i*k)).take k=f d)->cs=ds.flatMap f:=by
 intro ds
 induction ds with
 | nil=>intro cs c _;simp at c;simp[c]
 | cons d r ih=>
  intro cs c h
  have j:=h 0 d rfl
  rw[Nat.zero_mul,List.drop_zero] at j
  have l:=ih (cs.drop k) (by rw[List.length_drop,c,aR5,Nat.add_mul];omega) (fun i d n=>by
   have:=h (i+1) d (by simpa using n)
   rw[Nat.add_mul,Nat.one_mul,Nat.add_comm,<-List.drop_drop] at this
   exact this)
  rw[List.flatMap_cons,<-j,<-l,List.take_append_drop]
theorem jK {W:World}{t e n k:Nat}{f:DataW Unit->List Value}(J:Tryz.prog.underlying t=some (.array n e)) (j:Tryz.prog.cellsOf e=k) (s:Tryz.prog.cellsOf t=n*k) (Q:lO W e k f):lO W t (n*k) (Mo f):=by
 intro fuel cs d p h
 cases fuel with
 | zero=>simp[DataW.trod] at h
 | succ fuel=>
  simp only[DataW.trod,J,j,s] at h
  split at h
  ·rename_i hl
   obtain ⟨u,D,hx⟩:=Option.map_eq_some_iff.1 h
   have hd:=congrArg Prod.fst hx
   simp only at hd
   subst hd
   have c:u.length=n:=by simpa using Lib.mapM_length D
   refine ⟨?_,hl⟩
   show cs=(u.map (·.1)).flatMap f
   refine aG1 (k:=k) _ cs (by rw[List.length_map,c];exact hl) (fun i d y=>?_)
   rw[aW4,Option.map_eq_some_iff] at y
   obtain ⟨b,hb,rfl⟩:=y
   have l:i<n:=by rw[<-c];exact (aO5.1 hb).1
   obtain ⟨O,r,I⟩:=Lib.mapM_at D i i (by simp[l])
   obtain rfl:b=O:=Option.some.inj (hb.symm.trans r)
   exact (Q fuel _ b.1 b.2 I).1
  ·cases h
theorem aA5 {α:Type}:∀(l:List α),l.length=2->∃x y,l=[x,y]
 | [x,y],_=>⟨x,y,rfl⟩
theorem Lf {W:World}{t a b:Nat}{f g:Field}(O:Tryz.prog.underlying t=some (.struct #[f,g])) (u:f.type=a/\f.offset=0) (D:g.type=b/\g.offset=1) (s:Tryz.prog.cellsOf t=2) (l:Tryz.prog.cellsOf a=1) (j:Tryz.prog.cellsOf b=1) (U:lO W a 1 Cx) (hb:lO W b 1 Cx):lO W t 2 (Mo Cx):=by
 intro fuel cs d p h
 cases fuel with
 | zero=>simp[DataW.trod] at h
 | succ fuel=>
  simp only[DataW.trod,O,s] at h
  split at h
  ·rename_i hl
   obtain ⟨Y,I,hx⟩:=Option.map_eq_some_iff.1 h
   obtain ⟨x,y,rfl⟩:∃x y,cs=[x,y]:=aA5 cs hl
   have hd:=congrArg Prod.fst hx
   simp only at hd
   subst hd
   simp only[List.mapM_cons,List.mapM_nil,Option.bind_eq_bind,Option.bind_eq_some_iff,Option.pure_def,Option.some.injEq,u.1,u.2,D.1,D.2,l,j] at I
   obtain ⟨n,c,Z,⟨k,r,X,rfl,rfl⟩,rfl⟩:=I
   have J:=(U fuel _ n.1 n.2 c).1
   have Q:=(hb fuel _ k.1 k.2 r).1
   refine ⟨?_,rfl⟩
   show [x,y]=Cx n.1++(Cx k.1++[])
   rw[<-J,<-Q];rfl
  ·cases h
theorem Ax {W:World}:∀{l:List (String×DataW Unit)}{ps:List MemPlace},DataW.LaidVars Tryz.prog W l ps->∀x∈l,∃g t cs f p,Tryz.prog.globalNamed x.1=some g/\(Tryz.prog.globals[g]?).map (·.type)=some t/\W.var? Tryz.prog x.1=some cs/\DataW.trod (fun _=>()) Tryz.prog W 0 (fun _=>true) false f t cs.toList=some (x.2,p):=by
 intro l
 induction l with
 | nil=>intro ps _ x hx;cases hx
 | cons y r ih=>
  intro ps h x hx
  obtain ⟨g,t,cs,f,p,q,n,c,j,k,s,_⟩:=h
  rcases aV8.1 hx with rfl|hx
  ·exact ⟨g,t,cs,f,p,n,c,j,k⟩
  ·exact ih s x hx
theorem uP {W:World}{l:List (String×DataW Unit)}{ps:List MemPlace}(j:DataW.LaidVars Tryz.prog W l ps) {n:String}{d:DataW Unit}(y:(n,d)∈l) {g t k:Nat}{f:DataW Unit->List Value}(c:Tryz.prog.globalNamed n=some g) (s:(Tryz.prog.globals[g]?).map (·.type)=some t) (h:lO W t k f):qD W g (f d):=by
 obtain ⟨U,Q,cs,J,p,O,r,u,I⟩:=Ax j _ y
 obtain rfl:=Option.some.inj (c.symm.trans O)
 obtain rfl:=Option.some.inj (s.symm.trans r)
 have e:=(h J _ _ _ I).1
 intro i v D
 rw[World.var?_cell c u i,<-Array.getElem?_toList,e]
 exact D
theorem aG4 {W:World}{l:List (String×DataW Unit)}{ps:List MemPlace}(j:DataW.LaidVars Tryz.prog W l ps) {n:String}{d:DataW Unit}(h:(n,d)∈l) {g:Nat}(k:Tryz.prog.globalNamed n=some g):g<W.heap.size:=by
 obtain ⟨I,y,cs,u,p,D,r,c,s⟩:=Ax j _ h
 rw[World.var?,k,Option.bind_some] at c
 by_cases hlt:g<W.heap.size
 ·exact hlt
 ·rw[show W.heap[g]?=none from Array.getElem?_eq_none (by omega)] at c
  simp at c
theorem O5 {W:World}:lO W 9 1 Cx:=O4 Tryz.underlying9
theorem aB8 {W:World}:lO W 3 1 Cx:=Lg Tryz.underlying3
theorem Hv {W:World}:lO W 328 2 (Mo Cx):=Lf Tryz.underlying328 ⟨rfl,rfl⟩ ⟨rfl,rfl⟩ (by kernel_rfl) (by kernel_rfl) (by kernel_rfl) O5 aB8
theorem Zk {W:World}:lO W 215 (21*1) (Mo Cx):=jK Tryz.underlying215 (by kernel_rfl) (by kernel_rfl) O5
theorem aQ9 {W:World}:lO W 217 (4*1) (Mo Cx):=jK Tryz.underlying217 (by kernel_rfl) (by kernel_rfl) O5
theorem aR0 {W:World}:lO W 316 (3*1) (Mo Cx):=jK Tryz.underlying316 (by kernel_rfl) (by kernel_rfl) O5
theorem aJ4 {W:World}:lO W 332 (2*2) (Mo (Mo Cx)):=jK Tryz.underlying332 (by kernel_rfl) (by kernel_rfl) Hv
theorem aJ3 {W:World}:lO W 329 (4*2) (Mo (Mo Cx)):=jK Tryz.underlying329 (by kernel_rfl) (by kernel_rfl) Hv
theorem aB9 {W:World}:lO W 330 (5*(4*2)) (Mo (Mo (Mo Cx))):=jK Tryz.underlying330 (by kernel_rfl) (by kernel_rfl) aJ3
theorem aE8:Tryz.prog.globalNamed "clepsydra/lex.marks"=some 0:=by kernel_rfl
theorem aE7:Tryz.prog.globalNamed "clepsydra/parse.words"=some 2:=by kernel_rfl
theorem aF0:Tryz.prog.globalNamed "clepsydra/parse.kinds"=some 1:=by kernel_rfl
theorem aE9:Tryz.prog.globalNamed "clepsydra/parse.leads"=some 3:=by kernel_rfl
theorem aF1:Tryz.prog.globalNamed "clepsydra/parse.ahead"=some 7:=by kernel_rfl
theorem Td:Tryz.prog.globalNamed "clepsydra/parse.between"=some 6:=by kernel_rfl
theorem Re {W:World}(h:qD W 0 (Lx.marks.map fV)):lP W:=by
 intro i j
 have c:=j
 refine h i _ ?_
 rw[aW4,aN3 c,iO,aN3 c]
 rfl
theorem aL9:Tryz.prog.globalNamed "math/bits.deBruijn64tab"=some 10:=by kernel_rfl
theorem Jp {W:World}{l:List (String×DataW Unit)}{ps:List MemPlace}(hl:DataW.LaidVars Tryz.prog W l ps)
    (h1:("clepsydra/lex.marks",Rows.laid_clepsydra_lex_marks)∈l) (h2:("clepsydra/parse.between",Rows.laid_clepsydra_parse_between)∈l) (h3:("clepsydra/parse.ahead",Rows.laid_clepsydra_parse_ahead)∈l) (h4:("clepsydra/parse.kinds",Rows.laid_clepsydra_parse_kinds)∈l) (h5:("clepsydra/parse.leads",Rows.laid_clepsydra_parse_leads)∈l) (h6:("clepsydra/parse.words",Rows.laid_clepsydra_parse_words)∈l) (h7:("math/bits.deBruijn64tab",Rows.laid_math_bits_deBruijn64tab)∈l):Kx.rP W:=
 ⟨⟨uP hl h6 aE7 (by kernel_rfl) Zk,uP hl h4 aF0 (by kernel_rfl) aQ9,uP hl h5 aE9 (by kernel_rfl) aR0,uP hl h3 aF1 (by kernel_rfl) aJ4,uP hl h2 Td (by kernel_rfl) aB9⟩,Re (uP hl h1 aE8 (by kernel_rfl) Zk),aG4 hl h7 aL9⟩
theorem Pr {W:World}(h:laidMet Tryz.prog [("math/bits.deBruijn32tab",Rows.laid_math_bits_deBruijn32tab),("math/bits.deBruijn64tab",Rows.laid_math_bits_deBruijn64tab),("internal/strconv.uint64pow10",Rows.laid_internal_strconv_uint64pow10),("strconv.ErrRange",Rows.laid_strconv_ErrRange),("strconv.ErrSyntax",Rows.laid_strconv_ErrSyntax),("clepsydra/lex.marks",Rows.laid_clepsydra_lex_marks),("clepsydra/parse.between",Rows.laid_clepsydra_parse_between),("clepsydra/parse.ahead",Rows.laid_clepsydra_parse_ahead),("clepsydra/parse.kinds",Rows.laid_clepsydra_parse_kinds),("clepsydra/parse.leads",Rows.laid_clepsydra_parse_leads),("clepsydra/parse.words",Rows.laid_clepsydra_parse_words)] W):Kx.rP W:=by
 obtain ⟨k,j,_⟩:=h
 have c:∀(a:String×DataW Unit) (r:List (String×DataW Unit)),a∈a::r:=fun a r=>List.mem_cons_self
 exact Jp j (.tail _ (.tail _ (.tail _ (.tail _ (.tail _ (c _ _)))))) (.tail _ (.tail _ (.tail _ (.tail _ (.tail _ (.tail _ (c _ _))))))) (.tail _ (.tail _ (.tail _ (.tail _ (.tail _ (.tail _ (.tail _ (c _ _)))))))) (.tail _ (.tail _ (.tail _ (.tail _ (.tail _ (.tail _ (.tail _ (.tail _ (c _ _))))))))) (.tail _ (.tail _ (.tail _ (.tail _ (.tail _ (.tail _ (.tail _ (.tail _ (.tail _ (c _ _)))))))))) (.tail _ (.tail _ (.tail _ (.tail _ (.tail _ (.tail _ (.tail _ (.tail _ (.tail _ (.tail _ (c _ _))))))))))) (.tail _ (c _ _))
end
end Go.Proofs.YthieaobjdpfcoaaGreatDoor
