import Derived.Test.YtcdbhoknhnimcaaGreatDoorTPcatch
import Derived.Test.YtcdbhoknhnimcaaGreatDoorTPsets
import Derived.Test.YtcdbhoknhnimcaaGreatDoorTPone
import Derived.Test.YtcdbhoknhnimcaaGreatDoorTPchart2
import Derived.Test.YtcdbhoknhnimcaaGreatDoorRows
import Derived.ProofKit
import Derived.LaidMore
import Derived.OpenShut
import Derived.ShutString
import Derived.Stop.Joined
import Derived.LaidHandle
import Derived.Lib.LaidTab
set_option maxRecDepth 100000
set_option maxHeartbeats 4000000
namespace Go.Proofs.YtcdbhoknhnimcaaGreatDoor
section
open Go.RowKit Px
theorem I8 (cb eb q:Nat) (w:World) (older:List PanicEntry) (k0:w.cell? ⟨cb,0,none⟩=some (.string ⟨#[]⟩)) (k1:w.cell? ⟨cb,1,none⟩=some (.slice none 0 0)) (k2:w.cell? ⟨cb,2,none⟩=some (.slice none 0 0)) (kz:∀o,w.frozen? ⟨cb,o,none⟩=false) (ke:w.cell? ⟨eb,0,none⟩=some .nilIface) (ez:w.frozen? ⟨eb,0,none⟩=false) (hne:cb≠eb) :
    CallsD Tryz.prog 89 #[.pointer (some ⟨cb,0,none⟩),.pointer (some ⟨eb,0,none⟩)] (.panicking ({ v:=.iface 115 (.pointer (some ⟨q,0,none⟩)),recovered:=false }::older)) w fun e u' w'=>e=.returned (.tuple #[])/\u'=.panicking ({ v:=.iface 115 (.pointer (some ⟨q,0,none⟩)),recovered:=true }::older)/\w'=(((w.setCell ⟨cb,0,none⟩ (.string ⟨#[]⟩)).setCell ⟨cb,1,none⟩ (.slice none 0 0)).setCell ⟨cb,2,none⟩ (.slice none 0 0)).setCell ⟨eb,0,none⟩ (.iface 115 (.pointer (some ⟨q,0,none⟩))):=by
 refine callsD_of_wpS Tryz.func89 rfl fun c₀ cs hu=>?_
 apply wpS_seq
 apply wpS_region
 simp[wpOpsS,go_sem,recoverD,hu,Tryz.ntmps89,Exit.thenS]
 have harr:∀(V a b:Value),(#[a,b]++((Array.replicate 17 undef).setIfInBounds 3 V).setIfInBounds 0 V:Array Value)=#[a,b,V,undef,undef,V,undef,undef,undef,undef,undef,undef,undef,undef,undef,undef,undef,undef,undef]:=fun _ _ _=>rfl
 rw[harr]
 apply wpS_of_wp
 have hta:=Tryz.isAtAny (.pointer (some ⟨q,0,none⟩))
 go_wp2
 cases c₀
 simp_all [bodyPostS,results,Tryz.results89]
end
section
open Go.RowKit Px
theorem Ai (L:List Lx.fK):∀(i:Nat) (t:Lx.fK),L[i]?=some t->(cells L)[i*3]?=some (.int .i64 t.kind)/\(cells L)[i*3+1]?=some (.string ⟨t.text.toArray⟩)/\(cells L)[i*3+2]?=some (.int .i64 t.place):=by
 induction L with
 | nil=>intro i t h;simp at h
 | cons x r ih=>
  intro i t h
  have e:cells (x::r)=.int .i64 x.kind :: .string ⟨x.text.toArray⟩ :: .int .i64 x.place::cells r:=rfl
  rw[e]
  cases i with
  | zero=>simp at h;subst h;simp
  | succ i=>
   have:=ih i t (by simpa using h)
   have e1:(i+1)*3=i*3+1+1+1:=by omega
   have e2:(i+1)*3+1=i*3+1+1+1+1:=by omega
   have e3:(i+1)*3+2=i*3+2+1+1+1:=by omega
   rw[e2,e3,e1]
   simpa using this
theorem Hj {w:World}{B E n:Nat}{v:Value}{L:List Lx.fK}(hn:n=L.length) (h0:0<n) (h:w.ownsRow B E 3 v n (cells L)) :
    ∃g cap,v=.slice (some ⟨g,0,none⟩) n cap/\B≤g/\g<w.heap.size/\∀i t,L[i]?=some t->w.cell? ⟨g,i*3,none⟩=some (.int .i64 t.kind)/\w.cell? ⟨g,i*3+1,none⟩=some (.string ⟨t.text.toArray⟩)/\w.cell? ⟨g,i*3+2,none⟩=some (.int .i64 t.place):=by
 have hc:=fun g hg=>World.ownsRow.cells h (g:=g) hg
 have hl:=fun g hg=>World.ownsRow.lt h g hg
 rcases h.2 with ⟨_,rfl⟩|⟨g,cap,cur,rfl,hg,_⟩
 ·omega
 ·refine ⟨g,cap,rfl,hg,(hl g rfl).2,fun i t ht=>?_⟩
  obtain ⟨a,b,c⟩:=Ai L i t ht
  have ad:∀j,(⟨g,0,none⟩:Addr).add j=⟨g,j,none⟩:=fun j=>by unfold Addr.add;split<;>simp_all
  have h1:=hc g rfl _ _ a
  have h2:=hc g rfl _ _ b
  have h3:=hc g rfl _ _ c
  rw[ad] at h1 h2 h3
  exact ⟨h1,h2,h3⟩
def fin (s:ByteArray) (l:List Lx.fK):List Lx.fK:=l++[⟨4,[],s.size⟩]
theorem qA (s:ByteArray) (l:List Lx.fK):(fin s l).length=l.length+1:=by simp[fin]
theorem Q8 (s:ByteArray) (l:List Lx.fK) (N:Nat) (hN:N=l.length+1) (w:World) (hs:s.size≤1000000) (hm:lA w) (hok:Lx.Ok (bs s) l) :
    Calls Tryz.prog 88 #[.string s] w fun e w'=>∃g cap,e=.returned (.tuple #[.slice (some ⟨g,0,none⟩) N cap,.nilIface])/\Below w.heap.size w w'/\w.heap.size≤g/\g<w'.heap.size/\
     ∀i t,(fin s l)[i]?=some t->w'.cell? ⟨g,i*3,none⟩=some (.int .i64 t.kind)/\w'.cell? ⟨g,i*3+1,none⟩=some (.string ⟨t.text.toArray⟩)/\w'.cell? ⟨g,i*3+2,none⟩=some (.int .i64 t.place):=by
 refine (zH s w hs hm).mono ?_
 rintro e w' ⟨v,err,rfl,hb,⟨l',hok',rfl,hown⟩|⟨e,q,g,hbad,_⟩⟩
 ·obtain rfl:=Lx.aH6 hok hok'
  rw[<-hN] at hown
  obtain ⟨g,cap,rfl,h1,h2,h3⟩:=Hj (L:=fin s l) (by rw[hN,qA]) (by omega) hown
  exact ⟨g,cap,rfl,hb,h1,h2,h3⟩
 ·exact (Lx.aA7 hok hbad).elim
theorem Hw (s:ByteArray) (w:World) (hs:s.size≤1000000) (hm:lA w) (hno:∀l,¬Lx.Ok (bs s) l) :
    Calls Tryz.prog 88 #[.string s] w fun e w'=>∃ev q g:Nat,e=.returned (.tuple #[.slice none 0 0,.iface 115 (.pointer (some ⟨g,0,none⟩))])/\Below w.heap.size w w'/\Lx.Bad (bs s) ev q/\w'.heap[g]?=some (.cells #[.int .i64 ev,.int .i64 q] 117 (0,0)):=by
 refine (zH s w hs hm).mono ?_
 rintro e w' ⟨v,err,rfl,hb,⟨l',hok',rfl,hown⟩|⟨e,q,g,hbad,_,rfl,rfl,_,hh⟩⟩
 ·exact (hno l' hok').elim
 ·exact ⟨e,q,g,rfl,hb,hbad,hh⟩
theorem Oi {p:UInt8->Bool}:∀(u:List UInt8) (c:UInt8),c∈u.take (Lx.wh p u)->p c=true
 | [],c,h=>by simp at h
 | x::r,c,h=>by
  unfold Lx.wh at h
  rw[List.takeWhile_cons] at h
  split at h
  ·next hx=>
   simp only[List.length_cons,List.take_succ_cons,List.mem_cons] at h
   rcases h with rfl|h
   ·exact hx
   ·exact Oi r c h
  ·simp at h
theorem Ng {u:List UInt8}(h:(Lx.rd u).1=2):(∀c∈u.take (Lx.rd u).2,48≤c.toNat/\c.toNat≤57)/\u.take (Lx.rd u).2≠[]:=by
 cases u with
 | nil=>simp[Lx.rd] at h
 | cons c r=>
  have hc:Lx.gQ c=true:=by
   rw[Lx.mB] at h
   by_cases hc:Lx.gQ c=true
   ·exact hc
   ·rw[if_neg hc] at h
    by_cases hw:Lx.oK c=true
    ·rw[if_pos hw] at h;simp at h
    ·rw[if_neg hw] at h
     by_cases hm:Lx.mk (c::r)=0
     ·rw[if_pos hm] at h;simp at h
     ·rw[if_neg hm] at h;simp at h
  have e:(Lx.rd (c::r)).2=Lx.wh Lx.gQ (c::r):=by rw[Lx.mB,if_pos hc]
  rw[e]
  refine ⟨fun d hd=>?_,?_⟩
  ·have:=Oi _ _ hd;simpa [Lx.gQ] using this
  ·simp[Lx.wh,hc]
theorem Ca {l:List Lx.fK}:∀{u:List UInt8}{p:Nat}{u1:List UInt8}{p1:Nat},Lx.pM u p l u1 p1->∀t∈l,t.kind≤3/\t.kind≠0/\(t.kind=2->(∀c∈t.text,48≤c.toNat/\c.toNat≤57)/\t.text.length≤18/\t.text≠[]):=by
 induction l with
 | nil=>intro _ _ _ _ _ t ht;simp at ht
 | cons x r ih=>
  intro u p u1 p1 h t ht
  obtain ⟨a,b,c,d,e⟩:=h
  rcases List.mem_cons.1 ht with rfl|ht
  ·subst b
   refine ⟨Lx.Fc _,c,fun h2=>?_⟩
   have h2':=h2
   refine ⟨(Ng h2').1,?_,(Ng h2').2⟩
   have:(Lx.rd (u.drop (Lx.sk false u))).2≤18:=Nat.le_of_not_lt fun hl=>d ⟨h2',hl⟩
   simp only[List.length_take];omega
  ·exact ih e t ht
theorem Gc (s:ByteArray) (l:List Lx.fK) (k:Nat):(k<l.length/\Px.Hk (fin s l) k∈l)\/(k=l.length/\Px.Hk (fin s l) k=⟨4,[],s.size⟩)\/(l.length<k/\(fin s l)[k]?=none):=by
 rcases Nat.lt_trichotomy k l.length with h|h|h
 ·refine .inl ⟨h,?_⟩
  simp[Px.Hk,fin,List.getD_eq_getElem?_getD,List.getElem?_append_left h,List.getElem?_eq_getElem h]
 ·refine .inr (.inl ⟨h,?_⟩)
  subst h;simp[Px.Hk,fin,List.getD_eq_getElem?_getD]
 ·refine .inr (.inr ⟨h,?_⟩)
  simp[fin];omega
theorem Mh {L:List Lx.fK}{k:Nat}(h:L[k]?=none):Px.Hk L k=⟨4,[],0⟩:=by
 simp[Px.Hk,List.getD_eq_getElem?_getD,h]
theorem vU {s:ByteArray}{l:List Lx.fK}(h:Lx.Ok (bs s) l):Wf (fin s l):=by
 obtain ⟨hn,u,p,hr,_⟩:=h
 have he:=Ca hr
 have hl:Px.Hk (fin s l) ((fin s l).length-1)=⟨4,[],s.size⟩:=by
  rcases Gc s l ((fin s l).length-1) with h|h|h
  ·have:=qA s l;omega
  ·exact h.2
  ·have:=qA s l;omega
 refine ⟨by rw[qA];omega,by rw[qA];omega,by rw[kd,hl],by rw[tx,hl],fun k hk=>?_⟩
 rcases Gc s l k with h|h|h
 ·exact (he _ h.2).2.2 hk
 ·rw[kd,h.2] at hk;simp at hk
 ·rw[kd,Mh h.2] at hk;simp at hk
end
section
open Go.RowKit Px
theorem rB (w:World):∃W,W=(w.alloc (.cells ZC 52)).alloc (.cells #[.nilIface] 33)/\Below w.heap.size w W/\W.heap.size=w.heap.size+2/\W.heap[w.heap.size]?=some (.cells ZC 52 (0,0))/\W.heap[w.heap.size+1]?=some (.cells #[.nilIface] 33 (0,0)):=by
 refine ⟨_,rfl,((Below.refl _ w).alloc (Nat.le_refl _) _).alloc (by simp) _,by simp,?_,?_⟩
 ·have:=heap_alloc_new w (.cells ZC 52)
  rw[heap_alloc_old _ _ (by simp)];exact this
 ·have:=heap_alloc_new (w.alloc (.cells ZC 52)) (.cells #[.nilIface] 33)
  simpa using this
theorem Ov {W:World}{g:Nat}{v:Value}(hg:W.heap[g]?=some (.cells #[v] 33 (0,0))):(loadVar 33 ⟨g,0,none⟩).run Tryz.prog W=.ok v W:=by
 have hc:W.cell? ⟨g,0,none⟩=some v:=by rw[cell_of_row _ _ _ _ _ _ hg];rfl
 simp[go_sem,hc]
theorem wX (tmps:Array Value) (W:World) (c e:Nat) (fc:Array Value) (v:Value) (hsz:fc.size=3) (hp:tmps[2]?.getD undef=.pointer (some ⟨c,0,none⟩)) (hq:tmps[3]?.getD undef=.pointer (some ⟨e,0,none⟩)) (hc:W.heap[c]?=some (.cells fc 52 (0,0))) (he:W.heap[e]?=some (.cells #[v] 33 (0,0))) :
    (results Tryz.f52 tmps).run Tryz.prog W=.ok (.tuple #[.agg fc,v]) W:=by
 simp[results,Tryz.results52,hp,hq,asAddr,F5 hsz hc,Ov he]
theorem xN {w2:World}{c e:Nat}{a b d v v':Value}(hc:w2.heap[c]?=some (.cells ZC 52 (0,0))) (he:w2.heap[e]?=some (.cells #[v'] 33 (0,0))) (hne:c≠e) :
    ((((w2.setCell ⟨c,0,none⟩ a).setCell ⟨c,1,none⟩ b).setCell ⟨c,2,none⟩ d).setCell ⟨e,0,none⟩ v).heap[c]?=some (.cells #[a,b,d] 52 (0,0))/\
    ((((w2.setCell ⟨c,0,none⟩ a).setCell ⟨c,1,none⟩ b).setCell ⟨c,2,none⟩ d).setCell ⟨e,0,none⟩ v).heap[e]?=some (.cells #[v] 33 (0,0))/\
    (∀k,k≠c->k≠e->((((w2.setCell ⟨c,0,none⟩ a).setCell ⟨c,1,none⟩ b).setCell ⟨c,2,none⟩ d).setCell ⟨e,0,none⟩ v).heap[k]?=w2.heap[k]?)/\
    (∀B a0,Below B a0 w2->B≤c->B≤e->Below B a0 ((((w2.setCell ⟨c,0,none⟩ a).setCell ⟨c,1,none⟩ b).setCell ⟨c,2,none⟩ d).setCell ⟨e,0,none⟩ v)):=by
 have h0:=heap_setCell_same w2 c 0 _ _ a hc
 have h1:=heap_setCell_same _ c 1 _ _ b h0
 have h2:=heap_setCell_same _ c 2 _ _ d h1
 have k0:(((w2.setCell ⟨c,0,none⟩ a).setCell ⟨c,1,none⟩ b).setCell ⟨c,2,none⟩ d).heap[e]?=some (.cells #[v'] 33 (0,0)):=by
  rw[heap_setCell_other _ _ _ _ (by simpa using hne.symm),heap_setCell_other _ _ _ _ (by simpa using hne.symm),heap_setCell_other _ _ _ _ (by simpa using hne.symm)];exact he
 refine ⟨?_,?_,fun k hkc hke=>?_,fun B _ hb hBc hBe=>?_⟩
 ·rw[heap_setCell_other _ _ _ _ (by simpa using hne)];exact h2
 ·exact heap_setCell_same _ e 0 _ _ v k0
 ·rw[heap_setCell_other _ _ _ _ (by simpa using hke),heap_setCell_other _ _ _ _ (by simpa using hkc),heap_setCell_other _ _ _ _ (by simpa using hkc),heap_setCell_other _ _ _ _ (by simpa using hkc)]
 ·exact (((hb.setCell (by simpa using hBc) _).setCell (by simpa using hBc) _).setCell (by simpa using hBc) _).setCell (by simpa using hBe) _
theorem V4 {s:ByteArray}{l:List Lx.fK}{w W0 w1:World}{g cap:Nat}(hG:11≤w.heap.size) (ht:qJ w) (hok:Lx.Ok (bs s) l) (hb0:Below w.heap.size w W0) (hz0:W0.heap.size=w.heap.size+2) (hb1:Below W0.heap.size W0 w1) (hg0:W0.heap.size≤g) (hg1:g<w1.heap.size)
    (hg:∀i t,(fin s l)[i]?=some t->w1.cell? ⟨g,i*3,none⟩=some (.int .i64 t.kind)/\w1.cell? ⟨g,i*3+1,none⟩=some (.string ⟨t.text.toArray⟩)/\w1.cell? ⟨g,i*3+2,none⟩=some (.int .i64 t.place))
    (c1:w1.heap[w.heap.size]?=some (.cells ZC 52 (0,0))) (e1:w1.heap[w.heap.size+1]?=some (.cells #[.nilIface] 33 (0,0))) :
    ∃W2,W2=(w1.setCell ⟨w.heap.size+1,0,none⟩ .nilIface).alloc (.cells #[.slice (some ⟨g,0,none⟩) (l.length+1) cap,.int .i64 0,.int .i64 0,.int .i64 0,.int .i64 0] 155)/\
     PS ⟨w1.heap.size,g,cap,fin s l⟩ W2 0 0 0 0/\Below w.heap.size w W2/\W2.heap[w.heap.size]?=some (.cells ZC 52 (0,0))/\W2.heap[w.heap.size+1]?=some (.cells #[.nilIface] 33 (0,0))/\W2.heap.size=w1.heap.size+1:=by
 have hs1:=hb1.size
 have hB1:=hb0.trans (hb1.mono hb0.size)
 have hB2:Below w.heap.size w (w1.setCell ⟨w.heap.size+1,0,none⟩ .nilIface):=hB1.setCell (by simp) _
 have hz2:(w1.setCell ⟨w.heap.size+1,0,none⟩ .nilIface).heap.size=w1.heap.size:=by simp
 have old:∀k,k<w1.heap.size->k≠w.heap.size+1->((w1.setCell ⟨w.heap.size+1,0,none⟩ .nilIface).alloc (.cells #[.slice (some ⟨g,0,none⟩) (l.length+1) cap,.int .i64 0,.int .i64 0,.int .i64 0,.int .i64 0] 155)).heap[k]?=w1.heap[k]?:=fun k hk hn=>by
  rw[heap_alloc_old _ _ (by rw[hz2];exact hk),heap_setCell_other _ _ _ _ (by simpa using hn)]
 have hwf:=vU hok
 refine ⟨_,rfl,⟨?_,fun k t hk=>?_,?_,hwf.pos,hwf,hg1,?_⟩,hB2.alloc hB2.size _,?_,?_,by simp⟩
 ·have:=heap_alloc_new (w1.setCell ⟨w.heap.size+1,0,none⟩ .nilIface) (.cells #[.slice (some ⟨g,0,none⟩) (l.length+1) cap,.int .i64 0,.int .i64 0,.int .i64 0,.int .i64 0] 155)
  rw[hz2] at this
  rw[rdC,qA];exact this
 ·have hb:=old g hg1 (by omega)
  have:=hg k t hk
  rw[World.cell?_of_block (w:=w1) (a:=⟨g,k*3,none⟩) hb,World.cell?_of_block (w:=w1) (a:=⟨g,k*3+1,none⟩) hb,World.cell?_of_block (w:=w1) (a:=⟨g,k*3+2,none⟩) hb]
  exact this
 ·exact ht.keep (fun b hb=>(hB2.alloc hB2.size _).block b (by omega))
 ·show 11<g;omega
 ·rw[old _ (by omega) (by omega)];exact c1
 ·rw[heap_alloc_old _ _ (by rw[hz2];omega)];exact heap_setCell_same w1 _ 0 _ _ .nilIface e1
theorem Ip (s:ByteArray) (w:World) (hs:s.size≤1000000) (hm:lA w) (hno:∀l,¬Lx.Ok (bs s) l) :
    Calls Tryz.prog 52 #[.string s] w fun e w'=>∃ev q g:Nat,e=.returned (.tuple #[.agg ZC,.iface 115 (.pointer (some ⟨g,0,none⟩))])/\Lx.Bad (bs s) ev q/\w'.heap[g]?=some (.cells #[.int .i64 ev,.int .i64 q] 117 (0,0))/\Below w.heap.size w w':=by
 have HN:Hid _:=hno
 clear hno
 have hmf:∀(fn:Fn) (first cap:Array Value) (w:World),(Instr.makeFunc fn first cap).run Tryz.prog w=.ok (.func fn first cap) w:=fun _ _ _ _=>rfl
 obtain ⟨W0,hW,hb0,hz0,c0,e0⟩:=rB w
 have hm0:=hm.below (Nat.le_refl _) hb0
 go_enter_defers Tryz.func52,Tryz.ntmps52
 go_upto_region 1 with fail
 rw[show (w.alloc (.cells #[.string ⟨#[]⟩,.slice none 0 0,.slice none 0 0] 52)).alloc (.cells #[.nilIface] 33)=W0 from hW.symm]
 clear hW
 go_wp2_with (go_at_call 88;refine (Hw s _ hs hm0 HN.out).mono ?_;rintro e w1 ⟨ev,q,g,rfl,hb1,hbad,hg⟩;have c1:=(hb1.block _ (by omega)).trans c0;have e1:=(hb1.block _ (by omega)).trans e0;obtain ⟨-,e1c⟩:True/\w1.cell? ⟨w.heap.size+1,0,none⟩=some .nilIface:=⟨trivial,by rw[cell_of_row _ _ _ _ _ _ e1];rfl⟩;have e1z:w1.frozen? ⟨w.heap.size+1,0,none⟩=false:=by simp[World.frozen?,e1])
 have hb2:Below w.heap.size w (w1.setCell ⟨w.heap.size+1,0,none⟩ (.iface 115 (.pointer (some ⟨g,0,none⟩)))):=(hb0.trans (hb1.mono hb0.size)).setCell (by simp) _
 have c2:(w1.setCell ⟨w.heap.size+1,0,none⟩ (.iface 115 (.pointer (some ⟨g,0,none⟩)))).heap[w.heap.size]?=some (.cells ZC 52 (0,0)):=by
  rw[heap_setCell_other w1 _ _ _ (by simp)];exact c1
 have e2:=heap_setCell_same w1 (w.heap.size+1) 0 _ 33 (.iface 115 (.pointer (some ⟨g,0,none⟩))) e1
 have hne:g≠w.heap.size+1:=by rintro rfl;rw[e1] at hg;simp at hg
 have hne':g≠w.heap.size:=by rintro rfl;rw[c1] at hg;simp[ZC] at hg
 have g2:(w1.setCell ⟨w.heap.size+1,0,none⟩ (.iface 115 (.pointer (some ⟨g,0,none⟩)))).heap[g]?=some (.cells #[.int .i64 ev,.int .i64 q] 117 (0,0)):=by
  rw[heap_setCell_other w1 _ _ _ hne];exact hg
 generalize (w1.setCell ⟨w.heap.size+1,0,none⟩ (.iface 115 (.pointer (some ⟨g,0,none⟩))))=w2 at hb2 c2 e2 g2 ⊢
 have f0:w2.cell? ⟨w.heap.size,0,none⟩=some (.string ⟨#[]⟩):=by rw[cell_of_row _ _ _ _ _ _ c2];rfl
 have f1:w2.cell? ⟨w.heap.size,1,none⟩=some (.slice none 0 0):=by rw[cell_of_row _ _ _ _ _ _ c2];rfl
 have f2:w2.cell? ⟨w.heap.size,2,none⟩=some (.slice none 0 0):=by rw[cell_of_row _ _ _ _ _ _ c2];rfl
 have fz:∀o,w2.frozen? ⟨w.heap.size,o,none⟩=false:=fun o=>by simp[World.frozen?,c2]
 have fe:w2.cell? ⟨w.heap.size+1,0,none⟩=some (.iface 115 (.pointer (some ⟨g,0,none⟩))):=by rw[cell_of_row _ _ _ _ _ _ e2];rfl
 have fy:w2.frozen? ⟨w.heap.size+1,0,none⟩=false:=by simp[World.frozen?,e2]
 obtain ⟨z0,z1,z2,z3⟩:=xN (a:=.string ⟨#[]⟩) (b:=.slice none 0 0) (d:=.slice none 0 0) (v:=.iface 115 (.pointer (some ⟨g,0,none⟩))) c2 e2 (by omega)
 go_region
 go_wp2
 exact ⟨_,wX _ _ _ _ _ _ rfl rfl rfl z0 z1,_,_,_,rfl,hbad,(z2 g hne' hne).trans g2,(z3 _ _ hb2 (Nat.le_refl _) (by omega)).drew⟩
theorem Im (s:ByteArray) (l:List Lx.fK) (f:F) (w:World) (hs:s.size≤1000000) (hG:11≤w.heap.size) (ht:qJ w) (hm:lA w) (hok:Lx.Ok (bs s) l) (hch:dH (fin s l)=.error f) :
    Calls Tryz.prog 52 #[.string s] w fun e w'=>∃q:Nat,e=.returned (.tuple #[.agg ZC,.iface 115 (.pointer (some ⟨q,0,none⟩))])/\w'.heap[q]?=some (.cells #[.int .i64 f.1,.int .i64 f.2] 117 (0,0))/\Below w.heap.size w w':=by
 have HN:Hid _:=hok
 have HC:Hid _:=hch
 clear hok hch
 have hmf:∀(fn:Fn) (first cap:Array Value) (w:World),(Instr.makeFunc fn first cap).run Tryz.prog w=.ok (.func fn first cap) w:=fun _ _ _ _=>rfl
 obtain ⟨W0,hW,hb0,hz0,c0,e0⟩:=rB w
 have hm0:=hm.below (Nat.le_refl _) hb0
 go_enter_defers Tryz.func52,Tryz.ntmps52
 go_upto_region 1 with fail
 rw[show (w.alloc (.cells #[.string ⟨#[]⟩,.slice none 0 0,.slice none 0 0] 52)).alloc (.cells #[.nilIface] 33)=W0 from hW.symm]
 clear hW
 go_wp2_with (first
  | (go_at_call 88;refine (Q8 s l _ rfl _ hs hm0 HN.out).mono ?_;rintro e w1 ⟨g,cap,rfl,hb1,hg0,hg1,hg⟩;have c1:=(hb1.block _ (by omega)).trans c0;have e1:=(hb1.block _ (by omega)).trans e0;obtain ⟨-,e1c⟩:True/\w1.cell? ⟨w.heap.size+1,0,none⟩=some .nilIface:=⟨trivial,by rw[cell_of_row _ _ _ _ _ _ e1];rfl⟩;have e1z:w1.frozen? ⟨w.heap.size+1,0,none⟩=false:=(by simp[World.frozen?,e1]);obtain ⟨W2,hW2,hps,hbW,cW,eW,hzW⟩:=V4 (cap:=cap) hG ht HN.out hb0 hz0 hb1 hg0 hg1 hg c1 e1;have HW2:Hid _:=hW2;clear hW2)
  | (go_at_call 90;rw[show (w1.setCell ⟨w.heap.size+1,0,none⟩ .nilIface).alloc (.cells #[.slice (some ⟨g,0,none⟩) (l.length+1) cap,.int .i64 0,.int .i64 0,.int .i64 0,.int .i64 0] 155)=W2 from HW2.out.symm];refine (A7 hps).mono ?_;rintro e w3 h3;rw[show dH (⟨w1.heap.size,g,cap,fin s l⟩:dT).L=_ from HC.out] at h3;obtain ⟨q,rfl,hq,hge,hfr⟩:aP ⟨w1.heap.size,g,cap,fin s l⟩ W2 f e w3:=h3))
 have hs1:=hb1.size
 have c3:=(hfr.block _ (by omega) (by simp;omega)).trans cW
 have e3:=(hfr.block _ (by omega) (by simp;omega)).trans eW
 have hB3:Below w.heap.size w w3:=hbW.trans (Fr.below (hfr.mono (by omega) (by simp;omega)))
 obtain ⟨z0,z1,z2,z3⟩:=xN (a:=.string ⟨#[]⟩) (b:=.slice none 0 0) (d:=.slice none 0 0) (v:=.iface 115 (.pointer (some ⟨q,0,none⟩))) c3 e3 (by omega)
 refine leaves_cons (f:=89) (args:=#[.pointer (some ⟨w.heap.size,0,none⟩),.pointer (some ⟨w.heap.size+1,0,none⟩)]) (by simp) (by simp[go_sem]) ?_
 refine (I8 w.heap.size (w.heap.size+1) q w3 [] (by rw[cell_of_row _ _ _ _ _ _ c3];rfl) (by rw[cell_of_row _ _ _ _ _ _ c3];rfl) (by rw[cell_of_row _ _ _ _ _ _ c3];rfl) (fun o=>by simp[World.frozen?,c3]) (by rw[cell_of_row _ _ _ _ _ _ e3];rfl) (by simp[World.frozen?,e3]) (by omega)).mono ?_
 rintro e u' w'' ⟨rfl,rfl,rfl⟩
 exact ⟨_,wX _ _ _ _ _ _ rfl rfl rfl z0 z1,q,rfl,(z2 q (by omega) (by omega)).trans hq,z3 _ _ hB3 (Nat.le_refl _) (by omega)⟩
theorem Nq (s:ByteArray) (l:List Lx.fK) (c:fU) (w:World) (hs:s.size≤1000000) (hG:11≤w.heap.size) (ht:qJ w) (hm:lA w) (hok:Lx.Ok (bs s) l) (hch:dH (fin s l)=.ok c) :
    Calls Tryz.prog 52 #[.string s] w fun e w'=>∃v,e=.returned (.tuple #[v,.nilIface])/\gJ (Ge w.heap.size) w' c v/\Below w.heap.size w w':=by
 have HN:Hid _:=hok
 have HC:Hid _:=hch
 clear hok hch
 have hmf:∀(fn:Fn) (first cap:Array Value) (w:World),(Instr.makeFunc fn first cap).run Tryz.prog w=.ok (.func fn first cap) w:=fun _ _ _ _=>rfl
 obtain ⟨W0,hW,hb0,hz0,c0,e0⟩:=rB w
 have hm0:=hm.below (Nat.le_refl _) hb0
 go_enter_defers Tryz.func52,Tryz.ntmps52
 go_upto_region 1 with fail
 rw[show (w.alloc (.cells #[.string ⟨#[]⟩,.slice none 0 0,.slice none 0 0] 52)).alloc (.cells #[.nilIface] 33)=W0 from hW.symm]
 clear hW
 go_wp2_with (first
  | (go_at_call 88;refine (Q8 s l _ rfl _ hs hm0 HN.out).mono ?_;rintro e w1 ⟨g,cap,rfl,hb1,hg0,hg1,hg⟩;have c1:=(hb1.block _ (by omega)).trans c0;have e1:=(hb1.block _ (by omega)).trans e0;obtain ⟨-,e1c⟩:True/\w1.cell? ⟨w.heap.size+1,0,none⟩=some .nilIface:=⟨trivial,by rw[cell_of_row _ _ _ _ _ _ e1];rfl⟩;have e1z:w1.frozen? ⟨w.heap.size+1,0,none⟩=false:=(by simp[World.frozen?,e1]);obtain ⟨W2,hW2,hps,hbW,cW,eW,hzW⟩:=V4 (cap:=cap) hG ht HN.out hb0 hz0 hb1 hg0 hg1 hg c1 e1;have HW2:Hid _:=hW2;clear hW2)
  | (go_at_call 90;rw[show (w1.setCell ⟨w.heap.size+1,0,none⟩ .nilIface).alloc (.cells #[.slice (some ⟨g,0,none⟩) (l.length+1) cap,.int .i64 0,.int .i64 0,.int .i64 0,.int .i64 0] 155)=W2 from HW2.out.symm];refine (A7 hps).mono ?_;rintro e w3 h3;rw[show dH (⟨w1.heap.size,g,cap,fin s l⟩:dT).L=_ from HC.out] at h3;obtain ⟨v,rfl,⟨a1,n1,m1,a2,n2,m2,rfl,d1,d2⟩,hfr⟩:=h3;have hs1:=hb1.size;have c3:=(hfr.block w.heap.size (by omega) (by simp;omega)).trans cW;have e3:=(hfr.block (w.heap.size+1) (by omega) (by simp;omega)).trans eW;have f0:w3.cell? ⟨w.heap.size,0,none⟩=some (.string ⟨#[]⟩):=by rw[cell_of_row _ _ _ _ _ _ c3];rfl
     have f1:w3.cell? ⟨w.heap.size,1,none⟩=some (.slice none 0 0):=by rw[cell_of_row _ _ _ _ _ _ c3];rfl
     have f2:w3.cell? ⟨w.heap.size,2,none⟩=some (.slice none 0 0):=by rw[cell_of_row _ _ _ _ _ _ c3];rfl
     have fz:∀o,w3.frozen? ⟨w.heap.size,o,none⟩=false:=fun o=>by simp[World.frozen?,c3]
     have fe:w3.cell? ⟨w.heap.size+1,0,none⟩=some .nilIface:=by rw[cell_of_row _ _ _ _ _ _ e3];rfl
     have fy:w3.frozen? ⟨w.heap.size+1,0,none⟩=false:=by simp[World.frozen?,e3]
     rw[sv]))
 have hB3:Below w.heap.size w w3:=hbW.trans (Fr.below (hfr.mono (by omega) (by simp;omega)))
 obtain ⟨z0,z1,z2,z3⟩:=xN (a:=.string ⟨c.name.toArray⟩) (b:=.slice a1 n1 m1) (d:=.slice a2 n2 m2) (v:=.nilIface) c3 e3 (by omega)
 refine leaves_cons (f:=89) (args:=#[.pointer (some ⟨w.heap.size,0,none⟩),.pointer (some ⟨w.heap.size+1,0,none⟩)]) (by simp) (by simp[go_sem]) ?_
 refine (Ek ⟨w.heap.size,0,none⟩ ⟨w.heap.size+1,0,none⟩ _).mono ?_
 rintro e u' w'' ⟨rfl,rfl,rfl⟩
 have kp:aX (Ge W2.heap.size) (Ge w.heap.size) w3 _:=fun b hb hlt=>⟨by simp[Ge] at *;omega,z2 b (by simp[Ge] at hb;omega) (by simp[Ge] at hb;omega)⟩
 exact ⟨_,wX _ _ _ _ _ _ rfl rfl rfl z0 z1,_,rfl,⟨a1,n1,m1,a2,n2,m2,rfl,d1.carry kp,d2.carry kp (aL.carry kp 6)⟩,z3 _ _ hB3 (Nat.le_refl _) (by omega)⟩
end
section
open Go.RowKit Px
namespace Kx
theorem nmE {e:E}(h:Sh.TE e):zB e:=by
 induction e with
 | nil=>trivial
 | node b o a l r ihl ihr=>
  obtain ⟨h1,h2,h3,h4,_,h5,h6⟩:=h
  exact ⟨by unfold maxLen;omega,ihl h5,ihr h6⟩
theorem nmS {l:List iQ}(h:Sh.TS l):lF l:=fun a ha=>⟨by have:=(h a ha).2;unfold maxLen;omega,nmE (h a ha).1⟩
theorem aC1 {α:Type}(f:α->Nat) (hf:∀a,1≤f a) (l:List α):l.length≤Sh.fP f l:=by
 induction l with
 | nil=>simp
 | cons a r ih=>rw[Sh.fP,List.length_cons];have:=hf a;omega
theorem aK4:∀(k:Nat) (x:St k),Sh.Wr k x->Sh.iW k x≤601->Es k x:=by
 intro k
 induction k with
 | zero=>intro x _ _;trivial
 | succ k ih=>
  intro x h hw
  obtain ⟨h0,h1,h2,h3,h4,h5,h6⟩:=h
  have hw':Sh.kM (Sh.iW k) x≤601:=hw
  unfold Sh.kM at hw'
  have hl:=aC1 Sh.wW (fun y=>by unfold Sh.wW;omega) (cC.ways x)
  refine ⟨⟨by unfold maxLen;omega,nmS h1,nmS h2,nmS h3,nmE h4,fun y hy=>⟨by have:=(h5 y hy).2.2.2.2;unfold maxLen;omega,nmE (h5 y hy).2.2.1,nmS (h5 y hy).2.2.2.1⟩,by omega⟩,fun r hr y hy=>ih y (h6 r hr y hy) ?_⟩
  have a1:1+Sh.fP (Sh.iW k) r≤Sh.fP (Sh.wR (Sh.iW k)) (cC.regions x):=Sh.rS (Sh.wR (Sh.iW k)) (cC.regions x) r hr
  have a2:=Sh.rS (Sh.iW k) r y hy
  omega
theorem Ez {α:Type}{f g:α->Nat}(l:List α) (h:∀a∈l,f a≤g a):gU f l≤Sh.fP g l:=by
 induction l with
 | nil=>simp[gU,Sh.fP]
 | cons a r ih=>rw[gU,Sh.fP];have:=h a (by simp);have:=ih (fun b hb=>h b (by simp[hb]));omega
theorem aM6:∀(k:Nat) (x:St k),1+Aw k x≤Sh.iW k x:=by
 intro k
 induction k with
 | zero=>intro x;exact Nat.le_refl _
 | succ k ih=>
  intro x
  show 1+gU (gU fun y=>1+Aw k y) (cC.regions x)≤Sh.kM (Sh.iW k) x
  unfold Sh.kM
  have:=Ez (f:=gU fun y=>1+Aw k y) (g:=Sh.wR (Sh.iW k)) (cC.regions x) (fun r _=>by
   have:=Ez (f:=fun y=>1+Aw k y) (g:=Sh.iW k) r (fun y _=>ih y)
   unfold Sh.wR;omega)
  omega
theorem F2 {L:List Lx.fK}(hL:Wf L) {c:fU}(h:dH L=.ok c):qF c:=by
 obtain ⟨h1,h2,h3⟩:=Sh.I6 hL h
 have hx:∀r∈c.regions,∀x∈r,Sh.iW 6 x≤601:=fun r hr x hx=>by
  have a1:1+Sh.fP (Sh.iW 6) r≤Sh.fP (Sh.wR (Sh.iW 6)) c.regions:=Sh.rS (Sh.wR (Sh.iW 6)) c.regions r hr
  have a2:=Sh.rS (Sh.iW 6) r x hx
  omega
 refine ⟨by omega,fun v hv=>by have:=(h1 v hv).2;unfold maxLen;omega,fun r hr x hx'=>aK4 6 x (h2 r hr x hx') (hx r hr x hx'),?_⟩
 have:=Ez (f:=K8 6) (g:=Sh.wR (Sh.iW 6)) c.regions (fun r _=>by
  have:=Ez (f:=fun y=>1+Aw 6 y) (g:=Sh.iW 6) r (fun y _=>aM6 6 y)
  unfold K8 Sh.wR;omega)
 omega
structure qX (w:World):Prop where
 tabs:qJ w
 marks:lA w
 big:11≤w.heap.size
theorem qX.up {w W:World}(h:qX w) (hb:Below w.heap.size w W):qX W:=
 ⟨h.tabs.keep (fun b hb'=>hb.block b (Nat.lt_of_lt_of_le hb' h.big)),h.marks.below (Nat.le_refl _) hb,Nat.le_trans h.big hb.size⟩
theorem Gn {A:Nat->Prop}{c:fU}{W W':World}{v:Value}(h:gJ A W c v) (hb:Below W.heap.size W W'):gJ A W' c v:=by
 have kp:aX A A W W':=fun b ha hlt=>⟨ha,hb.block b hlt⟩
 obtain ⟨a,n,m,a2,n2,m2,rfl,hv,hr⟩:=h
 exact ⟨a,n,m,a2,n2,m2,rfl,hv.carry kp,hr.carry kp (aL.carry kp 6)⟩
theorem oU (tmps:Array Value) (W:World) (e:Nat) (fe:Array Value) (hse:fe.size=3) (hq:tmps[2]?.getD undef=.pointer (some ⟨e,0,none⟩)) (he:W.heap[e]?=some (.cells fe 52 (0,0))) :
    (results Tryz.f26 tmps).run Tryz.prog W=.ok (.tuple #[.agg fe,tmps.getD 3 undef]) W:=by
 simp[results,Tryz.results26,hq,asAddr,F5 hse he]
end Kx
end
section
open Go.ChangeShapes Go.WideShapes Go.ChangeAt Go.RowKit Px
theorem aC8:ownKnob Tryz.prog.godebug=none:=by kernel_rfl
theorem Fp:laidOutB Tryz.prog=true:=by kernel_rfl
def Au:DataW Unit->List Value
 | .lit (.string s)=>[.string ⟨s.toArray⟩]
 | .lit (.int k n)=>[.int k n]
 | _=>[]
def Kg (f:DataW Unit->List Value):DataW Unit->List Value
 | .agg ps=>ps.flatMap f
 | _=>[]
def kT (W:World) (t k:Nat) (f:DataW Unit->List Value):Prop:=
 ∀fuel cs d p,DataW.trod (fun _=>()) Tryz.prog W 0 (fun _=>true) false fuel t cs=some (d,p)->cs=f d/\cs.length=k
theorem E6 {W:World}{t:Nat}(hu:Tryz.prog.underlying t=some .string):kT W t 1 Au:=by
 intro fuel cs d p h
 cases fuel with
 | zero=>simp[DataW.trod] at h
 | succ fuel=>
  rcases cs with _|⟨c,_|⟨c',r⟩⟩
  ·simp[DataW.trod,hu] at h
  ·cases c with
   | string s=>
    simp only[DataW.trod,hu] at h
    split at h
    ·have hb:=congrArg Prod.fst (Option.some.inj h)
     simp only at hb
     subst hb
     exact ⟨rfl,rfl⟩
    ·cases h
   | _=>simp[DataW.trod,hu] at h
  ·simp[DataW.trod,hu] at h
theorem Iv {W:World}{t:Nat}{k:IntKind}(hu:Tryz.prog.underlying t=some (.int k)):kT W t 1 Au:=by
 intro fuel cs d p h
 cases fuel with
 | zero=>simp[DataW.trod] at h
 | succ fuel=>
  rcases cs with _|⟨c,_|⟨c',r⟩⟩
  ·simp[DataW.trod,hu] at h
  ·cases c with
   | int k' n=>
    simp only[DataW.trod,hu] at h
    split at h
    ·rename_i hk
     have hb:=congrArg Prod.fst (Option.some.inj h)
     simp only at hb
     subst hb
     rw[hk.1]
     exact ⟨rfl,rfl⟩
    ·cases h
   | _=>simp[DataW.trod,hu] at h
  ·simp[DataW.trod,hu] at h
theorem Zy {k:Nat}{f:DataW Unit->List Value}:∀(ds:List (DataW Unit)) (cs:List Value),cs.length=ds.length*k->(∀i d,ds[i]?=some d->(cs.drop (i*k)).take k=f d)->cs=ds.flatMap f:=by
 intro ds
 induction ds with
 | nil=>intro cs hl _;simp at hl;simp[hl]
 | cons d r ih=>
  intro cs hl h
  have h0:=h 0 d rfl
  rw[Nat.zero_mul,List.drop_zero] at h0
  have h1:=ih (cs.drop k) (by rw[List.length_drop,hl,List.length_cons,Nat.add_mul];omega) (fun i d hi=>by
   have:=h (i+1) d (by simpa using hi)
   rw[Nat.add_mul,Nat.one_mul,Nat.add_comm,<-List.drop_drop] at this
   exact this)
  rw[List.flatMap_cons,<-h0,<-h1,List.take_append_drop]
theorem jB {W:World}{t e n k:Nat}{f:DataW Unit->List Value}(hu:Tryz.prog.underlying t=some (.array n e)) (hce:Tryz.prog.cellsOf e=k) (hct:Tryz.prog.cellsOf t=n*k) (he:kT W e k f):kT W t (n*k) (Kg f):=by
 intro fuel cs d p h
 cases fuel with
 | zero=>simp[DataW.trod] at h
 | succ fuel=>
  simp only[DataW.trod,hu,hce,hct] at h
  split at h
  ·rename_i hl
   obtain ⟨xs,hm,hx⟩:=Option.map_eq_some_iff.1 h
   have hd:=congrArg Prod.fst hx
   simp only at hd
   subst hd
   have hxl:xs.length=n:=by simpa using Lib.mapM_length hm
   refine ⟨?_,hl⟩
   show cs=(xs.map (·.1)).flatMap f
   refine Zy (k:=k) _ cs (by rw[List.length_map,hxl];exact hl) (fun i d hi=>?_)
   rw[List.getElem?_map,Option.map_eq_some_iff] at hi
   obtain ⟨b,hb,rfl⟩:=hi
   have hin:i<n:=by rw[<-hxl];exact (List.getElem?_eq_some_iff.1 hb).1
   obtain ⟨b',hb',hf⟩:=Lib.mapM_at hm i i (by simp[hin])
   obtain rfl:b=b':=Option.some.inj (hb.symm.trans hb')
   exact (he fuel _ b.1 b.2 hf).1
  ·cases h
theorem Xy {α:Type}:∀(l:List α),l.length=2->∃x y,l=[x,y]
 | [x,y],_=>⟨x,y,rfl⟩
theorem Iu {W:World}{t a b:Nat}{f g:Field}(hu:Tryz.prog.underlying t=some (.struct #[f,g])) (hf:f.type=a/\f.offset=0) (hg:g.type=b/\g.offset=1) (hct:Tryz.prog.cellsOf t=2) (hca:Tryz.prog.cellsOf a=1) (hcb:Tryz.prog.cellsOf b=1) (ha:kT W a 1 Au) (hb:kT W b 1 Au):kT W t 2 (Kg Au):=by
 intro fuel cs d p h
 cases fuel with
 | zero=>simp[DataW.trod] at h
 | succ fuel=>
  simp only[DataW.trod,hu,hct] at h
  split at h
  ·rename_i hl
   obtain ⟨xs,hm,hx⟩:=Option.map_eq_some_iff.1 h
   obtain ⟨x,y,rfl⟩:∃x y,cs=[x,y]:=Xy cs hl
   have hd:=congrArg Prod.fst hx
   simp only at hd
   subst hd
   simp only[List.mapM_cons,List.mapM_nil,Option.bind_eq_bind,Option.bind_eq_some_iff,Option.pure_def,Option.some.injEq,hf.1,hf.2,hg.1,hg.2,hca,hcb] at hm
   obtain ⟨b0,hb0,r0,⟨b1,hb1,r1,rfl,rfl⟩,rfl⟩:=hm
   have e0:=(ha fuel _ b0.1 b0.2 hb0).1
   have e1:=(hb fuel _ b1.1 b1.2 hb1).1
   refine ⟨?_,rfl⟩
   show [x,y]=Au b0.1++(Au b1.1++[])
   rw[<-e0,<-e1];rfl
  ·cases h
theorem X7 {W:World}:∀{l:List (String×DataW Unit)}{ps:List MemPlace},DataW.LaidVars Tryz.prog W l ps->∀x∈l,∃g t cs f p,Tryz.prog.globalNamed x.1=some g/\(Tryz.prog.globals[g]?).map (·.type)=some t/\W.var? Tryz.prog x.1=some cs/\DataW.trod (fun _=>()) Tryz.prog W 0 (fun _=>true) false f t cs.toList=some (x.2,p):=by
 intro l
 induction l with
 | nil=>intro ps _ x hx;cases hx
 | cons y r ih=>
  intro ps h x hx
  obtain ⟨g,t,cs,f,p,q,h1,h2,h3,h4,h5,_⟩:=h
  rcases List.mem_cons.1 hx with rfl|hx
  ·exact ⟨g,t,cs,f,p,h1,h2,h3,h4⟩
  ·exact ih h5 x hx
theorem tC {W:World}{l:List (String×DataW Unit)}{ps:List MemPlace}(hl:DataW.LaidVars Tryz.prog W l ps) {n:String}{d:DataW Unit}(hm:(n,d)∈l) {g t k:Nat}{f:DataW Unit->List Value}(hg:Tryz.prog.globalNamed n=some g) (ht:(Tryz.prog.globals[g]?).map (·.type)=some t) (ho:kT W t k f):pJ W g (f d):=by
 obtain ⟨g',t',cs,fu,p,h1,h2,h3,h4⟩:=X7 hl _ hm
 obtain rfl:=Option.some.inj (hg.symm.trans h1)
 obtain rfl:=Option.some.inj (ht.symm.trans h2)
 have e:=(ho fu _ _ _ h4).1
 intro i v hv
 rw[World.var?_cell hg h3 i,<-Array.getElem?_toList,e]
 exact hv
theorem aA1 {W:World}{l:List (String×DataW Unit)}{ps:List MemPlace}(hl:DataW.LaidVars Tryz.prog W l ps) {n:String}{d:DataW Unit}(hm:(n,d)∈l) {g:Nat}(hg:Tryz.prog.globalNamed n=some g):g<W.heap.size:=by
 obtain ⟨g',t',cs,fu,p,h1,h2,h3,h4⟩:=X7 hl _ hm
 rw[World.var?,hg,Option.bind_some] at h3
 by_cases hlt:g<W.heap.size
 ·exact hlt
 ·rw[show W.heap[g]?=none from Array.getElem?_eq_none (by omega)] at h3
  simp at h3
theorem E8 {W:World}:kT W 9 1 Au:=E6 Tryz.underlying9
theorem Yi {W:World}:kT W 3 1 Au:=Iv Tryz.underlying3
theorem Ff {W:World}:kT W 356 2 (Kg Au):=Iu Tryz.underlying356 ⟨rfl,rfl⟩ ⟨rfl,rfl⟩ (by kernel_rfl) (by kernel_rfl) (by kernel_rfl) E8 Yi
theorem Xf {W:World}:kT W 250 (21*1) (Kg Au):=jB Tryz.underlying250 (by kernel_rfl) (by kernel_rfl) E8
theorem aK2 {W:World}:kT W 251 (4*1) (Kg Au):=jB Tryz.underlying251 (by kernel_rfl) (by kernel_rfl) E8
theorem aK3 {W:World}:kT W 344 (3*1) (Kg Au):=jB Tryz.underlying344 (by kernel_rfl) (by kernel_rfl) E8
theorem aD0 {W:World}:kT W 360 (2*2) (Kg (Kg Au)):=jB Tryz.underlying360 (by kernel_rfl) (by kernel_rfl) Ff
theorem aC9 {W:World}:kT W 357 (4*2) (Kg (Kg Au)):=jB Tryz.underlying357 (by kernel_rfl) (by kernel_rfl) Ff
theorem Yj {W:World}:kT W 358 (5*(4*2)) (Kg (Kg (Kg Au))):=jB Tryz.underlying358 (by kernel_rfl) (by kernel_rfl) aC9
theorem Zl:Tryz.prog.globalNamed "clepsydra/lex.marks"=some 0:=by kernel_rfl
theorem Zk:Tryz.prog.globalNamed "clepsydra/parse.words"=some 2:=by kernel_rfl
theorem Zn:Tryz.prog.globalNamed "clepsydra/parse.kinds"=some 1:=by kernel_rfl
theorem Zm:Tryz.prog.globalNamed "clepsydra/parse.leads"=some 3:=by kernel_rfl
theorem Zo:Tryz.prog.globalNamed "clepsydra/parse.ahead"=some 7:=by kernel_rfl
theorem Qf:Tryz.prog.globalNamed "clepsydra/parse.between"=some 6:=by kernel_rfl
theorem Oj {W:World}(h:pJ W 0 (Lx.marks.map fQ)):lA W:=by
 intro i hi
 have hl:=hi
 refine h i _ ?_
 rw[List.getElem?_map,List.getElem?_eq_getElem hl,List.getD_eq_getElem?_getD,List.getElem?_eq_getElem hl]
 rfl
theorem aF5:Tryz.prog.globalNamed "math/bits.deBruijn64tab"=some 10:=by kernel_rfl
theorem Hf {W:World}{l:List (String×DataW Unit)}{ps:List MemPlace}(hl:DataW.LaidVars Tryz.prog W l ps)
    (h1:("clepsydra/lex.marks",Rows.laid_clepsydra_lex_marks)∈l) (h2:("clepsydra/parse.between",Rows.laid_clepsydra_parse_between)∈l) (h3:("clepsydra/parse.ahead",Rows.laid_clepsydra_parse_ahead)∈l) (h4:("clepsydra/parse.kinds",Rows.laid_clepsydra_parse_kinds)∈l) (h5:("clepsydra/parse.leads",Rows.laid_clepsydra_parse_leads)∈l) (h6:("clepsydra/parse.words",Rows.laid_clepsydra_parse_words)∈l) (h7:("math/bits.deBruijn64tab",Rows.laid_math_bits_deBruijn64tab)∈l):Kx.qX W:=
 ⟨⟨tC hl h6 Zk (by kernel_rfl) Xf,tC hl h4 Zn (by kernel_rfl) aK2,tC hl h5 Zm (by kernel_rfl) aK3,tC hl h3 Zo (by kernel_rfl) aD0,tC hl h2 Qf (by kernel_rfl) Yj⟩,Oj (tC hl h1 Zl (by kernel_rfl) Xf),aA1 hl h7 aF5⟩
theorem Mx {W:World}(h':laidMet Tryz.prog [("math/bits.deBruijn32tab",Rows.laid_math_bits_deBruijn32tab),("math/bits.deBruijn64tab",Rows.laid_math_bits_deBruijn64tab),("internal/strconv.uint64pow10",Rows.laid_internal_strconv_uint64pow10),("strconv.ErrRange",Rows.laid_strconv_ErrRange),("strconv.ErrSyntax",Rows.laid_strconv_ErrSyntax),("clepsydra/lex.marks",Rows.laid_clepsydra_lex_marks),("clepsydra/parse.between",Rows.laid_clepsydra_parse_between),("clepsydra/parse.ahead",Rows.laid_clepsydra_parse_ahead),("clepsydra/parse.kinds",Rows.laid_clepsydra_parse_kinds),("clepsydra/parse.leads",Rows.laid_clepsydra_parse_leads),("clepsydra/parse.words",Rows.laid_clepsydra_parse_words)] W):Kx.qX W:=by
 obtain ⟨ps,hl,_⟩:=h'
 have m0:∀(a:String×DataW Unit) (r:List (String×DataW Unit)),a∈a::r:=fun a r=>List.mem_cons_self
 exact Hf hl (.tail _ (.tail _ (.tail _ (.tail _ (.tail _ (m0 _ _)))))) (.tail _ (.tail _ (.tail _ (.tail _ (.tail _ (.tail _ (m0 _ _))))))) (.tail _ (.tail _ (.tail _ (.tail _ (.tail _ (.tail _ (.tail _ (m0 _ _)))))))) (.tail _ (.tail _ (.tail _ (.tail _ (.tail _ (.tail _ (.tail _ (.tail _ (m0 _ _))))))))) (.tail _ (.tail _ (.tail _ (.tail _ (.tail _ (.tail _ (.tail _ (.tail _ (.tail _ (m0 _ _)))))))))) (.tail _ (.tail _ (.tail _ (.tail _ (.tail _ (.tail _ (.tail _ (.tail _ (.tail _ (.tail _ (m0 _ _))))))))))) (.tail _ (m0 _ _))
end
end Go.Proofs.YtcdbhoknhnimcaaGreatDoor
