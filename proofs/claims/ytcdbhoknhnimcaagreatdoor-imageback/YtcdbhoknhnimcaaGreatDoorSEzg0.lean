import Derived.Test.YtcdbhoknhnimcaaGreatDoorSEi
import Derived.Test.YtcdbhoknhnimcaaGreatDoorSEk0
import Derived.Test.YtcdbhoknhnimcaaGreatDoorSNtB
import Derived.Test.YtcdbhoknhnimcaaGreatDoorSLaidU
import Derived.Defers
import Derived.Recover
set_option maxRecDepth 100000
set_option maxHeartbeats 16000000
namespace Go.Proofs.YtcdbhoknhnimcaaGreatDoor
section
open Go.RowKit Px
namespace Ew
open Px.Em (Kd Vr eH eI iN Rg bY)
open Nx (Nt Sp gJ)
theorem bU5 (v:Value) (w:World):(Instr.typeAssert (.iface 94 v) 20 94 true).run Tryz.prog w=.ok (.tuple #[v,.bool true]) w:=by kernel_rfl
def ZN:Array Value:=#[.int .i64 0,.slice none 0 0,.slice none 0 0,.slice none 0 0,.slice none 0 0,.slice none 0 0,.slice none 0 0]
theorem J8 (cb eb:Addr) (w:World) :
    CallsD Tryz.prog 94 #[.pointer (some cb),.pointer (some eb)] .returning w fun e u' w'=>e=.returned (.tuple #[])/\u'=.returning/\w'=w:=by
 refine callsD_of_wpS Tryz.func94 rfl fun c₀ cs hu=>?_
 apply wpS_seq
 apply wpS_region
 simp[wpOpsS,go_sem,recoverD,hu,Tryz.ntmps94,Exit.thenS]
 apply wpS_of_wp
 go_wp2
 cases c₀
 simp_all [bodyPostS,results,Tryz.results94]
theorem pM (cb eb:Nat) (w:World) (older:List PanicEntry) (k0:w.cell? ⟨cb,0,none⟩=some (.int .i64 0)) (kz:∀o,1≤o->o≤6->w.cell? ⟨cb,o,none⟩=some (.slice none 0 0)) (kf:∀o,w.frozen? ⟨cb,o,none⟩=false) (ke:w.cell? ⟨eb,0,none⟩=some .nilIface) (ez:w.frozen? ⟨eb,0,none⟩=false) (hne:cb≠eb) :
    CallsD Tryz.prog 94 #[.pointer (some ⟨cb,0,none⟩),.pointer (some ⟨eb,0,none⟩)] (.panicking ({ v:=.iface 94 (.int .i64 4),recovered:=false }::older)) w fun e u' w'=>e=.returned (.tuple #[])/\u'=.panicking ({ v:=.iface 94 (.int .i64 4),recovered:=true }::older)/\w'=(((((((w.setCell ⟨cb,0,none⟩ (.int .i64 0)).setCell ⟨cb,1,none⟩ (.slice none 0 0)).setCell ⟨cb,2,none⟩ (.slice none 0 0)).setCell ⟨cb,3,none⟩ (.slice none 0 0)).setCell ⟨cb,4,none⟩ (.slice none 0 0)).setCell ⟨cb,5,none⟩ (.slice none 0 0)).setCell ⟨cb,6,none⟩ (.slice none 0 0)).setCell ⟨eb,0,none⟩ (.iface 94 (.int .i64 4)):=by
 have k1:=kz 1 (by omega) (by omega)
 have k2:=kz 2 (by omega) (by omega)
 have k3:=kz 3 (by omega) (by omega)
 have k4:=kz 4 (by omega) (by omega)
 have k5:=kz 5 (by omega) (by omega)
 have k6:=kz 6 (by omega) (by omega)
 clear kz
 refine callsD_of_wpS Tryz.func94 rfl fun c₀ cs hu=>?_
 apply wpS_seq
 apply wpS_region
 simp[wpOpsS,go_sem,recoverD,hu,Tryz.ntmps94,Exit.thenS]
 have harr:∀(V a b:Value),(#[a,b]++((Array.replicate 17 undef).setIfInBounds 3 V).setIfInBounds 0 V:Array Value)=#[a,b,V,undef,undef,V,undef,undef,undef,undef,undef,undef,undef,undef,undef,undef,undef,undef,undef]:=fun _ _ _=>rfl
 rw[harr]
 apply wpS_of_wp
 have hta:=bU5 (.int .i64 4)
 go_wp2
 cases c₀
 simp_all [bodyPostS,results,Tryz.results94]
theorem bQ7:(Tryz.prog.info? 26).map (·.size)=some 7:=by kernel_rfl
theorem C0 {W:World}{g:Nat}{fc:Array Value}(hsz:fc.size=7) (hg:W.heap[g]?=some (.cells fc 26 (0,0))):(loadVar 26 ⟨g,0,none⟩).run Tryz.prog W=.ok (.agg fc) W:=
 run_loadVar_row (P:=Tryz.prog) W g 26 26 fc (0,0) _ hg Tryz.underlying26 rfl (by rw[hsz];exact bQ7)
theorem vV (tmps:Array Value) (W:World) (c e:Nat) (fc:Array Value) (v:Value) (hsz:fc.size=7) (hp:tmps[2]?.getD undef=.pointer (some ⟨c,0,none⟩)) (hq:tmps[3]?.getD undef=.pointer (some ⟨e,0,none⟩)) (hc:W.heap[c]?=some (.cells fc 26 (0,0))) (he:W.heap[e]?=some (.cells #[v] 33 (0,0))) :
    (results Tryz.f54 tmps).run Tryz.prog W=.ok (.tuple #[.agg fc,v]) W:=by
 simp[results,Tryz.results54,hp,hq,asAddr,C0 hsz hc,bG7 he]
theorem eG {W:World}{g:Nat}{T:TypeId}{f:Nat×Nat}{a0 a1 a2 a3 a4 a5 a6:Value}(h:W.heap[g]?=some (.cells #[a0,a1,a2,a3,a4,a5,a6] T f)):W.cell? ⟨g,0,none⟩=some a0/\W.cell? ⟨g,1,none⟩=some a1/\W.cell? ⟨g,2,none⟩=some a2/\W.cell? ⟨g,3,none⟩=some a3/\W.cell? ⟨g,4,none⟩=some a4/\W.cell? ⟨g,5,none⟩=some a5/\W.cell? ⟨g,6,none⟩=some a6:=by
 refine ⟨?_,?_,?_,?_,?_,?_,?_⟩<;>(rw[cell_of_row _ _ _ _ _ _ h];rfl)
theorem cB1 {w2:World}{c e:Nat}{a0 a1 a2 a3 a4 a5 a6 v v':Value}(hc:w2.heap[c]?=some (.cells ZN 26 (0,0))) (he:w2.heap[e]?=some (.cells #[v'] 33 (0,0))) (hne:c≠e) {w3:World}(hw:w3=(((((((w2.setCell ⟨c,0,none⟩ a0).setCell ⟨c,1,none⟩ a1).setCell ⟨c,2,none⟩ a2).setCell ⟨c,3,none⟩ a3).setCell ⟨c,4,none⟩ a4).setCell ⟨c,5,none⟩ a5).setCell ⟨c,6,none⟩ a6).setCell ⟨e,0,none⟩ v) :
    w3.heap[c]?=some (.cells #[a0,a1,a2,a3,a4,a5,a6] 26 (0,0))/\w3.heap[e]?=some (.cells #[v] 33 (0,0))/\(∀k,k≠c->k≠e->w3.heap[k]?=w2.heap[k]?)/\(∀B a,Below B a w2->B≤c->B≤e->Below B a w3):=by
 have h0:=bS (l:=[.int .i64 0,.slice none 0 0,.slice none 0 0,.slice none 0 0,.slice none 0 0,.slice none 0 0,.slice none 0 0]) hc 0 a0
 have h1:=bS (l:=[a0,.slice none 0 0,.slice none 0 0,.slice none 0 0,.slice none 0 0,.slice none 0 0,.slice none 0 0]) h0 1 a1
 have h2:=bS (l:=[a0,a1,.slice none 0 0,.slice none 0 0,.slice none 0 0,.slice none 0 0,.slice none 0 0]) h1 2 a2
 have h3:=bS (l:=[a0,a1,a2,.slice none 0 0,.slice none 0 0,.slice none 0 0,.slice none 0 0]) h2 3 a3
 have h4:=bS (l:=[a0,a1,a2,a3,.slice none 0 0,.slice none 0 0,.slice none 0 0]) h3 4 a4
 have h5:=bS (l:=[a0,a1,a2,a3,a4,.slice none 0 0,.slice none 0 0]) h4 5 a5
 have h6:=bS (l:=[a0,a1,a2,a3,a4,a5,.slice none 0 0]) h5 6 a6
 have ot:∀(W:World) (j:Nat) (u:Value) (k:Nat),k≠c->(W.setCell ⟨c,j,none⟩ u).heap[k]?=W.heap[k]?:=fun W j u k hk=>Below.heap_setCell _ _ _ _ hk
 have ke:(((((((w2.setCell ⟨c,0,none⟩ a0).setCell ⟨c,1,none⟩ a1).setCell ⟨c,2,none⟩ a2).setCell ⟨c,3,none⟩ a3).setCell ⟨c,4,none⟩ a4).setCell ⟨c,5,none⟩ a5).setCell ⟨c,6,none⟩ a6).heap[e]?=some (.cells #[v'] 33 (0,0)):=by
  rw[ot _ _ _ _ (Ne.symm hne),ot _ _ _ _ (Ne.symm hne),ot _ _ _ _ (Ne.symm hne),ot _ _ _ _ (Ne.symm hne),ot _ _ _ _ (Ne.symm hne),ot _ _ _ _ (Ne.symm hne),ot _ _ _ _ (Ne.symm hne)];exact he
 have bl:∀(B:Nat) (a W:World) (j:Nat) (u:Value),Below B a W->B≤c->Below B a (W.setCell ⟨c,j,none⟩ u):=fun B a W j u h hB=>h.setCell (p:=⟨c,j,none⟩) hB u
 rw[hw]
 refine ⟨?_,?_,fun k hkc hke=>?_,fun B a hb hBc hBe=>?_⟩
 ·rw[Below.heap_setCell _ _ _ _ hne];exact h6
 ·exact bS (l:=[v']) ke 0 v
 ·rw[Below.heap_setCell _ _ _ _ hke,ot _ _ _ _ hkc,ot _ _ _ _ hkc,ot _ _ _ _ hkc,ot _ _ _ _ hkc,ot _ _ _ _ hkc,ot _ _ _ _ hkc,ot _ _ _ _ hkc]
 ·exact (bl _ _ _ _ _ (bl _ _ _ _ _ (bl _ _ _ _ _ (bl _ _ _ _ _ (bl _ _ _ _ _ (bl _ _ _ _ _ (bl _ _ _ _ _ hb hBc) hBc) hBc) hBc) hBc) hBc) hBc).setCell (p:=⟨e,0,none⟩) hBe v
theorem kH:∀(vs:List bH) (k:Kd),∃k',Em.dH vs k=some ((),k')
 | [],k=>⟨k,rfl⟩
 | v::r,k=>by
  by_cases h1:v.kind=1
  ·rw[aN2 h1];exact kH r _
  ·by_cases h2:v.kind=2
   ·rw[m9 h2];exact kH r _
   ·rw[j9 h1 h2];exact kH r _
theorem sD {c:fQ}{k1:Kd}(h:Em.dH c.vars Em.kd0=some ((),k1)):Em.sE c=((Em.tick c.regions >>= fun _=>Em.dF c.vars) k1).map (·.2.net):=by
 show ((Em.dH c.vars >>= fun _=>Em.tick c.regions >>= fun _=>Em.dF c.vars) Em.kd0).map (·.2.net)=_
 rw[zK h]
section
variable {w:World}{ns:List bA}
theorem cE1 {mv mn kb n:Nat}(hs:ns.length=n) (hn:n≤100000) (h1:mn=mv+1) (h2:kb=mv+2) (hk:w.heap[kb]?=some (.cells #[.int .i64 0,.slice none 0 0,.slice none 0 0,.slice none 0 0,.slice none 0 0,.slice none 0 0,.slice none 0 0,.map (some mv),.map (some mn)] 168 (0,0))) (hv:Gm.Mp Tryz.prog 9 w mv 0 (fun _=>none)) (hm:Gm.Mp Tryz.prog 2 w mn 0 (fun _=>none)) :
    dZ n ns (fun b=>b=mv\/b=mn\/b=kb) w kb Em.kd0:=by
 refine ⟨⟨⟨fun _=>.slice none 0 0,mv,mn,0,0,fun b=>if b=kb then 0 else if b=mv then 7 else 8⟩,hk,fun i i1 i6=>?_,⟨_,hv,fun _=>rfl⟩,⟨_,hm,fun _=>rfl⟩,⟨.inr (.inr rfl),if_pos rfl⟩,fun i g _ _ hg=>by simp[Value.ownBlock] at hg,⟨.inl rfl,?_⟩,⟨.inr (.inl rfl),?_⟩,Nat.le_refl _,Nat.le_refl _,by show mv+2=kb;omega⟩,⟨rfl,?_,Nat.zero_le _,Nat.le_refl _,Nat.le_refl _,Nat.le_refl _,Nat.le_refl _,by omega,fun x hx=>by simp[Em.kd0] at hx,fun x hx=>by simp[Em.kd0] at hx,fun s=>⟨by show -9223372036854775808≤(0:Int);omega,by show (0:Int)≤9223372036854775807;omega⟩,fun s _=>by show (0:Int)≠-1;omega⟩,fun b hb=>?_⟩
 ·have e1:pH Em.kd0.net i=[]:=by unfold pH;split<;>rfl
  have e2:nT Em.kd0.net i=0:=by unfold nT;split<;>rfl
  rw[e1,e2];exact World.ownsRow_nil _ _ _ _
 ·show (if mv=kb then 0 else if mv=mv then 7 else 8)=7
  rw[if_neg (by omega),if_pos rfl]
 ·show (if mn=kb then 0 else if mn=mv then 7 else 8)=8
  rw[if_neg (by omega),if_neg (by omega)]
 ·show 0+wG ns Em.kd0≤0+n
  have:=U8 (ns:=ns) (k:=Em.kd0);omega
 ·have:=aB hk
  rcases hb with rfl|rfl|rfl<;>omega
end
section
variable {P:Nat->Prop}{w:World}{kb E:Nat}{ns:List bA}{k:Kd}{c:Cv}
structure pK (A:Nat->Prop) (w:World) (n:Nt) (vF vI vO vK vN vC:Value):Prop where
 f:Nx.cY A w vF n.first
 i:Nx.cY A w vI n.ins
 o:Nx.cY A w vO n.outs
 k:Nx.cY A w vK n.keeps
 m:Nx.cY A w vN n.nums
 c:Nx.tY A w vC n.code
theorem pK.carry {A A':Nat->Prop}{w w':World}{n:Nt}{vF vI vO vK vN vC:Value}(h:pK A w n vF vI vO vK vN vC) (k:Nx.bD A A' w w'):pK A' w' n vF vI vO vK vN vC:=⟨h.f.carry k,h.i.carry k,h.o.carry k,h.k.carry k,h.m.carry k,h.c.carry k⟩
theorem pK.netV {A:Nat->Prop}{B:Nat}{w:World}{n:Nt}{vF vI vO vK vN vC:Value}(h:pK A w n vF vI vO vK vN vC) (hA:∀b,A b->b<B):gJ B w n vF vI vO vK vN vC:=
 have h':=h.carry (A':=(· < B)) (w':=w) fun b hb _=>⟨hA b hb,rfl⟩
 ⟨h'.f,h'.i,h'.o,h'.k,h'.m,h'.c⟩
theorem rE {A:Nat->Prop}{t:Nat}{v:Value}{zs:List Int}(h:w.ownsRow 0 t 1 v zs.length (zs.map (Value.int .i64))) (hB:∀g,v.ownBlock=some g->A g):Nx.cY A w v zs:=by
 rcases Nat.eq_zero_or_pos zs.length with h0|h0
 ·obtain ⟨ao,cap,e⟩:=aL h
  exact ⟨ao,0,0,cap,e,fun hp=>absurd hp (by omega),fun k hk=>absurd hk (by omega)⟩
 ·obtain ⟨g,cap,rfl,_,_⟩:=h.form h0
  refine ⟨_,g,0,cap,rfl,fun _=>⟨rfl,hB g rfl⟩,fun j hj=>?_⟩
  rw[Nat.zero_add,h.cellAt j (by omega),List.getElem?_map,List.getD_eq_getElem?_getD,List.getElem?_eq_getElem hj]
  rfl
theorem bZ3:∀(l:List Sp) (j i:Nat) (s:Sp),l[j]?=some s->i<5->(l.flatMap tM)[j*5+i]?=(tM s)[i]?
 | [],j,i,s,h,_=>by simp at h
 | a::r,0,i,s,h,hi=>by
  have e:a=s:=by simpa using h
  subst e
  rw[List.flatMap_cons,Nat.zero_mul,Nat.zero_add,List.getElem?_append_left (by simp[tM];omega)]
 | a::r,j+1,i,s,h,hi=>by
  rw[List.flatMap_cons,List.getElem?_append_right (by simp[tM];omega)]
  rw[show (j+1)*5+i-(tM a).length=j*5+i by simp[tM];omega]
  exact bZ3 r j i s (by simpa using h) hi
theorem bC8 {A:Nat->Prop}{t:Nat}{v:Value}{l:List Sp}(h:w.ownsRow 0 t 5 v l.length (l.flatMap tM)) (hB:∀g,v.ownBlock=some g->A g):Nx.tY A w v l:=by
 rcases Nat.eq_zero_or_pos l.length with h0|h0
 ·obtain ⟨ao,cap,e⟩:=aL h
  exact ⟨ao,0,0,cap,e,fun hp=>absurd hp (by omega),fun k hk=>absurd hk (by omega)⟩
 ·obtain ⟨g,cap,rfl,_,_⟩:=h.form h0
  have at':∀j i,j<l.length->i<5->w.cell? ⟨g,0+j*5+i,none⟩=(tM (l.getD j Nx.mH))[i]?:=fun j i hj hi=>by
   rw[Nat.zero_add,h.cellAt _ (by omega),bZ3 l j i (l.getD j Nx.mH) (by rw[List.getD_eq_getElem?_getD,List.getElem?_eq_getElem hj];rfl) hi]
  exact ⟨_,g,0,cap,rfl,fun _=>⟨rfl,hB g rfl⟩,fun j hj=>⟨at' j 0 hj (by omega),at' j 1 hj (by omega),at' j 2 hj (by omega),at' j 3 hj (by omega),at' j 4 hj (by omega)⟩⟩
theorem CM.netA (h:CM P w kb k c):pK P w k.net (c.v 1) (c.v 2) (c.v 3) (c.v 4) (c.v 5) (c.v 6):=
 ⟨rE (h.row 1 (by omega) (by omega)) fun g hg=>(h.pr 1 g (by omega) (by omega) hg).1,rE (h.row 2 (by omega) (by omega)) fun g hg=>(h.pr 2 g (by omega) (by omega) hg).1,rE (h.row 3 (by omega) (by omega)) fun g hg=>(h.pr 3 g (by omega) (by omega) hg).1,rE (h.row 4 (by omega) (by omega)) fun g hg=>(h.pr 4 g (by omega) (by omega) hg).1,rE (h.row 5 (by omega) (by omega)) fun g hg=>(h.pr 5 g (by omega) (by omega) hg).1,bC8 (h.row 6 (by omega) (by omega)) fun g hg=>(h.pr 6 g (by omega) (by omega) hg).1⟩
end
end Ew
end
section
open Go.RowKit Px
namespace Ew
open Px.Em (Kd Vr eH eI iN Rg bY)
open Nx (Nt Sp)
structure uA (n:Nt):Prop where
 len:n.places=n.first.length
 few:n.first.length≤1004000
 code:n.code.length≤4000
 keeps:n.keeps.length≤n.first.length
 ins:n.ins.length≤n.first.length
 outs:n.outs.length≤n.first.length
 nums:n.nums.length≤n.code.length
 nf:∀x∈n.first,gQ x
 nn:∀x∈n.nums,gQ x
theorem pW.nt {E:Nat}{ns:List bA}{k:Kd}(h:pW E ns k):uA k.net:=⟨h.len,h.few,h.code,h.keeps,h.ins,h.outs,h.nums,h.nf,h.nn⟩
def cV3 (w:World) (o:Option Nt) (e:Ending) (w':World):Prop:=Below w.heap.size w w'/\((o=none/\e=.returned (.tuple #[.agg ZN,.iface 94 (.int .i64 4)]))\/∃(n:Nt) (vF vI vO vK vN vC:Value),o=some n/\e=.returned (.tuple #[.agg #[.int .i64 n.places,vF,vI,vO,vK,vN,vC],.nilIface])/\pK (fun b=>w.heap.size≤b/\b<w'.heap.size) w' n vF vI vO vK vN vC/\uA n)
theorem Dx (M:Int) (w:World):(Instr.makeMap 166 (some (.int .i64 M))).run Tryz.prog w=.ok (.map (some w.heap.size)) (w.alloc (.map #[] 0)):=by kernel_rfl
theorem Dy (w:World):(Instr.makeMap 59 none).run Tryz.prog w=.ok (.map (some w.heap.size)) (w.alloc (.map #[] 0)):=by kernel_rfl
theorem aB7 (w:World) (x0 x1 x2:Value):∃W0 W1,W0=((w.alloc (.cells #[x0,x1,x2] 52)).alloc (.cells ZN 26)).alloc (.cells #[.nilIface] 33)/\
    W1=((W0.alloc (.map #[] 0)).alloc (.map #[] 0)).alloc (.cells #[.int .i64 0,.slice none 0 0,.slice none 0 0,.slice none 0 0,.slice none 0 0,.slice none 0 0,.slice none 0 0,.map (some (w.heap.size+3)),.map (some (w.heap.size+4))] 168)/\
    Below w.heap.size w W0/\W0.heap.size=w.heap.size+3/\Below W0.heap.size W0 W1/\W1.heap.size=w.heap.size+6/\W0.heap[w.heap.size]?=some (.cells #[x0,x1,x2] 52 (0,0))/\W0.heap[w.heap.size+1]?=some (.cells ZN 26 (0,0))/\W0.heap[w.heap.size+2]?=some (.cells #[.nilIface] 33 (0,0))/\
    W1.heap[w.heap.size+5]?=some (.cells #[.int .i64 0,.slice none 0 0,.slice none 0 0,.slice none 0 0,.slice none 0 0,.slice none 0 0,.slice none 0 0,.map (some (w.heap.size+3)),.map (some (w.heap.size+4))] 168 (0,0))/\Gm.Mp Tryz.prog 9 W1 (w.heap.size+3) 0 (fun _=>none)/\Gm.Mp Tryz.prog 2 W1 (w.heap.size+4) 0 (fun _=>none):=by
 obtain ⟨U1,hU1⟩:∃U1,U1=w.alloc (.cells #[x0,x1,x2] 52):=⟨_,rfl⟩
 obtain ⟨U2,hU2⟩:∃U2,U2=U1.alloc (.cells ZN 26):=⟨_,rfl⟩
 obtain ⟨U3,hU3⟩:∃U3,U3=U2.alloc (.cells #[.nilIface] 33):=⟨_,rfl⟩
 obtain ⟨U4,hU4⟩:∃U4,U4=U3.alloc (.map #[] 0):=⟨_,rfl⟩
 obtain ⟨U5,hU5⟩:∃U5,U5=U4.alloc (.map #[] 0):=⟨_,rfl⟩
 obtain ⟨U6,hU6⟩:∃U6,U6=U5.alloc (.cells #[.int .i64 0,.slice none 0 0,.slice none 0 0,.slice none 0 0,.slice none 0 0,.slice none 0 0,.slice none 0 0,.map (some (w.heap.size+3)),.map (some (w.heap.size+4))] 168):=⟨_,rfl⟩
 have s1:U1.heap.size=w.heap.size+1:=by rw[hU1];simp
 have s2:U2.heap.size=w.heap.size+2:=by rw[hU2];simp[s1]
 have s3:U3.heap.size=w.heap.size+3:=by rw[hU3];simp[s2]
 have s4:U4.heap.size=w.heap.size+4:=by rw[hU4];simp[s3]
 have s5:U5.heap.size=w.heap.size+5:=by rw[hU5];simp[s4]
 have s6:U6.heap.size=w.heap.size+6:=by rw[hU6];simp[s5]
 have b1:Below w.heap.size w U1:=by rw[hU1];exact aD _ _
 have b2:Below U1.heap.size U1 U2:=by rw[hU2];exact aD _ _
 have b3:Below U2.heap.size U2 U3:=by rw[hU3];exact aD _ _
 have b4:Below U3.heap.size U3 U4:=by rw[hU4];exact aD _ _
 have b5:Below U4.heap.size U4 U5:=by rw[hU5];exact aD _ _
 have b6:Below U5.heap.size U5 U6:=by rw[hU6];exact aD _ _
 have n1:U1.heap[w.heap.size]?=some (.cells #[x0,x1,x2] 52 (0,0)):=by rw[hU1];exact bF w _
 have n2:U2.heap[w.heap.size+1]?=some (.cells ZN 26 (0,0)):=by rw[<-s1,hU2];exact bF U1 _
 have n3:U3.heap[w.heap.size+2]?=some (.cells #[.nilIface] 33 (0,0)):=by rw[<-s2,hU3];exact bF U2 _
 have n4:Gm.Mp Tryz.prog 9 U4 (w.heap.size+3) 0 (fun _=>none):=by rw[<-s3,hU4];exact Gm.Mp.made _ _ _
 have n5:Gm.Mp Tryz.prog 2 U5 (w.heap.size+4) 0 (fun _=>none):=by rw[<-s4,hU5];exact Gm.Mp.made _ _ _
 have n6:U6.heap[w.heap.size+5]?=some (.cells #[.int .i64 0,.slice none 0 0,.slice none 0 0,.slice none 0 0,.slice none 0 0,.slice none 0 0,.slice none 0 0,.map (some (w.heap.size+3)),.map (some (w.heap.size+4))] 168 (0,0)):=by rw[<-s5,hU6];exact bF U5 _
 refine ⟨U3,U6,by rw[hU3,hU2,hU1],by rw[hU6,hU5,hU4],aW (aW b1 b2) b3,s3,aW (aW b4 b5) b6,s6,aR b3 (aR b2 n1),aR b3 n2,n3,n6,n4.keep ((b6.block _ (by omega)).trans (b5.block _ (by omega))),n5.keep (b6.block _ (by omega))⟩
section
variable {A:Nat->Prop}{w:World}
theorem aO2 {c:fQ}{S:ByteArray}{a a':Option Addr}{n m n' m':Nat}(hC:fY A w c (.agg #[.string S,.slice a n m,.slice a' n' m'])) (hA:∀x,A x->x<w.heap.size) (hem:Cf c) :
    Calls Tryz.prog 54 #[.agg #[.string S,.slice a n m,.slice a' n' m']] w (cV3 w (Em.sE c)):=by
 obtain ⟨k1,h1⟩:=kH c.vars Em.kd0
 have hmf:∀(fn:Fn) (first cap:Array Value) (w:World),(Instr.makeFunc fn first cap).run Tryz.prog w=.ok (.func fn first cap) w:=fun _ _ _ _=>rfl
 have hmv:=Dx
 have hmn:=Dy
 obtain ⟨a0,n0,m0,a0',n0',m0',e0,hv,hg⟩:=hC
 have q2:Value.slice a n m=.slice a0 n0 m0:=by injection e0 with e0;injection e0 with e0;injection e0 with _ e0;injection e0
 have q3:Value.slice a' n' m'=.slice a0' n0' m0':=by injection e0 with e0;injection e0 with e0;injection e0 with _ e0;injection e0 with _ e0;injection e0
 rw[<-q2] at hv
 rw[<-q3] at hg
 obtain ⟨nl,hnl⟩:∃nl,nl=c.vars.length:=⟨_,rfl⟩
 have hfew:=hem.few
 have hvl:c.vars.length≤100000:=by omega
 have hrl:c.regions.length≤100000:=by have:=vH (f:=gI 6) (l:=c.regions) (fun r _=>by show 1≤1+_;omega);omega
 have hns:∀x∈c.vars,x.name∈bO c.vars:=fun x hx=>List.mem_map_of_mem hx
 have hnl2:(bO c.vars).length=nl:=by rw[hnl];simp[bO]
 obtain ⟨W0,W1,hW0,hW1,hb0,hs0,hb1,hs1,x0,x1,x2,y5,y3,y4⟩:=aB7 w (.string S) (.slice a n m) (.slice a' n' m')
 have hCM:=cE1 (n:=nl) hnl2 (by omega) (by omega) (by omega) y5 y3 y4
 have kp0:bD A A w W1:=fun x hx hl=>⟨hx,(aW hb0 hb1).block x hl⟩
 obtain ⟨P0,hP0⟩:∃P0:Nat->Prop,P0=fun b=>b=w.heap.size+3\/b=w.heap.size+4\/b=w.heap.size+5:=⟨_,rfl⟩
 rw[<-hP0] at hCM
 have hR0:Ro A P0 W1:=fun x hx=>⟨by have:=hA x hx;omega,fun hp=>by rw[hP0] at hp;have:=hA x hx;omega⟩
 have hPl:∀b,P0 b->w.heap.size+3≤b:=fun b hb=>by rw[hP0] at hb;omega
 have hdec:=Ad (hv.carry kp0) hem.run.run.vn hem.run.n64 hns hvl (by omega) hCM (by show 0+(bO c.vars).length≤0+nl;omega) hR0
 have c1:W0.cell? ⟨w.heap.size,1,none⟩=some (.slice a n m):=aA x0 1 rfl
 have u1:=(aR hb1 x1)
 have u2:=(aR hb1 x2)
 have u0:=(aR hb1 x0)
 have d1:W1.cell? ⟨w.heap.size,1,none⟩=some (.slice a n m):=aA u0 1 rfl
 have HC:Hid (Cf c/\kZ A w c.vars (.slice a n m)/\fX A w (aJ A w 6) c.regions (.slice a' n' m')/\Ro A P0 W1/\(∀b,P0 b->w.heap.size+3≤b)/\bD A A w W1/\nl+nl+1+(c.regions.map (gI 6)).sum<1000000/\c.vars.length≤100000/\c.regions.length≤100000/\nl=c.vars.length/\dZ nl (bO c.vars) P0 W1 (w.heap.size+5) Em.kd0):=⟨hem,hv,hg,hR0,hPl,kp0,by omega,hvl,hrl,hnl,hCM⟩
 have HB:Hid (Below w.heap.size w W1/\W1.heap.size=w.heap.size+6/\W1.heap[w.heap.size]?=some (.cells #[.string S,.slice a n m,.slice a' n' m'] 52 (0,0))/\W1.heap[w.heap.size+1]?=some (.cells ZN 26 (0,0))/\W1.heap[w.heap.size+2]?=some (.cells #[.nilIface] 33 (0,0))/\¬P0 w.heap.size/\¬P0 (w.heap.size+1)/\¬P0 (w.heap.size+2)):=⟨aW hb0 hb1,hs1,u0,u1,u2,by rw[hP0];omega,by rw[hP0];omega,by rw[hP0];omega⟩
 have H1:Hid (Em.dH c.vars Em.kd0=some ((),k1)):=h1
 clear hem hfew hvl hrl hns hnl hnl2 hv hg hR0 hPl kp0 hCM hP0 hA h1 e0 q2 q3 u0 u1 u2 x1 x2 y3 y4 y5 x0
 go_enter_defers Tryz.func54,Tryz.ntmps54
 go_upto_region 2 with fail
 rw[show ((w.alloc (.cells #[.string S,.slice a n m,.slice a' n' m'] 52)).alloc (.cells #[.int .i64 0,.slice none 0 0,.slice none 0 0,.slice none 0 0,.slice none 0 0,.slice none 0 0,.slice none 0 0] 26)).alloc (.cells #[.nilIface] 33)=W0 from hW0.symm]
 rw[show w.heap.size+1+1=w.heap.size+2 from rfl]
 clear hW0 hb0
 go_upto_region 3 with fail
 rw[show w.heap.size+3+1=w.heap.size+4 from rfl,show w.heap.size+4+1=w.heap.size+5 from rfl]
 rw[show (((W0.alloc (.map #[] 0)).alloc (.map #[] 0)).alloc (.cells #[.int .i64 0,.slice none 0 0,.slice none 0 0,.slice none 0 0,.slice none 0 0,.slice none 0 0,.slice none 0 0,.map (some (w.heap.size+3)),.map (some (w.heap.size+4))] 168))=W1 from hW1.symm]
 clear hW1 hb1 hs0 hs1 c1
 go_upto_region 4 with (go_at_call 95;refine hdec.mono ?_;rintro e w2 ⟨rfl,h2⟩)
 obtain ⟨kx,hkx,A2⟩:=h2.out
 obtain rfl:kx=k1:=by have:=H1.out;rw[hkx] at this;injection this with this;injection this
 have u0:=A2.2.1.heap HB.out.2.2.1 HB.out.2.2.2.2.2.1
 have d2:w2.cell? ⟨w.heap.size,2,none⟩=some (.slice a' n' m'):=aA u0 2 rfl
 have kp2:bD A A w w2:=HC.out.2.2.2.2.2.1.trans (A2.keep HC.out.2.2.2.1) HB.out.1.size
 have htick:=bB3 (HC.out.2.2.1.carry kp2 (aJ.carry kp2 6)) (fun l hl=>⟨HC.out.1.lay l hl,HC.out.1.run.run.st l hl,HC.out.1.tm l hl⟩) (by rw[<-HC.out.2.2.2.2.2.2.2.2.2.1];exact HC.out.2.2.2.2.2.2.1) HC.out.2.2.2.2.2.2.2.2.1 A2.1 (A2.ro HC.out.2.2.2.1)
 have HA2:Hid (At (nl+c.vars.length) (bO c.vars) P0 (w.heap.size+5) W1 Em.kd0 w2 kx):=A2
 have HP:Hid (∀b,P0 b->b<W1.heap.size):=HC.out.2.2.2.2.2.2.2.2.2.2.2.2
 clear hdec h2 hkx A2 u0 kp2 d1
 cases h2:Em.tick c.regions kx with
 | none=>
  have H2:Hid (Em.tick c.regions kx=none):=h2
  clear h2
  have ht:Calls Tryz.prog 96 #[.pointer (some ⟨w.heap.size+5,0,none⟩),.slice a' n' m'] w2 fun e w'=>e=Bj/\Hid (bV (Up P0 W1 w2) w2 w'):=htick.mono fun e w' h=>by
   rcases h with ⟨rfl,_,h⟩|⟨_,_,_,h,_⟩
   ·exact ⟨rfl,h⟩
   ·rw[Hid,H2.out] at h;exact absurd h (by simp)
  clear htick
  go_wp2_with (go_at_call 96;refine ht.mono ?_;rintro e w3 ⟨rfl,h3⟩)
  have HF:Hid (bV P0 W1 w3):=HA2.out.2.1.up h3.out
  have u1:=HF.out.heap HB.out.2.2.2.1 HB.out.2.2.2.2.2.2.1
  have u2:=HF.out.heap HB.out.2.2.2.2.1 HB.out.2.2.2.2.2.2.2
  have hB3:Below w.heap.size w w3:=HB.out.1.trans (HF.out.below (by have:=HB.out.2.1;omega) fun b hb=>by have:=HC.out.2.2.2.2.1 b hb;omega)
  refine leaves_cons (f:=94) (args:=#[.pointer (some ⟨w.heap.size+1,0,none⟩),.pointer (some ⟨w.heap.size+2,0,none⟩)]) (by simp) (by simp[go_sem]) ?_
  refine (pM (w.heap.size+1) (w.heap.size+2) w3 [] (aA u1 0 rfl) (fun o h1 h6=>by
   obtain rfl|rfl|rfl|rfl|rfl|rfl:o=1\/o=2\/o=3\/o=4\/o=5\/o=6:=by omega
   all_goals exact aA u1 _ rfl) (fun o=>aH u1 o) (aA u2 0 rfl) (aH u2 0) (by omega)).mono ?_
  rintro e u' w'' ⟨rfl,rfl,hw⟩
  obtain ⟨z0,z1,z2,z3⟩:=cB1 u1 u2 (by omega) hw
  exact ⟨_,vV _ _ _ _ _ _ rfl rfl rfl z0 z1,z3 _ _ hB3 (by omega) (by omega),.inl ⟨by rw[sD H1.out,aE H2.out];rfl,rfl⟩⟩
 | some x=>
  obtain ⟨⟨⟩,k2⟩:=x
  have H2:Hid (Em.tick c.regions kx=some ((),k2)):=h2
  clear h2
  have ht:Calls Tryz.prog 96 #[.pointer (some ⟨w.heap.size+5,0,none⟩),.slice a' n' m'] w2 fun e w'=>e=.returned (.tuple #[])/\Hid (At (nl+c.vars.length+1+(c.regions.map (gI 6)).sum) (bO c.vars) (Up P0 W1 w2) (w.heap.size+5) w2 kx w' k2):=htick.mono fun e w' h=>by
   rcases h with ⟨_,h,_⟩|⟨_,_,rfl,h,h'⟩
   ·rw[Hid,H2.out] at h;exact absurd h (by simp)
   ·rw[Hid,H2.out] at h
    injection h with h
    injection h with _ h
    subst h
    exact ⟨rfl,h'⟩
  clear htick
  go_upto_region 5 with (go_at_call 96;refine ht.mono ?_;rintro e w3 ⟨rfl,h3⟩)
  have f3:bV P0 W1 w3:=HA2.out.2.1.up h3.out.2.1
  have u0:=f3.heap HB.out.2.2.1 HB.out.2.2.2.2.2.1
  have d3:w3.cell? ⟨w.heap.size,1,none⟩=some (.slice a n m):=aA u0 1 rfl
  have kp3:bD A A w w3:=HC.out.2.2.2.2.2.1.trans (HC.out.2.2.2.1.keep f3) HB.out.1.size
  have hro:=h3.out.ro (HA2.out.ro HC.out.2.2.2.1)
  have hrem:=A8 (HC.out.2.1.carry kp3) HC.out.1.run.run.vn HC.out.2.2.2.2.2.2.2.1 h3.out.1 hro
  have HF3:Hid (bV P0 W1 w3/\At (nl+c.vars.length+1+(c.regions.map (gI 6)).sum) (bO c.vars) (Up P0 W1 w2) (w.heap.size+5) w2 kx w3 k2):=⟨f3,h3.out⟩
  clear ht h3 f3 u0 kp3 hro d2
  cases h3:Em.dF c.vars k2 with
  | none=>
   have H3:Hid (Em.dF c.vars k2=none):=h3
   clear h3
   have ht:Calls Tryz.prog 97 #[.pointer (some ⟨w.heap.size+5,0,none⟩),.slice a n m] w3 fun e w'=>e=Bj/\Hid (bV (Up (Up P0 W1 w2) w2 w3) w3 w'):=hrem.mono fun e w' h=>by
    rcases h with ⟨rfl,_,h⟩|⟨_,_,_,h,_⟩
    ·exact ⟨rfl,h⟩
    ·rw[Hid,H3.out] at h;exact absurd h (by simp)
   clear hrem
   go_wp2_with (go_at_call 97;refine ht.mono ?_;rintro e w4 ⟨rfl,h4⟩)
   have HF:Hid (bV P0 W1 w4):=HA2.out.2.1.up (HF3.out.2.2.1.up h4.out)
   have u1:=HF.out.heap HB.out.2.2.2.1 HB.out.2.2.2.2.2.2.1
   have u2:=HF.out.heap HB.out.2.2.2.2.1 HB.out.2.2.2.2.2.2.2
   have hB3:Below w.heap.size w w4:=HB.out.1.trans (HF.out.below (by have:=HB.out.2.1;omega) fun b hb=>by have:=HC.out.2.2.2.2.1 b hb;omega)
   refine leaves_cons (f:=94) (args:=#[.pointer (some ⟨w.heap.size+1,0,none⟩),.pointer (some ⟨w.heap.size+2,0,none⟩)]) (by simp) (by simp[go_sem]) ?_
   refine (pM (w.heap.size+1) (w.heap.size+2) w4 [] (aA u1 0 rfl) (fun o h1 h6=>by
    obtain rfl|rfl|rfl|rfl|rfl|rfl:o=1\/o=2\/o=3\/o=4\/o=5\/o=6:=by omega
    all_goals exact aA u1 _ rfl) (fun o=>aH u1 o) (aA u2 0 rfl) (aH u2 0) (by omega)).mono ?_
   rintro e u' w'' ⟨rfl,rfl,hw⟩
   obtain ⟨z0,z1,z2,z3⟩:=cB1 u1 u2 (by omega) hw
   exact ⟨_,vV _ _ _ _ _ _ rfl rfl rfl z0 z1,z3 _ _ hB3 (by omega) (by omega),.inl ⟨by rw[sD H1.out,bind_some H2.out,H3.out];rfl,rfl⟩⟩
  | some y=>
   obtain ⟨⟨⟩,k3⟩:=y
   have H3:Hid (Em.dF c.vars k2=some ((),k3)):=h3
   clear h3
   have ht:Calls Tryz.prog 97 #[.pointer (some ⟨w.heap.size+5,0,none⟩),.slice a n m] w3 fun e w'=>e=.returned (.tuple #[])/\Hid (At (nl+c.vars.length+1+(c.regions.map (gI 6)).sum) (bO c.vars) (Up (Up P0 W1 w2) w2 w3) (w.heap.size+5) w3 k2 w' k3):=hrem.mono fun e w' h=>by
    rcases h with ⟨_,h,_⟩|⟨_,_,rfl,h,h'⟩
    ·rw[Hid,H3.out] at h;exact absurd h (by simp)
    ·rw[Hid,H3.out] at h
     injection h with h
     injection h with _ h
     subst h
     exact ⟨rfl,h'⟩
   clear hrem
   go_upto_region 6 with (go_at_call 97;refine ht.mono ?_;rintro e w4 ⟨rfl,h4⟩)
   have f4:bV P0 W1 w4:=HA2.out.2.1.up (HF3.out.2.2.1.up h4.out.2.1)
   have u1:=f4.heap HB.out.2.2.2.1 HB.out.2.2.2.2.2.2.1
   have u2:=f4.heap HB.out.2.2.2.2.1 HB.out.2.2.2.2.2.2.2
   have hB4:Below w.heap.size w w4:=HB.out.1.trans (f4.below (by have:=HB.out.2.1;omega) fun b hb=>by have:=HC.out.2.2.2.2.1 b hb;omega)
   obtain ⟨⟨cv,hc⟩,hF,hlt⟩:=h4.out.1
   have HV:Hid (CM (Up (Up (Up P0 W1 w2) w2 w3) w3 w4) w4 (w.heap.size+5) k3 cv/\uA k3.net/\(∀g,Up (Up (Up P0 W1 w2) w2 w3) w3 w4 g->g≠w.heap.size+1/\g≠w.heap.size+2/\w.heap.size≤g/\g<w4.heap.size)):=⟨hc,hF.nt,fun g hg=>by
    have s4:=hlt g hg
    have s5:=hB4.size
    have s6:=HF3.out.1.size
    have s1:=HB.out.2.1;have s2:=HA2.out.2.1.size;have s3:=HF3.out.2.2.1.size
    rcases hg with ((h|h)|h)|h
    ·exact ⟨fun e=>HB.out.2.2.2.2.2.2.1 (e▸h),fun e=>HB.out.2.2.2.2.2.2.2 (e▸h),by have:=HC.out.2.2.2.2.1 g h;omega,s4⟩
    all_goals exact ⟨by omega,by omega,by omega,s4⟩⟩
   have g0:=hc.cell 0 (u:=.int .i64 k3.net.places) rfl
   have g1:=hc.cell 1 (u:=cv.v 1) rfl
   have g2:=hc.cell 2 (u:=cv.v 2) rfl
   have g3:=hc.cell 3 (u:=cv.v 3) rfl
   have g4:=hc.cell 4 (u:=cv.v 4) rfl
   have g5:=hc.cell 5 (u:=cv.v 5) rfl
   have g6:=hc.cell 6 (u:=cv.v 6) rfl
   obtain ⟨p3,hp3⟩:∃p3,p3=k3.net.places:=⟨_,rfl⟩
   rw[<-hp3] at g0
   obtain ⟨r0,r1,r2,r3,r4,r5,r6⟩:=eG u1
   have rf:∀o,w4.frozen? ⟨w.heap.size+1,o,none⟩=false:=fun o=>aH u1 o
   have re:=aA u2 0 (u:=.nilIface) rfl
   have ref:=aH u2 0
   have HU:Hid (w4.heap[w.heap.size+1]?=some (.cells ZN 26 (0,0))/\w4.heap[w.heap.size+2]?=some (.cells #[.nilIface] 33 (0,0))/\Below w.heap.size w w4/\p3=k3.net.places):=⟨u1,u2,hB4,hp3⟩
   obtain ⟨e1,l1,o1,hv1⟩:∃e l o,cv.v 1=.slice e l o:=by obtain ⟨e,o,h⟩:=aL (hc.row 1 (by omega) (by omega));exact ⟨e,_,o,h⟩
   obtain ⟨e2,l2,o2,hv2⟩:∃e l o,cv.v 2=.slice e l o:=by obtain ⟨e,o,h⟩:=aL (hc.row 2 (by omega) (by omega));exact ⟨e,_,o,h⟩
   obtain ⟨e3,l3,o3,hv3⟩:∃e l o,cv.v 3=.slice e l o:=by obtain ⟨e,o,h⟩:=aL (hc.row 3 (by omega) (by omega));exact ⟨e,_,o,h⟩
   obtain ⟨e4,l4,o4,hv4⟩:∃e l o,cv.v 4=.slice e l o:=by obtain ⟨e,o,h⟩:=aL (hc.row 4 (by omega) (by omega));exact ⟨e,_,o,h⟩
   obtain ⟨e5,l5,o5,hv5⟩:∃e l o,cv.v 5=.slice e l o:=by obtain ⟨e,o,h⟩:=aL (hc.row 5 (by omega) (by omega));exact ⟨e,_,o,h⟩
   obtain ⟨e6,l6,o6,hv6⟩:∃e l o,cv.v 6=.slice e l o:=by obtain ⟨e,o,h⟩:=aL (hc.row 6 (by omega) (by omega));exact ⟨e,_,o,h⟩
   have HVV:Hid (cv.v 1=.slice e1 l1 o1/\cv.v 2=.slice e2 l2 o2/\cv.v 3=.slice e3 l3 o3/\cv.v 4=.slice e4 l4 o4/\cv.v 5=.slice e5 l5 o5/\cv.v 6=.slice e6 l6 o6):=⟨hv1,hv2,hv3,hv4,hv5,hv6⟩
   rw[hv1] at g1
   rw[hv2] at g2
   rw[hv3] at g3
   rw[hv4] at g4
   rw[hv5] at g5
   rw[hv6] at g6
   clear ht h4 f4 u1 u2 hB4 hc hF hlt hp3 hv1 hv2 hv3 hv4 hv5 hv6 d3
   go_wp2_with fail
   obtain ⟨W5,hW5⟩:∃W5,W5=(((((((w4.setCell ⟨w.heap.size+1,0,none⟩ (.int .i64 p3)).setCell ⟨w.heap.size+1,1,none⟩ (.slice e1 l1 o1)).setCell ⟨w.heap.size+1,2,none⟩ (.slice e2 l2 o2)).setCell ⟨w.heap.size+1,3,none⟩ (.slice e3 l3 o3)).setCell ⟨w.heap.size+1,4,none⟩ (.slice e4 l4 o4)).setCell ⟨w.heap.size+1,5,none⟩ (.slice e5 l5 o5)).setCell ⟨w.heap.size+1,6,none⟩ (.slice e6 l6 o6)).setCell ⟨w.heap.size+2,0,none⟩ .nilIface:=⟨_,rfl⟩
   rw[<-hW5]
   obtain ⟨z0,z1,z2,z3⟩:=cB1 (v:=.nilIface) HU.out.1 HU.out.2.1 (by omega) hW5
   have zS:W5.heap.size=w4.heap.size:=by rw[hW5];simp only[World.setCell,Array.size_modify]
   clear hW5
   have hN:=(HV.out.1.carry (Q:=fun b=>w.heap.size≤b/\b<W5.heap.size) (w':=W5) fun b hb hl=>⟨⟨(HV.out.2.2 b hb).2.2.1,by have:=(HV.out.2.2 b hb).2.2.2;rw[zS];exact this⟩,z2 b (HV.out.2.2 b hb).1 (HV.out.2.2 b hb).2.1⟩).netA
   obtain ⟨q1,q2,q3,q4,q5,q6⟩:=HVV.out
   rw[q1,q2,q3,q4,q5,q6] at hN
   refine leaves_cons (f:=94) (args:=#[.pointer (some ⟨w.heap.size+1,0,none⟩),.pointer (some ⟨w.heap.size+2,0,none⟩)]) (by simp) (by simp[go_sem]) ?_
   refine (J8 ⟨w.heap.size+1,0,none⟩ ⟨w.heap.size+2,0,none⟩ _).mono ?_
   rintro e u' w'' ⟨rfl,rfl,rfl⟩
   exact ⟨_,vV _ _ _ _ _ _ rfl rfl rfl z0 z1,z3 _ _ HU.out.2.2.1 (by omega) (by omega),.inr ⟨k3.net,_,_,_,_,_,_,by rw[sD H1.out,bind_some H2.out,H3.out];rfl,by rw[<-HU.out.2.2.2],hN,HV.out.2.1⟩⟩
end
end Ew
end
section
open Go.RowKit
namespace Nx
section
variable (n:Nt) (bn:Nat) (w:World) (adF adI adO adK adN adC:Option Addr) (capF capI capO capK capN capC:Nat)
theorem zR (h0:4000<n.places) (h1:n.places≤10000000) (h4:n.ins.length+n.outs.length+n.keeps.length≤10000000) :
    Calls Tryz.prog 56 #[.agg #[.int .i64 n.places,.slice adF n.first.length capF,.slice adI n.ins.length capI,.slice adO n.outs.length capO,.slice adK n.keeps.length capK,.slice adN n.nums.length capN,.slice adC n.code.length capC],.func (.func 55) #[] #[.pointer (some ⟨bn,0,none⟩)]] w fun e w'=>e=.returned (.int .i64 (4:Int))/\Below w.heap.size w w':=by
 have q0:=X0
 go_enter Tryz.func56,Tryz.ntmps56
 go_wp2
 refine wp_loop_rounds 5 ?_
 rw[rounds_succ]
 go_wp2
 go_ret
 exact ⟨rfl,aM w _⟩
theorem J6 (hp:0≤n.places) (h1:n.places≤4000) (h2:n.code.length≤4000) (h3:n.nums.length≤4000) (h0:4000<n.ins.length+n.outs.length+n.keeps.length) (h4:n.ins.length+n.outs.length+n.keeps.length≤10000000) :
    Calls Tryz.prog 56 #[.agg #[.int .i64 n.places,.slice adF n.first.length capF,.slice adI n.ins.length capI,.slice adO n.outs.length capO,.slice adK n.keeps.length capK,.slice adN n.nums.length capN,.slice adC n.code.length capC],.func (.func 55) #[] #[.pointer (some ⟨bn,0,none⟩)]] w fun e w'=>e=.returned (.int .i64 (4:Int))/\Below w.heap.size w w':=by
 have q0:=X0;have q1:=aH5;have q2:=aH4;have q3:=aH3
 go_enter Tryz.func56,Tryz.ntmps56
 go_wp2
 refine wp_loop_rounds 5 ?_
 rw[rounds_succ]
 go_wp2
 rw[rounds_succ]
 go_wp2
 rw[rounds_succ]
 go_wp2
 rw[rounds_succ]
 go_wp2
 go_ret
 exact ⟨rfl,aM w _⟩
end
theorem aX5 (B:Nat) (n:Nt) (w:World) (vF vI vO vK vN vC:Value) (h:gJ B w n vF vI vO vK vN vC) (hp:0≤n.places) (h1:n.places≤2000000) (h2:n.code.length≤4000) (h3:n.nums.length≤4000) (h4:n.ins.length+n.outs.length+n.keeps.length≤10000000) (hs:¬eU n) :
    Calls Tryz.prog 29 #[.agg #[.int .i64 n.places,vF,vI,vO,vK,vN,vC]] w fun e w'=>e=.returned (.iface 94 (.int .i64 4))/\Below w.heap.size w w':=by
 obtain ⟨adF,_,_,capF,rfl,-,-⟩:=h.f
 obtain ⟨adI,_,_,capI,rfl,-,-⟩:=h.i
 obtain ⟨adO,_,_,capO,rfl,-,-⟩:=h.o
 obtain ⟨adK,_,_,capK,rfl,-,-⟩:=h.k
 obtain ⟨adN,_,_,capN,rfl,-,-⟩:=h.m
 obtain ⟨adC,_,_,capC,rfl,-,-⟩:=h.c
 have hwh:Calls Tryz.prog 56 #[.agg #[.int .i64 n.places,.slice adF n.first.length capF,.slice adI n.ins.length capI,.slice adO n.outs.length capO,.slice adK n.keeps.length capK,.slice adN n.nums.length capN,.slice adC n.code.length capC],.func (.func 55) #[] #[.pointer (some ⟨w.heap.size,0,none⟩)]] (w.alloc (.cells #[.int .i64 n.places,.slice adF n.first.length capF,.slice adI n.ins.length capI,.slice adO n.outs.length capO,.slice adK n.keeps.length capK,.slice adN n.nums.length capN,.slice adC n.code.length capC] 26)) fun e w'=>e=.returned (.int .i64 (4:Int))/\Below (w.alloc (.cells #[.int .i64 n.places,.slice adF n.first.length capF,.slice adI n.ins.length capI,.slice adO n.outs.length capO,.slice adK n.keeps.length capK,.slice adN n.nums.length capN,.slice adC n.code.length capC] 26)).heap.size (w.alloc (.cells #[.int .i64 n.places,.slice adF n.first.length capF,.slice adI n.ins.length capI,.slice adO n.outs.length capO,.slice adK n.keeps.length capK,.slice adN n.nums.length capN,.slice adC n.code.length capC] 26)) w':=by
  by_cases hpl:4000<n.places
  ·exact zR n w.heap.size _ adF adI adO adK adN adC capF capI capO capK capN capC hpl (by omega) (by omega)
  ·refine J6 n w.heap.size _ adF adI adO adK adN adC capF capI capO capK capN capC hp (by omega) h2 h3 ?_ h4
   exact Classical.byContradiction fun hn=>hs ⟨by omega,h2,h3,by omega⟩
 clear h hp h1 h2 h3 h4 hs
 go_enter Tryz.func29,Tryz.ntmps29
 go_wp2_with (go_at_call 56;refine hwh.mono ?_;rintro e w1 ⟨rfl,hb1⟩)
 go_ret
 exact ⟨rfl,iQ (aM w _) hb1⟩
end Nx
end
end Go.Proofs.YtcdbhoknhnimcaaGreatDoor
