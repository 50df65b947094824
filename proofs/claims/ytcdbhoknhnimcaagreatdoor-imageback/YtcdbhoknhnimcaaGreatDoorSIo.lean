import Derived.Test.YtcdbhoknhnimcaaGreatDoorSIn
import Derived.Test.YtcdbhoknhnimcaaGreatDoorSRz
set_option maxHeartbeats 4000000
namespace Go.Proofs.YtcdbhoknhnimcaaGreatDoor
open Go.RowKit
namespace Ix
open Nx
section
variable (p:Int) (fi i o k m:List Int)
def k6 (s:List UInt8):Option (Nt×List UInt8):=match uE s with
 | none=>none
 | some (c,s7)=>some (⟨p,fi,i,o,k,m,c⟩,s7)
def k5 (s:List UInt8):Option (Nt×List UInt8):=match lM tk s with
 | none=>none
 | some (m,s6)=>k6 p fi i o k m s6
def k4 (s:List UInt8):Option (Nt×List UInt8):=match lM sm s with
 | none=>none
 | some (k,s5)=>k5 p fi i o k s5
def k3 (s:List UInt8):Option (Nt×List UInt8):=match lM sm s with
 | none=>none
 | some (o,s4)=>k4 p fi i o s4
def k2 (s:List UInt8):Option (Nt×List UInt8):=match lM sm s with
 | none=>none
 | some (i,s3)=>k3 p fi i s3
def k1 (s:List UInt8):Option (Nt×List UInt8):=match lM tk s with
 | none=>none
 | some (fi,s2)=>k2 p fi s2
def k0 (s:List UInt8):Option (Nt×List UInt8):=match sm s with
 | none=>none
 | some (p,s1)=>k1 p s1
end
theorem cB5 (s:List UInt8):vZ s=k0 s:=rfl
def Th {R:Type}(R0:Option R) (K:List UInt8->Option R) (s:List UInt8) (bad bad0:Bool):Prop:=(R0=K s/\bad=bad0)\/(R0=none/\s=[]/\bad=true)
theorem Th.next {R α:Type}{R0:Option R}{K:List UInt8->Option R}{K':α->List UInt8->Option R}{f:List UInt8->Option (α×List UInt8)}(hK:∀s,K s=match f s with
    | none=>none
    | some (z,r)=>K' z r) (hnil:f []=none) {s s':List UInt8}{bad bad' bad0:Bool}{z:α}(h:Th R0 K s bad bad0) (ht:(f s=some (z,s')/\bad'=bad)\/(f s=none/\s'=[]/\bad'=true)):Th R0 (K' z) s' bad' bad0:=by
 rcases h with ⟨h1,rfl⟩|⟨h1,rfl,rfl⟩
 ·rw[hK] at h1
  rcases ht with ⟨h2,rfl⟩|⟨h2,rfl,rfl⟩
  ·rw[h2] at h1
   exact .inl ⟨h1,rfl⟩
  ·rw[h2] at h1
   exact .inr ⟨h1,rfl,rfl⟩
 ·rcases ht with ⟨h2,_⟩|⟨_,h3,h4⟩
  ·rw[hnil] at h2;cases h2
  ·exact .inr ⟨h1,h3,h4⟩
def tM (l:List Sp):List Value:=l.flatMap fun x=>[.int .i64 x.code,.int .i64 x.dst,.int .i64 x.a,.int .i64 x.b,.int .i64 x.c]
theorem bQ5 (l:List Sp):∀(k j:Nat),k<l.length->j<5->(tM l)[k*5+j]?=[Value.int .i64 (l.getD k mH).code,.int .i64 (l.getD k mH).dst,.int .i64 (l.getD k mH).a,.int .i64 (l.getD k mH).b,.int .i64 (l.getD k mH).c][j]?:=by
 induction l with
 | nil=>intro k j hk;simp at hk
 | cons x r ih=>
  intro k j hk hj
  have e:tM (x::r)=[.int .i64 x.code,.int .i64 x.dst,.int .i64 x.a,.int .i64 x.b,.int .i64 x.c]++tM r:=rfl
  rw[e]
  cases k with
  | zero=>
   rw[Nat.zero_mul,Nat.zero_add,List.getElem?_append_left (by simpa using hj)]
   rfl
  | succ k=>
   rw[List.getElem?_append_right (by simp;omega)]
   have e2:(k+1)*5+j-[Value.int .i64 x.code,.int .i64 x.dst,.int .i64 x.a,.int .i64 x.b,.int .i64 x.c].length=k*5+j:=by simp;omega
   rw[e2,ih k j (by simpa using hk) hj]
   rfl
theorem aP7 {w:World}{B e:Nat}{v:Value}{l:List Sp}(h:w.ownsRow B e 5 v l.length (tM l)):Nx.tY (fun c=>B≤c/\c<w.heap.size) w v l:=by
 have hc:=fun g hg=>World.ownsRow.cells h (g:=g) hg
 have hlt:=fun g hg=>World.ownsRow.lt h g hg
 rcases h.2 with ⟨rfl,h0⟩|⟨g,cap,cur,rfl,_⟩
 ·exact ⟨none,0,0,0,by rw[h0],fun hp=>by omega,fun k hk=>by omega⟩
 ·refine ⟨_,g,0,cap,rfl,fun _=>⟨rfl,hlt g rfl⟩,fun k hk=>?_⟩
  have key:∀j (hj:j<5) u,[Value.int .i64 (l.getD k mH).code,.int .i64 (l.getD k mH).dst,.int .i64 (l.getD k mH).a,.int .i64 (l.getD k mH).b,.int .i64 (l.getD k mH).c][j]?=some u->w.cell? ⟨g,k*5+j,none⟩=some u:=fun j hj u hu=>by
   have:=hc g rfl (k*5+j) u (by rw[bQ5 l k j hk hj];exact hu)
   rwa [Addr.add_lit,Nat.zero_add] at this
  rw[Nat.zero_add]
  exact ⟨key 0 (by omega) _ rfl,key 1 (by omega) _ rfl,key 2 (by omega) _ rfl,key 3 (by omega) _ rfl,key 4 (by omega) _ rfl⟩
theorem bY7 (w:World) (o o2:Obj):((w.alloc o).alloc o2).heap[w.heap.size+1]?=some o2:=by
 have:=heap_alloc_new (w.alloc o) o2
 simpa using this
theorem oC {w W W':World}{e:TypeId}{v:Value}{l:List Int}(h:W'.ownsRow W.heap.size e 1 v l.length (l.map (Value.int .i64))) (hw:w.heap.size+1<W.heap.size):cY (fun c=>w.heap.size+1<c) W' v l:=
 (bH9 h).carry fun c hc _=>⟨by have:=hc.1;omega,rfl⟩
structure CR (w W:World) (b:Nat) (cs:Array Value) (s:List UInt8) (bad:Bool):Prop where
 rd:lA W b s bad
 box:W.heap[w.heap.size+1]?=some (.cells cs 26 (0,0))
 rb:W.heap[w.heap.size]?=some (.cells #[.int .i64 0,.slice none 0 0,.slice none 0 0,.slice none 0 0,.slice none 0 0,.slice none 0 0,.slice none 0 0] 26 (0,0))
 fr:Fr w.heap.size [b] w W
theorem CR.call {w W W':World}{b:Nat}{cs:Array Value}{s s':List UInt8}{bad bad':Bool}(h:CR w W b cs s bad) (hb:b<w.heap.size) (hf:Fr W.heap.size [b] W W') (hr:lA W' b s' bad'):CR w W' b cs s' bad':=
 ⟨hr,by rw[hf.block _ (aB h.box) (by simp;omega)];exact h.box,by rw[hf.block _ (aB h.rb) (by simp;omega)];exact h.rb,h.fr.trans (hf.mono h.fr.size (fun x hx _=>hx))⟩
theorem CR.put {w W:World}{b:Nat}{cs:Array Value}{s:List UInt8}{bad:Bool}(h:CR w W b cs s bad) (hb:b<w.heap.size) (j:Nat) (v:Value):CR w (W.setCell ⟨w.heap.size+1,j,none⟩ v) b (cs.setIfInBounds j v) s bad:=
 ⟨by unfold lA;rw[Below.heap_setCell _ _ _ _ (by simp;omega)];exact h.rd,aB0 h.box j v,by rw[Below.heap_setCell _ _ _ _ (by simp)];exact h.rb,h.fr.setCell (.inl (by simp)) _⟩
theorem dU {w W W':World}{b:Nat}{v:Value}{l:List Int}(h:cY (fun c=>w.heap.size+1<c) W v l) (hb:b<w.heap.size) (hf:Fr W.heap.size [b] W W'):cY (fun c=>w.heap.size+1<c) W' v l:=
 h.carry fun c hc hl=>⟨hc,hf.block c hl (by simp;omega)⟩
theorem eR {w W:World}{v:Value}{l:List Int}(h:cY (fun c=>w.heap.size+1<c) W v l) (j:Nat) (x:Value):cY (fun c=>w.heap.size+1<c) (W.setCell ⟨w.heap.size+1,j,none⟩ x) v l:=
 h.carry fun c hc _=>⟨hc,Below.heap_setCell _ _ _ _ (by simp;omega)⟩
theorem aR7 (tmps:Array Value) (W:World) (e:Nat) (fe:Array Value) (hse:fe.size=7) (hq:tmps[2]?.getD undef=.pointer (some ⟨e,0,none⟩)) (he:W.heap[e]?=some (.cells fe 26 (0,0))) :
    (results Tryz.f46 tmps).run Tryz.prog W=.ok (.agg fe) W:=by
 have hl:(loadVar 26 ⟨e,0,none⟩).run Tryz.prog W=.ok (.agg fe) W:=run_loadVar_row (P:=Tryz.prog) W e 26 26 fe (0,0) _ he Tryz.underlying26 rfl (by rw[hse];kernel_rfl)
 simp[results,Tryz.results46,hq,asAddr,hl]
theorem Tryz.infoStep:(Tryz.prog.info? 39).map (fun i=>(i.zero,i.size,i.bytes))=some (some (.agg #[.int .i64 0,.int .i64 0,.int .i64 0,.int .i64 0,.int .i64 0]),5,40):=by kernel_rfl
theorem O6 {P:Program}{w w':World}{ops:Array Oper}{o:Oper}{a:Act}{K:Act->World->Prop}{Q:Exit->Act->World->Prop}{E:Prop}(hgd:o.guard=none) (s x:Operand) (t:TypeId)
    (ho:o.op=.call { callee:=.builtin .append,args:=#[s,x],argTypes:=#[t,t] }) (vs vx r:Value) (hs:a.eval s=vs) (hx:a.eval x=vx) (hr:(Builtin.append_ #[t,t] o.type #[vs,vx]).run P w=.ok r w') (h:K (a.put o.dst r) w') :
    if Region.wanted o (yielded ops a.tmps)=true then Oper.wp P o a w K Q else E:=by
 have hw:Region.wanted o (yielded ops a.tmps)=true:=by simp[Region.wanted,hgd]
 rw[if_pos hw]
 unfold Oper.wp execOp
 simp only[ho,resolve,invoke,builtin,Sem.run_bind,Sem.run_pure,Result.andThen_ok,List.map_toArray,List.map_cons,List.map_nil,hs,hx,hr]
 exact h
theorem aJ4 (w:World) (cs:Array Value) (t:TypeId):∀j u,cs.toList[j]?=some u->(w.alloc (.cells cs t)).cell? ((⟨w.heap.size,0,none⟩:Addr).add j)=some u:=fun j u hu=>by
 rw[Addr.add_lit,Nat.zero_add,cell_of_row _ _ _ _ _ _ (heap_alloc_new w _),<-Array.getElem?_toList]
 exact hu
theorem bC1 {W:World}{g:Nat}(h:W.heap[g]?=some (.cells #[.int .i64 0,.slice none 0 0,.slice none 0 0,.slice none 0 0,.slice none 0 0,.slice none 0 0,.slice none 0 0] 26 (0,0))) (y0 y1 y2 y3 y4 y5 y6:Value):(((((((W.setCell ⟨g,0,none⟩ y0).setCell ⟨g,1,none⟩ y1).setCell ⟨g,2,none⟩ y2).setCell ⟨g,3,none⟩ y3).setCell ⟨g,4,none⟩ y4).setCell ⟨g,5,none⟩ y5).setCell ⟨g,6,none⟩ y6).heap[g]?=some (.cells #[y0,y1,y2,y3,y4,y5,y6] 26 (0,0)):=
 aB0 (aB0 (aB0 (aB0 (aB0 (aB0 (aB0 h 0 _) 1 _) 2 _) 3 _) 4 _) 5 _) 6 _
theorem bE9 (W:World) (g:Nat) (y0 y1 y2 y3 y4 y5 y6:Value) (c:Nat) (hc:c≠g):(((((((W.setCell ⟨g,0,none⟩ y0).setCell ⟨g,1,none⟩ y1).setCell ⟨g,2,none⟩ y2).setCell ⟨g,3,none⟩ y3).setCell ⟨g,4,none⟩ y4).setCell ⟨g,5,none⟩ y5).setCell ⟨g,6,none⟩ y6).heap[c]?=W.heap[c]?:=by
 rw[Below.heap_setCell _ _ _ _ hc,Below.heap_setCell _ _ _ _ hc,Below.heap_setCell _ _ _ _ hc,Below.heap_setCell _ _ _ _ hc,Below.heap_setCell _ _ _ _ hc,Below.heap_setCell _ _ _ _ hc,Below.heap_setCell _ _ _ _ hc]
structure CL (w D W:World) (b:Nat) (x0 x1 x2 x3 x4 x5 vC:Value) (r:List UInt8) (bad:Bool) (k:Nat) (l:List Sp) (s':List UInt8) (bad':Bool):Prop where
 cr:CR w W b #[x0,x1,x2,x3,x4,x5,vC] s' bad'
 own:W.ownsRow D.heap.size 39 5 vC k (tM l)
 len:l.length=k
 kept:∀c,w.heap.size+1<c->c<D.heap.size->W.heap[c]?=D.heap[c]?
 size:D.heap.size≤W.heap.size
 short:s'.length≤r.length
 took:(mA tO r k=some (l,s')/\bad'=bad)\/(mA tO r k=none/\s'=[]/\bad'=true)
theorem CL.step {w D W W1 W2:World}{b:Nat}{x0 x1 x2 x3 x4 x5 vC v2:Value}{r:List UInt8}{bad:Bool}{k:Nat}{l:List Sp}{s' s2:List UInt8}{bad' bad2:Bool}{x:Sp}{o:Obj}(h:CL w D W b x0 x1 x2 x3 x4 x5 vC r bad k l s' bad') (hbw:b<w.heap.size) (hD:w.heap.size+1<D.heap.size)
    (hr:lA W1 b s2 bad2) (hf:Fr W.heap.size [b] W W1) (hs:s2.length≤s'.length) (ht:(tO s'=some (x,s2)/\bad2=bad')\/(tO s'=none/\s2=[]/\bad2=true))
    (hown:W2.ownsRow D.heap.size 39 5 v2 (k+1) (tM l++[.int .i64 x.code,.int .i64 x.dst,.int .i64 x.a,.int .i64 x.b,.int .i64 x.c])) (hg:(W1.alloc o).grownBy W2 vC.ownBlock) :
    CL w D (W2.setCell ⟨w.heap.size+1,6,none⟩ v2) b x0 x1 x2 x3 x4 x5 v2 r bad (k+1) (l++[x]) s2 bad2:=by
 have hw:=h.cr.fr.size
 have hsz:=h.size
 have hs1:=hf.size
 have hs2:W1.heap.size≤W2.heap.size:=by have:=hg.size;simp at this;omega
 have hvne:∀g,vC.ownBlock=some g->D.heap.size≤g:=fun g hgg=>(h.own.lt g hgg).1
 have c1:=h.cr.call hbw hf hr
 have old:∀c,c<W1.heap.size->c<D.heap.size->W2.heap[c]?=W1.heap[c]?:=fun c hc hcD=>by
  rw[hg.block c (by simp;omega) (fun e=>by have:=hvne c e.symm;omega)]
  exact Below.heap_alloc _ _ _ hc
 have c2:CR w W2 b #[x0,x1,x2,x3,x4,x5,vC] s2 bad2:=by
  refine ⟨?_,?_,?_,c1.fr.trans ⟨hg.os,hg.tape,hg.output,hs2,fun c hc _=>old c (by omega) (by omega)⟩⟩
  ·unfold lA;rw[old b (aB hr) (by omega)];exact hr
  ·rw[old _ (aB c1.box) hD];exact c1.box
  ·rw[old _ (aB c1.rb) (by omega)];exact c1.rb
 refine ⟨c2.put hbw 6 v2,?_,by simp[h.len],fun c hc hcD=>?_,by simp[World.setCell];omega,Nat.le_trans hs h.short,?_⟩
 ·have e:tM (l++[x])=tM l++[.int .i64 x.code,.int .i64 x.dst,.int .i64 x.a,.int .i64 x.b,.int .i64 x.c]:=by simp[tM]
  rw[e]
  exact B5 hown fun g hgg=>Below.heap_setCell _ _ _ _ (by have:=(hown.lt g hgg).1;simp;omega)
 ·rw[Below.heap_setCell _ _ _ _ (by simp;omega),old c (by omega) hcD,hf.block c (by omega) (by simp;omega)]
  exact h.kept c hc hcD
 ·rcases h.took with ⟨h1,rfl⟩|⟨h1,rfl,rfl⟩
  ·rcases ht with ⟨h2,rfl⟩|⟨h2,rfl,rfl⟩
   ·exact .inl ⟨vB tO h1 h2,rfl⟩
   ·exact .inr ⟨vD tO h1 h2,rfl,rfl⟩
  ·right
   rcases ht with ⟨h2,_⟩|⟨_,h3,h4⟩
   ·have:tO []=none:=rfl
    rw[this] at h2;cases h2
   ·exact ⟨qT tO h1,h3,h4⟩
theorem wX (b:Nat) (s:List UInt8) (bad:Bool) (w:World) (h:lA w b s bad) (hs:s.length≤1000000000) :
    Calls Tryz.prog 46 #[.pointer (some ⟨b,0,none⟩)] w fun e w'=>∃n:Nt,∃vF vI vO vK vN vC s' bad',e=.returned (.agg #[.int .i64 n.places,vF,vI,vO,vK,vN,vC])/\Hid (lA w' b s' bad'/\Fr w.heap.size [b] w w'/\(∀W',w'.heap.size≤W'.heap.size->(∀c,w.heap.size≤c->c<w'.heap.size->W'.heap[c]?=w'.heap[c]?)->gJ W'.heap.size W' n vF vI vO vK vN vC)/\(∃ad cap,vI=.slice ad n.ins.length cap/\n.ins.length≤cap)/\((vZ s=some (n,s')/\bad'=bad)\/(vZ s=none/\s'=[]/\bad'=true))):=by
 have hbw:=aB h
 have H0:CR w ((w.alloc (.cells #[.int .i64 0,.slice none 0 0,.slice none 0 0,.slice none 0 0,.slice none 0 0,.slice none 0 0,.slice none 0 0] 26)).alloc (.cells #[.int .i64 0,.slice none 0 0,.slice none 0 0,.slice none 0 0,.slice none 0 0,.slice none 0 0,.slice none 0 0] 26)) b #[.int .i64 0,.slice none 0 0,.slice none 0 0,.slice none 0 0,.slice none 0 0,.slice none 0 0,.slice none 0 0] s bad:=by
  refine ⟨?_,bY7 _ _ _,?_,((Fr.refl _ _ _).alloc (Nat.le_refl _) _).alloc (by simp) _⟩
  ·unfold lA;rw[Below.heap_alloc _ _ _ (by simp;omega),Below.heap_alloc _ _ _ hbw];exact h
  ·rw[Below.heap_alloc _ _ _ (by simp)];exact heap_alloc_new w _
 clear h
 go_enter Tryz.func46,Tryz.ntmps46
 go_upto_region 2 with fail
 revert H0
 generalize (w.alloc (.cells #[.int .i64 0,.slice none 0 0,.slice none 0 0,.slice none 0 0,.slice none 0 0,.slice none 0 0,.slice none 0 0] 26)).alloc (.cells #[.int .i64 0,.slice none 0 0,.slice none 0 0,.slice none 0 0,.slice none 0 0,.slice none 0 0,.slice none 0 0] 26)=W0
 intro H0
 have S:Hid _:=H0
 have TH:Hid (Th (vZ s) k0 s bad bad):=.inl ⟨cB5 s,rfl⟩
 clear H0
 have hsm:=jI b s bad W0 S.out.rd hs
 go_upto_region 3 with (go_at_call 83;refine hsm.mono ?_;rintro e W1 ⟨p,s1,bad1,rfl,hp,X⟩;have S1:Hid _:=S.out.call hbw X.out.2.1 X.out.1;obtain ⟨q0,f0⟩:=dD S1.out.box 0 (.int .i64 0) rfl;clear hsm)
 have S2:CR w (W1.setCell ⟨w.heap.size+1,0,none⟩ (.int .i64 p)) b #[.int .i64 p,.slice none 0 0,.slice none 0 0,.slice none 0 0,.slice none 0 0,.slice none 0 0,.slice none 0 0] s1 bad1:=S1.out.put hbw 0 _
 have TH1:Hid (Th (vZ s) (k1 p) s1 bad1 bad):=Th.next (f:=sm) (K:=k0) (K':=k1) (fun s=>by unfold k0;cases sm s<;>rfl) rfl TH.out (X.out.2.2.2.imp id fun h=>⟨h.1,h.2.2⟩)
 have hl1:s1.length≤1000000000:=by have:=X.out.2.2.1;omega
 clear S S1 TH X q0 f0
 revert S2
 generalize W1.setCell ⟨w.heap.size+1,0,none⟩ (.int .i64 p)=Y1
 intro S2
 have C1:Hid _:=S2
 clear S2
 have hc1:=tP b s1 bad1 Y1 C1.out.rd hl1
 go_upto_region 4 with (go_at_call 84;refine hc1.mono ?_;rintro e X1 ⟨vF,fi,s2,bad2,rfl,D1⟩;have E1:Hid _:=C1.out.call hbw D1.out.2.2.1 D1.out.2.1;obtain ⟨q0,f0⟩:=dD E1.out.box 1 (.slice none 0 0) rfl;obtain ⟨ao1,cap1,hv1,hcap1⟩:=aN6 D1.out.1;subst hv1;clear hc1)
 have G1:CR w (X1.setCell ⟨w.heap.size+1,1,none⟩ (.slice ao1 fi.length cap1)) b #[.int .i64 p,.slice ao1 fi.length cap1,.slice none 0 0,.slice none 0 0,.slice none 0 0,.slice none 0 0,.slice none 0 0] s2 bad2:=E1.out.put hbw 1 _
 have hsz1:w.heap.size+1<Y1.heap.size:=aB C1.out.box
 have I1:cY (fun c=>w.heap.size+1<c) (X1.setCell ⟨w.heap.size+1,1,none⟩ (.slice ao1 fi.length cap1)) (.slice ao1 fi.length cap1) fi:=eR (oC D1.out.1 hsz1) _ _
 have TH2:Hid (Th (vZ s) (k2 p fi) s2 bad2 bad):=Th.next (f:=lM tk) (K:=k1 p) (K':=k2 p) (fun s=>by unfold k1;cases lM tk s<;>rfl) rfl TH1.out D1.out.2.2.2.2.2
 have hl2:s2.length≤1000000000:=by have:=D1.out.2.2.2.1;omega
 have HB1:Hid (_/\_):=⟨D1.out.2.2.2.2.1,hcap1⟩
 clear C1 E1 D1 TH1 q0 f0 hcap1 hsz1 hl1
 revert G1 I1
 generalize X1.setCell ⟨w.heap.size+1,1,none⟩ (.slice ao1 fi.length cap1)=Y2
 intro G1 I1
 have C2:Hid _:=G1
 have J1:Hid _:=I1
 clear G1 I1
 have hc2:=pY b s2 bad2 Y2 C2.out.rd hl2
 go_upto_region 5 with (go_at_call 85;refine hc2.mono ?_;rintro e X2 ⟨vI,ii,s3,bad3,rfl,D2⟩;have E2:Hid _:=C2.out.call hbw D2.out.2.2.1 D2.out.2.1;obtain ⟨q0,f0⟩:=dD E2.out.box 2 (.slice none 0 0) rfl;obtain ⟨ao2,cap2,hv2,hcap2⟩:=aN6 D2.out.1;subst hv2;clear hc2)
 have G2:CR w (X2.setCell ⟨w.heap.size+1,2,none⟩ (.slice ao2 ii.length cap2)) b #[.int .i64 p,.slice ao1 fi.length cap1,.slice ao2 ii.length cap2,.slice none 0 0,.slice none 0 0,.slice none 0 0,.slice none 0 0] s3 bad3:=E2.out.put hbw 2 _
 have hsz2:w.heap.size+1<Y2.heap.size:=aB C2.out.box
 have I2:cY (fun c=>w.heap.size+1<c) (X2.setCell ⟨w.heap.size+1,2,none⟩ (.slice ao2 ii.length cap2)) (.slice ao2 ii.length cap2) ii:=eR (oC D2.out.1 hsz2) _ _
 have I1':cY (fun c=>w.heap.size+1<c) (X2.setCell ⟨w.heap.size+1,2,none⟩ (.slice ao2 ii.length cap2)) _ _:=eR (dU J1.out hbw D2.out.2.2.1) _ _
 have TH3:Hid (Th (vZ s) (k3 p fi ii) s3 bad3 bad):=Th.next (f:=lM sm) (K:=k2 p fi) (K':=k3 p fi) (fun s=>by unfold k2;cases lM sm s<;>rfl) rfl TH2.out D2.out.2.2.2.2.2
 have hl3:s3.length≤1000000000:=by have:=D2.out.2.2.2.1;omega
 have HB2:Hid (_/\_):=⟨D2.out.2.2.2.2.1,hcap2⟩
 clear C2 E2 D2 TH2 q0 f0 hcap2 hsz2 hl2 J1
 revert G2 I2 I1'
 generalize X2.setCell ⟨w.heap.size+1,2,none⟩ (.slice ao2 ii.length cap2)=Y3
 intro G2 I2 I1'
 have C3:Hid _:=G2
 have J2:Hid _:=I2
 have J1:Hid _:=I1'
 clear G2 I2 I1'
 have hc3:=pY b s3 bad3 Y3 C3.out.rd hl3
 go_upto_region 6 with (go_at_call 85;refine hc3.mono ?_;rintro e X3 ⟨vO,oo,s4,bad4,rfl,D3⟩;have E3:Hid _:=C3.out.call hbw D3.out.2.2.1 D3.out.2.1;obtain ⟨q0,f0⟩:=dD E3.out.box 3 (.slice none 0 0) rfl;obtain ⟨ao3,cap3,hv3,hcap3⟩:=aN6 D3.out.1;subst hv3;clear hc3)
 have G3:CR w (X3.setCell ⟨w.heap.size+1,3,none⟩ (.slice ao3 oo.length cap3)) b #[.int .i64 p,.slice ao1 fi.length cap1,.slice ao2 ii.length cap2,.slice ao3 oo.length cap3,.slice none 0 0,.slice none 0 0,.slice none 0 0] s4 bad4:=E3.out.put hbw 3 _
 have hsz3:w.heap.size+1<Y3.heap.size:=aB C3.out.box
 have I3:cY (fun c=>w.heap.size+1<c) (X3.setCell ⟨w.heap.size+1,3,none⟩ (.slice ao3 oo.length cap3)) (.slice ao3 oo.length cap3) oo:=eR (oC D3.out.1 hsz3) _ _
 have I1':cY (fun c=>w.heap.size+1<c) (X3.setCell ⟨w.heap.size+1,3,none⟩ (.slice ao3 oo.length cap3)) _ _:=eR (dU J1.out hbw D3.out.2.2.1) _ _
 have I2':cY (fun c=>w.heap.size+1<c) (X3.setCell ⟨w.heap.size+1,3,none⟩ (.slice ao3 oo.length cap3)) _ _:=eR (dU J2.out hbw D3.out.2.2.1) _ _
 have TH4:Hid (Th (vZ s) (k4 p fi ii oo) s4 bad4 bad):=Th.next (f:=lM sm) (K:=k3 p fi ii) (K':=k4 p fi ii) (fun s=>by unfold k3;cases lM sm s<;>rfl) rfl TH3.out D3.out.2.2.2.2.2
 have hl4:s4.length≤1000000000:=by have:=D3.out.2.2.2.1;omega
 have HB3:Hid (_/\_):=⟨D3.out.2.2.2.2.1,hcap3⟩
 clear C3 E3 D3 TH3 q0 f0 hcap3 hsz3 hl3 J1 J2
 revert G3 I3 I1' I2'
 generalize X3.setCell ⟨w.heap.size+1,3,none⟩ (.slice ao3 oo.length cap3)=Y4
 intro G3 I3 I1' I2'
 have C4:Hid _:=G3
 have J3:Hid _:=I3
 have J1:Hid _:=I1'
 have J2:Hid _:=I2'
 clear G3 I3 I1' I2'
 have hc4:=pY b s4 bad4 Y4 C4.out.rd hl4
 go_upto_region 7 with (go_at_call 85;refine hc4.mono ?_;rintro e X4 ⟨vK,kk,s5,bad5,rfl,D4⟩;have E4:Hid _:=C4.out.call hbw D4.out.2.2.1 D4.out.2.1;obtain ⟨q0,f0⟩:=dD E4.out.box 4 (.slice none 0 0) rfl;obtain ⟨ao4,cap4,hv4,hcap4⟩:=aN6 D4.out.1;subst hv4;clear hc4)
 have G4:CR w (X4.setCell ⟨w.heap.size+1,4,none⟩ (.slice ao4 kk.length cap4)) b #[.int .i64 p,.slice ao1 fi.length cap1,.slice ao2 ii.length cap2,.slice ao3 oo.length cap3,.slice ao4 kk.length cap4,.slice none 0 0,.slice none 0 0] s5 bad5:=E4.out.put hbw 4 _
 have hsz4:w.heap.size+1<Y4.heap.size:=aB C4.out.box
 have I4:cY (fun c=>w.heap.size+1<c) (X4.setCell ⟨w.heap.size+1,4,none⟩ (.slice ao4 kk.length cap4)) (.slice ao4 kk.length cap4) kk:=eR (oC D4.out.1 hsz4) _ _
 have I1':cY (fun c=>w.heap.size+1<c) (X4.setCell ⟨w.heap.size+1,4,none⟩ (.slice ao4 kk.length cap4)) _ _:=eR (dU J1.out hbw D4.out.2.2.1) _ _
 have I2':cY (fun c=>w.heap.size+1<c) (X4.setCell ⟨w.heap.size+1,4,none⟩ (.slice ao4 kk.length cap4)) _ _:=eR (dU J2.out hbw D4.out.2.2.1) _ _
 have I3':cY (fun c=>w.heap.size+1<c) (X4.setCell ⟨w.heap.size+1,4,none⟩ (.slice ao4 kk.length cap4)) _ _:=eR (dU J3.out hbw D4.out.2.2.1) _ _
 have TH5:Hid (Th (vZ s) (k5 p fi ii oo kk) s5 bad5 bad):=Th.next (f:=lM sm) (K:=k4 p fi ii oo) (K':=k5 p fi ii oo) (fun s=>by unfold k4;cases lM sm s<;>rfl) rfl TH4.out D4.out.2.2.2.2.2
 have hl5:s5.length≤1000000000:=by have:=D4.out.2.2.2.1;omega
 have HB4:Hid (_/\_):=⟨D4.out.2.2.2.2.1,hcap4⟩
 clear C4 E4 D4 TH4 q0 f0 hcap4 hsz4 hl4 J1 J2 J3
 revert G4 I4 I1' I2' I3'
 generalize X4.setCell ⟨w.heap.size+1,4,none⟩ (.slice ao4 kk.length cap4)=Y5
 intro G4 I4 I1' I2' I3'
 have C5:Hid _:=G4
 have J4:Hid _:=I4
 have J1:Hid _:=I1'
 have J2:Hid _:=I2'
 have J3:Hid _:=I3'
 clear G4 I4 I1' I2' I3'
 have hc5:=tP b s5 bad5 Y5 C5.out.rd hl5
 go_upto_region 8 with (go_at_call 84;refine hc5.mono ?_;rintro e X5 ⟨vN,mm,s6,bad6,rfl,D5⟩;have E5:Hid _:=C5.out.call hbw D5.out.2.2.1 D5.out.2.1;obtain ⟨q0,f0⟩:=dD E5.out.box 5 (.slice none 0 0) rfl;obtain ⟨ao5,cap5,hv5,hcap5⟩:=aN6 D5.out.1;subst hv5;clear hc5)
 have G5:CR w (X5.setCell ⟨w.heap.size+1,5,none⟩ (.slice ao5 mm.length cap5)) b #[.int .i64 p,.slice ao1 fi.length cap1,.slice ao2 ii.length cap2,.slice ao3 oo.length cap3,.slice ao4 kk.length cap4,.slice ao5 mm.length cap5,.slice none 0 0] s6 bad6:=E5.out.put hbw 5 _
 have hsz5:w.heap.size+1<Y5.heap.size:=aB C5.out.box
 have I5:cY (fun c=>w.heap.size+1<c) (X5.setCell ⟨w.heap.size+1,5,none⟩ (.slice ao5 mm.length cap5)) (.slice ao5 mm.length cap5) mm:=eR (oC D5.out.1 hsz5) _ _
 have I1':cY (fun c=>w.heap.size+1<c) (X5.setCell ⟨w.heap.size+1,5,none⟩ (.slice ao5 mm.length cap5)) _ _:=eR (dU J1.out hbw D5.out.2.2.1) _ _
 have I2':cY (fun c=>w.heap.size+1<c) (X5.setCell ⟨w.heap.size+1,5,none⟩ (.slice ao5 mm.length cap5)) _ _:=eR (dU J2.out hbw D5.out.2.2.1) _ _
 have I3':cY (fun c=>w.heap.size+1<c) (X5.setCell ⟨w.heap.size+1,5,none⟩ (.slice ao5 mm.length cap5)) _ _:=eR (dU J3.out hbw D5.out.2.2.1) _ _
 have I4':cY (fun c=>w.heap.size+1<c) (X5.setCell ⟨w.heap.size+1,5,none⟩ (.slice ao5 mm.length cap5)) _ _:=eR (dU J4.out hbw D5.out.2.2.1) _ _
 have TH6:Hid (Th (vZ s) (k6 p fi ii oo kk mm) s6 bad6 bad):=Th.next (f:=lM tk) (K:=k5 p fi ii oo kk) (K':=k6 p fi ii oo kk) (fun s=>by unfold k5;cases lM tk s<;>rfl) rfl TH5.out D5.out.2.2.2.2.2
 have hl6:s6.length≤1000000000:=by have:=D5.out.2.2.2.1;omega
 have HB5:Hid (_/\_):=⟨D5.out.2.2.2.2.1,hcap5⟩
 clear C5 E5 D5 TH5 q0 f0 hcap5 hsz5 hl5 J1 J2 J3 J4
 revert G5 I5 I1' I2' I3' I4'
 generalize X5.setCell ⟨w.heap.size+1,5,none⟩ (.slice ao5 mm.length cap5)=Y6
 intro G5 I5 I1' I2' I3' I4'
 have C6:Hid _:=G5
 have J5:Hid _:=I5
 have J1:Hid _:=I1'
 have J2:Hid _:=I2'
 have J3:Hid _:=I3'
 have J4:Hid _:=I4'
 clear G5 I5 I1' I2' I3' I4'
 have hsm2:=jI b s6 bad6 Y6 C6.out.rd hl6
 go_upto_region 9 with (go_at_call 83;refine hsm2.mono ?_;rintro e Y7 ⟨c,r,bad7,rfl,hc,X⟩;clear hsm2)
 have C7:=C6.out.call hbw X.out.2.1 X.out.1
 have hD:w.heap.size+1<Y7.heap.size:=aB C7.box
 have JJ:Hid (_/\_/\_/\_/\_):=⟨dU J1.out hbw X.out.2.1,dU J2.out hbw X.out.2.1,dU J3.out hbw X.out.2.1,dU J4.out hbw X.out.2.1,dU J5.out hbw X.out.2.1⟩
 have LL0:∃l0 s0 bad0,Hid (CL w Y7 Y7 b (.int .i64 p) (.slice ao1 fi.length cap1) (.slice ao2 ii.length cap2) (.slice ao3 oo.length cap3) (.slice ao4 kk.length cap4) (.slice ao5 mm.length cap5) (.slice none 0 0) r bad7 0 l0 s0 bad0):=⟨[],r,bad7,C7,World.ownsRow_nil _ _ _ _,rfl,fun _ _ _=>rfl,Nat.le_refl _,Nat.le_refl _,.inl ⟨rfl,rfl⟩⟩
 have HX:Hid _:=X.out.2.2
 have HBW:Hid _:=hbw
 have HDD:Hid _:=hD
 obtain ⟨i0,hi,hz0,hz1,hz2⟩:=info_parts Tryz.infoStep
 clear C6 C7 J1 J2 J3 J4 J5 X
 go_loopw [24] (fun i wr=>∃k:Nat,k≤c/\i=.int .i64 k/\∃vC l s' bad',Hid (CL w Y7 wr b (.int .i64 p) (.slice ao1 fi.length cap1) (.slice ao2 ii.length cap2) (.slice ao3 oo.length cap3) (.slice ao4 kk.length cap4) (.slice ao5 mm.length cap5) vC r bad7 k l s' bad')) (fun i _=>c-(intOf i).toNat)
 case atStart=>exact ⟨0,Nat.zero_le _,rfl,_,LL0⟩
 case round=>
  clear LL0
  obtain ⟨k,hk,rfl,vC,l,s',bad',Y⟩:=hrel
  obtain ⟨ao,cap,hvC,_⟩:=aN6 Y.out.own
  subst hvC
  by_cases hlt:k<c
  ·go_upto_region 10 with fail
   have hs0:wr.drew.cell? ⟨w.heap.size+1,6,none⟩=some (.slice ao k cap):=(dD Y.out.cr.box 6 _ rfl).1
   have hst:Calls Tryz.prog 86 #[.pointer (some ⟨b,0,none⟩)] wr.drew fun e w'=>∃x:Sp,∃s2 bad2,e=.returned (.agg #[.int .i64 x.code,.int .i64 x.dst,.int .i64 x.a,.int .i64 x.b,.int .i64 x.c])/\Hid (lA w' b s2 bad2/\Fr wr.heap.size [b] wr w'/\s2.length≤s'.length/\((tO s'=some (x,s2)/\bad2=bad')\/(tO s'=none/\s2=[]/\bad2=true))):=
    (aQ2 b s' bad' wr.drew Y.out.cr.rd (by have:=Y.out.short;have:=HX.out.1;omega)).mono fun e w' ⟨x,s2,bad2,he,Z⟩=>⟨x,s2,bad2,he,Z.out.1,⟨Z.out.2.1.os,Z.out.2.1.tape,Z.out.2.1.output,Z.out.2.1.size,Z.out.2.1.block⟩,Z.out.2.2⟩
   refine J0 7 (fun W=>W.cell? ⟨w.heap.size+1,6,none⟩=some (.slice ao k cap)) (by kernel_rfl) ?_
   refine nI 0 [7] (v:=.pointer (some ⟨w.heap.size+1,6,none⟩)) rfl (by kernel_rfl) (by kernel_rfl) (by kernel_rfl) (by kernel_rfl) (by kernel_rfl) (by kernel_rfl) (by kernel_rfl) (fun _ _ _ h=>h) (.inl ⟨by rfl,fun W hW=>?_⟩) hs0 ?_
   ·go_simp
   try simp only[Act.put,List.setIfInBounds_toArray]
   refine nI 1 [7] (v:=.slice ao k cap) rfl (by kernel_rfl) (by kernel_rfl) (by kernel_rfl) (by kernel_rfl) (by kernel_rfl) (by kernel_rfl) (by kernel_rfl) (fun _ _ _ h=>h) (.inl ⟨by rfl,fun W hW=>?_⟩) hs0 ?_
   ·go_simp
   try simp only[Act.put]
   refine nI 2 [7] (v:=.pointer (some ⟨b,0,none⟩)) rfl (by kernel_rfl) (by kernel_rfl) (by kernel_rfl) (by kernel_rfl) (by kernel_rfl) (by kernel_rfl) (by kernel_rfl) (fun _ _ _ h=>h) (.inl ⟨by rfl,fun W hW=>?_⟩) hs0 ?_
   ·go_simp
   try simp only[Act.put]
   refine mB 3 (by kernel_rfl) rfl (fun K hK=>?_)
   go_simp
   refine hst.mono ?_
   rintro e w2 ⟨x,s2,bad2,rfl,Z⟩
   have c2:=Y.out.cr.call hbw Z.out.2.1 Z.out.1
   have hs2:w2.cell? ⟨w.heap.size+1,6,none⟩=some (.slice ao k cap):=(dD c2.box 6 _ rfl).1
   refine hK.out _ _ hs2 ?_
   clear hK K
   try simp only[Act.put,List.setIfInBounds_toArray,List.set_cons_zero,List.set_cons_succ]
   refine mB 4 (by kernel_rfl) rfl (fun K hK=>?_)
   go_simp
   have hs3:(w2.alloc (.cells #[.int .i64 x.code,.int .i64 x.dst,.int .i64 x.a,.int .i64 x.b,.int .i64 x.c] 39)).cell? ⟨w.heap.size+1,6,none⟩=some (.slice ao k cap):=cH (aM w2 _) hs2
   refine hK.out _ _ hs3 ?_
   clear hK K
   try simp only[Act.put,List.setIfInBounds_toArray,List.set_cons_zero,List.set_cons_succ]
   obtain ⟨v5,w5,hr5,hown5,hg5,_,hat5⟩:=run_append_own_at (P:=Tryz.prog) (w2.alloc (.cells #[.int .i64 x.code,.int .i64 x.dst,.int .i64 x.a,.int .i64 x.b,.int .i64 x.c] 39)) Y7.heap.size 24 24 39 i0 _ 5 40 Tryz.underlying24 hi hz0 hz1 hz2 rfl (by decide) (.slice ao k cap) k (tM l) ((B5 Y.out.own (fun g hg=>Z.out.2.1.block g (Y.out.own.lt g hg).2 (by have:=(Y.out.own.lt g hg).1;simp;omega))).alloc _) ⟨w2.heap.size,0,none⟩ 1 1 [.int .i64 x.code,.int .i64 x.dst,.int .i64 x.a,.int .i64 x.b,.int .i64 x.c] rfl (aJ4 w2 #[.int .i64 x.code,.int .i64 x.dst,.int .i64 x.a,.int .i64 x.b,.int .i64 x.c] 39) (by intro u hu;simp at hu;rcases hu with rfl|rfl|rfl|rfl|rfl<;>rfl) (by unfold maxLen;omega) (by omega) (by have:=Y.out.size;have:=Z.out.2.1.size;simp;omega)
   obtain ⟨ao6,cap6,hv6,_⟩:=aN6 hown5
   subst hv6
   have CL2:=Y.out.step hbw hD Z.out.1 Z.out.2.1 Z.out.2.2.1 Z.out.2.2.2 hown5 hg5
   have hb5:w5.heap[w.heap.size+1]?=(w2.alloc (.cells #[.int .i64 x.code,.int .i64 x.dst,.int .i64 x.a,.int .i64 x.b,.int .i64 x.c] 39)).heap[w.heap.size+1]?:=hg5.block _ (by have:=aB c2.box;simp;omega) (fun e=>by have:=(Y.out.own.lt _ e.symm).1;omega)
   have hs5:w5.cell? ⟨w.heap.size+1,6,none⟩=some (.slice ao k cap):=by rw[cA hb5];exact hs3
   have fs5:w5.frozen? ⟨w.heap.size+1,6,none⟩=false:=(dD ((hb5.trans (Below.heap_alloc _ _ _ (aB c2.box))).trans c2.box) 6 _ rfl).2
   refine mB 5 (by kernel_rfl) rfl (fun K hK=>?_)
   refine O6 (by rfl) (.tmp 27) (.tmp 30) _ (by rfl) _ _ _ (by rfl) (by rfl) hr5 ?_
   refine hK.out _ _ hs5 ?_
   clear hK K
   try simp only[Act.put,List.setIfInBounds_toArray]
   refine mB 6 (by kernel_rfl) rfl (fun K hK=>?_)
   go_simp
   refine hK.out _ _ hs5 ?_
   clear hK K
   try simp only[Act.put,List.setIfInBounds_toArray,List.set_cons_zero,List.set_cons_succ]
   refine aZ6 (by kernel_rfl) rfl (fun K hK=>?_)
   go_simp
   refine hK.out _ _ ?_
   clear hK K
   try simp only[Act.put,List.setIfInBounds_toArray,List.set_cons_zero,List.set_cons_succ]
   refine wpAny_done (by kernel_rfl) ?_ _
   have Y2:Hid _:=CL2
   clear CL2 hr5 hown5 hg5 hat5 hs3 hs5 fs5 hs2 c2 hs0 hb5
   go_wp2_with fail
   go_roundw
   case rel=>exact ⟨k+1,by omega,by go_num,_,l++[x],s2,bad2,Y2.out⟩
   case measure=>simp[intOf];omega
  ·obtain rfl:k=c:=by omega
   have m0:wr.cell? ⟨w.heap.size+1,0,none⟩=some (.int .i64 p):=(dD Y.out.cr.box 0 _ rfl).1
   have m1:wr.cell? ⟨w.heap.size+1,1,none⟩=some (.slice ao1 fi.length cap1):=(dD Y.out.cr.box 1 _ rfl).1
   have m2:wr.cell? ⟨w.heap.size+1,2,none⟩=some (.slice ao2 ii.length cap2):=(dD Y.out.cr.box 2 _ rfl).1
   have m3:wr.cell? ⟨w.heap.size+1,3,none⟩=some (.slice ao3 oo.length cap3):=(dD Y.out.cr.box 3 _ rfl).1
   have m4:wr.cell? ⟨w.heap.size+1,4,none⟩=some (.slice ao4 kk.length cap4):=(dD Y.out.cr.box 4 _ rfl).1
   have m5:wr.cell? ⟨w.heap.size+1,5,none⟩=some (.slice ao5 mm.length cap5):=(dD Y.out.cr.box 5 _ rfl).1
   have m6:wr.cell? ⟨w.heap.size+1,6,none⟩=some (.slice ao k cap):=(dD Y.out.cr.box 6 _ rfl).1
   obtain ⟨p0,f0⟩:=dD Y.out.cr.rb 0 (.int .i64 0) rfl
   obtain ⟨p1,f1⟩:=dD Y.out.cr.rb 1 (.slice none 0 0) rfl
   obtain ⟨p2,f2⟩:=dD Y.out.cr.rb 2 (.slice none 0 0) rfl
   obtain ⟨p3,f3⟩:=dD Y.out.cr.rb 3 (.slice none 0 0) rfl
   obtain ⟨p4,f4⟩:=dD Y.out.cr.rb 4 (.slice none 0 0) rfl
   obtain ⟨p5,f5⟩:=dD Y.out.cr.rb 5 (.slice none 0 0) rfl
   obtain ⟨p6,f6⟩:=dD Y.out.cr.rb 6 (.slice none 0 0) rfl
   go_wp2_with fail
   clear m0 m1 m2 m3 m4 m5 m6 p0 p1 p2 p3 p4 p5 p6 f0 f1 f2 f3 f4 f5 f6
   refine bodyPost_ret (aR7 _ _ w.heap.size #[.int .i64 p,.slice ao1 fi.length cap1,.slice ao2 ii.length cap2,.slice ao3 oo.length cap3,.slice ao4 kk.length cap4,.slice ao5 mm.length cap5,.slice ao k cap] rfl rfl (bC1 Y.out.cr.rb _ _ _ _ _ _ _)) rfl ?_
   have oth:=bE9 wr w.heap.size (.int .i64 p) (.slice ao1 fi.length cap1) (.slice ao2 ii.length cap2) (.slice ao3 oo.length cap3) (.slice ao4 kk.length cap4) (.slice ao5 mm.length cap5) (.slice ao k cap)
   have hbig:wr.heap.size=(((((((wr.setCell ⟨w.heap.size,0,none⟩ (.int .i64 p)).setCell ⟨w.heap.size,1,none⟩ (.slice ao1 fi.length cap1)).setCell ⟨w.heap.size,2,none⟩ (.slice ao2 ii.length cap2)).setCell ⟨w.heap.size,3,none⟩ (.slice ao3 oo.length cap3)).setCell ⟨w.heap.size,4,none⟩ (.slice ao4 kk.length cap4)).setCell ⟨w.heap.size,5,none⟩ (.slice ao5 mm.length cap5)).setCell ⟨w.heap.size,6,none⟩ (.slice ao k cap)).heap.size:=by simp[World.setCell]
   have hfin:Fr w.heap.size [b] w (((((((wr.setCell ⟨w.heap.size,0,none⟩ (.int .i64 p)).setCell ⟨w.heap.size,1,none⟩ (.slice ao1 fi.length cap1)).setCell ⟨w.heap.size,2,none⟩ (.slice ao2 ii.length cap2)).setCell ⟨w.heap.size,3,none⟩ (.slice ao3 oo.length cap3)).setCell ⟨w.heap.size,4,none⟩ (.slice ao4 kk.length cap4)).setCell ⟨w.heap.size,5,none⟩ (.slice ao5 mm.length cap5)).setCell ⟨w.heap.size,6,none⟩ (.slice ao k cap)):=((((((Y.out.cr.fr.setCell (.inl (by simp)) _).setCell (.inl (by simp)) _).setCell (.inl (by simp)) _).setCell (.inl (by simp)) _).setCell (.inl (by simp)) _).setCell (.inl (by simp)) _).setCell (.inl (by simp)) _
   revert oth hbig hfin
   generalize ((((((wr.setCell ⟨w.heap.size,0,none⟩ (.int .i64 p)).setCell ⟨w.heap.size,1,none⟩ (.slice ao1 fi.length cap1)).setCell ⟨w.heap.size,2,none⟩ (.slice ao2 ii.length cap2)).setCell ⟨w.heap.size,3,none⟩ (.slice ao3 oo.length cap3)).setCell ⟨w.heap.size,4,none⟩ (.slice ao4 kk.length cap4)).setCell ⟨w.heap.size,5,none⟩ (.slice ao5 mm.length cap5)).setCell ⟨w.heap.size,6,none⟩ (.slice ao k cap)=WF
   intro oth hbig hfin
   have hsz:=Y.out.size
   have kI:∀{W':World}{v:Value}{zs:List Int},WF.heap.size≤W'.heap.size->(∀c,w.heap.size≤c->c<WF.heap.size->W'.heap[c]?=WF.heap[c]?)->cY (fun c=>w.heap.size+1<c) Y7 v zs->cY (fun c=>c<W'.heap.size) W' v zs:=fun hW hE hI=>hI.carry fun c hc hl=>⟨by omega,by rw[hE c (by omega) (by omega),oth c (by omega)];exact Y.out.kept c hc hl⟩
   refine ⟨⟨p,fi,ii,oo,kk,mm,l⟩,_,_,_,_,_,_,s',bad',rfl,?_,hfin,fun W' hW hE=>⟨kI hW hE JJ.out.1,kI hW hE JJ.out.2.1,kI hW hE JJ.out.2.2.1,kI hW hE JJ.out.2.2.2.1,kI hW hE JJ.out.2.2.2.2,?_⟩,⟨ao2,cap2,rfl,HB2.out.2⟩,?_⟩
   ·unfold lA;rw[oth b (by omega)];exact Y.out.cr.rd
   ·have ho:=Y.out.own
    rw[<-Y.out.len] at ho ⊢
    exact (aP7 ho).carry fun c hc hl=>⟨by omega,by rw[hE c (by have:=hc.1;omega) (by omega)];exact oth c (by have:=hc.1;omega)⟩
   ·have ht:(uE s6=some (l,s')/\bad'=bad6)\/(uE s6=none/\s'=[]/\bad'=true):=by
     unfold uE
     rcases HX.out.2 with ⟨x1,x2⟩|⟨x1,x2,x3,x4⟩
     ·simp only[x1]
      rw[Int.toNat_natCast,<-x2]
      exact Y.out.took
     ·simp only[x1]
      subst x2
      right
      rcases Y.out.took with ⟨y1,y2⟩|⟨y1,y2,y3⟩
      ·rw[mA] at y1
       injection y1 with y1
       injection y1 with _ y1
       exact ⟨trivial,by rw[<-y1];exact x3,by rw[y2];exact x4⟩
      ·exact ⟨trivial,y2,y3⟩
    rcases TH6.out with ⟨z1,z2⟩|⟨z1,z2,z3⟩
    ·unfold k6 at z1
     rcases ht with ⟨t1,t2⟩|⟨t1,t2,t3⟩
     ·rw[t1] at z1
      exact .inl ⟨z1,by rw[t2];exact z2⟩
     ·rw[t1] at z1
      exact .inr ⟨z1,t2,t3⟩
    ·rcases ht with ⟨t1,_⟩|⟨_,t2,t3⟩
     ·rw[z2] at t1
      have:uE []=none:=rfl
      rw[this] at t1;cases t1
     ·exact .inr ⟨z1,t2,t3⟩
end Ix
end Go.Proofs.YtcdbhoknhnimcaaGreatDoor
