import Derived.Test.YthieaobjdpfcoaaGreatDoorVCk2
import Derived.Defers
import Derived.Recover
import Derived.RowKit
import Derived.IntWalk
import Derived.Laws.Bits64
import Derived.Test.YthieaobjdpfcoaaGreatDoorProg
import Derived.WalkKit
import Derived.WalkSpells
import Derived.WalkLawsBesides
import Derived.Laws.EntriesVeiled
import Derived.Deep.Cut
set_option maxRecDepth 100000
set_option maxHeartbeats 4000000
namespace Go.Proofs.YthieaobjdpfcoaaGreatDoor
section
open Go.RowKit Px
theorem cH {w:World}{g:Nat}{l:List Value}{T:TypeId}{f:Nat×Nat}(h:w.heap[g]?=some (.cells l.toArray T f)) (k:Nat) (x:Value):(w.setCell ⟨g,k,none⟩ x).heap[g]?=some (.cells (l.set k x).toArray T f):=by
 have c:=aB h
 have e:w.heap[g]=.cells l.toArray T f:=by rw[Array.getElem?_eq_getElem c] at h;exact Option.some.inj h
 simp only[World.setCell]
 rw[Array.getElem?_eq_getElem (by simpa using c),Array.getElem_modify]
 simp[e]
theorem aG {w:World}{g:Nat}{l:Array Value}{T:TypeId}(h:w.heap[g]?=some (.cells l T (0,0))) (k:Nat):w.frozen? ⟨g,k,none⟩=false:=by
 simp[World.frozen?,h]
def dF (w:World) (g:Nat) (W:List Int):Prop:=w.heap[g]?=some (.cells (W.map (Value.int .i64)).toArray 3 (0,0))
theorem dF.cell {w:World}{g:Nat}{W:List Int}(h:dF w g W) (j:Nat) (c:j<W.length):w.cell? ⟨g,j,none⟩=some (.int .i64 (W.getD j 0)):=by
 refine aF h j ?_
 simp[List.getElem?_eq_getElem c,List.getD_eq_getElem?_getD]
theorem dF.set {w:World}{g:Nat}{W:List Int}(h:dF w g W) (j:Nat) (x:Int):dF (w.setCell ⟨g,j,none⟩ (.int .i64 x)) g (W.set j x):=by
 have:=cH h j (.int .i64 x)
 rw[dF,List.map_set];exact this
theorem dF.keep {w w':World}{g:Nat}{W:List Int}(h:dF w g W) (hk:w'.heap[g]?=w.heap[g]?):dF w' g W:=by rw[dF,hk];exact h
theorem qQ {w:World}{g n cap:Nat}{W:List Int}(I:Hid (n=W.length)) (U:n≤1000000) (r:dF w g W) :
    Calls Tryz.prog 77 #[.slice (some ⟨g,0,none⟩) n cap,.int .i64 0] w fun e w'=>w'=w/\((∃k:Nat,e=.returned (.int .i64 (k:Int))/\k<n/\W.getD k 0=0/\∀j,j<k->W.getD j 0≠0)\/(e=.returned (.int .i64 (-1))/\∀j,j<n->W.getD j 0≠0)):=by
 have D:Hid (dF w g W):=r
 clear r
 go_enter Tryz.func77,Tryz.ntmps77
 go_wp2_with fail
 go_loopg [8] n (fun f i wr=>∃k:Nat,f=n-k/\k≤n/\i=.int .i64 (k:Int)/\Hid (wr=w/\∀j,j<k->W.getD j 0≠0))
 case atStart=>exact ⟨0,by omega,by omega,rfl,rfl,fun j s=>absurd s (by omega)⟩
 case round=>
  obtain ⟨k,rfl,X,rfl,l⟩:=hrel
  obtain ⟨y,c⟩:=l.out
  subst y
  have h:Hid (∀j,j<k->W.getD j 0≠0):=c
  clear l c
  by_cases hlt:k<n
  ·have u:=zE (some ⟨g,0,none⟩) g n cap k hlt (fun _=>rfl)
   have J:=D.out.cell k (by rw[<-I.out];exact hlt)
   obtain ⟨x,hx⟩:∃x,x=W.getD k 0:=⟨_,rfl⟩
   rw[<-hx] at J
   have HX:Hid _:=hx
   clear hx
   by_cases h0:x=0
   ·subst h0
    go_wp2_with fail
    go_ret
    exact ⟨rfl,.inl ⟨k,rfl,hlt,HX.out.symm,h.out⟩⟩
   ·have Y:((0:Int)==x)=false:=by simp;omega
    have O:decide ((0:Int)=x)=false:=by simp;omega
    have Q:¬(0:Int)=x:=by omega
    have H0:Hid _:=h0
    clear h0
    go_wp2_with fail
    go_roundg (n-(k+1))
    case measure=>omega
    case rel=>
     refine ⟨k+1,rfl,by omega,by go_num,rfl,fun j s=>?_⟩
     by_cases e:j=k
     ·subst e;rw[<-HX.out];exact H0.out
     ·exact h.out j (by omega)
  ·obtain rfl:k=n:=by omega
   go_wp2_with fail
   go_ret
   exact ⟨rfl,.inr ⟨rfl,h.out⟩⟩
def E5 (w:World) (g n:Nat) (ns:List bE):Prop:=n=ns.length/\∀i,i<n->w.cell? ⟨g,i*9,none⟩=some (sv (ns.getD i []))/\(ns.getD i []).length≤maxLen
theorem oU {w:World}{ad:Option Addr}{g n cap:Nat}{ns:List bE}(u:0<n->ad=some ⟨g,0,none⟩) (s:n≤1000000) (j:E5 w g n ns) :
    Calls Tryz.prog 152 #[.slice ad n cap] w fun e w'=>∃f,e=.returned f/\Zw w' f ns/\Below w.heap.size w w':=by
 have y:∀(fn:Fn) (first cap:Array Value) (w:World),(Instr.makeFunc fn first cap).run Tryz.prog w=.ok (.func fn first cap) w:=fun _ _ _ _=>rfl
 have hb:=aX w (.cells #[.slice ad n cap] 174)
 have c:=zC 197 (.inr rfl) w.heap.size ns n j.1 s (fun i h=>(j.2 i h).2) (w.alloc (.cells #[.slice ad n cap] 174)) (fun X i l h=>
  Ev (aN l (aF hb 0 rfl)) h u (aN l (aN (aL w _) (j.2 i h).1)))
 clear hb j
 go_enter Tryz.func152,Tryz.ntmps152
 go_wp2_with (refine c.mono ?_;rintro e w' ⟨f,rfl,k⟩;have r:Hid _:=k;clear k)
 go_ret
 exact ⟨f,rfl,r.out.1,aQ (aL w _) r.out.2⟩
def vQ (w:World) (gy:Nat) (ys:List Wy):Prop:=∀m y,ys[m]?=some y->∃p q,w.cell? ⟨gy,m*7,none⟩=some (.int .i64 y.kind)/\w.cell? ⟨gy,m*7+1,none⟩=some (.bool y.now)/\w.cell? ⟨gy,m*7+2,none⟩=some (.pointer p)/\w.cell? ⟨gy,m*7+3,none⟩=some (.int .i64 y.times)/\w.cell? ⟨gy,m*7+4,none⟩=some q/\w.cell? ⟨gy,m*7+5,none⟩=some (sv y.to)/\w.cell? ⟨gy,m*7+6,none⟩=some (.bool y.back)/\(∃a n c,q=.slice a n c)/\y.to.length≤maxLen
theorem Cg {w:World}{ad ay:Option Addr}{g gy n N cap J i rb fb Q r pb mb nm:Nat}{ns:List bE}{u:List Wy}{W:List Int}(l:Int) (hi:i<n) (ha:0<n->ad=some ⟨g,0,none⟩) (hN:Hid (N=u.length)) (bb:N≤1000000) (hn:Hid (n=W.length/\∀s t,jT ns s=some t->t<n))
    (ax:w.cell? ⟨rb,0,none⟩=some (.slice ad n cap)) (ae:w.cell? ⟨fb,0,none⟩=some (.func (.func 112) #[] #[.pointer (some ⟨pb,0,none⟩)])) (ag:w.cell? ⟨Q,0,none⟩=some (.slice (some ⟨r,0,none⟩) n n))
    (Y:w.heap[pb]?=some (.cells #[.map (some mb)] 177 (0,0))) (aj:iD w mb nm (jT ns)) (hW:dF w r W)
    (hy:w.cell? ⟨g,i*9+7,none⟩=some (.slice ay N J)) (al:0<N->ay=some ⟨gy,0,none⟩/\gy<w.heap.size) (aa:vQ w gy u) (hd:Hid (r≠fb/\r≠Q/\r≠pb/\r≠mb/\(0<N->r≠gy)))
    (aw:Hid (∀m j,m≤N->-4611686018427387904≤(jJ n l (pC ns u) m W).getD j 0/\(jJ n l (pC ns u) m W).getD j 0≤4611686018427387904)) :
    Calls Tryz.prog 201 #[.int .i64 (i:Int),.int .i64 l,.pointer (some ⟨rb,0,none⟩),.pointer (some ⟨fb,0,none⟩),.pointer (some ⟨Q,0,none⟩)] w fun e w'=>e=.returned (.tuple #[])/\dF w' r (jJ n l (pC ns u) N W)/\Fr w.heap.size [r] w w':=by
 have ap:=Xo ad g n cap i hi ha
 have HW:Hid (dF w r W):=hW
 have HY:Hid (vQ w gy u):=aa
 have HM:Hid (iD w mb nm (jT ns)):=aj
 have HP:Hid (w.heap[pb]?=some (.cells #[.map (some mb)] 177 (0,0))):=Y
 have HF:Hid (w.cell? ⟨fb,0,none⟩=some (.func (.func 112) #[] #[.pointer (some ⟨pb,0,none⟩)])/\w.cell? ⟨Q,0,none⟩=some (.slice (some ⟨r,0,none⟩) n n)):=⟨ae,ag⟩
 have HA:Hid (0<N->ay=some ⟨gy,0,none⟩/\gy<w.heap.size):=al
 clear hW aa aj Y ae ag al
 go_enter Tryz.func201,Tryz.ntmps201
 go_wp2_with fail
 clear ap ax hy
 go_loopg [16] N (fun f i wr=>∃k:Nat,f=N-k/\k≤N/\i=.int .i64 (k:Int)/\Hid (dF wr r (jJ n l (pC ns u) k W)/\Fr w.heap.size [r] w wr))
 case atStart=>exact ⟨0,by omega,by omega,rfl,HW.out,Fr.refl _ _ _⟩
 case round=>
  obtain ⟨k,rfl,hk,rfl,I⟩:=hrel
  by_cases hlt:k<N
  ·obtain ⟨y,an⟩:∃y,Hid (u[k]?=some y):=⟨u[k]'(by rw[<-hN.out];exact hlt),by rw[Hid,aN3]⟩
   obtain ⟨p,q,c0,c1,c2,c3,c4,c5,c6,⟨qa,qn,qc,rfl⟩,ar⟩:=HY.out k y an.out
   obtain ⟨d1,d2,d3,d4,d5⟩:=hd.out
   have ah:=(HA.out (by omega)).2
   have ey:wr.heap[gy]?=w.heap[gy]?:=I.out.2.block gy ah (by simpa using fun e=>d5 (by omega) e.symm)
   have ec:∀o,wr.cell? ⟨gy,o,none⟩=w.cell? ⟨gy,o,none⟩:=fun o=>aY4 (w:=w) (a:=⟨gy,o,none⟩) ey
   rw[<-ec] at c0 c1 c2 c3 c4 c5 c6
   have az:=wO ay gy N J k hlt (fun h=>(HA.out h).1)
   have au:fb<w.heap.size:=aY3 w _ HF.out.1
   have av:Q<w.heap.size:=aY3 w _ HF.out.2
   have cf:wr.cell? ⟨fb,0,none⟩=some (.func (.func 112) #[] #[.pointer (some ⟨pb,0,none⟩)]):=by
    rw[I.out.2.cell (p:=⟨fb,0,none⟩) au (by simpa using fun e=>d1 e.symm)];exact HF.out.1
   have cw:wr.cell? ⟨Q,0,none⟩=some (.slice (some ⟨r,0,none⟩) n n):=by
    rw[I.out.2.cell (p:=⟨Q,0,none⟩) av (by simpa using fun e=>d2 e.symm)];exact HF.out.2
   have Z:wr.heap[pb]?=some (.cells #[.map (some mb)] 177 (0,0)):=by
    rw[I.out.2.block pb (aB HP.out) (by simpa using fun e=>d3 e.symm)];exact HP.out
   have ab:iD wr mb nm (jT ns):=HM.out.keep (I.out.2.block mb HM.out.lt (by simpa using fun e=>d4 e.symm))
   obtain ⟨O,am⟩:∃O,Hid (O=Obj.cells #[.int .i64 y.kind,.bool y.now,.pointer p,.int .i64 y.times,.slice qa qn qc,sv y.to,.bool y.back] 273):=⟨_,rfl⟩
   have c:Calls Tryz.prog 112 #[sv y.to,.pointer (some ⟨pb,0,none⟩)] (wr.alloc O) fun e w'=>e=.returned (.int .i64 (eG ns y.to))/\w'=wr.alloc O:=nG (eB Z) (ab.below (aL wr _)) ar
   have ak:dF (wr.alloc O) r (jJ n l (pC ns u) k W):=eB I.out.1
   have ac:Fr w.heap.size [r] w (wr.alloc O):=I.out.2.alloc I.out.2.size _
   have H1:Hid (dF (wr.alloc O) r (jJ n l (pC ns u) k W)/\Fr w.heap.size [r] w (wr.alloc O)):=⟨ak,ac⟩
   rw[am.out] at c H1
   clear ey ec Z ab ak ac I am d1 d2 d3 d4 d5 ah
   obtain ⟨b0,ai⟩:∃b,Hid (y.now=b):=⟨_,rfl⟩
   rw[ai.out] at c1 c H1
   have X:=Vy ns u k y an.out
   rw[ai.out] at X
   have D:Hid _:=X
   clear X
   obtain ⟨S,hS⟩:∃S,sv y.to=.string S:=⟨_,rfl⟩
   rw[hS] at c5 c H1
   clear hS
   have be:=aN (aL wr (.cells #[.int .i64 y.kind,.bool b0,.pointer p,.int .i64 y.times,.slice qa qn qc,.string S,.bool y.back] 273)) cf
   clear cf
   cases b0 with
   | false=>
    obtain ⟨t9,ao⟩:∃t,t=eG ns y.to:=⟨_,rfl⟩
    rw[<-ao] at c
    clear ao
    go_wp2_with (refine c.mono ?_;rintro e w' ⟨rfl,rfl⟩)
    go_roundg (N-(k+1))
    case measure=>omega
    case rel=>
     refine ⟨k+1,rfl,by omega,by go_num,?_⟩
     rw[Hid,jJ,D.out]
     exact H1.out
   | true=>
    cases hf:jT ns y.to with
    | none=>
     have e:eG ns y.to=-1:=by unfold eG;rw[hf]
     rw[e] at c
     rw[hf] at D
     clear hf e
     go_wp2_with (refine c.mono ?_;rintro e w' ⟨rfl,rfl⟩)
     go_roundg (N-(k+1))
     case measure=>omega
     case rel=>
      refine ⟨k+1,rfl,by omega,by go_num,?_⟩
      rw[Hid,jJ,D.out]
      exact H1.out
    | some t=>
     have e:eG ns y.to=(t:Int):=by unfold eG;rw[hf]
     rw[e] at c
     have U:t<n:=hn.out.2 _ _ hf
     rw[hf] at D
     clear hf e
     have bf:(0:Int)≤(t:Int):=by omega
     have ba:=zE (some ⟨r,0,none⟩) r n n t U (fun _=>rfl)
     obtain ⟨x,hx⟩:∃x,x=(jJ n l (pC ns u) k W).getD t 0:=⟨_,rfl⟩
     have cx:=H1.out.1.cell t (by rw[mG,<-hn.out.1];exact U)
     rw[<-hx] at cx
     have cz:=aG H1.out.1 t
     have hb:=aw.out (k+1) t hlt
     have af:(jJ n l (pC ns u) (k+1) W).getD t 0=x+l:=by
      rw[jJ,D.out]
      show ((jJ n l (pC ns u) k W).set t _).getD t 0=_
      rw[iO,aX2,if_pos rfl,mG,if_pos (by rw[<-hn.out.1];exact U),<-hx];rfl
     rw[af] at hb
     have bg:IntKind.i64.wrap (x+l)=x+l:=by rw[IntKind.wrap_i64];omega
     have bc:=aN (aL wr (.cells #[.int .i64 y.kind,.bool true,.pointer p,.int .i64 y.times,.slice qa qn qc,.string S,.bool y.back] 273)) cw
     have HX:Hid (x=(jJ n l (pC ns u) k W).getD t 0):=hx
     clear hx hb af cw
     go_wp2_with (refine c.mono ?_;rintro e w' ⟨rfl,rfl⟩)
     go_roundg (N-(k+1))
     case measure=>omega
     case rel=>
      refine ⟨k+1,rfl,by omega,by go_num,?_⟩
      rw[Hid,jJ,D.out]
      show dF _ r ((jJ n l (pC ns u) k W).set t ((jJ n l (pC ns u) k W).getD t 0+l))/\_
      rw[<-HX.out]
      exact ⟨H1.out.1.set t _,H1.out.2.setCell (.inr (by simp)) _⟩
  ·obtain rfl:k=N:=by omega
   go_wp2_with fail
   go_end0
   exact ⟨rfl,I.out⟩
end
section
open Go.RowKit Px
def lookV (fb kb:Nat):Value:=.func (.func 227) #[] #[.pointer (some ⟨fb,0,none⟩),.pointer (some ⟨kb,0,none⟩)]
structure gK (w:World) (fb kb ck pb mb nm:Nat) (ns:List bE) (b:Bool):Prop where
 found:w.heap[fb]?=some (.cells #[.bool b] 4 (0,0))
 hkb:w.cell? ⟨kb,0,none⟩=some (.pointer (some ⟨ck,0,none⟩))
 hck:w.cell? ⟨ck,1,none⟩=some (.func (.func 112) #[] #[.pointer (some ⟨pb,0,none⟩)])
 hpb:w.heap[pb]?=some (.cells #[.map (some mb)] 177 (0,0))
 hmb:iD w mb nm (jT ns)
 ne:fb≠kb/\fb≠ck/\fb≠pb/\fb≠mb
theorem gK.fr {w w':World}{fb kb ck pb mb nm:Nat}{ns:List bE}{b b':Bool}(h:gK w fb kb ck pb mb nm ns b) (c:Fr w.heap.size [fb] w w') (k:w'.heap[fb]?=some (.cells #[.bool b'] 4 (0,0))):gK w' fb kb ck pb mb nm ns b':=by
 obtain ⟨l,s,n,r⟩:=h.ne
 have j:∀{x o:Nat}{v:Value},fb≠x->w.cell? ⟨x,o,none⟩=some v->w'.cell? ⟨x,o,none⟩=some v:=fun {x o v} hb hv=>by
  rw[c.cell (p:=⟨x,o,none⟩) (aY3 w _ hv) (by simpa using Ne.symm hb)];exact hv
 exact ⟨k,j l h.hkb,j s h.hck,by rw[c.block pb (aB h.hpb) (by simpa using Ne.symm n)];exact h.hpb,h.hmb.keep (c.block mb h.hmb.lt (by simpa using Ne.symm r)),h.ne⟩
theorem gK.below {w w':World}{fb kb ck pb mb nm:Nat}{ns:List bE}{b:Bool}(h:gK w fb kb ck pb mb nm ns b) (hb:Below w.heap.size w w'):gK w' fb kb ck pb mb nm ns b:=
 h.fr (Fr.of_below hb _) (aD hb h.found)
theorem Rn {w:World}{fb kb ck pb mb nm:Nat}{ns:List bE}{b:Bool}{s:bE}(h:gK w fb kb ck pb mb nm ns b) (j:s.length≤maxLen) :
    Calls Tryz.prog 227 #[sv s,.pointer (some ⟨fb,0,none⟩),.pointer (some ⟨kb,0,none⟩)] w fun e w'=>e=.returned (.int .i64 0)/\w'=w.setCell ⟨fb,0,none⟩ (.bool (b||(jT ns s).isNone)):=by
 have c0:=aF h.found 0 (u:=.bool b) rfl
 have z0:=aG h.found 0
 have c1:=h.hkb
 have c2:=h.hck
 have c:=nG h.hpb h.hmb j
 clear h
 generalize sv s=S at c ⊢
 cases b with
 | true=>
  go_enter Tryz.func227,Tryz.ntmps227
  go_wp2_with fail
  go_ret
  exact ⟨rfl,rfl⟩
 | false=>
  cases hf:jT ns s with
  | none=>
   have e:eG ns s=-1:=by unfold eG;rw[hf]
   rw[e] at c
   clear e hf
   go_enter Tryz.func227,Tryz.ntmps227
   go_wp2_with (go_at_call 112;refine c.mono ?_;rintro e w' ⟨rfl,rfl⟩)
   go_ret
   exact ⟨rfl,rfl⟩
  | some i=>
   have e:eG ns s=(i:Int):=by unfold eG;rw[hf]
   rw[e] at c
   have k:¬(i:Int)<0:=by omega
   clear e hf
   go_enter Tryz.func227,Tryz.ntmps227
   go_wp2_with (go_at_call 112;refine c.mono ?_;rintro e w' ⟨rfl,rfl⟩)
   go_ret
   exact ⟨rfl,rfl⟩
theorem Uk (p:Addr) (w:World) :
    CallsD Tryz.prog 251 #[.pointer (some p)] .returning w fun e u' w'=>e=.returned (.tuple #[])/\u'=.returning/\w'=w:=by
 refine callsD_of_wpS Tryz.func251 rfl fun h cs c=>?_
 apply wpS_seq
 apply wpS_region
 simp[wpOpsS,go_sem,recoverD,c,Tryz.ntmps251,Exit.thenS]
 refine wpS_cond (t:=false) (by simp[Act.eval,Array.replicate]) ?_
 simp only[Bool.false_eq_true,if_false]
 refine wpS_of_wp (wp_skip ?_)
 cases h
 simp_all [bodyPostS,results,Tryz.results251]
theorem Ng (x y:Value) (w:World):(binOp BinOp.eql 298 (.func (.func 227) #[] #[x,y]) .nilFunc).run Tryz.prog w=.ok (.bool false) w:=by kernel_rfl
theorem xI {w:World}{fb kb ck pb mb nm:Nat}{ns:List bE}{b:Bool}{s:bE}(h:gK w fb kb ck pb mb nm ns b) (I:s.length≤maxLen) :
    Calls Tryz.prog 243 #[lookV fb kb,sv s] w fun e w'=>e=.returned (.int .i64 0)/\Hid (Fr w.heap.size [fb] w w'/\gK w' fb kb ck pb mb nm ns (b||(jT ns s).isNone)):=by
 have O:∀(fn:Fn) (first cap:Array Value) (w:World),(Instr.makeFunc fn first cap).run Tryz.prog w=.ok (.func fn first cap) w:=fun _ _ _ _=>rfl
 have Q:=Ng
 have u:Hid _:=h
 have c:=Rn (h.below (aL w (.cells #[.int .i64 0] 2))) I
 have D:=aB h.found
 clear h
 unfold lookV
 obtain ⟨j,n⟩:∃j,j=(b||(jT ns s).isNone):=⟨_,rfl⟩
 rw[<-n] at c ⊢
 clear n
 generalize sv s=S at c ⊢
 go_enter_defers Tryz.func243,Tryz.ntmps243
 go_wp2_with (refine c.mono ?_;rintro e w' ⟨rfl,rfl⟩)
 refine leaves_cons (f:=251) (args:=#[.pointer (some ⟨w.heap.size,0,none⟩)]) (by simp) (by simp[go_sem]) ?_
 refine (Uk ⟨w.heap.size,0,none⟩ _).mono ?_
 rintro e U J ⟨rfl,rfl,rfl⟩
 have y:Fr w.heap.size [fb] w ((w.setCell ⟨fb,0,none⟩ (.bool j)).alloc (.cells #[.int .i64 0] 2)):=((Fr.refl _ _ _).setCell (.inr (by simp)) _).alloc (by simp[World.setCell]) _
 have r:((w.setCell ⟨fb,0,none⟩ (.bool j)).alloc (.cells #[.int .i64 0] 2)).heap[fb]?=some (.cells #[.bool j] 4 (0,0)):=eB (cH (l:=[.bool b]) u.out.found 0 (.bool j))
 have k:Hid (_/\_):=⟨y,u.out.fr y r⟩
 simp[Leaves,settle,results,Tryz.results243,go_sem,World.setCell]
 exact k
end
section
open Go.RowKit
def Dc (b:Bool):Int:=if b then 1 else 0
def Js (c a:Int):Int:=if c=4 then wrap64 (-a) else if c=5 then Dc (a==0) else 0
def aA4 (a b:Int):Int:=if b=0 then 0 else wrap64 (a.tdiv b)
def aA3 (a b:Int):Int:=if b=0 then 0 else a.tmod b
def Jr (c a b:Int):Int:=
 if c=6 then wrap64 (a+b) else
 if c=7 then wrap64 (a-b) else
 if c=8 then wrap64 (a*b) else
 if c=9 then aA4 a b else
 if c=10 then aA3 a b else
 if c=11 then Dc (a==b) else
 if c=12 then Dc (a != b) else
 if c=13 then Dc (decide (a<b)) else
 if c=14 then Dc (decide (a≤b)) else
 if c=15 then Dc (a != 0&&b != 0) else
 if c=16 then Dc (a != 0||b != 0) else 0
def C4 (a b c:Int):Int:=if a=0 then c else b
end
section
open Go.RowKit
theorem iR (b:Bool) (w:World) :
    Calls Tryz.prog 165 #[.bool b] w fun e w'=>e=.returned (.int .i64 (Dc b))/\w'=w:=by
 cases b
 all_goals
  go_enter Tryz.func165,Tryz.ntmps165
  go_wp2
  go_ret
  exact ⟨rfl,rfl⟩
theorem xJ (a b:Int) (w:World) :
    Calls Tryz.prog 166 #[.int .i64 a,.int .i64 b] w fun e w'=>e=.returned (.int .i64 (wrap64 (a+b)))/\w'=w:=by
 go_enter Tryz.func166,Tryz.ntmps166
 go_wp2
 go_ret
 exact ⟨rfl,rfl⟩
theorem Wb (a b:Int) (w:World) :
    Calls Tryz.prog 167 #[.int .i64 a,.int .i64 b] w fun e w'=>e=.returned (.int .i64 (wrap64 (a-b)))/\w'=w:=by
 go_enter Tryz.func167,Tryz.ntmps167
 go_wp2
 go_ret
 exact ⟨rfl,rfl⟩
theorem Xk (a b:Int) (w:World) :
    Calls Tryz.prog 168 #[.int .i64 a,.int .i64 b] w fun e w'=>e=.returned (.int .i64 (wrap64 (a*b)))/\w'=w:=by
 go_enter Tryz.func168,Tryz.ntmps168
 go_wp2
 go_ret
 exact ⟨rfl,rfl⟩
theorem K9 (a b:Int) (w:World) :
    Calls Tryz.prog 169 #[.int .i64 a,.int .i64 b] w fun e w'=>e=.returned (.int .i64 (aA4 a b))/\w'=w:=by
 by_cases h:b=0
 ·subst h
  go_enter Tryz.func169,Tryz.ntmps169
  go_wp2
  go_ret
  exact ⟨rfl,rfl⟩
 ·have e:aA4 a b=wrap64 (a.tdiv b):=if_neg h
  have E:Hid _:=e
  clear e
  have hb:(b==0)=false:=by simpa using h
  go_enter Tryz.func169,Tryz.ntmps169
  go_wp2
  go_ret
  exact ⟨by rw[E.out];rfl,rfl⟩
theorem Pu (a b:Int) (w:World) :
    Calls Tryz.prog 170 #[.int .i64 a,.int .i64 b] w fun e w'=>e=.returned (.int .i64 (aA3 a b))/\w'=w:=by
 by_cases h:b=0
 ·subst h
  go_enter Tryz.func170,Tryz.ntmps170
  go_wp2
  go_ret
  exact ⟨rfl,rfl⟩
 ·have E:Hid (aA3 a b=a.tmod b):=if_neg h
  have hb:(b==0)=false:=by simpa using h
  go_enter Tryz.func170,Tryz.ntmps170
  go_wp2
  go_ret
  exact ⟨by rw[E.out];rfl,rfl⟩
theorem aF6 (a b:Int) (w:World) :
    Calls Tryz.prog 171 #[.int .i64 a,.int .i64 b] w fun e w'=>e=.returned (.int .i64 (Dc (a==b)))/\w'=w:=by
 go_enter Tryz.func171,Tryz.ntmps171
 go_wp2_with (go_at_call 165;refine (iR _ _).mono ?_;rintro e w' ⟨rfl,rfl⟩)
 go_ret
 exact ⟨rfl,rfl⟩
theorem aC9 (a b:Int) (w:World) :
    Calls Tryz.prog 172 #[.int .i64 a,.int .i64 b] w fun e w'=>e=.returned (.int .i64 (Dc (a != b)))/\w'=w:=by
 go_enter Tryz.func172,Tryz.ntmps172
 go_wp2_with (go_at_call 165;refine (iR _ _).mono ?_;rintro e w' ⟨rfl,rfl⟩)
 go_ret
 exact ⟨rfl,rfl⟩
theorem aD3 (a b:Int) (w:World) :
    Calls Tryz.prog 173 #[.int .i64 a,.int .i64 b] w fun e w'=>e=.returned (.int .i64 (Dc (decide (a<b))))/\w'=w:=by
 go_enter Tryz.func173,Tryz.ntmps173
 go_wp2_with (go_at_call 165;refine (iR _ _).mono ?_;rintro e w' ⟨rfl,rfl⟩)
 go_ret
 exact ⟨rfl,rfl⟩
theorem aD8 (a b:Int) (w:World) :
    Calls Tryz.prog 174 #[.int .i64 a,.int .i64 b] w fun e w'=>e=.returned (.int .i64 (Dc (decide (a≤b))))/\w'=w:=by
 go_enter Tryz.func174,Tryz.ntmps174
 go_wp2_with (go_at_call 165;refine (iR _ _).mono ?_;rintro e w' ⟨rfl,rfl⟩)
 go_ret
 exact ⟨rfl,rfl⟩
theorem tW (a b:Int) (w:World) :
    Calls Tryz.prog 175 #[.int .i64 a,.int .i64 b] w fun e w'=>e=.returned (.int .i64 (Dc (a != 0&&b != 0)))/\w'=w:=by
 by_cases h:a=0
 ·subst h
  go_enter Tryz.func175,Tryz.ntmps175
  go_wp2_with (go_at_call 165;refine (iR _ _).mono ?_;rintro e w' ⟨rfl,rfl⟩)
  go_ret
  exact ⟨rfl,rfl⟩
 ·have c:(a != 0)=true:=by simpa using h
  go_enter Tryz.func175,Tryz.ntmps175
  go_wp2_with (go_at_call 165;refine (iR _ _).mono ?_;rintro e w' ⟨rfl,rfl⟩)
  go_ret
  exact ⟨by rw[c];rfl,rfl⟩
theorem pS (a b:Int) (w:World) :
    Calls Tryz.prog 176 #[.int .i64 a,.int .i64 b] w fun e w'=>e=.returned (.int .i64 (Dc (a != 0||b != 0)))/\w'=w:=by
 by_cases h:a=0
 ·subst h
  go_enter Tryz.func176,Tryz.ntmps176
  go_wp2_with (go_at_call 165;refine (iR _ _).mono ?_;rintro e w' ⟨rfl,rfl⟩)
  go_ret
  exact ⟨rfl,rfl⟩
 ·have c:(a != 0)=true:=by simpa using h
  go_enter Tryz.func176,Tryz.ntmps176
  go_wp2_with (go_at_call 165;refine (iR _ _).mono ?_;rintro e w' ⟨rfl,rfl⟩)
  go_ret
  exact ⟨by rw[c];rfl,rfl⟩
theorem Hw (c a:Int) (w:World) :
    Calls Tryz.prog 123 #[.int .i64 c,.int .i64 a] w fun e w'=>e=.returned (.int .i64 (Js c a))/\w'=w:=by
 by_cases h4:c=4
 ·subst h4
  go_enter Tryz.func123,Tryz.ntmps123
  go_wp2
  go_ret
  exact ⟨rfl,rfl⟩
 ·by_cases h5:c=5
  ·subst h5
   go_enter Tryz.func123,Tryz.ntmps123
   go_wp2_with (go_at_call 165;refine (iR _ _).mono ?_;rintro e w' ⟨rfl,rfl⟩)
   go_ret
   exact ⟨rfl,rfl⟩
  ·have E:Hid (Js c a=0):=by unfold Hid Js;rw[if_neg h4,if_neg h5]
   have b4:(c==4)=false:=by simpa using h4
   have b5:(c==5)=false:=by simpa using h5
   go_enter Tryz.func123,Tryz.ntmps123
   go_wp2
   go_ret
   exact ⟨by rw[E.out];rfl,rfl⟩
theorem Qg (a b c:Int) (w:World) :
    Calls Tryz.prog 124 #[.int .i64 a,.int .i64 b,.int .i64 c] w fun e w'=>e=.returned (.int .i64 (C4 a b c))/\w'=w:=by
 by_cases h:a=0
 ·subst h
  go_enter Tryz.func124,Tryz.ntmps124
  go_wp2
  go_ret
  exact ⟨rfl,rfl⟩
 ·have E:Hid (C4 a b c=b):=by unfold Hid C4;rw[if_neg h]
  have b4:(a != 0)=true:=by simpa using h
  go_enter Tryz.func124,Tryz.ntmps124
  go_wp2
  go_ret
  exact ⟨by rw[E.out];rfl,rfl⟩
end
section
open Go.RowKit
theorem lW (w:World) (a b:Array Value) (t:TypeId):(w.alloc (.cells a t)).setRow w.heap.size b=w.alloc (.cells b t):=by
 unfold World.setRow World.alloc
 congr 1
 apply Array.ext
 ·simp
 ·intro k h c
  simp only[Array.getElem_modify,Array.getElem_push]
  split
  ·rename_i hk;subst hk;simp
  ·rename_i hk;have:k<w.heap.size:=by simp at c;omega
   simp[this]
def asked:Array Value:=#[.nilFunc,.nilFunc,.nilFunc,.nilFunc,.nilFunc,.nilFunc,.func (.func 166) #[] #[],.func (.func 167) #[] #[],.func (.func 168) #[] #[],.func (.func 169) #[] #[],.func (.func 170) #[] #[],.func (.func 171) #[] #[],.func (.func 172) #[] #[],.func (.func 173) #[] #[],.func (.func 174) #[] #[],.func (.func 175) #[] #[],.func (.func 176) #[] #[]]
theorem qY:(Array.all asked fun x=>x.oneCell')=true:=by kernel_rfl
theorem oN:(Tryz.prog.info? 247).map (·.size)=some asked.size:=by kernel_rfl
theorem zN (w:World) (j:Nat) (v:Value) (h:asked[j]?=some v):(w.alloc (.cells asked 247)).cell? ⟨w.heap.size,j,none⟩=some v:=by
 have e:=(MapKept.heap_alloc w (.cells asked 247)).1
 simp only[World.cell?,e]
 exact h
theorem Xi (k:Nat) (w:World):(binOp BinOp.eql 246 (.func (.func k) #[] #[]) .nilFunc).run Tryz.prog w=.ok (.bool false) w:=by kernel_rfl
theorem aF5 (w:World):(binOp BinOp.eql 246 .nilFunc .nilFunc).run Tryz.prog w=.ok (.bool true) w:=by kernel_rfl
theorem iJ (c:Int) (k:Nat) (a b r:Int) (w:World) (u:0≤c) (s:c<17) (l:asked[c.toNat]?=some (.func (.func k) #[] #[]))
    (j:k=166\/k=167\/k=168\/k=169\/k=170\/k=171\/k=172\/k=173\/k=174\/k=175\/k=176)
    (h:∀w,Calls Tryz.prog k #[.int .i64 a,.int .i64 b] w fun e w'=>e=.returned (.int .i64 r)/\w'=w) :
    Calls Tryz.prog 125 #[.int .i64 c,.int .i64 a,.int .i64 b] w fun e w'=>e=.returned (.int .i64 r)/\w'=w.alloc (.cells asked 247):=by
 have n:=Xi
 have y:=zN w c.toNat _ l
 clear l
 rcases j with rfl|rfl|rfl|rfl|rfl|rfl|rfl|rfl|rfl|rfl|rfl
 all_goals
  go_enter Tryz.func125,Tryz.ntmps125
  go_wp2_with (first|(refine wpList_store_row rfl 247 _ _ rfl w.heap.size asked rfl rfl 247 _ (MapKept.heap_alloc w _).1 oN rfl qY ?_;rw[lW])|(refine (h _).mono ?_;rintro e w' ⟨rfl,rfl⟩))
  go_ret
  exact ⟨rfl,rfl⟩
theorem Vw (c:Int) (a b:Int) (w:World) (k:0≤c) (j:c<17) (h:asked[c.toNat]?=some .nilFunc) :
    Calls Tryz.prog 125 #[.int .i64 c,.int .i64 a,.int .i64 b] w fun e w'=>e=.returned (.int .i64 0)/\w'=w.alloc (.cells asked 247):=by
 have n:=aF5
 have l:=zN w c.toNat _ h
 clear h
 go_enter Tryz.func125,Tryz.ntmps125
 go_wp2_with (refine wpList_store_row rfl 247 _ _ rfl w.heap.size asked rfl rfl 247 _ (MapKept.heap_alloc w _).1 oN rfl qY ?_;rw[lW])
 go_ret
 exact ⟨rfl,rfl⟩
theorem Vx (c:Int) (a b:Int) (w:World) (h:c<0) :
    Calls Tryz.prog 125 #[.int .i64 c,.int .i64 a,.int .i64 b] w fun e w'=>e=.returned (.int .i64 0)/\w'=w.alloc (.cells asked 247):=by
 go_enter Tryz.func125,Tryz.ntmps125
 go_wp2_with (refine wpList_store_row rfl 247 _ _ rfl w.heap.size asked rfl rfl 247 _ (MapKept.heap_alloc w _).1 oN rfl qY ?_;rw[lW])
 go_ret
 exact ⟨rfl,rfl⟩
theorem Ot (c:Int) (a b:Int) (w:World) (h:17≤c) :
    Calls Tryz.prog 125 #[.int .i64 c,.int .i64 a,.int .i64 b] w fun e w'=>e=.returned (.int .i64 0)/\w'=w.alloc (.cells asked 247):=by
 go_enter Tryz.func125,Tryz.ntmps125
 go_wp2_with (refine wpList_store_row rfl 247 _ _ rfl w.heap.size asked rfl rfl 247 _ (MapKept.heap_alloc w _).1 oN rfl qY ?_;rw[lW])
 go_ret
 exact ⟨rfl,rfl⟩
end
section
open Go.RowKit
theorem uJ {c:Int}(h:∀k:Int,6≤k->k≤16->c≠k) (a b:Int):Jr c a b=0:=by
 unfold Jr
 rw[if_neg (h 6 (by omega) (by omega)),if_neg (h 7 (by omega) (by omega)),if_neg (h 8 (by omega) (by omega)),if_neg (h 9 (by omega) (by omega)),if_neg (h 10 (by omega) (by omega)),if_neg (h 11 (by omega) (by omega)),if_neg (h 12 (by omega) (by omega)),if_neg (h 13 (by omega) (by omega)),if_neg (h 14 (by omega) (by omega)),if_neg (h 15 (by omega) (by omega)),if_neg (h 16 (by omega) (by omega))]
theorem Nq (c:Int) (k:0≤c) (j:c<6):asked[c.toNat]?=some .nilFunc:=by
 have h:c=0\/c=1\/c=2\/c=3\/c=4\/c=5:=by omega
 rcases h with rfl|rfl|rfl|rfl|rfl|rfl<;>rfl
theorem Hk (c a b:Int) (w:World) :
    Calls Tryz.prog 125 #[.int .i64 c,.int .i64 a,.int .i64 b] w fun e w'=>e=.returned (.int .i64 (Jr c a b))/\w'=w.alloc (.cells asked 247):=by
 by_cases h0:c<0
 ·rw[uJ (fun k j _=>by omega)]
  exact Vx c a b w h0
 by_cases h1:17≤c
 ·rw[uJ (fun k _ j=>by omega)]
  exact Ot c a b w h1
 by_cases h2:c<6
 ·rw[uJ (fun k j _=>by omega)]
  exact Vw c a b w (by omega) (by omega) (Nq c (by omega) h2)
 have h:c=6\/c=7\/c=8\/c=9\/c=10\/c=11\/c=12\/c=13\/c=14\/c=15\/c=16:=by omega
 clear h0 h1 h2
 rcases h with rfl|rfl|rfl|rfl|rfl|rfl|rfl|rfl|rfl|rfl|rfl
 ·exact iJ 6 166 a b _ w (by omega) (by omega) rfl (by omega) (xJ a b)
 ·exact iJ 7 167 a b _ w (by omega) (by omega) rfl (by omega) (Wb a b)
 ·exact iJ 8 168 a b _ w (by omega) (by omega) rfl (by omega) (Xk a b)
 ·exact iJ 9 169 a b _ w (by omega) (by omega) rfl (by omega) (K9 a b)
 ·exact iJ 10 170 a b _ w (by omega) (by omega) rfl (by omega) (Pu a b)
 ·exact iJ 11 171 a b _ w (by omega) (by omega) rfl (by omega) (aF6 a b)
 ·exact iJ 12 172 a b _ w (by omega) (by omega) rfl (by omega) (aC9 a b)
 ·exact iJ 13 173 a b _ w (by omega) (by omega) rfl (by omega) (aD3 a b)
 ·exact iJ 14 174 a b _ w (by omega) (by omega) rfl (by omega) (aD8 a b)
 ·exact iJ 15 175 a b _ w (by omega) (by omega) rfl (by omega) (tW a b)
 ·exact iJ 16 176 a b _ w (by omega) (by omega) rfl (by omega) (pS a b)
end
section
open Go.RowKit Px
def C0:E->Prop
 | .nil=>True
 | .node _ _ a l r=>a.name.length≤maxLen/\C0 l/\C0 r
def lK (fb kb ck pb mb nm:Nat) (ns:List bE) (b:Bool) (w:World) (r:Ending) (w':World):Prop:=∃x,r=.returned (.int .i64 x)/\Hid (Fr w.heap.size [fb] w w'/\gK w' fb kb ck pb mb nm ns b)
def Zc (A:Nat->Prop) (fb kb ck pb mb nm:Nat) (ns:List bE) (e:E):Prop:=∀(w:World) (v:Value) (b:Bool),jR A w e v->gK w fb kb ck pb mb nm ns b->
 Calls Tryz.prog 228 #[v,.agg #[lookV fb kb,lookV fb kb]] w (lK fb kb ck pb mb nm ns (b||dH ns e) w)
section
variable {A:Nat->Prop}{fb kb ck pb mb nm:Nat}{ns:List bE}
theorem tP {w W w':World}{X:List Nat}(h:Below w.heap.size w W) (k:Fr W.heap.size X W w'):Fr w.heap.size X w w':=(Fr.of_below h X).trans (k.mono h.size (fun _ hx _=>hx))
theorem Tt (w:World) (b:Bool) (h:gK w fb kb ck pb mb nm ns b):Calls Tryz.prog 228 #[.pointer none,.agg #[lookV fb kb,lookV fb kb]] w (lK fb kb ck pb mb nm ns b w):=by
 have H:Hid _:=h
 clear h
 unfold lookV
 go_enter Tryz.func228,Tryz.ntmps228
 go_wp2_with fail
 go_ret
 exact ⟨_,rfl,Fr.of_below (aL w _) _,H.out.below (aL w _)⟩
theorem Ts (w:World) (b:Bool) {g:Nat}{n:Int}{S:Value}{j rv:Value}(c:w.heap[g]?=some (.cells #[.int .i64 1,.int .i64 n,S,j,rv] 307 (0,0))) (h:gK w fb kb ck pb mb nm ns b):Calls Tryz.prog 228 #[.pointer (some ⟨g,0,none⟩),.agg #[lookV fb kb,lookV fb kb]] w (lK fb kb ck pb mb nm ns b w):=by
 have H:Hid _:=h
 have c0:=fun o=>aF (eB (o':=o) c) 0 (u:=.int .i64 1) rfl
 have c1:=fun o=>aF (eB (o':=o) c) 1 (u:=.int .i64 n) rfl
 clear h c
 unfold lookV
 go_enter Tryz.func228,Tryz.ntmps228
 go_wp2_with fail
 go_ret
 exact ⟨_,rfl,Fr.of_below (aL w _) _,H.out.below (aL w _)⟩
theorem Mv (w:World) (b:Bool) {g:Nat}{c n:Int}(hc:c=2\/c=3) {s:bE}(U:s.length≤maxLen) {Z rv:Value}(y:w.heap[g]?=some (.cells #[.int .i64 c,.int .i64 n,sv s,Z,rv] 307 (0,0))) (h:gK w fb kb ck pb mb nm ns b):Calls Tryz.prog 228 #[.pointer (some ⟨g,0,none⟩),.agg #[lookV fb kb,lookV fb kb]] w (lK fb kb ck pb mb nm ns (b||(jT ns s).isNone) w):=by
 obtain ⟨O,r⟩:∃O,O=Obj.cells #[lookV fb kb,lookV fb kb] 301:=⟨_,rfl⟩
 have k:=aL w O
 have j:=xI ((h.below k).below (w':=(w.alloc O).drew) ((Below.refl _ _).drew)) U
 have D:(w.alloc O).heap[w.heap.size]?=some (.cells #[lookV fb kb,lookV fb kb] 301 (0,0)):=by rw[aX,r]
 have I:=aF D 0 (u:=lookV fb kb) rfl
 have X:=aF D 1 (u:=lookV fb kb) rfl
 have c0:=aF (eB (o':=O) y) 0 (u:=.int .i64 c) rfl
 have c2:=aF (eB (o':=O) y) 2 (u:=sv s) rfl
 obtain ⟨Q,l⟩:∃Q,Q=(b||(jT ns s).isNone):=⟨_,rfl⟩
 rw[<-l] at j ⊢
 have Y:Hid _:=k.drew
 generalize sv s=S at j c2
 unfold lookV at r j I X ⊢
 rw[r] at j I X c0 c2 Y
 clear h y l k D r U
 rcases hc with rfl|rfl
 all_goals
  go_enter Tryz.func228,Tryz.ntmps228
  go_wp2_with fail
  go_region_with (refine j.mono ?_;rintro e w' ⟨rfl,J⟩)
  all_goals
   go_wp2_with fail
   go_ret
   exact ⟨_,rfl,tP Y.out J.out.1,J.out.2⟩
end
end
end Go.Proofs.YthieaobjdpfcoaaGreatDoor
