import Derived.Test.YtcdbhoknhnimcaaGreatDoorTCk2
import Derived.Defers
import Derived.Recover
import Derived.RowKit
import Derived.IntWalk
import Derived.Laws.Bits64
import Derived.Test.YtcdbhoknhnimcaaGreatDoorProg
import Derived.WalkKit
import Derived.WalkSpells
import Derived.WalkLawsBesides
import Derived.Laws.EntriesVeiled
import Derived.Deep.Cut
set_option maxRecDepth 100000
set_option maxHeartbeats 4000000
namespace Go.Proofs.YtcdbhoknhnimcaaGreatDoor
section
open Go.RowKit Px
theorem bQ {w:World}{g:Nat}{l:List Value}{T:TypeId}{f:Nat×Nat}(h:w.heap[g]?=some (.cells l.toArray T f)) (k:Nat) (x:Value):(w.setCell ⟨g,k,none⟩ x).heap[g]?=some (.cells (l.set k x).toArray T f):=by
 have hl:=aB h
 have e:w.heap[g]=.cells l.toArray T f:=by rw[Array.getElem?_eq_getElem hl] at h;exact Option.some.inj h
 simp only[World.setCell]
 rw[Array.getElem?_eq_getElem (by simpa using hl),Array.getElem_modify]
 simp[e]
theorem aE {w:World}{g:Nat}{l:Array Value}{T:TypeId}(h:w.heap[g]?=some (.cells l T (0,0))) (k:Nat):w.frozen? ⟨g,k,none⟩=false:=by
 simp[World.frozen?,h]
def dD (w:World) (g:Nat) (W:List Int):Prop:=w.heap[g]?=some (.cells (W.map (Value.int .i64)).toArray 3 (0,0))
theorem dD.cell {w:World}{g:Nat}{W:List Int}(h:dD w g W) (j:Nat) (hj:j<W.length):w.cell? ⟨g,j,none⟩=some (.int .i64 (W.getD j 0)):=by
 refine aA h j ?_
 simp[List.getElem?_eq_getElem hj,List.getD_eq_getElem?_getD]
theorem dD.set {w:World}{g:Nat}{W:List Int}(h:dD w g W) (j:Nat) (x:Int):dD (w.setCell ⟨g,j,none⟩ (.int .i64 x)) g (W.set j x):=by
 have:=bQ h j (.int .i64 x)
 rw[dD,List.map_set];exact this
theorem dD.keep {w w':World}{g:Nat}{W:List Int}(h:dD w g W) (hk:w'.heap[g]?=w.heap[g]?):dD w' g W:=by rw[dD,hk];exact h
theorem pY {w:World}{g n cap:Nat}{W:List Int}(hn:Hid (n=W.length)) (hm:n≤1000000) (hW:dD w g W) :
    Calls Tryz.prog 110 #[.slice (some ⟨g,0,none⟩) n cap,.int .i64 0] w fun e w'=>w'=w/\((∃k:Nat,e=.returned (.int .i64 (k:Int))/\k<n/\W.getD k 0=0/\∀j,j<k->W.getD j 0≠0)\/(e=.returned (.int .i64 (-1))/\∀j,j<n->W.getD j 0≠0)):=by
 have HW:Hid (dD w g W):=hW
 clear hW
 go_enter Tryz.func110,Tryz.ntmps110
 go_wp2_with fail
 go_loopg [8] n (fun f i wr=>∃k:Nat,f=n-k/\k≤n/\i=.int .i64 (k:Int)/\Hid (wr=w/\∀j,j<k->W.getD j 0≠0))
 case atStart=>exact ⟨0,by omega,by omega,rfl,rfl,fun j hj=>absurd hj (by omega)⟩
 case round=>
  obtain ⟨k,rfl,hk,rfl,hr⟩:=hrel
  obtain ⟨hw,hno⟩:=hr.out
  subst hw
  have HN:Hid (∀j,j<k->W.getD j 0≠0):=hno
  clear hr hno
  by_cases hlt:k<n
  ·have hix:=ixI (some ⟨g,0,none⟩) g n cap k hlt (fun _=>rfl)
   have hc:=HW.out.cell k (by rw[<-hn.out];exact hlt)
   obtain ⟨x,hx⟩:∃x,x=W.getD k 0:=⟨_,rfl⟩
   rw[<-hx] at hc
   have HX:Hid _:=hx
   clear hx
   by_cases h0:x=0
   ·subst h0
    go_wp2_with fail
    go_ret
    exact ⟨rfl,.inl ⟨k,rfl,hlt,HX.out.symm,HN.out⟩⟩
   ·have h1:((0:Int)==x)=false:=by simp;omega
    have h2:decide ((0:Int)=x)=false:=by simp;omega
    have h3:¬(0:Int)=x:=by omega
    have H0:Hid _:=h0
    clear h0
    go_wp2_with fail
    go_roundg (n-(k+1))
    case measure=>omega
    case rel=>
     refine ⟨k+1,rfl,by omega,by go_num,rfl,fun j hj=>?_⟩
     by_cases e:j=k
     ·subst e;rw[<-HX.out];exact H0.out
     ·exact HN.out j (by omega)
  ·obtain rfl:k=n:=by omega
   go_wp2_with fail
   go_ret
   exact ⟨rfl,.inr ⟨rfl,HN.out⟩⟩
def K0 (w:World) (g n:Nat) (ns:List bB):Prop:=n=ns.length/\∀i,i<n->w.cell? ⟨g,i*9,none⟩=some (sv (ns.getD i []))/\(ns.getD i []).length≤maxLen
theorem nX {w:World}{ad:Option Addr}{g n cap:Nat}{ns:List bB}(ha:0<n->ad=some ⟨g,0,none⟩) (hm:n≤1000000) (hN:K0 w g n ns) :
    Calls Tryz.prog 193 #[.slice ad n cap] w fun e w'=>∃f,e=.returned f/\Xs w' f ns/\Below w.heap.size w w':=by
 have hmf:∀(fn:Fn) (first cap:Array Value) (w:World),(Instr.makeFunc fn first cap).run Tryz.prog w=.ok (.func fn first cap) w:=fun _ _ _ _=>rfl
 have hb:=bE w (.cells #[.slice ad n cap] 210)
 have hcall:=xU 225 (.inr rfl) w.heap.size ns n hN.1 hm (fun i hi=>(hN.2 i hi).2) (w.alloc (.cells #[.slice ad n cap] 210)) (fun X i hX hi=>
  Co (aM hX (aA hb 0 rfl)) hi ha (aM hX (aM (aC w _) (hN.2 i hi).1)))
 clear hb hN
 go_enter Tryz.func193,Tryz.ntmps193
 go_wp2_with (refine hcall.mono ?_;rintro e w' ⟨f,rfl,hf⟩;have HF:Hid _:=hf;clear hf)
 go_ret
 exact ⟨f,rfl,HF.out.1,aN (aC w _) HF.out.2⟩
def uD (w:World) (gy:Nat) (ys:List Wy):Prop:=∀m y,ys[m]?=some y->∃p q,w.cell? ⟨gy,m*7,none⟩=some (.int .i64 y.kind)/\w.cell? ⟨gy,m*7+1,none⟩=some (.bool y.now)/\w.cell? ⟨gy,m*7+2,none⟩=some (.pointer p)/\w.cell? ⟨gy,m*7+3,none⟩=some (.int .i64 y.times)/\w.cell? ⟨gy,m*7+4,none⟩=some q/\w.cell? ⟨gy,m*7+5,none⟩=some (sv y.to)/\w.cell? ⟨gy,m*7+6,none⟩=some (.bool y.back)/\(∃a n c,q=.slice a n c)/\y.to.length≤maxLen
theorem Ac {w:World}{ad ay:Option Addr}{g gy n N cap capy i rb fb wb gw pb mb nm:Nat}{ns:List bB}{ys:List Wy}{W:List Int}(by':Int) (hi:i<n) (ha:0<n->ad=some ⟨g,0,none⟩) (hN:Hid (N=ys.length)) (hNm:N≤1000000) (hn:Hid (n=W.length/\∀s t,jK ns s=some t->t<n))
    (hrb:w.cell? ⟨rb,0,none⟩=some (.slice ad n cap)) (hfb:w.cell? ⟨fb,0,none⟩=some (.func (.func 143) #[] #[.pointer (some ⟨pb,0,none⟩)])) (hwb:w.cell? ⟨wb,0,none⟩=some (.slice (some ⟨gw,0,none⟩) n n))
    (hpb:w.heap[pb]?=some (.cells #[.map (some mb)] 213 (0,0))) (hmb:gY w mb nm (jK ns)) (hW:dD w gw W)
    (hy:w.cell? ⟨g,i*9+7,none⟩=some (.slice ay N capy)) (hay:0<N->ay=some ⟨gy,0,none⟩/\gy<w.heap.size) (hYs:uD w gy ys) (hd:Hid (gw≠fb/\gw≠wb/\gw≠pb/\gw≠mb/\(0<N->gw≠gy)))
    (hbd:Hid (∀m j,m≤N->-4611686018427387904≤(jA n by' (oG ns ys) m W).getD j 0/\(jA n by' (oG ns ys) m W).getD j 0≤4611686018427387904)) :
    Calls Tryz.prog 229 #[.int .i64 (i:Int),.int .i64 by',.pointer (some ⟨rb,0,none⟩),.pointer (some ⟨fb,0,none⟩),.pointer (some ⟨wb,0,none⟩)] w fun e w'=>e=.returned (.tuple #[])/\dD w' gw (jA n by' (oG ns ys) N W)/\Fr w.heap.size [gw] w w':=by
 have hix:=Ve ad g n cap i hi ha
 have HW:Hid (dD w gw W):=hW
 have HY:Hid (uD w gy ys):=hYs
 have HM:Hid (gY w mb nm (jK ns)):=hmb
 have HP:Hid (w.heap[pb]?=some (.cells #[.map (some mb)] 213 (0,0))):=hpb
 have HF:Hid (w.cell? ⟨fb,0,none⟩=some (.func (.func 143) #[] #[.pointer (some ⟨pb,0,none⟩)])/\w.cell? ⟨wb,0,none⟩=some (.slice (some ⟨gw,0,none⟩) n n)):=⟨hfb,hwb⟩
 have HA:Hid (0<N->ay=some ⟨gy,0,none⟩/\gy<w.heap.size):=hay
 clear hW hYs hmb hpb hfb hwb hay
 go_enter Tryz.func229,Tryz.ntmps229
 go_wp2_with fail
 clear hix hrb hy
 go_loopg [16] N (fun f i wr=>∃k:Nat,f=N-k/\k≤N/\i=.int .i64 (k:Int)/\Hid (dD wr gw (jA n by' (oG ns ys) k W)/\Fr w.heap.size [gw] w wr))
 case atStart=>exact ⟨0,by omega,by omega,rfl,HW.out,Fr.refl _ _ _⟩
 case round=>
  obtain ⟨k,rfl,hk,rfl,hr⟩:=hrel
  by_cases hlt:k<N
  ·obtain ⟨y,hyk⟩:∃y,Hid (ys[k]?=some y):=⟨ys[k]'(by rw[<-hN.out];exact hlt),by rw[Hid,List.getElem?_eq_getElem]⟩
   obtain ⟨p,q,c0,c1,c2,c3,c4,c5,c6,⟨qa,qn,qc,rfl⟩,hto⟩:=HY.out k y hyk.out
   obtain ⟨d1,d2,d3,d4,d5⟩:=hd.out
   have hgy:=(HA.out (by omega)).2
   have ey:wr.heap[gy]?=w.heap[gy]?:=hr.out.2.block gy hgy (by simpa using fun e=>d5 (by omega) e.symm)
   have ec:∀o,wr.cell? ⟨gy,o,none⟩=w.cell? ⟨gy,o,none⟩:=fun o=>World.cell?_of_block (w:=w) (a:=⟨gy,o,none⟩) ey
   rw[<-ec] at c0 c1 c2 c3 c4 c5 c6
   have hixk:=ixW ay gy N capy k hlt (fun h=>(HA.out h).1)
   have hlf:fb<w.heap.size:=World.block_lt_of_cell? w _ HF.out.1
   have hlw:wb<w.heap.size:=World.block_lt_of_cell? w _ HF.out.2
   have cf:wr.cell? ⟨fb,0,none⟩=some (.func (.func 143) #[] #[.pointer (some ⟨pb,0,none⟩)]):=by
    rw[hr.out.2.cell (p:=⟨fb,0,none⟩) hlf (by simpa using fun e=>d1 e.symm)];exact HF.out.1
   have cw:wr.cell? ⟨wb,0,none⟩=some (.slice (some ⟨gw,0,none⟩) n n):=by
    rw[hr.out.2.cell (p:=⟨wb,0,none⟩) hlw (by simpa using fun e=>d2 e.symm)];exact HF.out.2
   have hp':wr.heap[pb]?=some (.cells #[.map (some mb)] 213 (0,0)):=by
    rw[hr.out.2.block pb (aB HP.out) (by simpa using fun e=>d3 e.symm)];exact HP.out
   have hm':gY wr mb nm (jK ns):=HM.out.keep (hr.out.2.block mb HM.out.lt (by simpa using fun e=>d4 e.symm))
   obtain ⟨LO,hLO⟩:∃LO,Hid (LO=Obj.cells #[.int .i64 y.kind,.bool y.now,.pointer p,.int .i64 y.times,.slice qa qn qc,sv y.to,.bool y.back] 301):=⟨_,rfl⟩
   have hcall:Calls Tryz.prog 143 #[sv y.to,.pointer (some ⟨pb,0,none⟩)] (wr.alloc LO) fun e w'=>e=.returned (.int .i64 (eB ns y.to))/\w'=wr.alloc LO:=mQ (dW hp') (hm'.below (aC wr _)) hto
   have hnx:dD (wr.alloc LO) gw (jA n by' (oG ns ys) k W):=dW hr.out.1
   have hfr:Fr w.heap.size [gw] w (wr.alloc LO):=hr.out.2.alloc hr.out.2.size _
   have H1:Hid (dD (wr.alloc LO) gw (jA n by' (oG ns ys) k W)/\Fr w.heap.size [gw] w (wr.alloc LO)):=⟨hnx,hfr⟩
   rw[hLO.out] at hcall H1
   clear ey ec hp' hm' hnx hfr hr hLO d1 d2 d3 d4 d5 hgy
   obtain ⟨b0,hb0⟩:∃b,Hid (y.now=b):=⟨_,rfl⟩
   rw[hb0.out] at c1 hcall H1
   have hst:=Tn ns ys k y hyk.out
   rw[hb0.out] at hst
   have HST:Hid _:=hst
   clear hst
   obtain ⟨S,hS⟩:∃S,sv y.to=.string S:=⟨_,rfl⟩
   rw[hS] at c5 hcall H1
   clear hS
   have cf':=aM (aC wr (.cells #[.int .i64 y.kind,.bool b0,.pointer p,.int .i64 y.times,.slice qa qn qc,.string S,.bool y.back] 301)) cf
   clear cf
   cases b0 with
   | false=>
    obtain ⟨t9,ht9⟩:∃t,t=eB ns y.to:=⟨_,rfl⟩
    rw[<-ht9] at hcall
    clear ht9
    go_wp2_with (refine hcall.mono ?_;rintro e w' ⟨rfl,rfl⟩)
    go_roundg (N-(k+1))
    case measure=>omega
    case rel=>
     refine ⟨k+1,rfl,by omega,by go_num,?_⟩
     rw[Hid,jA,HST.out]
     exact H1.out
   | true=>
    cases hf:jK ns y.to with
    | none=>
     have e:eB ns y.to=-1:=by unfold eB;rw[hf]
     rw[e] at hcall
     rw[hf] at HST
     clear hf e
     go_wp2_with (refine hcall.mono ?_;rintro e w' ⟨rfl,rfl⟩)
     go_roundg (N-(k+1))
     case measure=>omega
     case rel=>
      refine ⟨k+1,rfl,by omega,by go_num,?_⟩
      rw[Hid,jA,HST.out]
      exact H1.out
    | some t=>
     have e:eB ns y.to=(t:Int):=by unfold eB;rw[hf]
     rw[e] at hcall
     have htn:t<n:=hn.out.2 _ _ hf
     rw[hf] at HST
     clear hf e
     have hgz:(0:Int)≤(t:Int):=by omega
     have hixt:=ixI (some ⟨gw,0,none⟩) gw n n t htn (fun _=>rfl)
     obtain ⟨x,hx⟩:∃x,x=(jA n by' (oG ns ys) k W).getD t 0:=⟨_,rfl⟩
     have cx:=H1.out.1.cell t (by rw[lT,<-hn.out.1];exact htn)
     rw[<-hx] at cx
     have cz:=aE H1.out.1 t
     have hb:=hbd.out (k+1) t hlt
     have hbx:(jA n by' (oG ns ys) (k+1) W).getD t 0=x+by':=by
      rw[jA,HST.out]
      show ((jA n by' (oG ns ys) k W).set t _).getD t 0=_
      rw[List.getD_eq_getElem?_getD,List.getElem?_set,if_pos rfl,lT,if_pos (by rw[<-hn.out.1];exact htn),<-hx];rfl
     rw[hbx] at hb
     have hwr:IntKind.i64.wrap (x+by')=x+by':=by rw[IntKind.wrap_i64];omega
     have cw':=aM (aC wr (.cells #[.int .i64 y.kind,.bool true,.pointer p,.int .i64 y.times,.slice qa qn qc,.string S,.bool y.back] 301)) cw
     have HX:Hid (x=(jA n by' (oG ns ys) k W).getD t 0):=hx
     clear hx hb hbx cw
     go_wp2_with (refine hcall.mono ?_;rintro e w' ⟨rfl,rfl⟩)
     go_roundg (N-(k+1))
     case measure=>omega
     case rel=>
      refine ⟨k+1,rfl,by omega,by go_num,?_⟩
      rw[Hid,jA,HST.out]
      show dD _ gw ((jA n by' (oG ns ys) k W).set t ((jA n by' (oG ns ys) k W).getD t 0+by'))/\_
      rw[<-HX.out]
      exact ⟨H1.out.1.set t _,H1.out.2.setCell (.inr (by simp)) _⟩
  ·obtain rfl:k=N:=by omega
   go_wp2_with fail
   go_end0
   exact ⟨rfl,hr.out⟩
end
section
open Go.RowKit Px
def lookV (fb kb:Nat):Value:=.func (.func 255) #[] #[.pointer (some ⟨fb,0,none⟩),.pointer (some ⟨kb,0,none⟩)]
structure gG (w:World) (fb kb ck pb mb nm:Nat) (ns:List bB) (b:Bool):Prop where
 found:w.heap[fb]?=some (.cells #[.bool b] 4 (0,0))
 hkb:w.cell? ⟨kb,0,none⟩=some (.pointer (some ⟨ck,0,none⟩))
 hck:w.cell? ⟨ck,1,none⟩=some (.func (.func 143) #[] #[.pointer (some ⟨pb,0,none⟩)])
 hpb:w.heap[pb]?=some (.cells #[.map (some mb)] 213 (0,0))
 hmb:gY w mb nm (jK ns)
 ne:fb≠kb/\fb≠ck/\fb≠pb/\fb≠mb
theorem gG.fr {w w':World}{fb kb ck pb mb nm:Nat}{ns:List bB}{b b':Bool}(h:gG w fb kb ck pb mb nm ns b) (hF:Fr w.heap.size [fb] w w') (hf:w'.heap[fb]?=some (.cells #[.bool b'] 4 (0,0))):gG w' fb kb ck pb mb nm ns b':=by
 obtain ⟨e1,e2,e3,e4⟩:=h.ne
 have hc:∀{x o:Nat}{v:Value},fb≠x->w.cell? ⟨x,o,none⟩=some v->w'.cell? ⟨x,o,none⟩=some v:=fun {x o v} hb hv=>by
  rw[hF.cell (p:=⟨x,o,none⟩) (World.block_lt_of_cell? w _ hv) (by simpa using Ne.symm hb)];exact hv
 exact ⟨hf,hc e1 h.hkb,hc e2 h.hck,by rw[hF.block pb (aB h.hpb) (by simpa using Ne.symm e3)];exact h.hpb,h.hmb.keep (hF.block mb h.hmb.lt (by simpa using Ne.symm e4)),h.ne⟩
theorem gG.below {w w':World}{fb kb ck pb mb nm:Nat}{ns:List bB}{b:Bool}(h:gG w fb kb ck pb mb nm ns b) (hb:Below w.heap.size w w'):gG w' fb kb ck pb mb nm ns b:=
 h.fr (Fr.of_below hb _) (aH hb h.found)
theorem Ot {w:World}{fb kb ck pb mb nm:Nat}{ns:List bB}{b:Bool}{s:bB}(h:gG w fb kb ck pb mb nm ns b) (hs:s.length≤maxLen) :
    Calls Tryz.prog 255 #[sv s,.pointer (some ⟨fb,0,none⟩),.pointer (some ⟨kb,0,none⟩)] w fun e w'=>e=.returned (.int .i64 0)/\w'=w.setCell ⟨fb,0,none⟩ (.bool (b||(jK ns s).isNone)):=by
 have c0:=aA h.found 0 (u:=.bool b) rfl
 have z0:=aE h.found 0
 have c1:=h.hkb
 have c2:=h.hck
 have hcall:=mQ h.hpb h.hmb hs
 clear h
 generalize sv s=S at hcall ⊢
 cases b with
 | true=>
  go_enter Tryz.func255,Tryz.ntmps255
  go_wp2_with fail
  go_ret
  exact ⟨rfl,rfl⟩
 | false=>
  cases hf:jK ns s with
  | none=>
   have e:eB ns s=-1:=by unfold eB;rw[hf]
   rw[e] at hcall
   clear e hf
   go_enter Tryz.func255,Tryz.ntmps255
   go_wp2_with (go_at_call 143;refine hcall.mono ?_;rintro e w' ⟨rfl,rfl⟩)
   go_ret
   exact ⟨rfl,rfl⟩
  | some i=>
   have e:eB ns s=(i:Int):=by unfold eB;rw[hf]
   rw[e] at hcall
   have hi:¬(i:Int)<0:=by omega
   clear e hf
   go_enter Tryz.func255,Tryz.ntmps255
   go_wp2_with (go_at_call 143;refine hcall.mono ?_;rintro e w' ⟨rfl,rfl⟩)
   go_ret
   exact ⟨rfl,rfl⟩
theorem Rt (p:Addr) (w:World) :
    CallsD Tryz.prog 279 #[.pointer (some p)] .returning w fun e u' w'=>e=.returned (.tuple #[])/\u'=.returning/\w'=w:=by
 refine callsD_of_wpS Tryz.func279 rfl fun c₀ cs hu=>?_
 apply wpS_seq
 apply wpS_region
 simp[wpOpsS,go_sem,recoverD,hu,Tryz.ntmps279,Exit.thenS]
 refine wpS_cond (t:=false) (by simp[Act.eval,Array.replicate]) ?_
 simp only[Bool.false_eq_true,if_false]
 refine wpS_of_wp (wp_skip ?_)
 cases c₀
 simp_all [bodyPostS,results,Tryz.results279]
theorem Ku (x y:Value) (w:World):(binOp BinOp.eql 326 (.func (.func 255) #[] #[x,y]) .nilFunc).run Tryz.prog w=.ok (.bool false) w:=by kernel_rfl
theorem vR {w:World}{fb kb ck pb mb nm:Nat}{ns:List bB}{b:Bool}{s:bB}(h:gG w fb kb ck pb mb nm ns b) (hs:s.length≤maxLen) :
    Calls Tryz.prog 271 #[lookV fb kb,sv s] w fun e w'=>e=.returned (.int .i64 0)/\Hid (Fr w.heap.size [fb] w w'/\gG w' fb kb ck pb mb nm ns (b||(jK ns s).isNone)):=by
 have hmf:∀(fn:Fn) (first cap:Array Value) (w:World),(Instr.makeFunc fn first cap).run Tryz.prog w=.ok (.func fn first cap) w:=fun _ _ _ _=>rfl
 have q0:=Ku
 have HL:Hid _:=h
 have hcall:=Ot (h.below (aC w (.cells #[.int .i64 0] 2))) hs
 have hlt:=aB h.found
 clear h
 unfold lookV
 obtain ⟨b',hb'⟩:∃b',b'=(b||(jK ns s).isNone):=⟨_,rfl⟩
 rw[<-hb'] at hcall ⊢
 clear hb'
 generalize sv s=S at hcall ⊢
 go_enter_defers Tryz.func271,Tryz.ntmps271
 go_wp2_with (refine hcall.mono ?_;rintro e w' ⟨rfl,rfl⟩)
 refine leaves_cons (f:=279) (args:=#[.pointer (some ⟨w.heap.size,0,none⟩)]) (by simp) (by simp[go_sem]) ?_
 refine (Rt ⟨w.heap.size,0,none⟩ _).mono ?_
 rintro e u' w'' ⟨rfl,rfl,rfl⟩
 have hF:Fr w.heap.size [fb] w ((w.setCell ⟨fb,0,none⟩ (.bool b')).alloc (.cells #[.int .i64 0] 2)):=((Fr.refl _ _ _).setCell (.inr (by simp)) _).alloc (by simp[World.setCell]) _
 have hfd:((w.setCell ⟨fb,0,none⟩ (.bool b')).alloc (.cells #[.int .i64 0] 2)).heap[fb]?=some (.cells #[.bool b'] 4 (0,0)):=dW (bQ (l:=[.bool b]) HL.out.found 0 (.bool b'))
 have hfin:Hid (_/\_):=⟨hF,HL.out.fr hF hfd⟩
 simp[Leaves,settle,results,Tryz.results271,go_sem,World.setCell]
 exact hfin
end
section
open Go.RowKit
def Ar (b:Bool):Int:=if b then 1 else 0
def vA (c a:Int):Int:=if c=4 then wrap64 (-a) else if c=5 then Ar (a==0) else 0
def Ti (a b:Int):Int:=if b=0 then 0 else wrap64 (a.tdiv b)
def Tg (a b:Int):Int:=if b=0 then 0 else a.tmod b
def vZ (c a b:Int):Int:=
 if c=6 then wrap64 (a+b) else
 if c=7 then wrap64 (a-b) else
 if c=8 then wrap64 (a*b) else
 if c=9 then Ti a b else
 if c=10 then Tg a b else
 if c=11 then Ar (a==b) else
 if c=12 then Ar (a != b) else
 if c=13 then Ar (decide (a<b)) else
 if c=14 then Ar (decide (a≤b)) else
 if c=15 then Ar (a != 0&&b != 0) else
 if c=16 then Ar (a != 0||b != 0) else 0
def mI (a b c:Int):Int:=if a=0 then c else b
theorem sW (x:Int):-9223372036854775808≤wrap64 x/\wrap64 x≤9223372036854775807:=by
 unfold wrap64;omega
theorem Bi (a b:Int) (hb:-9223372036854775808≤b/\b≤9223372036854775807) (h:¬b=0) :
    -9223372036854775808≤a.tmod b/\a.tmod b≤9223372036854775807:=by
 have h1:=Int.natAbs_tmod a b
 have h2:=Nat.mod_lt a.natAbs (show 0<b.natAbs by omega)
 omega
end
section
open Go.RowKit
theorem iK (b:Bool) (w:World) :
    Calls Tryz.prog 153 #[.bool b] w fun e w'=>e=.returned (.int .i64 (Ar b))/\w'=w:=by
 cases b
 all_goals
  go_enter Tryz.func153,Tryz.ntmps153
  go_wp2
  go_ret
  exact ⟨rfl,rfl⟩
theorem qE (a b:Int) (w:World) :
    Calls Tryz.prog 154 #[.int .i64 a,.int .i64 b] w fun e w'=>e=.returned (.int .i64 (wrap64 (a+b)))/\w'=w:=by
 go_enter Tryz.func154,Tryz.ntmps154
 go_wp2
 go_ret
 exact ⟨rfl,rfl⟩
theorem Tr (a b:Int) (w:World) :
    Calls Tryz.prog 155 #[.int .i64 a,.int .i64 b] w fun e w'=>e=.returned (.int .i64 (wrap64 (a-b)))/\w'=w:=by
 go_enter Tryz.func155,Tryz.ntmps155
 go_wp2
 go_ret
 exact ⟨rfl,rfl⟩
theorem Va (a b:Int) (w:World) :
    Calls Tryz.prog 156 #[.int .i64 a,.int .i64 b] w fun e w'=>e=.returned (.int .i64 (wrap64 (a*b)))/\w'=w:=by
 go_enter Tryz.func156,Tryz.ntmps156
 go_wp2
 go_ret
 exact ⟨rfl,rfl⟩
theorem E3 (a b:Int) (w:World) :
    Calls Tryz.prog 157 #[.int .i64 a,.int .i64 b] w fun e w'=>e=.returned (.int .i64 (Ti a b))/\w'=w:=by
 by_cases h:b=0
 ·subst h
  go_enter Tryz.func157,Tryz.ntmps157
  go_wp2
  go_ret
  exact ⟨rfl,rfl⟩
 ·have e:Ti a b=wrap64 (a.tdiv b):=if_neg h
  have E:Hid _:=e
  clear e
  have hb:(b==0)=false:=by simpa using h
  go_enter Tryz.func157,Tryz.ntmps157
  go_wp2
  go_ret
  exact ⟨by rw[E.out];rfl,rfl⟩
theorem Na (a b:Int) (w:World) :
    Calls Tryz.prog 158 #[.int .i64 a,.int .i64 b] w fun e w'=>e=.returned (.int .i64 (Tg a b))/\w'=w:=by
 by_cases h:b=0
 ·subst h
  go_enter Tryz.func158,Tryz.ntmps158
  go_wp2
  go_ret
  exact ⟨rfl,rfl⟩
 ·have E:Hid (Tg a b=a.tmod b):=if_neg h
  have hb:(b==0)=false:=by simpa using h
  go_enter Tryz.func158,Tryz.ntmps158
  go_wp2
  go_ret
  exact ⟨by rw[E.out];rfl,rfl⟩
theorem Zt (a b:Int) (w:World) :
    Calls Tryz.prog 159 #[.int .i64 a,.int .i64 b] w fun e w'=>e=.returned (.int .i64 (Ar (a==b)))/\w'=w:=by
 go_enter Tryz.func159,Tryz.ntmps159
 go_wp2_with (go_at_call 153;refine (iK _ _).mono ?_;rintro e w' ⟨rfl,rfl⟩)
 go_ret
 exact ⟨rfl,rfl⟩
theorem Yr (a b:Int) (w:World) :
    Calls Tryz.prog 160 #[.int .i64 a,.int .i64 b] w fun e w'=>e=.returned (.int .i64 (Ar (a != b)))/\w'=w:=by
 go_enter Tryz.func160,Tryz.ntmps160
 go_wp2_with (go_at_call 153;refine (iK _ _).mono ?_;rintro e w' ⟨rfl,rfl⟩)
 go_ret
 exact ⟨rfl,rfl⟩
theorem Yx (a b:Int) (w:World) :
    Calls Tryz.prog 161 #[.int .i64 a,.int .i64 b] w fun e w'=>e=.returned (.int .i64 (Ar (decide (a<b))))/\w'=w:=by
 go_enter Tryz.func161,Tryz.ntmps161
 go_wp2_with (go_at_call 153;refine (iK _ _).mono ?_;rintro e w' ⟨rfl,rfl⟩)
 go_ret
 exact ⟨rfl,rfl⟩
theorem Zc (a b:Int) (w:World) :
    Calls Tryz.prog 162 #[.int .i64 a,.int .i64 b] w fun e w'=>e=.returned (.int .i64 (Ar (decide (a≤b))))/\w'=w:=by
 go_enter Tryz.func162,Tryz.ntmps162
 go_wp2_with (go_at_call 153;refine (iK _ _).mono ?_;rintro e w' ⟨rfl,rfl⟩)
 go_ret
 exact ⟨rfl,rfl⟩
theorem sO (a b:Int) (w:World) :
    Calls Tryz.prog 163 #[.int .i64 a,.int .i64 b] w fun e w'=>e=.returned (.int .i64 (Ar (a != 0&&b != 0)))/\w'=w:=by
 by_cases h:a=0
 ·subst h
  go_enter Tryz.func163,Tryz.ntmps163
  go_wp2_with (go_at_call 153;refine (iK _ _).mono ?_;rintro e w' ⟨rfl,rfl⟩)
  go_ret
  exact ⟨rfl,rfl⟩
 ·have ha:(a != 0)=true:=by simpa using h
  go_enter Tryz.func163,Tryz.ntmps163
  go_wp2_with (go_at_call 153;refine (iK _ _).mono ?_;rintro e w' ⟨rfl,rfl⟩)
  go_ret
  exact ⟨by rw[ha];rfl,rfl⟩
theorem oZ (a b:Int) (w:World) :
    Calls Tryz.prog 164 #[.int .i64 a,.int .i64 b] w fun e w'=>e=.returned (.int .i64 (Ar (a != 0||b != 0)))/\w'=w:=by
 by_cases h:a=0
 ·subst h
  go_enter Tryz.func164,Tryz.ntmps164
  go_wp2_with (go_at_call 153;refine (iK _ _).mono ?_;rintro e w' ⟨rfl,rfl⟩)
  go_ret
  exact ⟨rfl,rfl⟩
 ·have ha:(a != 0)=true:=by simpa using h
  go_enter Tryz.func164,Tryz.ntmps164
  go_wp2_with (go_at_call 153;refine (iK _ _).mono ?_;rintro e w' ⟨rfl,rfl⟩)
  go_ret
  exact ⟨by rw[ha];rfl,rfl⟩
theorem E9 (c a:Int) (w:World) :
    Calls Tryz.prog 101 #[.int .i64 c,.int .i64 a] w fun e w'=>e=.returned (.int .i64 (vA c a))/\w'=w:=by
 by_cases h4:c=4
 ·subst h4
  go_enter Tryz.func101,Tryz.ntmps101
  go_wp2
  go_ret
  exact ⟨rfl,rfl⟩
 ·by_cases h5:c=5
  ·subst h5
   go_enter Tryz.func101,Tryz.ntmps101
   go_wp2_with (go_at_call 153;refine (iK _ _).mono ?_;rintro e w' ⟨rfl,rfl⟩)
   go_ret
   exact ⟨rfl,rfl⟩
  ·have E:Hid (vA c a=0):=by unfold Hid vA;rw[if_neg h4,if_neg h5]
   have b4:(c==4)=false:=by simpa using h4
   have b5:(c==5)=false:=by simpa using h5
   go_enter Tryz.func101,Tryz.ntmps101
   go_wp2
   go_ret
   exact ⟨by rw[E.out];rfl,rfl⟩
theorem V0 (a b c:Int) (w:World) :
    Calls Tryz.prog 100 #[.int .i64 a,.int .i64 b,.int .i64 c] w fun e w'=>e=.returned (.int .i64 (mI a b c))/\w'=w:=by
 by_cases h:a=0
 ·subst h
  go_enter Tryz.func100,Tryz.ntmps100
  go_wp2
  go_ret
  exact ⟨rfl,rfl⟩
 ·have E:Hid (mI a b c=b):=by unfold Hid mI;rw[if_neg h]
  have b4:(a != 0)=true:=by simpa using h
  go_enter Tryz.func100,Tryz.ntmps100
  go_wp2
  go_ret
  exact ⟨by rw[E.out];rfl,rfl⟩
end
section
open Go.RowKit
theorem lJ (w:World) (a b:Array Value) (t:TypeId):(w.alloc (.cells a t)).setRow w.heap.size b=w.alloc (.cells b t):=by
 unfold World.setRow World.alloc
 congr 1
 apply Array.ext
 ·simp
 ·intro k h1 h2
  simp only[Array.getElem_modify,Array.getElem_push]
  split
  ·rename_i hk;subst hk;simp
  ·rename_i hk;have:k<w.heap.size:=by simp at h2;omega
   simp[this]
def asked:Array Value:=#[.nilFunc,.nilFunc,.nilFunc,.nilFunc,.nilFunc,.nilFunc,.func (.func 154) #[] #[],.func (.func 155) #[] #[],.func (.func 156) #[] #[],.func (.func 157) #[] #[],.func (.func 158) #[] #[],.func (.func 159) #[] #[],.func (.func 160) #[] #[],.func (.func 161) #[] #[],.func (.func 162) #[] #[],.func (.func 163) #[] #[],.func (.func 164) #[] #[]]
theorem qD:(Array.all asked fun x=>x.oneCell')=true:=by kernel_rfl
theorem nT:(Tryz.prog.info? 230).map (·.size)=some asked.size:=by kernel_rfl
theorem yF (w:World) (j:Nat) (v:Value) (h:asked[j]?=some v):(w.alloc (.cells asked 230)).cell? ⟨w.heap.size,j,none⟩=some v:=by
 have e:=(MapKept.heap_alloc w (.cells asked 230)).1
 simp only[World.cell?,e]
 exact h
theorem Uz (k:Nat) (w:World):(binOp BinOp.eql 229 (.func (.func k) #[] #[]) .nilFunc).run Tryz.prog w=.ok (.bool false) w:=by kernel_rfl
theorem Zs (w:World):(binOp BinOp.eql 229 .nilFunc .nilFunc).run Tryz.prog w=.ok (.bool true) w:=by kernel_rfl
theorem iD (c:Int) (k:Nat) (a b r:Int) (w:World) (h0:0≤c) (h1:c<17) (hk:asked[c.toNat]?=some (.func (.func k) #[] #[]))
    (hkk:k=154\/k=155\/k=156\/k=157\/k=158\/k=159\/k=160\/k=161\/k=162\/k=163\/k=164)
    (hcall:∀w,Calls Tryz.prog k #[.int .i64 a,.int .i64 b] w fun e w'=>e=.returned (.int .i64 r)/\w'=w) :
    Calls Tryz.prog 102 #[.int .i64 c,.int .i64 a,.int .i64 b] w fun e w'=>e=.returned (.int .i64 r)/\w'=w.alloc (.cells asked 230):=by
 have q0:=Uz
 have hc:=yF w c.toNat _ hk
 clear hk
 rcases hkk with rfl|rfl|rfl|rfl|rfl|rfl|rfl|rfl|rfl|rfl|rfl
 all_goals
  go_enter Tryz.func102,Tryz.ntmps102
  go_wp2_with (first|(refine wpList_store_row rfl 230 _ _ rfl w.heap.size asked rfl rfl 230 _ (MapKept.heap_alloc w _).1 nT rfl qD ?_;rw[lJ])|(refine (hcall _).mono ?_;rintro e w' ⟨rfl,rfl⟩))
  go_ret
  exact ⟨rfl,rfl⟩
theorem Tk (c:Int) (a b:Int) (w:World) (h0:0≤c) (h1:c<17) (hk:asked[c.toNat]?=some .nilFunc) :
    Calls Tryz.prog 102 #[.int .i64 c,.int .i64 a,.int .i64 b] w fun e w'=>e=.returned (.int .i64 0)/\w'=w.alloc (.cells asked 230):=by
 have q1:=Zs
 have hc:=yF w c.toNat _ hk
 clear hk
 go_enter Tryz.func102,Tryz.ntmps102
 go_wp2_with (refine wpList_store_row rfl 230 _ _ rfl w.heap.size asked rfl rfl 230 _ (MapKept.heap_alloc w _).1 nT rfl qD ?_;rw[lJ])
 go_ret
 exact ⟨rfl,rfl⟩
theorem Tl (c:Int) (a b:Int) (w:World) (h0:c<0) :
    Calls Tryz.prog 102 #[.int .i64 c,.int .i64 a,.int .i64 b] w fun e w'=>e=.returned (.int .i64 0)/\w'=w.alloc (.cells asked 230):=by
 go_enter Tryz.func102,Tryz.ntmps102
 go_wp2_with (refine wpList_store_row rfl 230 _ _ rfl w.heap.size asked rfl rfl 230 _ (MapKept.heap_alloc w _).1 nT rfl qD ?_;rw[lJ])
 go_ret
 exact ⟨rfl,rfl⟩
theorem Mg (c:Int) (a b:Int) (w:World) (h0:17≤c) :
    Calls Tryz.prog 102 #[.int .i64 c,.int .i64 a,.int .i64 b] w fun e w'=>e=.returned (.int .i64 0)/\w'=w.alloc (.cells asked 230):=by
 go_enter Tryz.func102,Tryz.ntmps102
 go_wp2_with (refine wpList_store_row rfl 230 _ _ rfl w.heap.size asked rfl rfl 230 _ (MapKept.heap_alloc w _).1 nT rfl qD ?_;rw[lJ])
 go_ret
 exact ⟨rfl,rfl⟩
end
section
open Go.RowKit
theorem sZ {c:Int}(h:∀k:Int,6≤k->k≤16->c≠k) (a b:Int):vZ c a b=0:=by
 unfold vZ
 rw[if_neg (h 6 (by omega) (by omega)),if_neg (h 7 (by omega) (by omega)),if_neg (h 8 (by omega) (by omega)),if_neg (h 9 (by omega) (by omega)),if_neg (h 10 (by omega) (by omega)),if_neg (h 11 (by omega) (by omega)),if_neg (h 12 (by omega) (by omega)),if_neg (h 13 (by omega) (by omega)),if_neg (h 14 (by omega) (by omega)),if_neg (h 15 (by omega) (by omega)),if_neg (h 16 (by omega) (by omega))]
theorem Ld (c:Int) (h0:0≤c) (h1:c<6):asked[c.toNat]?=some .nilFunc:=by
 have h:c=0\/c=1\/c=2\/c=3\/c=4\/c=5:=by omega
 rcases h with rfl|rfl|rfl|rfl|rfl|rfl<;>rfl
theorem C5 (c a b:Int) (w:World) :
    Calls Tryz.prog 102 #[.int .i64 c,.int .i64 a,.int .i64 b] w fun e w'=>e=.returned (.int .i64 (vZ c a b))/\w'=w.alloc (.cells asked 230):=by
 by_cases h0:c<0
 ·rw[sZ (fun k hk _=>by omega)]
  exact Tl c a b w h0
 by_cases h1:17≤c
 ·rw[sZ (fun k _ hk=>by omega)]
  exact Mg c a b w h1
 by_cases h2:c<6
 ·rw[sZ (fun k hk _=>by omega)]
  exact Tk c a b w (by omega) (by omega) (Ld c (by omega) h2)
 have h:c=6\/c=7\/c=8\/c=9\/c=10\/c=11\/c=12\/c=13\/c=14\/c=15\/c=16:=by omega
 clear h0 h1 h2
 rcases h with rfl|rfl|rfl|rfl|rfl|rfl|rfl|rfl|rfl|rfl|rfl
 ·exact iD 6 154 a b _ w (by omega) (by omega) rfl (by omega) (qE a b)
 ·exact iD 7 155 a b _ w (by omega) (by omega) rfl (by omega) (Tr a b)
 ·exact iD 8 156 a b _ w (by omega) (by omega) rfl (by omega) (Va a b)
 ·exact iD 9 157 a b _ w (by omega) (by omega) rfl (by omega) (E3 a b)
 ·exact iD 10 158 a b _ w (by omega) (by omega) rfl (by omega) (Na a b)
 ·exact iD 11 159 a b _ w (by omega) (by omega) rfl (by omega) (Zt a b)
 ·exact iD 12 160 a b _ w (by omega) (by omega) rfl (by omega) (Yr a b)
 ·exact iD 13 161 a b _ w (by omega) (by omega) rfl (by omega) (Yx a b)
 ·exact iD 14 162 a b _ w (by omega) (by omega) rfl (by omega) (Zc a b)
 ·exact iD 15 163 a b _ w (by omega) (by omega) rfl (by omega) (sO a b)
 ·exact iD 16 164 a b _ w (by omega) (by omega) rfl (by omega) (oZ a b)
end
section
open Go.RowKit Px
def zB:E->Prop
 | .nil=>True
 | .node _ _ a l r=>a.name.length≤maxLen/\zB l/\zB r
def kJ (fb kb ck pb mb nm:Nat) (ns:List bB) (b:Bool) (w:World) (r:Ending) (w':World):Prop:=∃x,r=.returned (.int .i64 x)/\Hid (Fr w.heap.size [fb] w w'/\gG w' fb kb ck pb mb nm ns b)
def Wz (A:Nat->Prop) (fb kb ck pb mb nm:Nat) (ns:List bB) (e:E):Prop:=∀(w:World) (v:Value) (b:Bool),jI A w e v->gG w fb kb ck pb mb nm ns b->
 Calls Tryz.prog 256 #[v,.agg #[lookV fb kb,lookV fb kb]] w (kJ fb kb ck pb mb nm ns (b||dF ns e) w)
section
variable {A:Nat->Prop}{fb kb ck pb mb nm:Nat}{ns:List bB}
theorem sJ {w W w':World}{X:List Nat}(h:Below w.heap.size w W) (k:Fr W.heap.size X W w'):Fr w.heap.size X w w':=(Fr.of_below h X).trans (k.mono h.size (fun _ hx _=>hx))
theorem Qz (w:World) (b:Bool) (h:gG w fb kb ck pb mb nm ns b):Calls Tryz.prog 256 #[.pointer none,.agg #[lookV fb kb,lookV fb kb]] w (kJ fb kb ck pb mb nm ns b w):=by
 have H:Hid _:=h
 clear h
 unfold lookV
 go_enter Tryz.func256,Tryz.ntmps256
 go_wp2_with fail
 go_ret
 exact ⟨_,rfl,Fr.of_below (aC w _) _,H.out.below (aC w _)⟩
theorem Qy (w:World) (b:Bool) {g:Nat}{n:Int}{S:Value}{lv rv:Value}(hg:w.heap[g]?=some (.cells #[.int .i64 1,.int .i64 n,S,lv,rv] 335 (0,0))) (h:gG w fb kb ck pb mb nm ns b):Calls Tryz.prog 256 #[.pointer (some ⟨g,0,none⟩),.agg #[lookV fb kb,lookV fb kb]] w (kJ fb kb ck pb mb nm ns b w):=by
 have H:Hid _:=h
 have c0:=fun o=>aA (dW (o':=o) hg) 0 (u:=.int .i64 1) rfl
 have c1:=fun o=>aA (dW (o':=o) hg) 1 (u:=.int .i64 n) rfl
 clear h hg
 unfold lookV
 go_enter Tryz.func256,Tryz.ntmps256
 go_wp2_with fail
 go_ret
 exact ⟨_,rfl,Fr.of_below (aC w _) _,H.out.below (aC w _)⟩
theorem Km (w:World) (b:Bool) {g:Nat}{c n:Int}(hc:c=2\/c=3) {s:bB}(hs:s.length≤maxLen) {lv rv:Value}(hg:w.heap[g]?=some (.cells #[.int .i64 c,.int .i64 n,sv s,lv,rv] 335 (0,0))) (h:gG w fb kb ck pb mb nm ns b):Calls Tryz.prog 256 #[.pointer (some ⟨g,0,none⟩),.agg #[lookV fb kb,lookV fb kb]] w (kJ fb kb ck pb mb nm ns (b||(jK ns s).isNone) w):=by
 obtain ⟨O,hO⟩:∃O,O=Obj.cells #[lookV fb kb,lookV fb kb] 329:=⟨_,rfl⟩
 have hbO:=aC w O
 have hcall:=vR ((h.below hbO).below (w':=(w.alloc O).drew) ((Below.refl _ _).drew)) hs
 have k0:(w.alloc O).heap[w.heap.size]?=some (.cells #[lookV fb kb,lookV fb kb] 329 (0,0)):=by rw[bE,hO]
 have e0:=aA k0 0 (u:=lookV fb kb) rfl
 have e1:=aA k0 1 (u:=lookV fb kb) rfl
 have c0:=aA (dW (o':=O) hg) 0 (u:=.int .i64 c) rfl
 have c2:=aA (dW (o':=O) hg) 2 (u:=sv s) rfl
 obtain ⟨b',hb'⟩:∃b',b'=(b||(jK ns s).isNone):=⟨_,rfl⟩
 rw[<-hb'] at hcall ⊢
 have HB:Hid _:=hbO.drew
 generalize sv s=S at hcall c2
 unfold lookV at hO hcall e0 e1 ⊢
 rw[hO] at hcall e0 e1 c0 c2 HB
 clear h hg hb' hbO k0 hO hs
 rcases hc with rfl|rfl
 all_goals
  go_enter Tryz.func256,Tryz.ntmps256
  go_wp2_with fail
  go_region_with (refine hcall.mono ?_;rintro e w' ⟨rfl,hr⟩)
  all_goals
   go_wp2_with fail
   go_ret
   exact ⟨_,rfl,sJ HB.out hr.out.1,hr.out.2⟩
end
end
end Go.Proofs.YtcdbhoknhnimcaaGreatDoor
