import Derived.Test.YtpogmfliojcnjaaGreatDoorSCk2
import Derived.Defers
import Derived.Recover
import Derived.RowKit
import Derived.IntWalk
import Derived.Laws.Bits64
import Derived.Test.YtpogmfliojcnjaaGreatDoorProg
import Derived.WalkKit
import Derived.WalkSpells
import Derived.WalkLawsBesides
import Derived.Laws.EntriesVeiled
import Derived.Deep.Cut
namespace Go.Proofs.YtpogmfliojcnjaaGreatDoor
section
open Go.RowKit Px
theorem ck_set {w:World}{g:Nat}{l:List Value}{T:TypeId}{f:Nat×Nat}(h:w.heap[g]?=some (.cells l.toArray T f)) (k:Nat) (x:Value):(w.setCell ⟨g,k,none⟩ x).heap[g]?=some (.cells (l.set k x).toArray T f):=by
 have hl:=lt_of_block h
 have e:w.heap[g]=.cells l.toArray T f:=by rw[Array.getElem?_eq_getElem hl] at h;exact Option.some.inj h
 simp only[World.setCell]
 rw[Array.getElem?_eq_getElem (by simpa using hl),Array.getElem_modify]
 simp[e]
theorem ck_frozen {w:World}{g:Nat}{l:Array Value}{T:TypeId}(h:w.heap[g]?=some (.cells l T (0,0))) (k:Nat):w.frozen? ⟨g,k,none⟩=false:=by
 simp[World.frozen?,h]
def NumsAt (w:World) (g:Nat) (W:List Int):Prop:=w.heap[g]?=some (.cells (W.map (Value.int .i64)).toArray 3 (0,0))
theorem NumsAt.cell {w:World}{g:Nat}{W:List Int}(h:NumsAt w g W) (j:Nat) (hj:j<W.length):w.cell? ⟨g,j,none⟩=some (.int .i64 (W.getD j 0)):=by
 refine cell_row h j ?_
 simp[List.getElem?_eq_getElem hj,List.getD_eq_getElem?_getD]
theorem NumsAt.set {w:World}{g:Nat}{W:List Int}(h:NumsAt w g W) (j:Nat) (x:Int):NumsAt (w.setCell ⟨g,j,none⟩ (.int .i64 x)) g (W.set j x):=by
 have:=ck_set h j (.int .i64 x)
 rw[NumsAt,List.map_set];exact this
theorem NumsAt.keep {w w':World}{g:Nat}{W:List Int}(h:NumsAt w g W) (hk:w'.heap[g]?=w.heap[g]?):NumsAt w' g W:=by rw[NumsAt,hk];exact h
set_option maxRecDepth 100000 in
set_option maxHeartbeats 1000000 in
theorem index_any {w:World}{g n cap:Nat}{W:List Int}(hn:Hid (n=W.length)) (hm:n≤1000000) (hW:NumsAt w g W) :
    Calls Tryz.prog 218 #[.slice (some ⟨g,0,none⟩) n cap,.int .i64 0] w fun e w'=>w'=w/\((∃k:Nat,e=.returned (.int .i64 (k:Int))/\k<n/\W.getD k 0=0/\∀j,j<k->W.getD j 0≠0)\/(e=.returned (.int .i64 (-1))/\∀j,j<n->W.getD j 0≠0)):=by
 have HW:Hid (NumsAt w g W):=hW
 clear hW
 go_enter Tryz.func218,Tryz.ntmps218
 go_wp2_with fail
 go_loopg [8] n (fun f i wr=>∃k:Nat,f=n-k/\k≤n/\i=.int .i64 (k:Int)/\Hid (wr=w/\∀j,j<k->W.getD j 0≠0))
 case atStart=>exact ⟨0,by omega,by omega,rfl,rfl,fun j hj=>absurd hj (by omega)⟩
 case round=>
  obtain ⟨k,rfl,hk,rfl,hr⟩:=hrel
  obtain ⟨hw,hno⟩:=hr.out
  subst hw
  have HN:Hid (∀j,j<k->W.getD j 0≠0):=hno
  clear hr hno
  by_cases hlt:k<n
  ·have hix:=ixI (some ⟨g,0,none⟩) g n cap k hlt (fun _=>rfl)
   have hc:=HW.out.cell k (by rw[<-hn.out];exact hlt)
   obtain ⟨x,hx⟩:∃x,x=W.getD k 0:=⟨_,rfl⟩
   rw[<-hx] at hc
   have HX:Hid (x=W.getD k 0):=hx
   clear hx
   by_cases h0:x=0
   ·subst h0
    go_wp2_with fail
    go_ret
    exact ⟨rfl,.inl ⟨k,rfl,hlt,HX.out.symm,HN.out⟩⟩
   ·have h1:((0:Int)==x)=false:=by simp;omega
    have h2:decide ((0:Int)=x)=false:=by simp;omega
    have h3:¬(0:Int)=x:=by omega
    have H0:Hid (x≠0):=h0
    clear h0
    go_wp2_with fail
    go_roundg (n-(k+1))
    case measure=>omega
    case rel=>
     refine ⟨k+1,rfl,by omega,by go_num,rfl,fun j hj=>?_⟩
     by_cases e:j=k
     ·subst e;rw[<-HX.out];exact H0.out
     ·exact HN.out j (by omega)
  ·obtain rfl:k=n:=by omega
   go_wp2_with fail
   go_ret
   exact ⟨rfl,.inr ⟨rfl,HN.out⟩⟩
def NamesAt (w:World) (g n:Nat) (ns:List Str):Prop:=n=ns.length/\∀i,i<n->w.cell? ⟨g,i*9,none⟩=some (sv (ns.getD i []))/\(ns.getD i []).length≤maxLen
set_option maxRecDepth 100000 in
set_option maxHeartbeats 1000000 in
theorem stateFinder_any {w:World}{ad:Option Addr}{g n cap:Nat}{ns:List Str}(ha:0<n->ad=some ⟨g,0,none⟩) (hm:n≤1000000) (hN:NamesAt w g n ns) :
    Calls Tryz.prog 150 #[.slice ad n cap] w fun e w'=>∃f,e=.returned f/\FindV w' f ns/\Below w.heap.size w w':=by
 have hmf:∀(fn:Fn) (first cap:Array Value) (w:World),(Instr.makeFunc fn first cap).run Tryz.prog w=.ok (.func fn first cap) w:=fun _ _ _ _=>rfl
 have hb:=ck_new w (.cells #[.slice ad n cap] 64)
 have hcall:=finder_any 181 (.inr rfl) w.heap.size ns n hN.1 hm (fun i hi=>(hN.2 i hi).2) (w.alloc (.cells #[.slice ad n cap] 64)) (fun X i hX hi=>
  name_state (ck_cell hX (cell_row hb 0 rfl)) hi ha (ck_cell hX (ck_cell (ck_grown w _) (hN.2 i hi).1)))
 clear hb hN
 go_enter Tryz.func150,Tryz.ntmps150
 go_wp2_with (refine hcall.mono ?_;rintro e w' ⟨f,rfl,hf⟩;have HF:Hid _:=hf;clear hf)
 go_ret
 exact ⟨f,rfl,HF.out.1,ck_all (ck_grown w _) HF.out.2⟩
def WaysAt (w:World) (gy:Nat) (ys:List Wy):Prop:=∀m y,ys[m]?=some y->∃p q,w.cell? ⟨gy,m*7,none⟩=some (.int .i64 y.kind)/\w.cell? ⟨gy,m*7+1,none⟩=some (.bool y.now)/\w.cell? ⟨gy,m*7+2,none⟩=some (.pointer p)/\w.cell? ⟨gy,m*7+3,none⟩=some (.int .i64 y.times)/\w.cell? ⟨gy,m*7+4,none⟩=some q/\w.cell? ⟨gy,m*7+5,none⟩=some (sv y.to)/\w.cell? ⟨gy,m*7+6,none⟩=some (.bool y.back)/\(∃a n c,q=.slice a n c)/\y.to.length≤maxLen
set_option maxRecDepth 100000 in
set_option maxHeartbeats 4000000 in
theorem ckcount_any {w:World}{ad ay:Option Addr}{g gy n N cap capy i rb fb wb gw pb mb nm:Nat}{ns:List Str}{ys:List Wy}{W:List Int}(by':Int) (hi:i<n) (ha:0<n->ad=some ⟨g,0,none⟩) (hN:Hid (N=ys.length)) (hNm:N≤1000000) (hn:Hid (n=W.length/\∀s t,fnd ns s=some t->t<n))
    (hrb:w.cell? ⟨rb,0,none⟩=some (.slice ad n cap)) (hfb:w.cell? ⟨fb,0,none⟩=some (.func (.func 108) #[] #[.pointer (some ⟨pb,0,none⟩)])) (hwb:w.cell? ⟨wb,0,none⟩=some (.slice (some ⟨gw,0,none⟩) n n))
    (hpb:w.heap[pb]?=some (.cells #[.map (some mb)] 96 (0,0))) (hmb:MapF w mb nm (fnd ns)) (hW:NumsAt w gw W)
    (hy:w.cell? ⟨g,i*9+7,none⟩=some (.slice ay N capy)) (hay:0<N->ay=some ⟨gy,0,none⟩/\gy<w.heap.size) (hYs:WaysAt w gy ys) (hd:Hid (gw≠fb/\gw≠wb/\gw≠pb/\gw≠mb/\(0<N->gw≠gy)))
    (hbd:Hid (∀m j,m≤N->-4611686018427387904≤(bump n by' (tosF ns ys) m W).getD j 0/\(bump n by' (tosF ns ys) m W).getD j 0≤4611686018427387904)) :
    Calls Tryz.prog 217 #[.int .i64 (i:Int),.int .i64 by',.pointer (some ⟨rb,0,none⟩),.pointer (some ⟨fb,0,none⟩),.pointer (some ⟨wb,0,none⟩)] w fun e w'=>e=.returned (.tuple #[])/\NumsAt w' gw (bump n by' (tosF ns ys) N W)/\Fr w.heap.size [gw] w w':=by
 have hix:=ixT ad g n cap i hi ha
 have HW:Hid (NumsAt w gw W):=hW
 have HY:Hid (WaysAt w gy ys):=hYs
 have HM:Hid (MapF w mb nm (fnd ns)):=hmb
 have HP:Hid (w.heap[pb]?=some (.cells #[.map (some mb)] 96 (0,0))):=hpb
 have HF:Hid (w.cell? ⟨fb,0,none⟩=some (.func (.func 108) #[] #[.pointer (some ⟨pb,0,none⟩)])/\w.cell? ⟨wb,0,none⟩=some (.slice (some ⟨gw,0,none⟩) n n)):=⟨hfb,hwb⟩
 have HA:Hid (0<N->ay=some ⟨gy,0,none⟩/\gy<w.heap.size):=hay
 clear hW hYs hmb hpb hfb hwb hay
 go_enter Tryz.func217,Tryz.ntmps217
 go_wp2_with fail
 clear hix hrb hy
 go_loopg [16] N (fun f i wr=>∃k:Nat,f=N-k/\k≤N/\i=.int .i64 (k:Int)/\Hid (NumsAt wr gw (bump n by' (tosF ns ys) k W)/\Fr w.heap.size [gw] w wr))
 case atStart=>exact ⟨0,by omega,by omega,rfl,HW.out,Fr.refl _ _ _⟩
 case round=>
  obtain ⟨k,rfl,hk,rfl,hr⟩:=hrel
  by_cases hlt:k<N
  ·obtain ⟨y,hyk⟩:∃y,Hid (ys[k]?=some y):=⟨ys[k]'(by rw[<-hN.out];exact hlt),by rw[Hid,List.getElem?_eq_getElem]⟩
   obtain ⟨p,q,c0,c1,c2,c3,c4,c5,c6,⟨qa,qn,qc,rfl⟩,hto⟩:=HY.out k y hyk.out
   obtain ⟨d1,d2,d3,d4,d5⟩:=hd.out
   have hgy:=(HA.out (by omega)).2
   have ey:wr.heap[gy]?=w.heap[gy]?:=hr.out.2.block gy hgy (by simpa using fun e=>d5 (by omega) e.symm)
   have ec:∀o,wr.cell? ⟨gy,o,none⟩=w.cell? ⟨gy,o,none⟩:=fun o=>World.cell?_of_block (w:=w) (a:=⟨gy,o,none⟩) ey
   rw[<-ec] at c0 c1 c2 c3 c4 c5 c6
   have hixk:=ixW ay gy N capy k hlt (fun h=>(HA.out h).1)
   have hlf:fb<w.heap.size:=World.block_lt_of_cell? w _ HF.out.1
   have hlw:wb<w.heap.size:=World.block_lt_of_cell? w _ HF.out.2
   have cf:wr.cell? ⟨fb,0,none⟩=some (.func (.func 108) #[] #[.pointer (some ⟨pb,0,none⟩)]):=by
    rw[hr.out.2.cell (p:=⟨fb,0,none⟩) hlf (by simpa using fun e=>d1 e.symm)];exact HF.out.1
   have cw:wr.cell? ⟨wb,0,none⟩=some (.slice (some ⟨gw,0,none⟩) n n):=by
    rw[hr.out.2.cell (p:=⟨wb,0,none⟩) hlw (by simpa using fun e=>d2 e.symm)];exact HF.out.2
   have hp':wr.heap[pb]?=some (.cells #[.map (some mb)] 96 (0,0)):=by
    rw[hr.out.2.block pb (lt_of_block HP.out) (by simpa using fun e=>d3 e.symm)];exact HP.out
   have hm':MapF wr mb nm (fnd ns):=HM.out.keep (hr.out.2.block mb HM.out.lt (by simpa using fun e=>d4 e.symm))
   obtain ⟨LO,hLO⟩:∃LO,Hid (LO=Obj.cells #[.int .i64 y.kind,.bool y.now,.pointer p,.int .i64 y.times,.slice qa qn qc,sv y.to,.bool y.back] 73):=⟨_,rfl⟩
   have hcall:Calls Tryz.prog 108 #[sv y.to,.pointer (some ⟨pb,0,none⟩)] (wr.alloc LO) fun e w'=>e=.returned (.int .i64 (fndI ns y.to))/\w'=wr.alloc LO:=find_any (ck_old hp') (hm'.below (ck_grown wr _)) hto
   have hnx:NumsAt (wr.alloc LO) gw (bump n by' (tosF ns ys) k W):=ck_old hr.out.1
   have hfr:Fr w.heap.size [gw] w (wr.alloc LO):=hr.out.2.alloc hr.out.2.size _
   have H1:Hid (NumsAt (wr.alloc LO) gw (bump n by' (tosF ns ys) k W)/\Fr w.heap.size [gw] w (wr.alloc LO)):=⟨hnx,hfr⟩
   rw[hLO.out] at hcall H1
   clear ey ec hp' hm' hnx hfr hr hLO d1 d2 d3 d4 d5 hgy
   obtain ⟨b0,hb0⟩:∃b,Hid (y.now=b):=⟨_,rfl⟩
   rw[hb0.out] at c1 hcall H1
   have hst:=tosF_at ns ys k y hyk.out
   rw[hb0.out] at hst
   have HST:Hid _:=hst
   clear hst
   obtain ⟨S,hS⟩:∃S,sv y.to=.string S:=⟨_,rfl⟩
   rw[hS] at c5 hcall H1
   clear hS
   have cf':=ck_cell (ck_grown wr (.cells #[.int .i64 y.kind,.bool b0,.pointer p,.int .i64 y.times,.slice qa qn qc,.string S,.bool y.back] 73)) cf
   clear cf
   cases b0 with
   | false=>
    obtain ⟨t9,ht9⟩:∃t,t=fndI ns y.to:=⟨_,rfl⟩
    rw[<-ht9] at hcall
    clear ht9
    go_wp2_with (refine hcall.mono ?_;rintro e w' ⟨rfl,rfl⟩)
    go_roundg (N-(k+1))
    case measure=>omega
    case rel=>
     refine ⟨k+1,rfl,by omega,by go_num,?_⟩
     rw[Hid,bump,HST.out]
     exact H1.out
   | true=>
    cases hf:fnd ns y.to with
    | none=>
     have e:fndI ns y.to=-1:=by unfold fndI;rw[hf]
     rw[e] at hcall
     rw[hf] at HST
     clear hf e
     go_wp2_with (refine hcall.mono ?_;rintro e w' ⟨rfl,rfl⟩)
     go_roundg (N-(k+1))
     case measure=>omega
     case rel=>
      refine ⟨k+1,rfl,by omega,by go_num,?_⟩
      rw[Hid,bump,HST.out]
      exact H1.out
    | some t=>
     have e:fndI ns y.to=(t:Int):=by unfold fndI;rw[hf]
     rw[e] at hcall
     have htn:t<n:=hn.out.2 _ _ hf
     rw[hf] at HST
     clear hf e
     have hgz:(0:Int)≤(t:Int):=by omega
     have hixt:=ixI (some ⟨gw,0,none⟩) gw n n t htn (fun _=>rfl)
     obtain ⟨x,hx⟩:∃x,x=(bump n by' (tosF ns ys) k W).getD t 0:=⟨_,rfl⟩
     have cx:=H1.out.1.cell t (by rw[bump_len,<-hn.out.1];exact htn)
     rw[<-hx] at cx
     have cz:=ck_frozen H1.out.1 t
     have hb:=hbd.out (k+1) t hlt
     have hbx:(bump n by' (tosF ns ys) (k+1) W).getD t 0=x+by':=by
      rw[bump,HST.out]
      show ((bump n by' (tosF ns ys) k W).set t _).getD t 0=_
      rw[List.getD_eq_getElem?_getD,List.getElem?_set,if_pos rfl,bump_len,if_pos (by rw[<-hn.out.1];exact htn),<-hx];rfl
     rw[hbx] at hb
     have hwr:IntKind.i64.wrap (x+by')=x+by':=by rw[IntKind.wrap_i64];omega
     have cw':=ck_cell (ck_grown wr (.cells #[.int .i64 y.kind,.bool true,.pointer p,.int .i64 y.times,.slice qa qn qc,.string S,.bool y.back] 73)) cw
     have HX:Hid (x=(bump n by' (tosF ns ys) k W).getD t 0):=hx
     clear hx hb hbx cw
     go_wp2_with (refine hcall.mono ?_;rintro e w' ⟨rfl,rfl⟩)
     go_roundg (N-(k+1))
     case measure=>omega
     case rel=>
      refine ⟨k+1,rfl,by omega,by go_num,?_⟩
      rw[Hid,bump,HST.out]
      show NumsAt _ gw ((bump n by' (tosF ns ys) k W).set t ((bump n by' (tosF ns ys) k W).getD t 0+by'))/\_
      rw[<-HX.out]
      exact ⟨H1.out.1.set t _,H1.out.2.setCell (.inr (by simp)) _⟩
  ·obtain rfl:k=N:=by omega
   go_wp2_with fail
   go_end0
   exact ⟨rfl,hr.out⟩
end
section
open Go.RowKit Px
def lookV (fb kb:Nat):Value:=.func (.func 216) #[] #[.pointer (some ⟨fb,0,none⟩),.pointer (some ⟨kb,0,none⟩)]
structure LookAt (w:World) (fb kb ck pb mb nm:Nat) (ns:List Str) (b:Bool):Prop where
 found:w.heap[fb]?=some (.cells #[.bool b] 4 (0,0))
 hkb:w.cell? ⟨kb,0,none⟩=some (.pointer (some ⟨ck,0,none⟩))
 hck:w.cell? ⟨ck,1,none⟩=some (.func (.func 108) #[] #[.pointer (some ⟨pb,0,none⟩)])
 hpb:w.heap[pb]?=some (.cells #[.map (some mb)] 96 (0,0))
 hmb:MapF w mb nm (fnd ns)
 ne:fb≠kb/\fb≠ck/\fb≠pb/\fb≠mb
theorem LookAt.fr {w w':World}{fb kb ck pb mb nm:Nat}{ns:List Str}{b b':Bool}(h:LookAt w fb kb ck pb mb nm ns b) (hF:Fr w.heap.size [fb] w w') (hf:w'.heap[fb]?=some (.cells #[.bool b'] 4 (0,0))):LookAt w' fb kb ck pb mb nm ns b':=by
 obtain ⟨e1,e2,e3,e4⟩:=h.ne
 have hc:∀{x o:Nat}{v:Value},fb≠x->w.cell? ⟨x,o,none⟩=some v->w'.cell? ⟨x,o,none⟩=some v:=fun {x o v} hb hv=>by
  rw[hF.cell (p:=⟨x,o,none⟩) (World.block_lt_of_cell? w _ hv) (by simpa using Ne.symm hb)];exact hv
 exact ⟨hf,hc e1 h.hkb,hc e2 h.hck,by rw[hF.block pb (lt_of_block h.hpb) (by simpa using Ne.symm e3)];exact h.hpb,h.hmb.keep (hF.block mb h.hmb.lt (by simpa using Ne.symm e4)),h.ne⟩
theorem LookAt.below {w w':World}{fb kb ck pb mb nm:Nat}{ns:List Str}{b:Bool}(h:LookAt w fb kb ck pb mb nm ns b) (hb:Below w.heap.size w w'):LookAt w' fb kb ck pb mb nm ns b:=
 h.fr (Fr.of_below hb _) (ck_block hb h.found)
set_option maxRecDepth 100000 in
theorem look_any {w:World}{fb kb ck pb mb nm:Nat}{ns:List Str}{b:Bool}{s:Str}(h:LookAt w fb kb ck pb mb nm ns b) (hs:s.length≤maxLen) :
    Calls Tryz.prog 216 #[sv s,.pointer (some ⟨fb,0,none⟩),.pointer (some ⟨kb,0,none⟩)] w fun e w'=>e=.returned (.int .i64 0)/\w'=w.setCell ⟨fb,0,none⟩ (.bool (b||(fnd ns s).isNone)):=by
 have c0:=cell_row h.found 0 (u:=.bool b) rfl
 have z0:=ck_frozen h.found 0
 have c1:=h.hkb
 have c2:=h.hck
 have hcall:=find_any h.hpb h.hmb hs
 clear h
 generalize sv s=S at hcall ⊢
 cases b with
 | true=>
  go_enter Tryz.func216,Tryz.ntmps216
  go_wp2_with fail
  go_ret
  exact ⟨rfl,rfl⟩
 | false=>
  cases hf:fnd ns s with
  | none=>
   have e:fndI ns s=-1:=by unfold fndI;rw[hf]
   rw[e] at hcall
   clear e hf
   go_enter Tryz.func216,Tryz.ntmps216
   go_wp2_with (go_at_call 108;refine hcall.mono ?_;rintro e w' ⟨rfl,rfl⟩)
   go_ret
   exact ⟨rfl,rfl⟩
  | some i=>
   have e:fndI ns s=(i:Int):=by unfold fndI;rw[hf]
   rw[e] at hcall
   have hi:¬(i:Int)<0:=by omega
   clear e hf
   go_enter Tryz.func216,Tryz.ntmps216
   go_wp2_with (go_at_call 108;refine hcall.mono ?_;rintro e w' ⟨rfl,rfl⟩)
   go_ret
   exact ⟨rfl,rfl⟩
theorem ck_catch (p:Addr) (w:World) :
    CallsD Tryz.prog 219 #[.pointer (some p)] .returning w fun e u' w'=>e=.returned (.tuple #[])/\u'=.returning/\w'=w:=by
 refine callsD_of_wpS Tryz.func219 rfl fun c₀ cs hu=>?_
 apply wpS_seq
 apply wpS_region
 simp[wpOpsS,go_sem,recoverD,hu,Tryz.ntmps219,Exit.thenS]
 refine wpS_cond (t:=false) (by simp[Act.eval,Array.replicate]) ?_
 simp only[Bool.false_eq_true,if_false]
 refine wpS_of_wp (wp_skip ?_)
 cases c₀
 simp_all [bodyPostS,results,Tryz.results219]
theorem ck_notnil (x y:Value) (w:World):(binOp BinOp.eql 217 (.func (.func 216) #[] #[x,y]) .nilFunc).run Tryz.prog w=.ok (.bool false) w:=by kernel_rfl
theorem ask_any {w:World}{fb kb ck pb mb nm:Nat}{ns:List Str}{b:Bool}{s:Str}(h:LookAt w fb kb ck pb mb nm ns b) (hs:s.length≤maxLen) :
    Calls Tryz.prog 186 #[lookV fb kb,sv s] w fun e w'=>e=.returned (.int .i64 0)/\Hid (Fr w.heap.size [fb] w w'/\LookAt w' fb kb ck pb mb nm ns (b||(fnd ns s).isNone)):=by
 have hmf:∀(fn:Fn) (first cap:Array Value) (w:World),(Instr.makeFunc fn first cap).run Tryz.prog w=.ok (.func fn first cap) w:=fun _ _ _ _=>rfl
 have q0:=ck_notnil
 have HL:Hid (LookAt w fb kb ck pb mb nm ns b):=h
 have hcall:=look_any (h.below (ck_grown w (.cells #[.int .i64 0] 2))) hs
 have hlt:=lt_of_block h.found
 clear h
 unfold lookV
 obtain ⟨b',hb'⟩:∃b',b'=(b||(fnd ns s).isNone):=⟨_,rfl⟩
 rw[<-hb'] at hcall ⊢
 clear hb'
 generalize sv s=S at hcall ⊢
 go_enter_defers Tryz.func186,Tryz.ntmps186
 go_wp2_with (refine hcall.mono ?_;rintro e w' ⟨rfl,rfl⟩)
 refine leaves_cons (f:=219) (args:=#[.pointer (some ⟨w.heap.size,0,none⟩)]) (by simp) (by simp[go_sem]) ?_
 refine (ck_catch ⟨w.heap.size,0,none⟩ _).mono ?_
 rintro e u' w'' ⟨rfl,rfl,rfl⟩
 have hF:Fr w.heap.size [fb] w ((w.setCell ⟨fb,0,none⟩ (.bool b')).alloc (.cells #[.int .i64 0] 2)):=((Fr.refl _ _ _).setCell (.inr (by simp)) _).alloc (by simp[World.setCell]) _
 have hfd:((w.setCell ⟨fb,0,none⟩ (.bool b')).alloc (.cells #[.int .i64 0] 2)).heap[fb]?=some (.cells #[.bool b'] 4 (0,0)):=ck_old (ck_set (l:=[.bool b]) HL.out.found 0 (.bool b'))
 have hfin:Hid (Fr w.heap.size [fb] w ((w.setCell ⟨fb,0,none⟩ (.bool b')).alloc (.cells #[.int .i64 0] 2))/\LookAt ((w.setCell ⟨fb,0,none⟩ (.bool b')).alloc (.cells #[.int .i64 0] 2)) fb kb ck pb mb nm ns b'):=⟨hF,HL.out.fr hF hfd⟩
 simp[Leaves,settle,results,Tryz.results186,go_sem,World.setCell]
 exact hfin
end
section
open Go.RowKit
def yes (b:Bool):Int:=if b then 1 else 0
def vOne (c a:Int):Int:=if c=4 then wrap64 (-a) else if c=5 then yes (a==0) else 0
def vDiv (a b:Int):Int:=if b=0 then 0 else wrap64 (a.tdiv b)
def vMod (a b:Int):Int:=if b=0 then 0 else a.tmod b
def vTwo (c a b:Int):Int:=
 if c=6 then wrap64 (a+b) else
 if c=7 then wrap64 (a-b) else
 if c=8 then wrap64 (a*b) else
 if c=9 then vDiv a b else
 if c=10 then vMod a b else
 if c=11 then yes (a==b) else
 if c=12 then yes (a != b) else
 if c=13 then yes (decide (a<b)) else
 if c=14 then yes (decide (a≤b)) else
 if c=15 then yes (a != 0&&b != 0) else
 if c=16 then yes (a != 0||b != 0) else 0
theorem wrap64_lo (x:Int):-9223372036854775808≤wrap64 x/\wrap64 x≤9223372036854775807:=by
 unfold wrap64;omega
theorem tmod_small (a b:Int) (hb:-9223372036854775808≤b/\b≤9223372036854775807) (h:¬b=0) :
    -9223372036854775808≤a.tmod b/\a.tmod b≤9223372036854775807:=by
 have h1:(a.tmod b).natAbs=a.natAbs % b.natAbs:=Int.natAbs_tmod a b
 have h2:=Nat.mod_lt a.natAbs (show 0<b.natAbs by omega)
 omega
end
section
open Go.RowKit
theorem truth_any (b:Bool) (w:World) :
    Calls Tryz.prog 220 #[.bool b] w fun e w'=>e=.returned (.int .i64 (yes b))/\w'=w:=by
 cases b
 all_goals
  go_enter Tryz.func220,Tryz.ntmps220
  go_wp2
  go_ret
  exact ⟨rfl,rfl⟩
theorem add_any (a b:Int) (w:World) :
    Calls Tryz.prog 221 #[.int .i64 a,.int .i64 b] w fun e w'=>e=.returned (.int .i64 (wrap64 (a+b)))/\w'=w:=by
 go_enter Tryz.func221,Tryz.ntmps221
 go_wp2
 go_ret
 exact ⟨rfl,rfl⟩
theorem sub_any (a b:Int) (w:World) :
    Calls Tryz.prog 222 #[.int .i64 a,.int .i64 b] w fun e w'=>e=.returned (.int .i64 (wrap64 (a-b)))/\w'=w:=by
 go_enter Tryz.func222,Tryz.ntmps222
 go_wp2
 go_ret
 exact ⟨rfl,rfl⟩
theorem mul_any (a b:Int) (w:World) :
    Calls Tryz.prog 223 #[.int .i64 a,.int .i64 b] w fun e w'=>e=.returned (.int .i64 (wrap64 (a*b)))/\w'=w:=by
 go_enter Tryz.func223,Tryz.ntmps223
 go_wp2
 go_ret
 exact ⟨rfl,rfl⟩
theorem quotient_any (a b:Int) (w:World) :
    Calls Tryz.prog 224 #[.int .i64 a,.int .i64 b] w fun e w'=>e=.returned (.int .i64 (vDiv a b))/\w'=w:=by
 by_cases h:b=0
 ·subst h
  go_enter Tryz.func224,Tryz.ntmps224
  go_wp2
  go_ret
  exact ⟨rfl,rfl⟩
 ·have e:vDiv a b=wrap64 (a.tdiv b):=if_neg h
  have E:Hid (vDiv a b=wrap64 (a.tdiv b)):=e
  clear e
  have hb:(b==0)=false:=by simpa using h
  go_enter Tryz.func224,Tryz.ntmps224
  go_wp2
  go_ret
  exact ⟨by rw[E.out];rfl,rfl⟩
theorem rest_any (a b:Int) (w:World) :
    Calls Tryz.prog 225 #[.int .i64 a,.int .i64 b] w fun e w'=>e=.returned (.int .i64 (vMod a b))/\w'=w:=by
 by_cases h:b=0
 ·subst h
  go_enter Tryz.func225,Tryz.ntmps225
  go_wp2
  go_ret
  exact ⟨rfl,rfl⟩
 ·have E:Hid (vMod a b=a.tmod b):=if_neg h
  have hb:(b==0)=false:=by simpa using h
  go_enter Tryz.func225,Tryz.ntmps225
  go_wp2
  go_ret
  exact ⟨by rw[E.out];rfl,rfl⟩
set_option maxHeartbeats 400000 in
theorem eq_any (a b:Int) (w:World) :
    Calls Tryz.prog 226 #[.int .i64 a,.int .i64 b] w fun e w'=>e=.returned (.int .i64 (yes (a==b)))/\w'=w:=by
 go_enter Tryz.func226,Tryz.ntmps226
 go_wp2_with (go_at_call 220;refine (truth_any _ _).mono ?_;rintro e w' ⟨rfl,rfl⟩)
 go_ret
 exact ⟨rfl,rfl⟩
theorem ne_any (a b:Int) (w:World) :
    Calls Tryz.prog 227 #[.int .i64 a,.int .i64 b] w fun e w'=>e=.returned (.int .i64 (yes (a != b)))/\w'=w:=by
 go_enter Tryz.func227,Tryz.ntmps227
 go_wp2_with (go_at_call 220;refine (truth_any _ _).mono ?_;rintro e w' ⟨rfl,rfl⟩)
 go_ret
 exact ⟨rfl,rfl⟩
theorem lt_any (a b:Int) (w:World) :
    Calls Tryz.prog 228 #[.int .i64 a,.int .i64 b] w fun e w'=>e=.returned (.int .i64 (yes (decide (a<b))))/\w'=w:=by
 go_enter Tryz.func228,Tryz.ntmps228
 go_wp2_with (go_at_call 220;refine (truth_any _ _).mono ?_;rintro e w' ⟨rfl,rfl⟩)
 go_ret
 exact ⟨rfl,rfl⟩
theorem le_any (a b:Int) (w:World) :
    Calls Tryz.prog 229 #[.int .i64 a,.int .i64 b] w fun e w'=>e=.returned (.int .i64 (yes (decide (a≤b))))/\w'=w:=by
 go_enter Tryz.func229,Tryz.ntmps229
 go_wp2_with (go_at_call 220;refine (truth_any _ _).mono ?_;rintro e w' ⟨rfl,rfl⟩)
 go_ret
 exact ⟨rfl,rfl⟩
theorem and_any (a b:Int) (w:World) :
    Calls Tryz.prog 230 #[.int .i64 a,.int .i64 b] w fun e w'=>e=.returned (.int .i64 (yes (a != 0&&b != 0)))/\w'=w:=by
 by_cases h:a=0
 ·subst h
  go_enter Tryz.func230,Tryz.ntmps230
  go_wp2_with (go_at_call 220;refine (truth_any _ _).mono ?_;rintro e w' ⟨rfl,rfl⟩)
  go_ret
  exact ⟨rfl,rfl⟩
 ·have ha:(a != 0)=true:=by simpa using h
  go_enter Tryz.func230,Tryz.ntmps230
  go_wp2_with (go_at_call 220;refine (truth_any _ _).mono ?_;rintro e w' ⟨rfl,rfl⟩)
  go_ret
  exact ⟨by rw[ha];rfl,rfl⟩
theorem or_any (a b:Int) (w:World) :
    Calls Tryz.prog 231 #[.int .i64 a,.int .i64 b] w fun e w'=>e=.returned (.int .i64 (yes (a != 0||b != 0)))/\w'=w:=by
 by_cases h:a=0
 ·subst h
  go_enter Tryz.func231,Tryz.ntmps231
  go_wp2_with (go_at_call 220;refine (truth_any _ _).mono ?_;rintro e w' ⟨rfl,rfl⟩)
  go_ret
  exact ⟨rfl,rfl⟩
 ·have ha:(a != 0)=true:=by simpa using h
  go_enter Tryz.func231,Tryz.ntmps231
  go_wp2_with (go_at_call 220;refine (truth_any _ _).mono ?_;rintro e w' ⟨rfl,rfl⟩)
  go_ret
  exact ⟨by rw[ha];rfl,rfl⟩
theorem one_any (c a:Int) (w:World) :
    Calls Tryz.prog 187 #[.int .i64 c,.int .i64 a] w fun e w'=>e=.returned (.int .i64 (vOne c a))/\w'=w:=by
 by_cases h4:c=4
 ·subst h4
  go_enter Tryz.func187,Tryz.ntmps187
  go_wp2
  go_ret
  exact ⟨rfl,rfl⟩
 ·by_cases h5:c=5
  ·subst h5
   go_enter Tryz.func187,Tryz.ntmps187
   go_wp2_with (go_at_call 220;refine (truth_any _ _).mono ?_;rintro e w' ⟨rfl,rfl⟩)
   go_ret
   exact ⟨rfl,rfl⟩
  ·have E:Hid (vOne c a=0):=by unfold Hid vOne;rw[if_neg h4,if_neg h5]
   have b4:(c==4)=false:=by simpa using h4
   have b5:(c==5)=false:=by simpa using h5
   go_enter Tryz.func187,Tryz.ntmps187
   go_wp2
   go_ret
   exact ⟨by rw[E.out];rfl,rfl⟩
end
section
open Go.RowKit
theorem setRow_alloc (w:World) (a b:Array Value) (t:TypeId):(w.alloc (.cells a t)).setRow w.heap.size b=w.alloc (.cells b t):=by
 unfold World.setRow World.alloc
 congr 1
 apply Array.ext
 ·simp
 ·intro k h1 h2
  simp only[Array.getElem_modify,Array.getElem_push]
  split
  ·rename_i hk;subst hk;simp
  ·rename_i hk;have:k<w.heap.size:=by simp at h2;omega
   simp[this]
def asked:Array Value:=#[.nilFunc,.nilFunc,.nilFunc,.nilFunc,.nilFunc,.nilFunc,.func (.func 221) #[] #[],.func (.func 222) #[] #[],.func (.func 223) #[] #[],.func (.func 224) #[] #[],.func (.func 225) #[] #[],.func (.func 226) #[] #[],.func (.func 227) #[] #[],.func (.func 228) #[] #[],.func (.func 229) #[] #[],.func (.func 230) #[] #[],.func (.func 231) #[] #[]]
theorem asked_one:(asked.all fun x=>x.oneCell')=true:=by kernel_rfl
theorem asked_info:(Tryz.prog.info? 286).map (·.size)=some asked.size:=by kernel_rfl
theorem asked_cell (w:World) (j:Nat) (v:Value) (h:asked[j]?=some v):(w.alloc (.cells asked 286)).cell? ⟨w.heap.size,j,none⟩=some v:=by
 have e:=(MapKept.heap_alloc w (.cells asked 286)).1
 simp only[World.cell?,e]
 exact h
theorem neq_nil (k:Nat) (w:World):(binOp BinOp.eql 285 (.func (.func k) #[] #[]) .nilFunc).run Tryz.prog w=.ok (.bool false) w:=by kernel_rfl
theorem eq_nil (w:World):(binOp BinOp.eql 285 .nilFunc .nilFunc).run Tryz.prog w=.ok (.bool true) w:=by kernel_rfl
set_option maxHeartbeats 4000000 in
theorem two_func (c:Int) (k:Nat) (a b r:Int) (w:World) (h0:0≤c) (h1:c<17) (hk:asked[c.toNat]?=some (.func (.func k) #[] #[]))
    (hkk:k=221\/k=222\/k=223\/k=224\/k=225\/k=226\/k=227\/k=228\/k=229\/k=230\/k=231)
    (hcall:∀w,Calls Tryz.prog k #[.int .i64 a,.int .i64 b] w fun e w'=>e=.returned (.int .i64 r)/\w'=w) :
    Calls Tryz.prog 188 #[.int .i64 c,.int .i64 a,.int .i64 b] w fun e w'=>e=.returned (.int .i64 r)/\w'=w.alloc (.cells asked 286):=by
 have q0:=neq_nil
 have hc:=asked_cell w c.toNat _ hk
 clear hk
 rcases hkk with rfl|rfl|rfl|rfl|rfl|rfl|rfl|rfl|rfl|rfl|rfl
 all_goals
  go_enter Tryz.func188,Tryz.ntmps188
  go_wp2_with (first|(refine wpList_store_row rfl 286 _ _ rfl w.heap.size asked rfl rfl 286 _ (MapKept.heap_alloc w _).1 asked_info rfl asked_one ?_;rw[setRow_alloc])|(refine (hcall _).mono ?_;rintro e w' ⟨rfl,rfl⟩))
  go_ret
  exact ⟨rfl,rfl⟩
set_option maxHeartbeats 400000 in
theorem two_nil (c:Int) (a b:Int) (w:World) (h0:0≤c) (h1:c<17) (hk:asked[c.toNat]?=some .nilFunc) :
    Calls Tryz.prog 188 #[.int .i64 c,.int .i64 a,.int .i64 b] w fun e w'=>e=.returned (.int .i64 0)/\w'=w.alloc (.cells asked 286):=by
 have q1:=eq_nil
 have hc:=asked_cell w c.toNat _ hk
 clear hk
 go_enter Tryz.func188,Tryz.ntmps188
 go_wp2_with (refine wpList_store_row rfl 286 _ _ rfl w.heap.size asked rfl rfl 286 _ (MapKept.heap_alloc w _).1 asked_info rfl asked_one ?_;rw[setRow_alloc])
 go_ret
 exact ⟨rfl,rfl⟩
set_option maxHeartbeats 400000 in
theorem two_low (c:Int) (a b:Int) (w:World) (h0:c<0) :
    Calls Tryz.prog 188 #[.int .i64 c,.int .i64 a,.int .i64 b] w fun e w'=>e=.returned (.int .i64 0)/\w'=w.alloc (.cells asked 286):=by
 go_enter Tryz.func188,Tryz.ntmps188
 go_wp2_with (refine wpList_store_row rfl 286 _ _ rfl w.heap.size asked rfl rfl 286 _ (MapKept.heap_alloc w _).1 asked_info rfl asked_one ?_;rw[setRow_alloc])
 go_ret
 exact ⟨rfl,rfl⟩
set_option maxHeartbeats 400000 in
theorem two_high (c:Int) (a b:Int) (w:World) (h0:17≤c) :
    Calls Tryz.prog 188 #[.int .i64 c,.int .i64 a,.int .i64 b] w fun e w'=>e=.returned (.int .i64 0)/\w'=w.alloc (.cells asked 286):=by
 go_enter Tryz.func188,Tryz.ntmps188
 go_wp2_with (refine wpList_store_row rfl 286 _ _ rfl w.heap.size asked rfl rfl 286 _ (MapKept.heap_alloc w _).1 asked_info rfl asked_one ?_;rw[setRow_alloc])
 go_ret
 exact ⟨rfl,rfl⟩
end
section
open Go.RowKit
theorem vTwo_none {c:Int}(h:∀k:Int,6≤k->k≤16->c≠k) (a b:Int):vTwo c a b=0:=by
 unfold vTwo
 rw[if_neg (h 6 (by omega) (by omega)),if_neg (h 7 (by omega) (by omega)),if_neg (h 8 (by omega) (by omega)),if_neg (h 9 (by omega) (by omega)),if_neg (h 10 (by omega) (by omega)),if_neg (h 11 (by omega) (by omega)),if_neg (h 12 (by omega) (by omega)),if_neg (h 13 (by omega) (by omega)),if_neg (h 14 (by omega) (by omega)),if_neg (h 15 (by omega) (by omega)),if_neg (h 16 (by omega) (by omega))]
theorem asked_nil (c:Int) (h0:0≤c) (h1:c<6):asked[c.toNat]?=some .nilFunc:=by
 have h:c=0\/c=1\/c=2\/c=3\/c=4\/c=5:=by omega
 rcases h with rfl|rfl|rfl|rfl|rfl|rfl<;>rfl
theorem two_any (c a b:Int) (w:World) :
    Calls Tryz.prog 188 #[.int .i64 c,.int .i64 a,.int .i64 b] w fun e w'=>e=.returned (.int .i64 (vTwo c a b))/\w'=w.alloc (.cells asked 286):=by
 by_cases h0:c<0
 ·rw[vTwo_none (fun k hk _=>by omega)]
  exact two_low c a b w h0
 by_cases h1:17≤c
 ·rw[vTwo_none (fun k _ hk=>by omega)]
  exact two_high c a b w h1
 by_cases h2:c<6
 ·rw[vTwo_none (fun k hk _=>by omega)]
  exact two_nil c a b w (by omega) (by omega) (asked_nil c (by omega) h2)
 have h:c=6\/c=7\/c=8\/c=9\/c=10\/c=11\/c=12\/c=13\/c=14\/c=15\/c=16:=by omega
 clear h0 h1 h2
 rcases h with rfl|rfl|rfl|rfl|rfl|rfl|rfl|rfl|rfl|rfl|rfl
 ·exact two_func 6 221 a b _ w (by omega) (by omega) rfl (by omega) (add_any a b)
 ·exact two_func 7 222 a b _ w (by omega) (by omega) rfl (by omega) (sub_any a b)
 ·exact two_func 8 223 a b _ w (by omega) (by omega) rfl (by omega) (mul_any a b)
 ·exact two_func 9 224 a b _ w (by omega) (by omega) rfl (by omega) (quotient_any a b)
 ·exact two_func 10 225 a b _ w (by omega) (by omega) rfl (by omega) (rest_any a b)
 ·exact two_func 11 226 a b _ w (by omega) (by omega) rfl (by omega) (eq_any a b)
 ·exact two_func 12 227 a b _ w (by omega) (by omega) rfl (by omega) (ne_any a b)
 ·exact two_func 13 228 a b _ w (by omega) (by omega) rfl (by omega) (lt_any a b)
 ·exact two_func 14 229 a b _ w (by omega) (by omega) rfl (by omega) (le_any a b)
 ·exact two_func 15 230 a b _ w (by omega) (by omega) rfl (by omega) (and_any a b)
 ·exact two_func 16 231 a b _ w (by omega) (by omega) rfl (by omega) (or_any a b)
end
section
open Go.RowKit Px
def NmOk:E->Prop
 | .nil=>True
 | .node _ _ a l r=>a.name.length≤maxLen/\NmOk l/\NmOk r
def LookOut (fb kb ck pb mb nm:Nat) (ns:List Str) (b:Bool) (w:World) (r:Ending) (w':World):Prop:=∃x,r=.returned (.int .i64 x)/\Hid (Fr w.heap.size [fb] w w'/\LookAt w' fb kb ck pb mb nm ns b)
def EvOk (A:Nat->Prop) (fb kb ck pb mb nm:Nat) (ns:List Str) (e:E):Prop:=∀(w:World) (v:Value) (b:Bool),IsE A w e v->LookAt w fb kb ck pb mb nm ns b->
 Calls Tryz.prog 155 #[v,.agg #[lookV fb kb,lookV fb kb]] w (LookOut fb kb ck pb mb nm ns (b||strangeE ns e) w)
section
variable {A:Nat->Prop}{fb kb ck pb mb nm:Nat}{ns:List Str}
theorem frBelow' {w W w':World}{X:List Nat}(h:Below w.heap.size w W) (k:Fr W.heap.size X W w'):Fr w.heap.size X w w':=(Fr.of_below h X).trans (k.mono h.size (fun _ hx _=>hx))
theorem eval_nil (w:World) (b:Bool) (h:LookAt w fb kb ck pb mb nm ns b):Calls Tryz.prog 155 #[.pointer none,.agg #[lookV fb kb,lookV fb kb]] w (LookOut fb kb ck pb mb nm ns b w):=by
 have H:Hid (LookAt w fb kb ck pb mb nm ns b):=h
 clear h
 unfold lookV
 go_enter Tryz.func155,Tryz.ntmps155
 go_wp2_with fail
 go_ret
 exact ⟨_,rfl,Fr.of_below (ck_grown w _) _,H.out.below (ck_grown w _)⟩
set_option maxHeartbeats 1000000 in
theorem eval_num (w:World) (b:Bool) {g:Nat}{n:Int}{S:Value}{lv rv:Value}(hg:w.heap[g]?=some (.cells #[.int .i64 1,.int .i64 n,S,lv,rv] 132 (0,0))) (h:LookAt w fb kb ck pb mb nm ns b):Calls Tryz.prog 155 #[.pointer (some ⟨g,0,none⟩),.agg #[lookV fb kb,lookV fb kb]] w (LookOut fb kb ck pb mb nm ns b w):=by
 have H:Hid (LookAt w fb kb ck pb mb nm ns b):=h
 have c0:=fun o=>cell_row (ck_old (o':=o) hg) 0 (u:=.int .i64 1) rfl
 have c1:=fun o=>cell_row (ck_old (o':=o) hg) 1 (u:=.int .i64 n) rfl
 clear h hg
 unfold lookV
 go_enter Tryz.func155,Tryz.ntmps155
 go_wp2_with fail
 go_ret
 exact ⟨_,rfl,Fr.of_below (ck_grown w _) _,H.out.below (ck_grown w _)⟩
set_option maxHeartbeats 2000000 in
theorem eval_name (w:World) (b:Bool) {g:Nat}{c n:Int}(hc:c=2\/c=3) {s:Str}(hs:s.length≤maxLen) {lv rv:Value}(hg:w.heap[g]?=some (.cells #[.int .i64 c,.int .i64 n,sv s,lv,rv] 132 (0,0))) (h:LookAt w fb kb ck pb mb nm ns b):Calls Tryz.prog 155 #[.pointer (some ⟨g,0,none⟩),.agg #[lookV fb kb,lookV fb kb]] w (LookOut fb kb ck pb mb nm ns (b||(fnd ns s).isNone) w):=by
 obtain ⟨O,hO⟩:∃O,O=Obj.cells #[lookV fb kb,lookV fb kb] 219:=⟨_,rfl⟩
 have hbO:Below w.heap.size w (w.alloc O):=ck_grown w O
 have hcall:=ask_any ((h.below hbO).below (w':=(w.alloc O).drew) ((Below.refl _ _).drew)) hs
 have k0:(w.alloc O).heap[w.heap.size]?=some (.cells #[lookV fb kb,lookV fb kb] 219 (0,0)):=by rw[ck_new,hO]
 have e0:=cell_row k0 0 (u:=lookV fb kb) rfl
 have e1:=cell_row k0 1 (u:=lookV fb kb) rfl
 have c0:=cell_row (ck_old (o':=O) hg) 0 (u:=.int .i64 c) rfl
 have c2:=cell_row (ck_old (o':=O) hg) 2 (u:=sv s) rfl
 obtain ⟨b',hb'⟩:∃b',b'=(b||(fnd ns s).isNone):=⟨_,rfl⟩
 rw[<-hb'] at hcall ⊢
 have HB:Hid (Below w.heap.size w (w.alloc O).drew):=hbO.drew
 generalize sv s=S at hcall c2
 unfold lookV at hO hcall e0 e1 ⊢
 rw[hO] at hcall e0 e1 c0 c2 HB
 clear h hg hb' hbO k0 hO hs
 rcases hc with rfl|rfl
 all_goals
  go_enter Tryz.func155,Tryz.ntmps155
  go_wp2_with fail
  go_region_with (refine hcall.mono ?_;rintro e w' ⟨rfl,hr⟩)
  all_goals
   go_wp2_with fail
   go_ret
   exact ⟨_,rfl,frBelow' HB.out hr.out.1,hr.out.2⟩
end
end
end Go.Proofs.YtpogmfliojcnjaaGreatDoor
